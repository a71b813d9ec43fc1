/- The opening of values and of requests; Sizes, few. -/
import Derived.Test.YtddigndamimmpaaDoorVA
import Derived.Deep.Slices
import Derived.ChangeArms
import Derived.ChangeSame
import Derived.Deep.WholeRow
import Derived.SizedLaws
import Derived.Test.YtddigndamimmpaaDoorVG
import Derived.Test.YtddigndamimmpaaDoorLC
import Derived.Test.YtddigndamimmpaaDoorLF
import Derived.Laws.EntriesVeiled
namespace Go.Proofs.YtddigndamimmpaaDoor
open Go.ChangeShapes Go.WideShapes Go.ChangeAt Go.RowKit Go.Deep
theorem cells25 : Tryd.prog.cellsOf 25 = 5 := by kernel_rfl
/-- An address whose cell is read has no spot. -/
theorem plain_addr {w : World} {a : Addr} {v : Value} (h : w.cell? a = some v) : a.spot = none := by
  obtain ⟨b, o, s⟩ := a
  unfold World.cell? at h
  cases s with
  | none => rfl
  | some k => split at h <;> simp at h
theorem addp (b o i : Nat) : (⟨b, o, none⟩ : Addr).add i = ⟨b, o + i, none⟩ := by unfold Addr.add; split <;> simp_all
theorem list5 {α : Type} : ∀ {l : List α}, l.length = 5 → ∃ a b c d e, l = [a, b, c, d, e]
  | [a, b, c, d, e], _ => ⟨a, b, c, d, e, rfl⟩
theorem lo64 {x : Int} (h : (Lit.int .i64 x).wf = true) : -9223372036854775808 ≤ x ∧ x ≤ 9223372036854775807 := by
  have e : IntKind.i64.min = -9223372036854775808 := by decide +kernel
  simp only [Lit.wf, decide_eq_true_eq, Bool.and_eq_true] at h
  exact ⟨by rw [← e]; exact h.1, h.2⟩
theorem lou64 {x : Int} (h : (Lit.int .u64 x).wf = true) : 0 ≤ x ∧ x ≤ 18446744073709551615 := by
  have e : IntKind.u64.min = 0 := by decide +kernel
  simp only [Lit.wf, decide_eq_true_eq, Bool.and_eq_true] at h
  exact ⟨by rw [← e]; exact h.1, h.2⟩
set_option maxRecDepth 100000 in
theorem open_val {H : Type} {enc : TypeId × Value → H} {W : World} {base : Nat} {spare : Nat → Bool} {held : Bool} : ∀ (fuel : Nat) (cs : List Value) (x : DataW H × List MemPlace),
    DataW.trod enc Tryd.prog W base spare held fuel 25 cs = some x → ∃ c0 c1 c2 c3 c4 t n, cs = [c0, c1, c2, c3, c4] ∧ Is W n (.agg #[c0, c1, c2, c3, c4]) t := by
  intro fuel
  induction fuel using Nat.strongRecOn with
  | _ fuel ih =>
    intro cs x h
    obtain ⟨xs, k, hk, hxy, hlen, hxl, hf⟩ := DataW.trod_struct Tryd.underlying25 h
    rw [cells25] at hlen
    obtain ⟨c0, c1, c2, c3, c4, rfl⟩ := list5 hlen
    obtain ⟨y0, y1, y2, y3, y4, rfl⟩ := list5 (l := xs) hxl
    have g0 := hf 0 _ rfl
    have g1 := hf 1 _ rfl
    have g2 := hf 2 _ rfl
    have g3 := hf 3 _ rfl
    have g4 := hf 4 _ rfl
    clear hf hxl hlen hxy h
    simp only [List.getElem?_cons_zero, List.getElem?_cons_succ] at g0 g1 g2 g3 g4
    obtain ⟨n0, e0, _, w0⟩ := DataW.trod_int Tryd.underlying3 g0
    obtain ⟨n1, e1, _, w1⟩ := DataW.trod_int Tryd.underlying3 g1
    obtain ⟨n2, e2, _, w2⟩ := DataW.trod_int Tryd.underlying22 g2
    obtain ⟨s3, e3, _, w3⟩ := DataW.trod_string Tryd.underlying9 g3
    cases e0; cases e1; cases e2; cases e3
    unfold maxLen at w3
    rcases DataW.trod_slice Tryd.underlying23 g4 with ⟨h4, _⟩ | ⟨a, len, cap, elems, rest, q, hq, h4, _, _, hl, hm, he, hx, _, _⟩
    · cases h4
      exact ⟨_, _, _, _, _, .mk n0 n1 n2 s3 [], 1, rfl, none, 0, rfl, ⟨(lo64 w0).1, (lo64 w0).2, (lo64 w1).1, (lo64 w1).2, (lou64 w2).1, (lou64 w2).2, by omega, Nat.le_refl _, by omega⟩, fun i t ht => by simp at ht⟩
    · cases h4
      unfold maxLen at hm
      have each : ∀ i, i < len → ∃ r : (Value × Value × Value × Value × Value) × Tv × Nat, ∃ B o, a = ⟨B, o, none⟩ ∧ At5 W B (o + i * 5) r.1.1 r.1.2.1 r.1.2.2.1 r.1.2.2.2.1 r.1.2.2.2.2 ∧ Is W r.2.2 (.agg #[r.1.1, r.1.2.1, r.1.2.2.1, r.1.2.2.2.1, r.1.2.2.2.2]) r.2.1 := by
        intro i hi
        have key := hx i hi
        rw [List.getElem?_eq_getElem (by omega)] at key
        obtain ⟨cs', k1, k2⟩ := Option.bind_eq_some_iff.1 key
        obtain ⟨d0, d1, d2, d3, d4, t, n, rfl, hi'⟩ := ih q (by omega) cs' _ k2
        rw [cells25] at k1
        obtain ⟨_, _, hcell⟩ := World.cells?_some k1
        have p0 := hcell 0 (by simp)
        have hsp : a.spot = none := by
          have key0 := hx 0 (by omega)
          rw [List.getElem?_eq_getElem (by omega)] at key0
          obtain ⟨cs0, k10, k20⟩ := Option.bind_eq_some_iff.1 key0
          obtain ⟨f0, f1, f2, f3, f4, _, _, rfl, _⟩ := ih q (by omega) cs0 _ k20
          rw [cells25] at k10
          obtain ⟨_, _, hcell0⟩ := World.cells?_some k10
          have q0 := hcell0 0 (by simp)
          rw [add_add] at q0
          have := plain_addr q0
          simpa [Addr.add] using this
        obtain ⟨B, o, sp⟩ := a
        cases hsp
        have ad : ∀ r, ((⟨B, o, none⟩ : Addr).add (i * 5)).add r = ⟨B, o + i * 5 + r, none⟩ := by
          intro r
          rw [addp, addp]
        have p1 := hcell 1 (by simp)
        have p2 := hcell 2 (by simp)
        have p3 := hcell 3 (by simp)
        have p4 := hcell 4 (by simp)
        rw [ad] at p0 p1 p2 p3 p4
        exact ⟨((d0, d1, d2, d3, d4), t, n), B, o, rfl, ⟨by simpa using p0, by simpa using p1, by simpa using p2, by simpa using p3, by simpa using p4⟩, hi'⟩
      have inh : Inhabited ((Value × Value × Value × Value × Value) × Tv × Nat) := ⟨(undef, undef, undef, undef, undef), .mk 0 0 0 ⟨#[]⟩ [], 0⟩
      obtain ⟨F, hF⟩ := choose_lt each
      obtain ⟨N, hN⟩ := fuel_lt (n := len) (q := fun i N => (F i).2.2 ≤ N) (fun _ _ _ h h' => Nat.le_trans h' h) (fun i _ => ⟨_, Nat.le_refl _⟩)
      refine ⟨_, _, _, _, _, .mk n0 n1 n2 s3 ((List.range len).map fun i => (F i).2.1), N + 1, rfl, some a, cap, ?_, ?_, ?_⟩
      · simp
      · exact ⟨(lo64 w0).1, (lo64 w0).2, (lo64 w1).1, (lo64 w1).2, (lou64 w2).1, (lou64 w2).2, by omega, by simpa using hl, by omega⟩
      · intro i t ht
        have hi : i < len := by have := (List.getElem?_eq_some_iff.1 ht).1; simpa using this
        rw [List.getElem?_map, List.getElem?_range hi] at ht
        cases ht
        obtain ⟨B, o, ha, h5, hI⟩ := hF i hi
        exact ⟨B, o, _, _, _, _, _, by rw [ha], h5, hI.up (hN i hi)⟩
end Go.Proofs.YtddigndamimmpaaDoor
namespace Go.Proofs.YtddigndamimmpaaDoor
open Go.ChangeAt Go.ChangeShapes Go.Deep Go.RowKit Go.WideShapes
/-- As Row, in blocks from lo on. -/
def RowM (lo : Nat) (R : Value → Tv → Prop) (w : World) (a : Option Addr) (l : List Tv) : Prop :=
  ∀ i t, l[i]? = some t → ∃ B o c0 c1 c2 c3 c4, a = some ⟨B, o, none⟩ ∧ (lo ≤ B ∧ ∀ p, w.frozen? ⟨B, p, none⟩ = false) ∧ At5 w B (o + i * 5) c0 c1 c2 c3 c4 ∧ R (.agg #[c0, c1, c2, c3, c4]) t
/-- As Is, all lists in blocks from lo on. -/
def IsM (lo : Nat) (w : World) : Nat → Value → Tv → Prop
  | 0, _, _ => False
  | n + 1, v, .mk k x b s l => ∃ a c, v = .agg #[.int .i64 k, .int .i64 x, .int .u64 b, .string s, .slice a l.length c] ∧ Fit k x b s l.length c ∧ RowM lo (IsM lo w n) w a l
theorem IsM.is {lo : Nat} {w : World} : ∀ {n : Nat} {v : Value} {t : Tv}, IsM lo w n v t → Is w n v t
  | 0, _, _, h => h
  | n + 1, v, .mk k x b s l, ⟨a, c, hv, hf, hr⟩ => ⟨a, c, hv, hf, fun i t ht => by
      obtain ⟨B, o, c0, c1, c2, c3, c4, ha, _, h5, hi⟩ := hr i t ht
      exact ⟨B, o, c0, c1, c2, c3, c4, ha, h5, hi.is⟩⟩
theorem IsM.kb {g lo : Nat} {w w' : World} (hb : KB g w w') (hg : g < lo) : ∀ {n : Nat} {v : Value} {t : Tv}, IsM lo w n v t → IsM lo w' n v t
  | 0, _, _, h => h
  | n + 1, v, .mk k x b s l, ⟨a, c, hv, hf, hr⟩ => ⟨a, c, hv, hf, fun i t ht => by
      obtain ⟨B, o, c0, c1, c2, c3, c4, ha, hB, h5, hi⟩ := hr i t ht
      exact ⟨B, o, c0, c1, c2, c3, c4, ha, ⟨hB.1, fun p => (hb.frozen (a := ⟨B, p, none⟩) (show B < w.heap.size from World.block_lt_of_cell? w ⟨B, o + i * 5, none⟩ h5.1) (show B ≠ g by have := hB.1; omega)).trans (hB.2 p)⟩, h5.kb hb (by have := hB.1; omega), hi.kb hb hg⟩⟩
theorem IsM.lower {lo lo' : Nat} {w : World} (hl : lo' ≤ lo) : ∀ {n : Nat} {v : Value} {t : Tv}, IsM lo w n v t → IsM lo' w n v t
  | 0, _, _, h => h
  | n + 1, v, .mk k x b s l, ⟨a, c, hv, hf, hr⟩ => ⟨a, c, hv, hf, fun i t ht => by
      obtain ⟨B, o, c0, c1, c2, c3, c4, ha, hB, h5, hi⟩ := hr i t ht
      exact ⟨B, o, c0, c1, c2, c3, c4, ha, ⟨by have := hB.1; omega, hB.2⟩, h5, hi.lower hl⟩⟩
theorem RowM.kb {g lo n : Nat} {w w' : World} {a : Option Addr} {l : List Tv} (hb : KB g w w') (hg : g < lo) (h : RowM lo (IsM lo w n) w a l) : RowM lo (IsM lo w' n) w' a l := fun i t ht => by
  obtain ⟨B, o, c0, c1, c2, c3, c4, ha, hB, h5, hi⟩ := h i t ht
  exact ⟨B, o, c0, c1, c2, c3, c4, ha, ⟨hB.1, fun p => (hb.frozen (a := ⟨B, p, none⟩) (show B < w.heap.size from World.block_lt_of_cell? w ⟨B, o + i * 5, none⟩ h5.1) (show B ≠ g by have := hB.1; omega)).trans (hB.2 p)⟩, h5.kb hb (by have := hB.1; omega), hi.kb hb hg⟩
theorem IsM.shape {lo : Nat} {w : World} : ∀ {n : Nat} {v : Value} {t : Tv}, IsM lo w n v t → ∃ k x b s a m c, v = .agg #[.int .i64 k, .int .i64 x, .int .u64 b, .string s, .slice a m c]
  | 0, _, _, h => h.elim
  | _ + 1, _, .mk k x b s l, ⟨a, c, hv, _, _⟩ => ⟨k, x, b, s, a, l.length, c, hv⟩
/-- No list has more values than an argument may have. -/
def SmallW : Nat → Tv → Prop
  | 0, _ => False
  | n + 1, .mk _ _ _ _ l => l.length ≤ 2199023255488 ∧ ∀ (i : Nat) t, l[i]? = some t → SmallW n t
theorem make_valsW (k : Nat) (h : k ≤ 2199023255488) (w : World) : (Instr.makeSlice 23 (.int .i64 (k : Int)) (.int .i64 (k : Int))).run Tryd.prog w = .ok (.slice (some ⟨w.heap.size, 0, none⟩) k k) (w.alloc (.cells (madeCells zV.cells (k * 5)) 25)) := by
  obtain ⟨i0, hi, hz0, hz1, hz2⟩ := info_parts info25
  rw [run_make (P := Tryd.prog) w 23 25 i0 zV Tryd.underlying23 hi hz0 .i64 .i64 k k (by omega) (by omega) (by rw [hz2]; omega) (by omega)]
  rw [Int.toNat_natCast, hz1]
theorem SmallW.up : ∀ {n m : Nat} {t : Tv}, SmallW n t → n ≤ m → SmallW m t
  | 0, _, _, h, _ => h.elim
  | n + 1, 0, _, _, hm => by omega
  | n + 1, m + 1, .mk _ _ _ _ l, ⟨h1, h2⟩, hm => ⟨h1, fun i t ht => (h2 i t ht).up (by omega)⟩
theorem mem_all {H : Type} {P : Program} {e : TypeId} : ∀ {ds : List (DataW H)} {d : DataW H}, d ∈ ds → ∀ y ∈ d.weights P e, y ∈ DataW.weightsAll P e ds
  | x :: r, d, h, y, hy => by
    simp only [DataW.weightsAll, List.mem_append]
    rcases List.mem_cons.1 h with rfl | h
    · exact .inl hy
    · exact .inr (mem_all h y hy)
set_option maxRecDepth 100000 in
theorem open_valW {H : Type} {enc : TypeId × Value → H} {W : World} {base : Nat} {spare : Nat → Bool} {held : Bool} : ∀ (fuel : Nat) (cs : List Value) (x : DataW H × List MemPlace),
    DataW.trod enc Tryd.prog W base spare held fuel 25 cs = some x → (∀ y ∈ x.1.weights Tryd.prog 25, y ≤ reachBytes) → ∃ c0 c1 c2 c3 c4 t n, cs = [c0, c1, c2, c3, c4] ∧ Is W n (.agg #[c0, c1, c2, c3, c4]) t ∧ SmallW n t := by
  intro fuel
  induction fuel using Nat.strongRecOn with
  | _ fuel ih =>
    intro cs x h hwt
    obtain ⟨xs, k, hk, hxy, hlen, hxl, hf⟩ := DataW.trod_struct Tryd.underlying25 h
    rw [cells25] at hlen
    obtain ⟨c0, c1, c2, c3, c4, rfl⟩ := list5 hlen
    obtain ⟨y0, y1, y2, y3, y4, rfl⟩ := list5 (l := xs) hxl
    have hw4 : ∀ y ∈ y4.1.weights Tryd.prog 23, y ≤ reachBytes := fun y hy => by
      apply hwt
      rw [hxy]
      simp only [DataW.weights, Tryd.underlying25]
      exact DataW.weights_mem_each (j := 4) rfl rfl y hy
    clear hwt
    have g0 := hf 0 _ rfl
    have g1 := hf 1 _ rfl
    have g2 := hf 2 _ rfl
    have g3 := hf 3 _ rfl
    have g4 := hf 4 _ rfl
    clear hf hxl hlen hxy h
    simp only [List.getElem?_cons_zero, List.getElem?_cons_succ] at g0 g1 g2 g3 g4
    obtain ⟨n0, e0, _, w0⟩ := DataW.trod_int Tryd.underlying3 g0
    obtain ⟨n1, e1, _, w1⟩ := DataW.trod_int Tryd.underlying3 g1
    obtain ⟨n2, e2, _, w2⟩ := DataW.trod_int Tryd.underlying22 g2
    obtain ⟨s3, e3, _, w3⟩ := DataW.trod_string Tryd.underlying9 g3
    cases e0; cases e1; cases e2; cases e3
    unfold maxLen at w3
    rcases DataW.trod_slice Tryd.underlying23 g4 with ⟨h4, _⟩ | ⟨a, len, cap, elems, rest, q, hq, h4, h4x, _, hl, hm, he, hx, _, _⟩
    · cases h4
      exact ⟨_, _, _, _, _, .mk n0 n1 n2 s3 [], 1, rfl, ⟨none, 0, rfl, ⟨(lo64 w0).1, (lo64 w0).2, (lo64 w1).1, (lo64 w1).2, (lou64 w2).1, (lou64 w2).2, by omega, Nat.le_refl _, by omega⟩, fun i t ht => by simp at ht⟩, ⟨by decide, fun i t ht => by simp at ht⟩⟩
    · cases h4
      unfold maxLen at hm
      have hlen64 : len ≤ 2199023255488 := by
        have hb : Tryd.prog.bytesOf 25 = 64 := by kernel_rfl
        have := hw4 ((elems.length + rest.length) * Tryd.prog.bytesOf 25) (by rw [h4x]; simp [DataW.weights, Tryd.underlying23])
        rw [hb, he] at this
        unfold reachBytes at this
        omega
      have helem : ∀ i (hi : i < elems.length), ∀ y ∈ (elems[i]).1.weights Tryd.prog 25, y ≤ reachBytes := fun i hi y hy => by
        apply hw4
        rw [h4x]
        simp only [DataW.weights, Tryd.underlying23, List.mem_cons, List.mem_append]
        exact .inr (.inl (mem_all (List.mem_map.2 ⟨_, List.getElem_mem hi, rfl⟩) y hy))
      clear h4x hw4
      have each : ∀ i, i < len → ∃ r : (Value × Value × Value × Value × Value) × Tv × Nat, ∃ B o, a = ⟨B, o, none⟩ ∧ At5 W B (o + i * 5) r.1.1 r.1.2.1 r.1.2.2.1 r.1.2.2.2.1 r.1.2.2.2.2 ∧ Is W r.2.2 (.agg #[r.1.1, r.1.2.1, r.1.2.2.1, r.1.2.2.2.1, r.1.2.2.2.2]) r.2.1 ∧ SmallW r.2.2 r.2.1 := by
        intro i hi
        have key := hx i hi
        rw [List.getElem?_eq_getElem (by omega)] at key
        obtain ⟨cs', k1, k2⟩ := Option.bind_eq_some_iff.1 key
        obtain ⟨d0, d1, d2, d3, d4, t, n, rfl, hi', hsm⟩ := ih q (by omega) cs' _ k2 (helem i (by omega))
        rw [cells25] at k1
        obtain ⟨_, _, hcell⟩ := World.cells?_some k1
        have p0 := hcell 0 (by simp)
        have hsp : a.spot = none := by
          have key0 := hx 0 (by omega)
          rw [List.getElem?_eq_getElem (by omega)] at key0
          obtain ⟨cs0, k10, k20⟩ := Option.bind_eq_some_iff.1 key0
          obtain ⟨f0, f1, f2, f3, f4, _, _, rfl, _, _⟩ := ih q (by omega) cs0 _ k20 (helem 0 (by omega))
          rw [cells25] at k10
          obtain ⟨_, _, hcell0⟩ := World.cells?_some k10
          have q0 := hcell0 0 (by simp)
          rw [add_add] at q0
          have := plain_addr q0
          simpa [Addr.add] using this
        obtain ⟨B, o, sp⟩ := a
        cases hsp
        have ad : ∀ r, ((⟨B, o, none⟩ : Addr).add (i * 5)).add r = ⟨B, o + i * 5 + r, none⟩ := by
          intro r
          rw [addp, addp]
        have p1 := hcell 1 (by simp)
        have p2 := hcell 2 (by simp)
        have p3 := hcell 3 (by simp)
        have p4 := hcell 4 (by simp)
        rw [ad] at p0 p1 p2 p3 p4
        exact ⟨((d0, d1, d2, d3, d4), t, n), B, o, rfl, ⟨by simpa using p0, by simpa using p1, by simpa using p2, by simpa using p3, by simpa using p4⟩, hi', hsm⟩
      have inh : Inhabited ((Value × Value × Value × Value × Value) × Tv × Nat) := ⟨(undef, undef, undef, undef, undef), .mk 0 0 0 ⟨#[]⟩ [], 0⟩
      obtain ⟨F, hF⟩ := choose_lt each
      obtain ⟨N, hN⟩ := fuel_lt (n := len) (q := fun i N => (F i).2.2 ≤ N) (fun _ _ _ h h' => Nat.le_trans h' h) (fun i _ => ⟨_, Nat.le_refl _⟩)
      refine ⟨_, _, _, _, _, .mk n0 n1 n2 s3 ((List.range len).map fun i => (F i).2.1), N + 1, rfl, ⟨some a, cap, ?_, ?_, ?_⟩, ⟨by simpa using hlen64, ?_⟩⟩
      · simp
      · exact ⟨(lo64 w0).1, (lo64 w0).2, (lo64 w1).1, (lo64 w1).2, (lou64 w2).1, (lou64 w2).2, by omega, by simpa using hl, by omega⟩
      · intro i t ht
        have hi : i < len := by have := (List.getElem?_eq_some_iff.1 ht).1; simpa using this
        rw [List.getElem?_map, List.getElem?_range hi] at ht
        cases ht
        obtain ⟨B, o, ha, h5, hI, _⟩ := hF i hi
        exact ⟨B, o, _, _, _, _, _, by rw [ha], h5, hI.up (hN i hi)⟩
      · intro i t ht
        have hi : i < len := by have := (List.getElem?_eq_some_iff.1 ht).1; simpa using this
        rw [List.getElem?_map, List.getElem?_range hi] at ht
        cases ht
        obtain ⟨B, o, ha, h5, _, hS⟩ := hF i hi
        exact hS.up (hN i hi)
end Go.Proofs.YtddigndamimmpaaDoor
namespace Go.Proofs.YtddigndamimmpaaDoor
open Go.ChangeShapes Go.WideShapes Go.ChangeAt Go.RowKit
theorem sum_take {zs : List Nat} {j z : Nat} (h : zs[j]? = some z) : (zs.take (j + 1)).sum = (zs.take j).sum + z := by
  have hj := (List.getElem?_eq_some_iff.1 h).1
  rw [List.take_add_one, h]
  simp
theorem sum_le {zs : List Nat} (j : Nat) : (zs.take j).sum ≤ zs.sum := by
  have h := congrArg List.sum (List.take_append_drop j zs)
  rw [List.sum_append] at h
  omega
theorem wrS {p z : Nat} (h : z ≤ p) (hp : p ≤ 60) : wrap64 ((p : Int) - (z : Int)) = ((p - z : Nat) : Int) := by unfold wrap64; omega
set_option maxHeartbeats 4000000 in
set_option maxRecDepth 100000 in
theorem sizes_calls (g n : Nat) (zs : List Nat) (hn : zs.length = n) (h10 : n ≤ 10) (w : World) (h : ∀ (i : Nat) z, zs[i]? = some z → w.cell? ⟨g, i, none⟩ = some (.int .i64 (z : Int))) : Calls Tryd.prog 12 #[.int .i64 60, .slice (some ⟨g, 0, none⟩) n n] w fun e w' => e = .returned (.bool (decide (zs.sum ≤ 60))) ∧ w' = w := by
  have HN : Hid (zs.length = n) := hn
  have H10 : Hid (n ≤ 10) := h10
  have HC : Hid (∀ (i : Nat) z, zs[i]? = some z → w.cell? ⟨g, i, none⟩ = some (.int .i64 (z : Int))) := h
  have HQ1 : Hid (zs.sum ≤ 60 → decide (zs.sum ≤ 60) = true) := fun h => decide_eq_true h
  have HQ0 : Hid (¬ zs.sum ≤ 60 → decide (zs.sum ≤ 60) = false) := fun h => decide_eq_false h
  generalize decide (zs.sum ≤ 60) = bb at HQ1 HQ0 ⊢
  clear hn h10 h
  go_enter Tryd.func12, Tryd.ntmps12
  go_wp2_with fail
  go_loopw [0, 6, 9] (fun m _ i wr => ∃ j p : Nat, j ≤ n ∧ i = .int .i64 (j : Int) ∧ m = .int .i64 (p : Int) ∧ wr = w ∧ Hid ((zs.take j).sum + p = 60)) (fun _ _ i _ => n - (intOf i).toNat)
  case atStart => exact ⟨0, 60, Nat.zero_le _, rfl, rfl, rfl, by show _ = _; simp⟩
  case round =>
    obtain ⟨j, p, hj, rfl, rfl, rfl, HS⟩ := hrel
    by_cases hlt : j < n
    · obtain ⟨z, hz⟩ : ∃ z, zs[j]? = some z := ⟨_, List.getElem?_eq_getElem (by have := HN.out; omega)⟩
      have x0 := HC.out j z hz
      have Hz : Hid (zs[j]? = some z) := hz
      have hjl : (j : Int) < (n : Int) := by omega
      have HW1 : Hid (wrap64 ((j : Int) + 1) = ((j + 1 : Nat) : Int)) := wr1 hlt (by have := H10.out; omega)
      by_cases hzp : z ≤ p
      · have HZ : Hid (z ≤ p) := hzp
        have d1 : decide ((p : Int) < (z : Int)) = false := decide_eq_false (by omega)
        have d2 : decide (p < z) = false := decide_eq_false (by omega)
        have HW2 : Hid (wrap64 ((p : Int) - (z : Int)) = ((p - z : Nat) : Int)) := wrS hzp (by have := HS.out; omega)
        clear hz hzp
        go_wp2_with fail
        exact ⟨⟨j + 1, p - z, hlt, by first | rw [HW1.out] | exact congrArg _ (Int.natCast_succ j).symm, by first | rw [HW2.out] | rfl, by first | trivial | rfl, by show _ = _; rw [sum_take Hz.out]; have := HS.out; have := HZ.out; omega⟩, by first | exact meas hlt HW1.out | exact meas hlt (Int.natCast_succ j).symm⟩
      · have d1 : decide ((p : Int) < (z : Int)) = true := decide_eq_true (by omega)
        have d2 : decide (p < z) = true := decide_eq_true (by omega)
        have HB : Hid (bb = false) := HQ0.out (fun hs => by have := sum_take hz; have := sum_le (zs := zs) (j + 1); have := HS.out; omega)
        clear hz hzp
        go_wp2_with fail
        go_ret
        exact ⟨by first | (simp [HB.out]; done) | exact HB.out | exact HB.out.symm, rfl⟩
    · obtain rfl : j = n := by omega
      have HB : Hid (bb = true) := HQ1.out (by have := HS.out; rw [← HN.out, List.take_length] at this; omega)
      go_wp2_with fail
      go_ret
      exact ⟨by first | (simp [HB.out]; done) | exact HB.out | exact HB.out.symm, rfl⟩
set_option maxHeartbeats 4000000 in
set_option maxRecDepth 100000 in
theorem few_calls (k : Int) (f q m : ByteArray) (vk vx vb : Int) (vs : ByteArray) (la : Option Addr) (ll lc : Nat) (ru nu wa pf : Int) (pc : Nat) (pm : Int) (ca : Option Addr) (cn cc : Nat) (aa : Option Addr) (an ac : Nat) (w : World) : Calls Tryd.prog 6 #[.agg #[.int .i64 k, .string f, .string q, .string m, .int .i64 vk, .int .i64 vx, .int .u64 vb, .string vs, .slice la ll lc, .int .i64 ru, .int .i64 nu, .int .i64 wa, .int .i64 pf, .int .u64 (pc : Int), .int .i64 pm, .slice ca cn cc, .slice aa an ac]] w fun e w' => e = .returned (.bool (decide (cn + an ≤ 60))) ∧ Below w.heap.size w w' := by
  have KS : Hid (∀ W g, (∀ (i : Nat) z, ([cn, an] : List Nat)[i]? = some z → W.cell? ⟨g, i, none⟩ = some (.int .i64 (z : Int))) → Calls Tryd.prog 12 #[.int .i64 60, .slice (some ⟨g, 0, none⟩) 2 2] W fun e w' => e = .returned (.bool (decide (cn + an ≤ 60))) ∧ w' = W) := fun W g hc => by
    have := sizes_calls g 2 [cn, an] rfl (by decide) W hc
    have e : ([cn, an] : List Nat).sum = cn + an := by simp
    rwa [e] at this
  generalize decide (cn + an ≤ 60) = bb at KS ⊢
  have HB : Hid (Below w.heap.size w (w.alloc (.cells #[.int .i64 k, .string f, .string q, .string m, .int .i64 vk, .int .i64 vx, .int .u64 vb, .string vs, .slice la ll lc, .int .i64 ru, .int .i64 nu, .int .i64 wa, .int .i64 pf, .int .u64 (pc : Int), .int .i64 pm, .slice ca cn cc, .slice aa an ac] 31))) := bel1 _ _
  have HX : Hid (AtR (w.alloc (.cells #[.int .i64 k, .string f, .string q, .string m, .int .i64 vk, .int .i64 vx, .int .u64 vb, .string vs, .slice la ll lc, .int .i64 ru, .int .i64 nu, .int .i64 wa, .int .i64 pf, .int .u64 (pc : Int), .int .i64 pm, .slice ca cn cc, .slice aa an ac] 31)) w.heap.size k f q m vk vx vb vs la ll lc ru nu wa pf pc pm ca cn cc aa an ac) := AtR.box w k f q m vk vx vb vs la ll lc ru nu wa pf pc pm ca cn cc aa an ac
  generalize hW0 : w.alloc (.cells #[.int .i64 k, .string f, .string q, .string m, .int .i64 vk, .int .i64 vx, .int .u64 vb, .string vs, .slice la ll lc, .int .i64 ru, .int .i64 nu, .int .i64 wa, .int .i64 pf, .int .u64 (pc : Int), .int .i64 pm, .slice ca cn cc, .slice aa an ac] 31) = W1 at HB HX
  have H0 : Hid (w.alloc (.cells #[.int .i64 k, .string f, .string q, .string m, .int .i64 vk, .int .i64 vx, .int .u64 vb, .string vs, .slice la ll lc, .int .i64 ru, .int .i64 nu, .int .i64 wa, .int .i64 pf, .int .u64 (pc : Int), .int .i64 pm, .slice ca cn cc, .slice aa an ac] 31) = W1) := hW0
  clear hW0
  go_enter Tryd.func6, Tryd.ntmps6
  go_upto_region 1 with fail
  rw [H0.out]
  clear H0
  obtain ⟨x0, x1, x2, x3, x4, x5, x6, x7, x8, x9, x10, x11, x12, x13, x14, x15, x16⟩ := HX.out
  clear x0 x1 x2 x3 x4 x5 x6 x7 x8 x9 x10 x11 x12 x13 x14 HX
  go_wp2_with fail
  refine Calls.mono (KS.out _ _ ?_) ?_
  · intro i z hi
    match i, hi with
    | 0, hi => cases hi; simp
    | 1, hi => cases hi; simp
    | i + 2, hi => simp at hi
  rintro e w1 ⟨rfl, rfl⟩
  go_wp2_with fail
  go_ret
  exact ⟨rfl, belA HB.out _⟩
end Go.Proofs.YtddigndamimmpaaDoor
namespace Go.Proofs.YtddigndamimmpaaDoor
open Go.ChangeShapes Go.WideShapes Go.ChangeAt Go.RowKit
theorem lsq3 {α : Type} : ∀ {l : List α}, l.length = 3 → ∃ e0 e1 e2, l = [e0, e1, e2]
  | [e0, e1, e2], _ => ⟨e0, e1, e2, rfl⟩
theorem lsq6 {α : Type} : ∀ {l : List α}, l.length = 6 → ∃ e0 e1 e2 e3 e4 e5, l = [e0, e1, e2, e3, e4, e5]
  | [e0, e1, e2, e3, e4, e5], _ => ⟨e0, e1, e2, e3, e4, e5, rfl⟩
theorem lsq8 {α : Type} : ∀ {l : List α}, l.length = 8 → ∃ e0 e1 e2 e3 e4 e5 e6 e7, l = [e0, e1, e2, e3, e4, e5, e6, e7]
  | [e0, e1, e2, e3, e4, e5, e6, e7], _ => ⟨e0, e1, e2, e3, e4, e5, e6, e7, rfl⟩
theorem lsq11 {α : Type} : ∀ {l : List α}, l.length = 11 → ∃ e0 e1 e2 e3 e4 e5 e6 e7 e8 e9 e10, l = [e0, e1, e2, e3, e4, e5, e6, e7, e8, e9, e10]
  | [e0, e1, e2, e3, e4, e5, e6, e7, e8, e9, e10], _ => ⟨e0, e1, e2, e3, e4, e5, e6, e7, e8, e9, e10, rfl⟩
theorem lsq17 {α : Type} : ∀ {l : List α}, l.length = 17 → ∃ e0 e1 e2 e3 e4 e5 e6 e7 e8 e9 e10 e11 e12 e13 e14 e15 e16, l = [e0, e1, e2, e3, e4, e5, e6, e7, e8, e9, e10, e11, e12, e13, e14, e15, e16]
  | [e0, e1, e2, e3, e4, e5, e6, e7, e8, e9, e10, e11, e12, e13, e14, e15, e16], _ => ⟨e0, e1, e2, e3, e4, e5, e6, e7, e8, e9, e10, e11, e12, e13, e14, e15, e16, rfl⟩
theorem lsq2 {α : Type} : ∀ {l : List α}, l.length = 2 → ∃ e0 e1, l = [e0, e1]
  | [e0, e1], _ => ⟨e0, e1, rfl⟩
theorem lsq4 {α : Type} : ∀ {l : List α}, l.length = 4 → ∃ e0 e1 e2 e3, l = [e0, e1, e2, e3]
  | [e0, e1, e2, e3], _ => ⟨e0, e1, e2, e3, rfl⟩
theorem clQ49 : Tryd.prog.cellsOf 49 = 8 := by kernel_rfl
theorem clQ51 : Tryd.prog.cellsOf 51 = 6 := by kernel_rfl
theorem clQ27 : Tryd.prog.cellsOf 27 = 3 := by kernel_rfl
theorem clQ31 : Tryd.prog.cellsOf 31 = 17 := by kernel_rfl
open Go.Deep
theorem open_rows {H : Type} {enc : TypeId × Value → H} {W : World} {base : Nat} {spare : Nat → Bool} {held : Bool} {sl el : TypeId} {k : Nat} (hs : Tryd.prog.underlying sl = some (.slice el)) (hc : Tryd.prog.cellsOf el = k) (hk : 0 < k) (fuel : Nat) (cs : List Value) (x : DataW H × List MemPlace)
    (h : DataW.trod enc Tryd.prog W base spare held fuel sl cs = some x) (hwt : ∀ y ∈ x.1.weights Tryd.prog sl, y ≤ reachBytes) :
    ∃ (a : Option Addr) (cap q : Nat) (rows : List (List Value)), cs = [.slice a rows.length cap] ∧ rows.length ≤ 9223372036854775807 ∧ ∀ (i : Nat) r, rows[i]? = some r → r.length = k ∧ (∃ B o, a = some ⟨B, o, none⟩ ∧ ∀ (j : Nat) v, r[j]? = some v → W.cell? ⟨B, o + i * k + j, none⟩ = some v) ∧
      ∃ y, DataW.trod enc Tryd.prog W base spare held q el r = some y ∧ ∀ z ∈ y.1.weights Tryd.prog el, z ≤ reachBytes := by
  rcases DataW.trod_slice hs h with ⟨h4, _⟩ | ⟨a, len, cap, elems, rest, q, hq, h4, h4x, _, hl, hm, he, hx, _, _⟩
  · exact ⟨none, 0, 0, [], by rw [h4]; rfl, by simp, fun i r hr => by simp at hr⟩
  · unfold maxLen at hm
    have helem : ∀ i (hi : i < elems.length), ∀ y ∈ (elems[i]).1.weights Tryd.prog el, y ≤ reachBytes := fun i hi y hy => by
      apply hwt
      rw [h4x]
      simp only [DataW.weights, hs, List.mem_cons, List.mem_append]
      exact .inr (.inl (mem_all (List.mem_map.2 ⟨_, List.getElem_mem hi, rfl⟩) y hy))
    have each : ∀ i, i < len → ∃ r : List Value, r.length = k ∧ (∃ B o, a = ⟨B, o, none⟩ ∧ ∀ (j : Nat) v, r[j]? = some v → W.cell? ⟨B, o + i * k + j, none⟩ = some v) ∧ ∃ y, DataW.trod enc Tryd.prog W base spare held q el r = some y ∧ ∀ z ∈ y.1.weights Tryd.prog el, z ≤ reachBytes := by
      intro i hi
      have key := hx i hi
      rw [List.getElem?_eq_getElem (by omega)] at key
      obtain ⟨cs', k1, k2⟩ := Option.bind_eq_some_iff.1 key
      rw [hc] at k1
      obtain ⟨hl1, hl2, hcell⟩ := World.cells?_some k1
      have hlen : cs'.length = k := by first | exact hl1 | exact hl2
      have hsp : a.spot = none := by
        have key0 := hx 0 (by omega)
        rw [List.getElem?_eq_getElem (by omega)] at key0
        obtain ⟨cs0, k10, _⟩ := Option.bind_eq_some_iff.1 key0
        rw [hc] at k10
        obtain ⟨g1, g2, hcell0⟩ := World.cells?_some k10
        have hl0 : cs0.length = k := by first | exact g1 | exact g2
        have q0 := hcell0 0 (by omega)
        rw [List.getElem?_eq_getElem (by omega)] at q0
        have := plain_addr q0
        simpa [Addr.add] using this
      obtain ⟨B, o, sp⟩ := a
      cases hsp
      refine ⟨cs', hlen, ⟨B, o, rfl, fun j v hj => ?_⟩, _, k2, helem i (by omega)⟩
      have hjl := (List.getElem?_eq_some_iff.1 hj).1
      have := hcell j (by omega)
      rw [addp, addp] at this
      rw [this]
      simpa using hj
    have inh : Inhabited (List Value) := ⟨[]⟩
    obtain ⟨F, hF⟩ := choose_lt each
    refine ⟨some a, cap, q, (List.range len).map F, by rw [h4]; simp, by simp; omega, fun i r hr => ?_⟩
    have hi : i < len := by have := (List.getElem?_eq_some_iff.1 hr).1; simpa using this
    rw [List.getElem?_map, List.getElem?_range hi] at hr
    cases hr
    obtain ⟨h1, ⟨B, o, h2, h3⟩, h5⟩ := hF i hi
    exact ⟨h1, ⟨B, o, by rw [h2], h3⟩, h5⟩
set_option maxRecDepth 100000 in
theorem open_pq {H : Type} {enc : TypeId × Value → H} {W : World} {base : Nat} {spare : Nat → Bool} {held : Bool} (fuel : Nat) (cs : List Value) (x : DataW H × List MemPlace) (h : DataW.trod enc Tryd.prog W base spare held fuel 27 cs = some x) :
    ∃ (f : Int) (c : Nat) (m : Int), cs = [.int .i64 f, .int .u64 (c : Int), .int .i64 m] ∧ c < 18446744073709551616 := by
  obtain ⟨xs, k, hk, hxy, hlen, hxl, hf⟩ := DataW.trod_struct Tryd.underlying27 h
  rw [clQ27] at hlen
  obtain ⟨c0, c1, c2, rfl⟩ := lsq3 hlen
  obtain ⟨y0, y1, y2, rfl⟩ := lsq3 (l := xs) hxl
  have g0 := hf 0 _ rfl
  have g1 := hf 1 _ rfl
  have g2 := hf 2 _ rfl
  clear hf hxl hlen hxy h
  simp only [List.getElem?_cons_zero, List.getElem?_cons_succ] at g0 g1 g2
  obtain ⟨n0, e0, _, w0⟩ := DataW.trod_int Tryd.underlying3 g0
  obtain ⟨n1, e1, _, w1⟩ := DataW.trod_int Tryd.underlying22 g1
  obtain ⟨n2, e2, _, w2⟩ := DataW.trod_int Tryd.underlying3 g2
  cases e0; cases e1; cases e2
  have g1 := lou64 w1
  refine ⟨n0, n1.toNat, n2, ?_, by omega⟩
  rw [Int.toNat_of_nonneg g1.1]
set_option maxRecDepth 100000 in
theorem open_cq {H : Type} {enc : TypeId × Value → H} {W : World} {base : Nat} {spare : Nat → Bool} {held : Bool} (fuel : Nat) (cs : List Value) (x : DataW H × List MemPlace) (h : DataW.trod enc Tryd.prog W base spare held fuel 49 cs = some x) (hwt : ∀ y ∈ x.1.weights Tryd.prog 49, y ≤ reachBytes) :
    ∃ (e : Cm) (n : Nat) (vk vx vb : Int) (vs : ByteArray) (la : Option Addr) (ll lc : Nat), cs = [.int .i64 e.k, .string e.s, .int .i64 vk, .int .i64 vx, .int .u64 vb, .string vs, .slice la ll lc, .int .i64 e.d] ∧ Is W n (.agg #[.int .i64 vk, .int .i64 vx, .int .u64 vb, .string vs, .slice la ll lc]) e.v := by
  obtain ⟨xs, q, hk, hxy, hlen, hxl, hf⟩ := DataW.trod_struct Tryd.underlying49 h
  rw [clQ49] at hlen
  obtain ⟨a0, a1, a2, a3, a4, a5, a6, a7, rfl⟩ := lsq8 hlen
  obtain ⟨y0, y1, y2, y3, rfl⟩ := lsq4 (l := xs) hxl
  have hw5 : ∀ y ∈ y2.1.weights Tryd.prog 25, y ≤ reachBytes := fun y hy => by
    apply hwt
    rw [hxy]
    simp only [DataW.weights, Tryd.underlying49]
    exact DataW.weights_mem_each (j := 2) rfl rfl y hy
  clear hwt
  have g0 := hf 0 _ rfl
  have g1 := hf 1 _ rfl
  have g2 := hf 2 _ rfl
  have g3 := hf 3 _ rfl
  clear hf hxl hlen hxy h
  simp only [List.getElem?_cons_zero, List.getElem?_cons_succ] at g0 g1 g2 g3
  obtain ⟨n0, p0, _, _⟩ := DataW.trod_int Tryd.underlying3 g0
  obtain ⟨n1, p1, _, _⟩ := DataW.trod_string Tryd.underlying9 g1
  obtain ⟨v0, v1, v2, v3, v4, t2, m2, p2, i2, sm2⟩ := open_valW q _ _ g2 hw5
  obtain ⟨n3, p3, _, _⟩ := DataW.trod_int Tryd.underlying3 g3
  cases p0; cases p1; cases p2; cases p3
  obtain ⟨k', x', b', s', a', m', c', rfl, rfl, rfl, rfl, rfl⟩ := i2.shape
  exact ⟨⟨n0, n1, t2, n3⟩, m2, k', x', b', s', a', m', c', rfl, i2⟩
set_option maxRecDepth 100000 in
theorem open_aq {H : Type} {enc : TypeId × Value → H} {W : World} {base : Nat} {spare : Nat → Bool} {held : Bool} (fuel : Nat) (cs : List Value) (x : DataW H × List MemPlace) (h : DataW.trod enc Tryd.prog W base spare held fuel 51 cs = some x) (hwt : ∀ y ∈ x.1.weights Tryd.prog 51, y ≤ reachBytes) :
    ∃ (e : An) (n : Nat) (vk vx vb : Int) (vs : ByteArray) (la : Option Addr) (ll lc : Nat), cs = [.int .i64 e.o, .int .i64 vk, .int .i64 vx, .int .u64 vb, .string vs, .slice la ll lc] ∧ Is W n (.agg #[.int .i64 vk, .int .i64 vx, .int .u64 vb, .string vs, .slice la ll lc]) e.v := by
  obtain ⟨xs, q, hk, hxy, hlen, hxl, hf⟩ := DataW.trod_struct Tryd.underlying51 h
  rw [clQ51] at hlen
  obtain ⟨a0, a1, a2, a3, a4, a5, rfl⟩ := lsq6 hlen
  obtain ⟨y0, y1, rfl⟩ := lsq2 (l := xs) hxl
  have hw5 : ∀ y ∈ y1.1.weights Tryd.prog 25, y ≤ reachBytes := fun y hy => by
    apply hwt
    rw [hxy]
    simp only [DataW.weights, Tryd.underlying51]
    exact DataW.weights_mem_each (j := 1) rfl rfl y hy
  clear hwt
  have g0 := hf 0 _ rfl
  have g1 := hf 1 _ rfl
  clear hf hxl hlen hxy h
  simp only [List.getElem?_cons_zero, List.getElem?_cons_succ] at g0 g1
  obtain ⟨n0, p0, _, _⟩ := DataW.trod_int Tryd.underlying3 g0
  obtain ⟨v0, v1, v2, v3, v4, t1, m1, p1, i1, sm1⟩ := open_valW q _ _ g1 hw5
  cases p0; cases p1
  obtain ⟨k', x', b', s', a', m', c', rfl, rfl, rfl, rfl, rfl⟩ := i1.shape
  exact ⟨⟨n0, t1⟩, m1, k', x', b', s', a', m', c', rfl, i1⟩
theorem open_cqs {H : Type} {enc : TypeId × Value → H} {W : World} {base : Nat} {spare : Nat → Bool} {held : Bool} (fuel : Nat) (cs : List Value) (x : DataW H × List MemPlace) (h : DataW.trod enc Tryd.prog W base spare held fuel 28 cs = some x) (hwt : ∀ y ∈ x.1.weights Tryd.prog 28, y ≤ reachBytes) :
    ∃ (a : Option Addr) (c : Nat) (l : List Cm) (n : Nat), cs = [.slice a l.length c] ∧ l.length ≤ 9223372036854775807 ∧ ∀ m, n ≤ m → Cms W m a l := by
  obtain ⟨a, cap, q, rows, hcs, hmax, hr⟩ := open_rows Tryd.underlying28 clQ49 (by decide) fuel _ _ h hwt
  have inh : Inhabited (Cm × Nat) := ⟨⟨0, ⟨#[]⟩, zE, 0⟩, 0⟩
  have each : ∀ i, i < rows.length → ∃ u : Cm × Nat, ∃ (r : List Value) (vk vx vb : Int) (vs : ByteArray) (la : Option Addr) (ll lc : Nat), rows[i]? = some r ∧ r = [.int .i64 u.1.k, .string u.1.s, .int .i64 vk, .int .i64 vx, .int .u64 vb, .string vs, .slice la ll lc, .int .i64 u.1.d] ∧ Is W u.2 (.agg #[.int .i64 vk, .int .i64 vx, .int .u64 vb, .string vs, .slice la ll lc]) u.1.v := fun i hi => by
    obtain ⟨_, _, y, hy, hz⟩ := hr i _ (List.getElem?_eq_getElem hi)
    obtain ⟨e, n, vk, vx, vb, vs, la, ll, lc, g1, g2⟩ := open_cq _ _ _ hy hz
    exact ⟨(e, n), _, vk, vx, vb, vs, la, ll, lc, List.getElem?_eq_getElem hi, g1, g2⟩
  obtain ⟨F, hF⟩ := choose_lt each
  obtain ⟨N, hN⟩ := fuel_lt (n := rows.length) (q := fun i N => (F i).2 ≤ N) (fun _ _ _ h h' => Nat.le_trans h' h) (fun i _ => ⟨_, Nat.le_refl _⟩)
  have hl : ((List.range rows.length).map fun i => (F i).1).length = rows.length := by simp
  refine ⟨a, cap, (List.range rows.length).map fun i => (F i).1, N, by rw [hl]; exact hcs, by rw [hl]; exact hmax, fun m hm i e he => ?_⟩
  have hi : i < rows.length := by have := (List.getElem?_eq_some_iff.1 he).1; simpa using this
  rw [List.getElem?_map, List.getElem?_range hi] at he
  cases he
  obtain ⟨r, vk, vx, vb, vs, la, ll, lc, hr1, rfl, hv⟩ := hF i hi
  obtain ⟨_, ⟨B, o, h2, h3⟩, _⟩ := hr i _ hr1
  exact ⟨B, o, vk, vx, vb, vs, la, ll, lc, h2, h3 0 _ rfl, h3 1 _ rfl, h3 2 _ rfl, h3 3 _ rfl, h3 4 _ rfl, h3 5 _ rfl, h3 6 _ rfl, h3 7 _ rfl, hv.up (by have := hN i hi; omega)⟩
theorem open_aqs {H : Type} {enc : TypeId × Value → H} {W : World} {base : Nat} {spare : Nat → Bool} {held : Bool} (fuel : Nat) (cs : List Value) (x : DataW H × List MemPlace) (h : DataW.trod enc Tryd.prog W base spare held fuel 29 cs = some x) (hwt : ∀ y ∈ x.1.weights Tryd.prog 29, y ≤ reachBytes) :
    ∃ (a : Option Addr) (c : Nat) (l : List An) (n : Nat), cs = [.slice a l.length c] ∧ l.length ≤ 9223372036854775807 ∧ ∀ m, n ≤ m → Ans W m a l := by
  obtain ⟨a, cap, q, rows, hcs, hmax, hr⟩ := open_rows Tryd.underlying29 clQ51 (by decide) fuel _ _ h hwt
  have inh : Inhabited (An × Nat) := ⟨⟨0, zE⟩, 0⟩
  have each : ∀ i, i < rows.length → ∃ u : An × Nat, ∃ (r : List Value) (vk vx vb : Int) (vs : ByteArray) (la : Option Addr) (ll lc : Nat), rows[i]? = some r ∧ r = [.int .i64 u.1.o, .int .i64 vk, .int .i64 vx, .int .u64 vb, .string vs, .slice la ll lc] ∧ Is W u.2 (.agg #[.int .i64 vk, .int .i64 vx, .int .u64 vb, .string vs, .slice la ll lc]) u.1.v := fun i hi => by
    obtain ⟨_, _, y, hy, hz⟩ := hr i _ (List.getElem?_eq_getElem hi)
    obtain ⟨e, n, vk, vx, vb, vs, la, ll, lc, g1, g2⟩ := open_aq _ _ _ hy hz
    exact ⟨(e, n), _, vk, vx, vb, vs, la, ll, lc, List.getElem?_eq_getElem hi, g1, g2⟩
  obtain ⟨F, hF⟩ := choose_lt each
  obtain ⟨N, hN⟩ := fuel_lt (n := rows.length) (q := fun i N => (F i).2 ≤ N) (fun _ _ _ h h' => Nat.le_trans h' h) (fun i _ => ⟨_, Nat.le_refl _⟩)
  have hl : ((List.range rows.length).map fun i => (F i).1).length = rows.length := by simp
  refine ⟨a, cap, (List.range rows.length).map fun i => (F i).1, N, by rw [hl]; exact hcs, by rw [hl]; exact hmax, fun m hm i e he => ?_⟩
  have hi : i < rows.length := by have := (List.getElem?_eq_some_iff.1 he).1; simpa using this
  rw [List.getElem?_map, List.getElem?_range hi] at he
  cases he
  obtain ⟨r, vk, vx, vb, vs, la, ll, lc, hr1, rfl, hv⟩ := hF i hi
  obtain ⟨_, ⟨B, o, h2, h3⟩, _⟩ := hr i _ hr1
  exact ⟨B, o, vk, vx, vb, vs, la, ll, lc, h2, h3 0 _ rfl, h3 1 _ rfl, h3 2 _ rfl, h3 3 _ rfl, h3 4 _ rfl, h3 5 _ rfl, hv.up (by have := hN i hi; omega)⟩
/-- What the walks want of a request that is handed in. -/
structure RqI (W : World) (k : Int) (f q m : ByteArray) (vk vx vb : Int) (vs : ByteArray) (la : Option Addr) (ll lc : Nat) (ru nu wa pf : Int) (pc : Nat) (pm : Int) (ca : Option Addr) (cn cc : Nat) (aa : Option Addr) (an ac : Nat) (n : Nat) (tv : Tv) (l : List Cm) (al : List An) : Prop where
  pc : pc < 18446744073709551616
  v : Is W (n + 1) (.agg #[.int .i64 vk, .int .i64 vx, .int .u64 vb, .string vs, .slice la ll lc]) tv
  c : Cms W n ca l
  a : Ans W (n + 1) aa al
  cn : cn = l.length
  an : an = al.length
set_option maxRecDepth 100000 in
theorem open_rq {H : Type} {enc : TypeId × Value → H} {W : World} {base : Nat} {spare : Nat → Bool} {held : Bool} (fuel : Nat) (cs : List Value) (x : DataW H × List MemPlace) (h : DataW.trod enc Tryd.prog W base spare held fuel 31 cs = some x) (hwt : ∀ y ∈ x.1.weights Tryd.prog 31, y ≤ reachBytes) :
    ∃ (k : Int) (f q m : ByteArray) (vk vx vb : Int) (vs : ByteArray) (la : Option Addr) (ll lc : Nat) (ru nu wa pf : Int) (pc : Nat) (pm : Int) (ca : Option Addr) (cn cc : Nat) (aa : Option Addr) (an ac : Nat) (n : Nat) (tv : Tv) (l : List Cm) (al : List An), cs = [.int .i64 k, .string f, .string q, .string m, .int .i64 vk, .int .i64 vx, .int .u64 vb, .string vs, .slice la ll lc, .int .i64 ru, .int .i64 nu, .int .i64 wa, .int .i64 pf, .int .u64 (pc : Int), .int .i64 pm, .slice ca cn cc, .slice aa an ac] ∧ RqI W k f q m vk vx vb vs la ll lc ru nu wa pf pc pm ca cn cc aa an ac n tv l al := by
  obtain ⟨xs, q, hk, hxy, hlen, hxl, hf⟩ := DataW.trod_struct Tryd.underlying31 h
  rw [clQ31] at hlen
  obtain ⟨a0, a1, a2, a3, a4, a5, a6, a7, a8, a9, a10, a11, a12, a13, a14, a15, a16, rfl⟩ := lsq17 hlen
  obtain ⟨y0, y1, y2, y3, y4, y5, y6, y7, y8, y9, y10, rfl⟩ := lsq11 (l := xs) hxl
  have hw4 : ∀ y ∈ y4.1.weights Tryd.prog 25, y ≤ reachBytes := fun y hy => by
    apply hwt
    rw [hxy]
    simp only [DataW.weights, Tryd.underlying31]
    exact DataW.weights_mem_each (j := 4) rfl rfl y hy
  have hw9 : ∀ y ∈ y9.1.weights Tryd.prog 28, y ≤ reachBytes := fun y hy => by
    apply hwt
    rw [hxy]
    simp only [DataW.weights, Tryd.underlying31]
    exact DataW.weights_mem_each (j := 9) rfl rfl y hy
  have hw10 : ∀ y ∈ y10.1.weights Tryd.prog 29, y ≤ reachBytes := fun y hy => by
    apply hwt
    rw [hxy]
    simp only [DataW.weights, Tryd.underlying31]
    exact DataW.weights_mem_each (j := 10) rfl rfl y hy
  clear hwt
  have g0 := hf 0 _ rfl
  have g1 := hf 1 _ rfl
  have g2 := hf 2 _ rfl
  have g3 := hf 3 _ rfl
  have g4 := hf 4 _ rfl
  have g5 := hf 5 _ rfl
  have g6 := hf 6 _ rfl
  have g7 := hf 7 _ rfl
  have g8 := hf 8 _ rfl
  have g9 := hf 9 _ rfl
  have g10 := hf 10 _ rfl
  clear hf hxl hlen hxy h
  simp only [List.getElem?_cons_zero, List.getElem?_cons_succ] at g0 g1 g2 g3 g4 g5 g6 g7 g8 g9 g10
  obtain ⟨n0, p0, _, _⟩ := DataW.trod_int Tryd.underlying3 g0
  obtain ⟨n1, p1, _, _⟩ := DataW.trod_string Tryd.underlying9 g1
  obtain ⟨n2, p2, _, _⟩ := DataW.trod_string Tryd.underlying9 g2
  obtain ⟨n3, p3, _, _⟩ := DataW.trod_string Tryd.underlying9 g3
  obtain ⟨v0, v1, v2, v3, v4, t4, m4, p4, i4, sm4⟩ := open_valW q _ _ g4 hw4
  obtain ⟨n5, p5, _, _⟩ := DataW.trod_int Tryd.underlying3 g5
  obtain ⟨n6, p6, _, _⟩ := DataW.trod_int Tryd.underlying3 g6
  obtain ⟨n7, p7, _, _⟩ := DataW.trod_int Tryd.underlying3 g7
  obtain ⟨pf, pc, pm, p8, hpc⟩ := open_pq _ _ _ g8
  obtain ⟨ca, cc, l, N9, p9, _, h9⟩ := open_cqs _ _ _ g9 hw9
  obtain ⟨aa, ac, al, N10, p10, _, h10⟩ := open_aqs _ _ _ g10 hw10
  cases p0; cases p1; cases p2; cases p3; cases p4; cases p5; cases p6; cases p7; cases p8; cases p9; cases p10
  obtain ⟨k', x', b', s', a', m', c', rfl, rfl, rfl, rfl, rfl⟩ := i4.shape
  exact ⟨n0, n1, n2, n3, k', x', b', s', a', m', c', n5, n6, n7, pf, pc, pm, ca, l.length, cc, aa, al.length, ac, m4 + N9 + N10, t4, l, al, rfl, ⟨hpc, i4.up (by omega), h9 _ (by omega), h10 _ (by omega), rfl, rfl⟩⟩
theorem laidOut : laidOutB Tryd.prog = true := by kernel_rfl
theorem aggN {v : Value} {k : Nat} (h : v.cells.size = k + 2) : v = .agg v.cells := by
  cases v with
  | agg cs => rfl
  | _ => simp [Value.cells] at h
end Go.Proofs.YtddigndamimmpaaDoor
