/- A clone of any value; an argument that is an event; Check, Same, both, Clone of an event; the walk of EventChecks. -/
import Derived.Test.YtelpdmdknmkhmaaVG
import Derived.Test.YtelpdmdknmkhmaaVJ
import Derived.SizedLaws
import Derived.Test.YtelpdmdknmkhmaaGA
import Derived.Test.YtelpdmdknmkhmaaJA
import Derived.Deep.DeepCutAuto
import Derived.Test.YtelpdmdknmkhmaaGD
import Derived.Test.YtelpdmdknmkhmaaVB
import Derived.Deep.RegionHeld3
namespace Go.Proofs.Ytelpdmdknmkhmaa
open Go.ChangeShapes Go.WideShapes Go.ChangeAt Go.RowKit Go.Deep
/-- No list has more values than an argument may have. -/
def SmallW : Nat → Tv → Prop
  | 0, _ => False
  | n + 1, .mk _ _ _ _ l => l.length ≤ 2199023255488 ∧ ∀ (i : Nat) t, l[i]? = some t → SmallW n t
def CloneW (n : Nat) : Prop := ∀ (v : Value) (t : Tv) (w : World), Is w n v t → SmallW n t →
    Calls Try.prog 28 #[v] w fun e w' => (∃ v', e = .returned v' ∧ IsN w.heap.size w' n v' t) ∧ Below w.heap.size w w'
theorem make_valsW (k : Nat) (h : k ≤ 2199023255488) (w : World) : (Instr.makeSlice 23 (.int .i64 (k : Int)) (.int .i64 (k : Int))).run Try.prog w = .ok (.slice (some ⟨w.heap.size, 0, none⟩) k k) (w.alloc (.cells (madeCells zV.cells (k * 5)) 25)) := by
  obtain ⟨i0, hi, hz0, hz1, hz2⟩ := info_parts info25
  rw [run_make (P := Try.prog) w 23 25 i0 zV Try.underlying23 hi hz0 .i64 .i64 k k (by omega) (by omega) (by rw [hz2]; omega) (by omega)]
  rw [Int.toNat_natCast, hz1]
set_option maxHeartbeats 2000000 in
theorem cloneAllW (n : Nat) (ih : CloneW n) (a : Option Addr) (c : Nat) (l : List Tv) (w : World) (hl : l.length ≤ 2199023255488) (hr : Row (Is w n) w a l) (hs : ∀ (i : Nat) t, l[i]? = some t → SmallW n t) :
    Calls Try.prog 53 #[.slice a l.length c] w fun e w' => (∃ a' c', e = .returned (.slice a' l.length c') ∧ l.length ≤ c' ∧ c' ≤ 2199023255488 ∧ RowN w.heap.size (IsN w.heap.size w' n) w' a' l) ∧ Below w.heap.size w w' := by
  by_cases h0 : l.length = 0
  · rw [h0]
    have e0 : ∀ (i : Nat), l[i]? = none := fun i => List.getElem?_eq_none (by omega)
    clear hr hs
    go_enter Try.func53, Try.ntmps53
    go_wp2_with fail
    go_ret
    exact ⟨⟨none, 0, rfl, Nat.le_refl _, by omega, fun i t ht => by rw [e0] at ht; cases ht⟩, Below.refl _ _⟩
  · have HR : Hid (Row (Is w n) w a l) := hr
    have HSm : Hid (∀ (i : Nat) t, l[i]? = some t → SmallW n t) := hs
    have hmk := make_valsW l.length hl
    have hma := made_at w l.length
    generalize madeCells zV.cells (l.length * 5) = M at hmk hma
    have HMA : Hid (∀ i, i < l.length → _) := hma
    have f0 : ((l.length : Int) == 0) = false := by simpa using h0
    have HL : Hid (l.length ≤ 2199023255488) := hl
    clear hr hs hl hma
    go_enter Try.func53, Try.ntmps53
    go_wp2_with fail
    go_loopw [14] (fun i wr => ∃ j : Nat, j ≤ l.length ∧ i = .int .i64 j ∧ Hid (Below w.heap.size w wr) ∧ Hid (w.heap.size < wr.heap.size) ∧ Hid (∀ o, wr.frozen? ⟨w.heap.size, o, none⟩ = false) ∧
        Hid (∀ (i : Nat) t, i < j → l[i]? = some t → ∃ c0 c1 c2 c3 c4, At5 wr w.heap.size (i * 5) c0 c1 c2 c3 c4 ∧ IsN (w.heap.size + 1) wr n (.agg #[c0, c1, c2, c3, c4]) t) ∧
        Hid (∀ (i : Nat), j ≤ i → i < l.length → At5 wr w.heap.size (i * 5) (.int .i64 0) (.int .i64 0) (.int .u64 0) (.string ⟨#[]⟩) (.slice none 0 0))) (fun i _ => l.length - (intOf i).toNat)
    case atStart => exact ⟨0, Nat.zero_le _, rfl, bel1 _ _, (by show _ < _; simp), (fun o => fresh w M o), (fun i t h => absurd h (Nat.not_lt_zero _)), fun i _ h => HMA.out i h⟩
    case round =>
      obtain ⟨j, hj, rfl, HB, HG, HFr, HD, HZ⟩ := hrel
      by_cases hlt : j < l.length
      · obtain ⟨B, o, c0, c1, c2, c3, c4, rfl, h5, hi⟩ := HR.out j _ (List.getElem?_eq_getElem hlt)
        obtain ⟨k', x', b', s', a', m', c', rfl, rfl, rfl, rfl, rfl⟩ := hi.shape
        obtain ⟨e0, e1, e2, e3, e4⟩ := h5.below HB.out
        have HI := hi.below HB.out
        have C0 := fun W (hB : Below wr.heap.size wr W) => ih _ _ W (HI.below hB) (HSm.out j _ (List.getElem?_eq_getElem hlt))
        clear hi h5 HI
        go_wp2_with fail
        refine Calls.mono (C0 _ (bel1 _ _)) ?_
        rintro e w1 ⟨⟨v1, rfl, hn1⟩, hb1⟩
        have hb2 := bel2 (bel1 wr _) hb1
        have hsz : wr.heap.size ≤ w1.heap.size := hb2.size
        obtain ⟨k1, x1, b1, s1, a1, m1, c1, rfl⟩ := hn1.shape
        obtain ⟨z0, z1, z2, z3, z4⟩ := (HZ.out j (Nat.le_refl _) hlt).below hb2
        have HN1 : Hid (IsN (w.heap.size + 1) w1 n (.agg #[.int .i64 k1, .int .i64 x1, .int .u64 b1, .string s1, .slice a1 m1 c1]) l[j]) := hn1.lower (by have := HG.out; simp; omega)
        have HB2 : Hid (Below wr.heap.size wr w1) := hb2
        have HB1 : Hid (Below w.heap.size w w1) := bel2 HB.out hb2
        have HG1 : Hid (w.heap.size < w1.heap.size) := Nat.lt_of_lt_of_le HG.out hsz
        have hfr : ∀ o, w1.frozen? ⟨w.heap.size, o, none⟩ = false := fun o => (hb2.frozen HG.out).trans (HFr.out o)
        have g0 := hfr (j * 5)
        have g1 := hfr (j * 5 + 1)
        have g2 := hfr (j * 5 + 2)
        have g3 := hfr (j * 5 + 3)
        have g4 := hfr (j * 5 + 4)
        have HFr1 : Hid (∀ o, w1.frozen? ⟨w.heap.size, o, none⟩ = false) := hfr
        clear hfr
        clear hb1 hb2 hn1 hsz C0 e0 e1 e2 e3 e4
        have HW : Hid (wrap64 ((j : Int) + 1) = ((j + 1 : Nat) : Int)) := wr1 hlt (by have := HL.out; omega)
        go_wp2_with fail
        refine ⟨⟨j + 1, hlt, by rw [HW.out], ?_⟩, meas hlt HW.out⟩
        have k5 := set5_kb w1 w.heap.size (j * 5) (.int .i64 k1) (.int .i64 x1) (.int .u64 b1) (.string s1) (.slice a1 m1 c1)
        refine ⟨HB1.out.trans (k5.below (Nat.le_refl _) (Nat.le_of_lt HG1.out)), Nat.lt_of_lt_of_le HG1.out k5.2.2.2.1, (fun o => (set5_frozen _ _ _ _ _ _ _ _ _).trans (HFr1.out o)), ?_, ?_⟩
        · intro i t hi ht
          by_cases hij : i < j
          · obtain ⟨d0, d1, d2, d3, d4, h5, hn⟩ := HD.out i t hij ht
            exact ⟨d0, d1, d2, d3, d4, set5_beside (h5.below HB2.out) _ _ _ _ _ (by omega), (hn.kb (g := w.heap.size) (KB.of_below HB2.out) (by omega)).kb k5 (by omega)⟩
          · obtain rfl : i = j := by omega
            rw [List.getElem?_eq_getElem hlt] at ht
            cases ht
            exact ⟨_, _, _, _, _, set5_at (⟨z0, z1, z2, z3, z4⟩ : At5 w1 w.heap.size (i * 5) _ _ _ _ _) _ _ _ _ _, HN1.out.kb k5 (by omega)⟩
        · intro i hi hil
          exact set5_beside ((HZ.out i (by omega) hil).below HB2.out) _ _ _ _ _ (by omega)
      · obtain rfl : j = l.length := by omega
        go_wp2_with fail
        go_ret
        refine ⟨⟨_, _, rfl, Nat.le_refl _, HL.out, fun i t ht => ?_⟩, HB.out⟩
        obtain ⟨c0, c1, c2, c3, c4, h5, hn⟩ := HD.out i t (List.getElem?_eq_some_iff.1 ht).1 ht
        exact ⟨_, 0, c0, c1, c2, c3, c4, rfl, Nat.le_refl _, by rw [Nat.zero_add]; exact h5, hn.lower (by omega)⟩
set_option maxHeartbeats 2000000 in
theorem cloneW : ∀ n, CloneW n := by
  intro n
  induction n with
  | zero => intro v t w h; exact h.elim
  | succ n ih =>
    rintro v ⟨k, x, b, s, l⟩ w ⟨a, c, rfl, hf, hr⟩ ⟨hl, hs⟩
    have C0 := fun W (hB : Below w.heap.size w W) => cloneAllW n ih a c l W hl (hr.below hB) hs
    have HF : Hid (Fit k x b s l.length c) := hf
    clear hr hs ih hl hf
    go_enter Try.func28, Try.ntmps28
    go_wp2_with fail
    refine Calls.mono (C0 _ (bel2 (bel1 _ _) (bel1 _ _))) ?_
    rintro e w1 ⟨⟨a1, c1, rfl, hc1, hc2, hr1⟩, hb1⟩
    have hb2 := bel2 (bel2 (bel1 w _) (bel1 _ _)) hb1
    have hz : w.heap.size + 1 + 1 ≤ w1.heap.size := by have := hb1.size; simpa using this
    have HB1 : Hid (Below w.heap.size w w1) := hb2
    simp only [World.size_alloc] at hr1
    have HR1 : Hid (RowN (w.heap.size + 1 + 1) (IsN (w.heap.size + 1 + 1) w1 n) w1 a1 l) := hr1
    have p1 := ((box_at w (.int .i64 k) (.int .i64 x) (.int .u64 b) (.string s) (.slice a l.length c)).below (bel1 _ _)).below hb1
    have p2 := (box_at' _ (w.heap.size + 1) (by simp) (.int .i64 0) (.int .i64 0) (.int .u64 0) (.string ⟨#[]⟩) (.slice none 0 0)).below hb1
    have f1 : ∀ o, w1.frozen? ⟨w.heap.size, o, none⟩ = false := fun o => (hb1.frozen (by simp; omega)).trans (((bel1 _ _).frozen (by simp)).trans (fresh w _ o))
    have f2 : ∀ o, w1.frozen? ⟨w.heap.size + 1, o, none⟩ = false := fun o => (hb1.frozen (by simp)).trans (fresh' _ _ (by simp) _ o)
    obtain ⟨p10, p11, p12, p13, p14⟩ := p1
    obtain ⟨p20, p21, p22, p23, p24⟩ := p2
    have q0 := f1 4
    have q1 := f2 0
    have q2 := f2 1
    have q3 := f2 2
    have q4 := f2 3
    have q5 := f2 4
    have HC1 : Hid (l.length ≤ c1 ∧ c1 ≤ 2199023255488) := ⟨hc1, hc2⟩
    clear hb1 hb2 hr1 f1 f2 C0 hc1 hc2
    have HP2 : Hid (At5 w1 (w.heap.size + 1) 0 _ _ _ _ _) := ⟨p20, p21, p22, p23, p24⟩
    go_wp2_with fail
    have kb1 := KB.setCell w.heap.size w1 4 (.slice a1 l.length c1)
    have kb2 := set5_kb (w1.setCell ⟨w.heap.size, 4, none⟩ (.slice a1 l.length c1)) (w.heap.size + 1) 0 (.int .i64 k) (.int .i64 x) (.int .u64 b) (.string s) (.slice a1 l.length c1)
    refine bodyPost_ret (ret5 Try.results28 _ (g := w.heap.size + 1) rfl (set5_at (HP2.out.kb kb1 (by omega)) _ _ _ _ _)) rfl ?_
    refine ⟨⟨_, rfl, a1, c1, rfl, ⟨HF.out.k0, HF.out.k1, HF.out.x0, HF.out.x1, HF.out.b0, HF.out.b1, HF.out.s1, HC1.out.1, by have := HC1.out.2; omega⟩, ?_⟩, ?_⟩
    · intro i t ht
      obtain ⟨B, o, d0, d1, d2, d3, d4, ha, hB, h5, hn⟩ := ((HR1.out.kb kb1 (by omega)).kb kb2 (by omega)) i t ht
      exact ⟨B, o, d0, d1, d2, d3, d4, ha, by omega, h5, hn.lower (by omega)⟩
    · exact (HB1.out.trans (kb1.below (Nat.le_refl _) (by omega))).trans (kb2.below (by omega) (by have := kb1.2.2.2.1; omega))
end Go.Proofs.Ytelpdmdknmkhmaa
namespace Go.Proofs.Ytelpdmdknmkhmaa
open Go.ChangeShapes Go.WideShapes Go.ChangeAt Go.RowKit Go.Deep
theorem SmallW.up : ∀ {n m : Nat} {t : Tv}, SmallW n t → n ≤ m → SmallW m t
  | 0, _, _, h, _ => h.elim
  | n + 1, 0, _, _, hm => by omega
  | n + 1, m + 1, .mk _ _ _ _ l, ⟨h1, h2⟩, hm => ⟨h1, fun i t ht => (h2 i t ht).up (by omega)⟩
theorem mem_all {H : Type} {P : Program} {e : TypeId} : ∀ {ds : List (DataW H)} {d : DataW H}, d ∈ ds → ∀ y ∈ d.weights P e, y ∈ DataW.weightsAll P e ds
  | x :: r, d, h, y, hy => by
    simp only [DataW.weightsAll, List.mem_append]
    rcases List.mem_cons.1 h with rfl | h
    · exact .inl hy
    · exact .inr (mem_all h y hy)
set_option maxRecDepth 100000 in
theorem open_valW {H : Type} {enc : TypeId × Value → H} {W : World} {base : Nat} {spare : Nat → Bool} {held : Bool} : ∀ (fuel : Nat) (cs : List Value) (x : DataW H × List MemPlace),
    DataW.trod enc Try.prog W base spare held fuel 25 cs = some x → (∀ y ∈ x.1.weights Try.prog 25, y ≤ reachBytes) → ∃ c0 c1 c2 c3 c4 t n, cs = [c0, c1, c2, c3, c4] ∧ Is W n (.agg #[c0, c1, c2, c3, c4]) t ∧ SmallW n t := by
  intro fuel
  induction fuel using Nat.strongRecOn with
  | _ fuel ih =>
    intro cs x h hwt
    obtain ⟨xs, k, hk, hxy, hlen, hxl, hf⟩ := DataW.trod_struct Try.underlying25 h
    rw [cells25] at hlen
    obtain ⟨c0, c1, c2, c3, c4, rfl⟩ := list5 hlen
    obtain ⟨y0, y1, y2, y3, y4, rfl⟩ := list5 (l := xs) hxl
    have hw4 : ∀ y ∈ y4.1.weights Try.prog 23, y ≤ reachBytes := fun y hy => by
      apply hwt
      rw [hxy]
      simp only [DataW.weights, Try.underlying25]
      exact DataW.weights_mem_each (j := 4) rfl rfl y hy
    clear hwt
    have g0 := hf 0 _ rfl
    have g1 := hf 1 _ rfl
    have g2 := hf 2 _ rfl
    have g3 := hf 3 _ rfl
    have g4 := hf 4 _ rfl
    clear hf hxl hlen hxy h
    simp only [List.getElem?_cons_zero, List.getElem?_cons_succ] at g0 g1 g2 g3 g4
    obtain ⟨n0, e0, _, w0⟩ := DataW.trod_int Try.underlying3 g0
    obtain ⟨n1, e1, _, w1⟩ := DataW.trod_int Try.underlying3 g1
    obtain ⟨n2, e2, _, w2⟩ := DataW.trod_int Try.underlying22 g2
    obtain ⟨s3, e3, _, w3⟩ := DataW.trod_string Try.underlying9 g3
    cases e0; cases e1; cases e2; cases e3
    unfold maxLen at w3
    rcases DataW.trod_slice Try.underlying23 g4 with ⟨h4, _⟩ | ⟨a, len, cap, elems, rest, q, hq, h4, h4x, _, hl, hm, he, hx, _, _⟩
    · cases h4
      exact ⟨_, _, _, _, _, .mk n0 n1 n2 s3 [], 1, rfl, ⟨none, 0, rfl, ⟨(lo64 w0).1, (lo64 w0).2, (lo64 w1).1, (lo64 w1).2, (lou64 w2).1, (lou64 w2).2, by omega, Nat.le_refl _, by omega⟩, fun i t ht => by simp at ht⟩, ⟨by decide, fun i t ht => by simp at ht⟩⟩
    · cases h4
      unfold maxLen at hm
      have hlen64 : len ≤ 2199023255488 := by
        have hb : Try.prog.bytesOf 25 = 64 := by kernel_rfl
        have := hw4 ((elems.length + rest.length) * Try.prog.bytesOf 25) (by rw [h4x]; simp [DataW.weights, Try.underlying23])
        rw [hb, he] at this
        unfold reachBytes at this
        omega
      have helem : ∀ i (hi : i < elems.length), ∀ y ∈ (elems[i]).1.weights Try.prog 25, y ≤ reachBytes := fun i hi y hy => by
        apply hw4
        rw [h4x]
        simp only [DataW.weights, Try.underlying23, List.mem_cons, List.mem_append]
        exact .inr (.inl (mem_all (List.mem_map.2 ⟨_, List.getElem_mem hi, rfl⟩) y hy))
      clear h4x hw4
      have each : ∀ i, i < len → ∃ r : (Value × Value × Value × Value × Value) × Tv × Nat, ∃ B o, a = ⟨B, o, none⟩ ∧ At5 W B (o + i * 5) r.1.1 r.1.2.1 r.1.2.2.1 r.1.2.2.2.1 r.1.2.2.2.2 ∧ Is W r.2.2 (.agg #[r.1.1, r.1.2.1, r.1.2.2.1, r.1.2.2.2.1, r.1.2.2.2.2]) r.2.1 ∧ SmallW r.2.2 r.2.1 := by
        intro i hi
        have key := hx i hi
        rw [List.getElem?_eq_getElem (by omega)] at key
        obtain ⟨cs', k1, k2⟩ := Option.bind_eq_some_iff.1 key
        obtain ⟨d0, d1, d2, d3, d4, t, n, rfl, hi', hsm⟩ := ih q (by omega) cs' _ k2 (helem i (by omega))
        rw [cells25] at k1
        obtain ⟨_, _, hcell⟩ := World.cells?_some k1
        have p0 := hcell 0 (by simp)
        have hsp : a.spot = none := by
          have key0 := hx 0 (by omega)
          rw [List.getElem?_eq_getElem (by omega)] at key0
          obtain ⟨cs0, k10, k20⟩ := Option.bind_eq_some_iff.1 key0
          obtain ⟨f0, f1, f2, f3, f4, _, _, rfl, _, _⟩ := ih q (by omega) cs0 _ k20 (helem 0 (by omega))
          rw [cells25] at k10
          obtain ⟨_, _, hcell0⟩ := World.cells?_some k10
          have q0 := hcell0 0 (by simp)
          rw [add_add] at q0
          have := plain_addr q0
          simpa [Addr.add] using this
        obtain ⟨B, o, sp⟩ := a
        cases hsp
        have ad : ∀ r, ((⟨B, o, none⟩ : Addr).add (i * 5)).add r = ⟨B, o + i * 5 + r, none⟩ := by
          intro r
          rw [addp, addp]
        have p1 := hcell 1 (by simp)
        have p2 := hcell 2 (by simp)
        have p3 := hcell 3 (by simp)
        have p4 := hcell 4 (by simp)
        rw [ad] at p0 p1 p2 p3 p4
        exact ⟨((d0, d1, d2, d3, d4), t, n), B, o, rfl, ⟨by simpa using p0, by simpa using p1, by simpa using p2, by simpa using p3, by simpa using p4⟩, hi', hsm⟩
      have inh : Inhabited ((Value × Value × Value × Value × Value) × Tv × Nat) := ⟨(undef, undef, undef, undef, undef), .mk 0 0 0 ⟨#[]⟩ [], 0⟩
      obtain ⟨F, hF⟩ := choose_lt each
      obtain ⟨N, hN⟩ := fuel_lt (n := len) (q := fun i N => (F i).2.2 ≤ N) (fun _ _ _ h h' => Nat.le_trans h' h) (fun i _ => ⟨_, Nat.le_refl _⟩)
      refine ⟨_, _, _, _, _, .mk n0 n1 n2 s3 ((List.range len).map fun i => (F i).2.1), N + 1, rfl, ⟨some a, cap, ?_, ?_, ?_⟩, ⟨by simpa using hlen64, ?_⟩⟩
      · simp
      · exact ⟨(lo64 w0).1, (lo64 w0).2, (lo64 w1).1, (lo64 w1).2, (lou64 w2).1, (lou64 w2).2, by omega, by simpa using hl, by omega⟩
      · intro i t ht
        have hi : i < len := by have := (List.getElem?_eq_some_iff.1 ht).1; simpa using this
        rw [List.getElem?_map, List.getElem?_range hi] at ht
        cases ht
        obtain ⟨B, o, ha, h5, hI, _⟩ := hF i hi
        exact ⟨B, o, _, _, _, _, _, by rw [ha], h5, hI.up (hN i hi)⟩
      · intro i t ht
        have hi : i < len := by have := (List.getElem?_eq_some_iff.1 ht).1; simpa using this
        rw [List.getElem?_map, List.getElem?_range hi] at ht
        cases ht
        obtain ⟨B, o, ha, h5, _, hS⟩ := hF i hi
        exact hS.up (hN i hi)
end Go.Proofs.Ytelpdmdknmkhmaa
namespace Go.Proofs.Ytelpdmdknmkhmaa
open Go.ChangeShapes Go.WideShapes Go.ChangeAt Go.RowKit
/-- The numbers zs lie in block g. -/
def Ih (w : World) (g : Nat) (zs : List Int) : Prop := ∀ (i : Nat) z, zs[i]? = some z → w.cell? ⟨g, i, none⟩ = some (.int .i64 z)
theorem in_calls (k : Int) (g n : Nat) (zs : List Int) (hn : zs.length = n) (h10 : n ≤ 10) (w : World) (h : Ih w g zs) :
    Calls Try.prog 47 #[.int .i64 k, .slice (some ⟨g, 0, none⟩) n n] w fun e w' => e = .returned (.bool (zs.contains k)) ∧ w' = w := by
  have HZ : Hid (Ih w g zs) := h
  have HN : Hid (zs.length = n) := hn
  have H10 : Hid (n ≤ 10) := h10
  obtain ⟨B, hB⟩ : ∃ B, B = zs.contains k := ⟨_, rfl⟩
  have HB : Hid (B = zs.contains k) := hB
  rw [← hB]
  clear h hn h10 hB
  go_enter Try.func47, Try.ntmps47
  go_wp2_with fail
  go_loop [5] (fun i => ∃ j : Nat, j ≤ n ∧ i = .int .i64 j ∧ Hid (∀ q, q < j → zs[q]? ≠ some k)) (fun i => n - (intOf i).toNat)
  case atStart => exact ⟨0, Nat.zero_le _, rfl, fun q hq => absurd hq (Nat.not_lt_zero _)⟩
  case round =>
    obtain ⟨j, hj, rfl, HQ⟩ := hrel
    by_cases hlt : j < n
    · have hjl : (j : Int) < (n : Int) := by omega
      have hj9 : (j : Int) < 10 := by have := H10.out; omega
      obtain ⟨z, hz⟩ : ∃ z, zs[j]? = some z := ⟨_, List.getElem?_eq_getElem (by have := HN.out; omega)⟩
      have hc := HZ.out j z hz
      have HZJ : Hid (zs[j]? = some z) := hz
      clear hz
      by_cases hzk : z = k
      · subst hzk
        have hb : B = true := by rw [HB.out]; exact List.contains_iff_mem.2 (List.mem_of_getElem? HZJ.out)
        subst hb
        go_wp2_with fail
        go_ret
        exact ⟨rfl, rfl⟩
      · have hzf : (z == k) = false := by simpa using hzk
        have HQ2 : Hid (∀ q, q < j + 1 → zs[q]? ≠ some k) := fun q hq => by
          by_cases e : q = j
          · subst e; rw [HZJ.out]; intro h; injection h with h; exact hzk h
          · exact HQ.out q (by omega)
        clear hzk
        go_wp2_with fail
        refine ⟨⟨j + 1, hlt, by first | rfl | (rw [Int.natCast_add]; rfl), HQ2⟩, ?_⟩
        simp only [intOf]
        omega
    · obtain rfl : j = n := by omega
      have hb : B = false := by
        rw [HB.out, ← Bool.not_eq_true]
        intro hm
        obtain ⟨q, hq⟩ := List.mem_iff_getElem?.1 (List.contains_iff_mem.1 hm)
        have hql : q < j := by have := (List.getElem?_eq_some_iff.1 hq).1; have := HN.out; omega
        exact HQ.out q hql hq
      subst hb
      go_wp2_with fail
      go_ret
      exact ⟨rfl, rfl⟩
theorem hD_eq (k : Int) : ([1, 2, 3, 9] : List Int).contains k = hD k := by
  unfold hD pt bt
  (repeat' split) <;> (simp_all; try omega)
theorem hM_eq (k : Int) : ([1, 7, 9, 10, 11, 12, 13] : List Int).contains k = hM k := by
  unfold hM pt bt
  (repeat' split) <;> (simp_all; try omega)
theorem hT_eq (k : Int) : ([5, 16, 18] : List Int).contains k = hT k := by
  unfold hT pt bt
  (repeat' split) <;> (simp_all; try omega)
theorem hV_eq (k : Int) : ([1, 7, 12, 13, 14, 15] : List Int).contains k = hV k := by
  unfold hV pt bt
  (repeat' split) <;> (simp_all; try omega)
theorem hP_eq (k : Int) : (k == 1) = hP k := by
  unfold hP pt bt
  (repeat' split) <;> (simp_all; try omega)
theorem hasD_calls (k : Int) (w : World) : Calls Try.prog 21 #[.int .i64 k] w fun e w' => e = .returned (.bool (hD k)) ∧ Below w.heap.size w w' := by
  have IC : Hid (Calls Try.prog 47 #[.int .i64 k, .slice (some ⟨w.heap.size, 0, none⟩) 4 4] (w.alloc (.cells #[.int .i64 1, .int .i64 2, .int .i64 3, .int .i64 9] 3)) fun e w' => e = .returned (.bool (hD k)) ∧ w' = (w.alloc (.cells #[.int .i64 1, .int .i64 2, .int .i64 3, .int .i64 9] 3))) := by
    have := in_calls k w.heap.size 4 [1, 2, 3, 9] rfl (by decide) (w.alloc (.cells #[.int .i64 1, .int .i64 2, .int .i64 3, .int .i64 9] 3)) (fun i z hz => by
      have : (#[.int .i64 1, .int .i64 2, .int .i64 3, .int .i64 9] : Array Value)[i]? = some (.int .i64 z) := by
        match i, hz with
        | 0, hz => cases hz; rfl
        | 1, hz => cases hz; rfl
        | 2, hz => cases hz; rfl
        | 3, hz => cases hz; rfl
        | i + 4, hz => simp at hz
      simpa using this)
    rw [hD_eq] at this
    exact this
  go_enter Try.func21, Try.ntmps21
  go_wp2_with fail
  refine IC.out.mono ?_
  rintro e w1 ⟨rfl, e1⟩
  subst e1
  go_wp2_with fail
  go_ret
  exact ⟨rfl, bel1 _ _⟩
theorem hasM_calls (k : Int) (w : World) : Calls Try.prog 43 #[.int .i64 k] w fun e w' => e = .returned (.bool (hM k)) ∧ Below w.heap.size w w' := by
  have IC : Hid (Calls Try.prog 47 #[.int .i64 k, .slice (some ⟨w.heap.size, 0, none⟩) 7 7] (w.alloc (.cells #[.int .i64 1, .int .i64 7, .int .i64 9, .int .i64 10, .int .i64 11, .int .i64 12, .int .i64 13] 3)) fun e w' => e = .returned (.bool (hM k)) ∧ w' = (w.alloc (.cells #[.int .i64 1, .int .i64 7, .int .i64 9, .int .i64 10, .int .i64 11, .int .i64 12, .int .i64 13] 3))) := by
    have := in_calls k w.heap.size 7 [1, 7, 9, 10, 11, 12, 13] rfl (by decide) (w.alloc (.cells #[.int .i64 1, .int .i64 7, .int .i64 9, .int .i64 10, .int .i64 11, .int .i64 12, .int .i64 13] 3)) (fun i z hz => by
      have : (#[.int .i64 1, .int .i64 7, .int .i64 9, .int .i64 10, .int .i64 11, .int .i64 12, .int .i64 13] : Array Value)[i]? = some (.int .i64 z) := by
        match i, hz with
        | 0, hz => cases hz; rfl
        | 1, hz => cases hz; rfl
        | 2, hz => cases hz; rfl
        | 3, hz => cases hz; rfl
        | 4, hz => cases hz; rfl
        | 5, hz => cases hz; rfl
        | 6, hz => cases hz; rfl
        | i + 7, hz => simp at hz
      simpa using this)
    rw [hM_eq] at this
    exact this
  go_enter Try.func43, Try.ntmps43
  go_wp2_with fail
  refine IC.out.mono ?_
  rintro e w1 ⟨rfl, e1⟩
  subst e1
  go_wp2_with fail
  go_ret
  exact ⟨rfl, bel1 _ _⟩
theorem hasT_calls (k : Int) (w : World) : Calls Try.prog 45 #[.int .i64 k] w fun e w' => e = .returned (.bool (hT k)) ∧ Below w.heap.size w w' := by
  have IC : Hid (Calls Try.prog 47 #[.int .i64 k, .slice (some ⟨w.heap.size, 0, none⟩) 3 3] (w.alloc (.cells #[.int .i64 5, .int .i64 16, .int .i64 18] 3)) fun e w' => e = .returned (.bool (hT k)) ∧ w' = (w.alloc (.cells #[.int .i64 5, .int .i64 16, .int .i64 18] 3))) := by
    have := in_calls k w.heap.size 3 [5, 16, 18] rfl (by decide) (w.alloc (.cells #[.int .i64 5, .int .i64 16, .int .i64 18] 3)) (fun i z hz => by
      have : (#[.int .i64 5, .int .i64 16, .int .i64 18] : Array Value)[i]? = some (.int .i64 z) := by
        match i, hz with
        | 0, hz => cases hz; rfl
        | 1, hz => cases hz; rfl
        | 2, hz => cases hz; rfl
        | i + 3, hz => simp at hz
      simpa using this)
    rw [hT_eq] at this
    exact this
  go_enter Try.func45, Try.ntmps45
  go_wp2_with fail
  refine IC.out.mono ?_
  rintro e w1 ⟨rfl, e1⟩
  subst e1
  go_wp2_with fail
  go_ret
  exact ⟨rfl, bel1 _ _⟩
theorem hasV_calls (k : Int) (w : World) : Calls Try.prog 22 #[.int .i64 k] w fun e w' => e = .returned (.bool (hV k)) ∧ Below w.heap.size w w' := by
  have IC : Hid (Calls Try.prog 47 #[.int .i64 k, .slice (some ⟨w.heap.size, 0, none⟩) 6 6] (w.alloc (.cells #[.int .i64 1, .int .i64 7, .int .i64 12, .int .i64 13, .int .i64 14, .int .i64 15] 3)) fun e w' => e = .returned (.bool (hV k)) ∧ w' = (w.alloc (.cells #[.int .i64 1, .int .i64 7, .int .i64 12, .int .i64 13, .int .i64 14, .int .i64 15] 3))) := by
    have := in_calls k w.heap.size 6 [1, 7, 12, 13, 14, 15] rfl (by decide) (w.alloc (.cells #[.int .i64 1, .int .i64 7, .int .i64 12, .int .i64 13, .int .i64 14, .int .i64 15] 3)) (fun i z hz => by
      have : (#[.int .i64 1, .int .i64 7, .int .i64 12, .int .i64 13, .int .i64 14, .int .i64 15] : Array Value)[i]? = some (.int .i64 z) := by
        match i, hz with
        | 0, hz => cases hz; rfl
        | 1, hz => cases hz; rfl
        | 2, hz => cases hz; rfl
        | 3, hz => cases hz; rfl
        | 4, hz => cases hz; rfl
        | 5, hz => cases hz; rfl
        | i + 6, hz => simp at hz
      simpa using this)
    rw [hV_eq] at this
    exact this
  go_enter Try.func22, Try.ntmps22
  go_wp2_with fail
  refine IC.out.mono ?_
  rintro e w1 ⟨rfl, e1⟩
  subst e1
  go_wp2_with fail
  go_ret
  exact ⟨rfl, bel1 _ _⟩
theorem hasP_calls (k : Int) (w : World) : Calls Try.prog 25 #[.int .i64 k] w fun e w' => e = .returned (.bool (hP k)) ∧ w' = w := by
  rw [← hP_eq]
  go_enter Try.func25, Try.ntmps25
  go_wp2
  go_ret
  exact ⟨rfl, rfl⟩
theorem rtext_calls (s : ByteArray) (w : World) : Calls Try.prog 46 #[.string s] w fun e w' => e = .returned (.bool (decide (s.size ≤ 200))) ∧ w' = w := by
  by_cases h : s.size ≤ 200
  · have h1 : (s.size : Int) ≤ 200 := by omega
    go_enter Try.func46, Try.ntmps46
    go_wp2
    go_ret
    simp [h]
  · have h1 : ¬ (s.size : Int) ≤ 200 := by omega
    go_enter Try.func46, Try.ntmps46
    go_wp2
    go_ret
    simp
set_option maxRecDepth 100000 in
theorem num_ok (k t n d : Int) (s : ByteArray) (vk vx vb : Int) (vs : ByteArray) (la : Option Addr) (ll lc : Nat) (f : Int) (c : Nat) (m : Int) (w : World) : Calls Try.prog 19 #[(.agg #[.int .i64 k, .int .i64 t, .int .i64 n, .int .i64 d, .string s, .int .i64 vk, .int .i64 vx, .int .u64 vb, .string vs, .slice la ll lc, .int .i64 f, .int .u64 (c : Int), .int .i64 m])] w fun e w' => e = .returned (.bool (wi n (nl k) (nm k))) ∧ Below w.heap.size w w' := by
  unfold wi
  by_cases h2 : k = 2
  · subst h2
    rw [show nl 2 = 1 from rfl, show nm 2 = 2147483648 from rfl]
    by_cases h1 : 1 ≤ n
    · by_cases h3 : n ≤ 2147483648
      · go_enter Try.func19, Try.ntmps19
        go_wp2_with fail
        go_ret
        exact ⟨by simp [h1, h3], bel1 _ _⟩
      · go_enter Try.func19, Try.ntmps19
        go_wp2_with fail
        go_ret
        exact ⟨by simp [h3], bel1 _ _⟩
    · go_enter Try.func19, Try.ntmps19
      go_wp2_with fail
      go_ret
      exact ⟨by simp; omega, bel1 _ _⟩
  · by_cases h5 : k = 5
    · subst h5
      rw [show nl 5 = 0 from rfl, show nm 5 = 10 from rfl]
      by_cases h1 : 0 ≤ n
      · by_cases h3 : n ≤ 10
        · go_enter Try.func19, Try.ntmps19
          go_wp2_with fail
          go_ret
          exact ⟨by simp [h1, h3], bel1 _ _⟩
        · go_enter Try.func19, Try.ntmps19
          go_wp2_with fail
          go_ret
          exact ⟨by simp [h3], bel1 _ _⟩
      · go_enter Try.func19, Try.ntmps19
        go_wp2_with fail
        go_ret
        exact ⟨by simp; omega, bel1 _ _⟩
    · have e1 : nl k = 0 := by unfold nl; simp [h2]
      have e2 : nm k = 0 := by unfold nm; simp [h2, h5]
      have d2 : (k == 2) = false := by simpa using h2
      have d5 : (k == 5) = false := by simpa using h5
      rw [e1, e2]
      clear e1 e2 h2 h5
      go_enter Try.func19, Try.ntmps19
      go_wp2_with fail
      go_ret
      refine ⟨?_, bel1 _ _⟩
      by_cases hn : n = 0
      · subst hn; rfl
      · have : ¬ (0 ≤ n ∧ n ≤ 0) := by omega
        have e : (decide (0 ≤ n) && decide (n ≤ 0)) = false := by
          rw [← Bool.decide_and]; exact decide_eq_false this
        rw [e]
        simp [hn]
set_option maxHeartbeats 1000000 in
set_option maxRecDepth 100000 in
theorem name_ok (k t n d : Int) (s : ByteArray) (vk vx vb : Int) (vs : ByteArray) (la : Option Addr) (ll lc : Nat) (f : Int) (c : Nat) (m : Int) (w : World) : Calls Try.prog 20 #[(.agg #[.int .i64 k, .int .i64 t, .int .i64 n, .int .i64 d, .string s, .int .i64 vk, .int .i64 vx, .int .u64 vb, .string vs, .slice la ll lc, .int .i64 f, .int .u64 (c : Int), .int .i64 m])] w fun e w' => e = .returned (.bool (nmf k s)) ∧ Below w.heap.size w w' := by
  have HX0 : Hid (At13 (w.alloc (.cells #[.int .i64 k, .int .i64 t, .int .i64 n, .int .i64 d, .string s, .int .i64 vk, .int .i64 vx, .int .u64 vb, .string vs, .slice la ll lc, .int .i64 f, .int .u64 (c : Int), .int .i64 m] 29)) w.heap.size (.int .i64 k) (.int .i64 t) (.int .i64 n) (.int .i64 d) (.string s) (.int .i64 vk) (.int .i64 vx) (.int .u64 vb) (.string vs) (.slice la ll lc) (.int .i64 f) (.int .u64 (c : Int)) (.int .i64 m)) := At13.box w (.int .i64 k) (.int .i64 t) (.int .i64 n) (.int .i64 d) (.string s) (.int .i64 vk) (.int .i64 vx) (.int .u64 vb) (.string vs) (.slice la ll lc) (.int .i64 f) (.int .u64 (c : Int)) (.int .i64 m)
  have MC : Hid (∀ W, _) := fun W => hasM_calls k W
  have TC : Hid (∀ W, _) := fun W => hasT_calls k W
  unfold nmf
  cases hm : hM k with
  | true =>
    rw [hm] at MC
    simp only [if_true]
    clear hm
    go_enter Try.func20, Try.ntmps20
    go_wp2_with fail
    refine (MC.out _).mono ?_
    rintro e w1 ⟨rfl, hb⟩
    have HB1 : Hid (Below w.heap.size w w1) := bel2 (bel1 _ _) hb
    obtain ⟨x0, x1, x2, x3, x4, x5, x6, x7, x8, x9, x10, x11, x12⟩ := HX0.out.below hb
    clear hb
    go_wp2_with fail
    refine (rname_calls _ _).mono ?_
    rintro e w2 ⟨rfl, e1⟩
    subst e1
    go_wp2_with fail
    go_ret
    exact ⟨rfl, HB1.out⟩
  | false =>
    rw [hm] at MC
    simp only [Bool.false_eq_true, if_false]
    clear hm
    cases ht : hT k with
    | true =>
      rw [ht] at TC
      simp only [if_true]
      clear ht
      go_enter Try.func20, Try.ntmps20
      go_wp2_with fail
      refine (MC.out _).mono ?_
      rintro e w1 ⟨rfl, hb⟩
      have HB1 : Hid (Below w.heap.size w w1) := bel2 (bel1 _ _) hb
      have HX1 : Hid (At13 w1 w.heap.size (.int .i64 k) (.int .i64 t) (.int .i64 n) (.int .i64 d) (.string s) (.int .i64 vk) (.int .i64 vx) (.int .u64 vb) (.string vs) (.slice la ll lc) (.int .i64 f) (.int .u64 (c : Int)) (.int .i64 m)) := HX0.out.below hb
      obtain ⟨x0, x1, x2, x3, x4, x5, x6, x7, x8, x9, x10, x11, x12⟩ := HX1.out
      clear hb
      go_wp2_with fail
      refine (TC.out _).mono ?_
      rintro e w2 ⟨rfl, hb⟩
      have HB2 : Hid (Below w.heap.size w w2) := bel2 HB1.out hb
      clear x0 x1 x2 x3 x4 x5 x6 x7 x8 x9 x10 x11 x12
      obtain ⟨x0, x1, x2, x3, x4, x5, x6, x7, x8, x9, x10, x11, x12⟩ := HX1.out.below hb
      clear hb
      go_wp2_with fail
      refine (rtext_calls _ _).mono ?_
      rintro e w3 ⟨rfl, e1⟩
      subst e1
      go_wp2_with fail
      go_ret
      exact ⟨rfl, HB2.out⟩
    | false =>
      rw [ht] at TC
      simp only [Bool.false_eq_true, if_false]
      clear ht
      go_enter Try.func20, Try.ntmps20
      go_wp2_with fail
      refine (MC.out _).mono ?_
      rintro e w1 ⟨rfl, hb⟩
      have HB1 : Hid (Below w.heap.size w w1) := bel2 (bel1 _ _) hb
      have HX1 : Hid (At13 w1 w.heap.size (.int .i64 k) (.int .i64 t) (.int .i64 n) (.int .i64 d) (.string s) (.int .i64 vk) (.int .i64 vx) (.int .u64 vb) (.string vs) (.slice la ll lc) (.int .i64 f) (.int .u64 (c : Int)) (.int .i64 m)) := HX0.out.below hb
      obtain ⟨x0, x1, x2, x3, x4, x5, x6, x7, x8, x9, x10, x11, x12⟩ := HX1.out
      clear hb
      go_wp2_with fail
      refine (TC.out _).mono ?_
      rintro e w2 ⟨rfl, hb⟩
      have HB2 : Hid (Below w.heap.size w w2) := bel2 HB1.out hb
      clear x0 x1 x2 x3 x4 x5 x6 x7 x8 x9 x10 x11 x12
      obtain ⟨x0, x1, x2, x3, x4, x5, x6, x7, x8, x9, x10, x11, x12⟩ := HX1.out.below hb
      clear hb
      go_wp2_with fail
      go_ret
      exact ⟨rfl, HB2.out⟩
end Go.Proofs.Ytelpdmdknmkhmaa
namespace Go.Proofs.Ytelpdmdknmkhmaa
open Go.ChangeShapes Go.WideShapes Go.ChangeAt Go.RowKit
/-- Between two of Check's statements: what was found, and where the event lies. -/
def Jn (P : Prop) (w : World) (c0 c1 c2 c3 c4 c5 c6 c7 c8 c9 c10 c11 c12 : Value) (x : Value) (wx : World) : Prop := (∃ b : Bool, x = .bool b ∧ (b = true ↔ P)) ∧ Below w.heap.size w wx ∧ At13 wx w.heap.size c0 c1 c2 c3 c4 c5 c6 c7 c8 c9 c10 c11 c12
theorem wi_iff (n a b : Int) : wi n a b = true ↔ (a ≤ n ∧ n ≤ b) := by simp [wi]
set_option maxHeartbeats 4000000 in
set_option maxRecDepth 100000 in
theorem evrefcheck_calls (nn : Nat) (tv : Tv) (k t n d : Int) (s : ByteArray) (vk vx vb : Int) (vs : ByteArray) (la : Option Addr) (ll lc : Nat) (f : Int) (c : Nat) (m : Int) (w : World) (h : Is w (nn + 1) (.agg #[.int .i64 vk, .int .i64 vx, .int .u64 vb, .string vs, .slice la ll lc]) tv) :
    Calls Try.prog 6 #[(.agg #[.int .i64 k, .int .i64 t, .int .i64 n, .int .i64 d, .string s, .int .i64 vk, .int .i64 vx, .int .u64 vb, .string vs, .slice la ll lc, .int .i64 f, .int .u64 (c : Int), .int .i64 m])] w (CkP (MayE (nn + 1) ⟨k, t, n, d, s, tv, f, c, m⟩) w) := by
  have HX0 : Hid (At13 (w.alloc (.cells #[.int .i64 k, .int .i64 t, .int .i64 n, .int .i64 d, .string s, .int .i64 vk, .int .i64 vx, .int .u64 vb, .string vs, .slice la ll lc, .int .i64 f, .int .u64 (c : Int), .int .i64 m] 29)) w.heap.size (.int .i64 k) (.int .i64 t) (.int .i64 n) (.int .i64 d) (.string s) (.int .i64 vk) (.int .i64 vx) (.int .u64 vb) (.string vs) (.slice la ll lc) (.int .i64 f) (.int .u64 (c : Int)) (.int .i64 m)) := At13.box w (.int .i64 k) (.int .i64 t) (.int .i64 n) (.int .i64 d) (.string s) (.int .i64 vk) (.int .i64 vx) (.int .u64 vb) (.string vs) (.slice la ll lc) (.int .i64 f) (.int .u64 (c : Int)) (.int .i64 m)
  have NC : Hid (∀ W, _) := fun W => num_ok k t n d s vk vx vb vs la ll lc f c m W
  have MC : Hid (∀ W, _) := fun W => name_ok k t n d s vk vx vb vs la ll lc f c m W
  have DC : Hid (∀ W, _) := fun W => hasD_calls k W
  have VC : Hid (∀ W, _) := fun W => hasV_calls k W
  have PC : Hid (∀ W, _) := fun W => hasP_calls k W
  have RC : Hid (∀ W, Below w.heap.size w W → _) := fun W hB => rcheck_calls (nn + 1) (.agg #[.int .i64 vk, .int .i64 vx, .int .u64 vb, .string vs, .slice la ll lc]) tv W (h.below hB)
  have SC : Hid (∀ W, Below w.heap.size w W → _) := fun W hB => rsame_calls (nn + 1) (.agg #[.int .i64 vk, .int .i64 vx, .int .u64 vb, .string vs, .slice la ll lc]) tv (.agg #[.int .i64 0, .int .i64 0, .int .u64 0, .string ⟨#[]⟩, .slice none 0 0]) zE W (h.below hB) (zE_is W nn)
  have LC : Hid (∀ W, _) := fun W => refCheck_calls f c m W
  have HM : Hid (MayE (nn + 1) ⟨k, t, n, d, s, tv, f, c, m⟩ ↔ ((((((1 ≤ k ∧ k ≤ 19) ∧ (0 ≤ t ∧ t ≤ 1099511627776) ∧ wi n (nl k) (nm k) = true ∧ nmf k s = true)) ∧ (if hD k then (0 ≤ d ∧ d ≤ 2199023255552) else d = 0)) ∧ ((hV k = true ∧ May (nn + 1) tv) ∨ (hV k = false ∧ tv = zE))) ∧ (if hP k then may f c m = true else (f = 0 ∧ c = 0 ∧ m = 0)))) := by
    unfold MayE nf VF pf
    simp only [Bool.and_eq_true, wi_iff]
    cases hD k <;> cases hP k <;> simp <;> constructor <;> simp_all <;> omega
  have HF : Hid (∀ r w', (MayE (nn + 1) ⟨k, t, n, d, s, tv, f, c, m⟩ → r = 0) → (¬ MayE (nn + 1) ⟨k, t, n, d, s, tv, f, c, m⟩ → r = 1) → Below w.heap.size w w' → CkP (MayE (nn + 1) ⟨k, t, n, d, s, tv, f, c, m⟩) w (.returned (.int .i64 r)) w') := fun r w' h1 h2 h3 => ⟨r, rfl, h1, h2, h3⟩
  generalize CkP (MayE (nn + 1) ⟨k, t, n, d, s, tv, f, c, m⟩) w = Q at HF ⊢
  generalize MayE (nn + 1) ⟨k, t, n, d, s, tv, f, c, m⟩ = ME at HF HM
  generalize May (nn + 1) tv = MY at HM RC
  generalize hD k = qD at HM DC
  generalize hV k = qV at HM VC
  generalize hP k = qP at HM PC
  generalize may f c m = mp at HM LC
  generalize wi n (nl k) (nm k) = bn at HM NC
  generalize nmf k s = bm at HM MC
  clear h
  go_enter Try.func6, Try.ntmps6
  go_upto_region 1 with fail
  go_cut [3] (fun x wx => Jn (((1 ≤ k ∧ k ≤ 19) ∧ (0 ≤ t ∧ t ≤ 1099511627776) ∧ bn = true ∧ bm = true)) w (.int .i64 k) (.int .i64 t) (.int .i64 n) (.int .i64 d) (.string s) (.int .i64 vk) (.int .i64 vx) (.int .u64 vb) (.string vs) (.slice la ll lc) (.int .i64 f) (.int .u64 (c : Int)) (.int .i64 m) x wx)
  case first =>
    have HB : Hid (Below w.heap.size w (w.alloc (.cells #[.int .i64 k, .int .i64 t, .int .i64 n, .int .i64 d, .string s, .int .i64 vk, .int .i64 vx, .int .u64 vb, .string vs, .slice la ll lc, .int .i64 f, .int .u64 (c : Int), .int .i64 m] 29))) := bel1 _ _
    have HX := HX0
    obtain ⟨x0, x1, x2, x3, x4, x5, x6, x7, x8, x9, x10, x11, x12⟩ := HX.out
    by_cases k1 : 1 ≤ k
    rotate_left
    · go_wp2_with fail
      go_meet
      exact ⟨⟨false, rfl, ⟨nofun, fun h => by have := h.1.1; omega⟩⟩, HB.out, HX.out⟩
    by_cases k2 : k ≤ 19
    rotate_left
    · go_wp2_with fail
      go_meet
      exact ⟨⟨false, rfl, ⟨nofun, fun h => by have := h.1.2; omega⟩⟩, HB.out, HX.out⟩
    by_cases t1 : 0 ≤ t
    rotate_left
    · go_wp2_with fail
      go_meet
      exact ⟨⟨false, rfl, ⟨nofun, fun h => by have := h.2.1.1; omega⟩⟩, HB.out, HX.out⟩
    by_cases t2 : t ≤ 1099511627776
    rotate_left
    · go_wp2_with fail
      go_meet
      exact ⟨⟨false, rfl, ⟨nofun, fun h => by have := h.2.1.2; omega⟩⟩, HB.out, HX.out⟩
    cases bn with
    | false =>
      go_wp2_with fail
      refine (NC.out _).mono ?_
      rintro e w1 ⟨rfl, hb⟩
      clear x0 x1 x2 x3 x4 x5 x6 x7 x8 x9 x10 x11 x12
      replace HB : Hid (Below w.heap.size w w1) := bel2 HB.out hb
      replace HX : Hid (At13 w1 w.heap.size (.int .i64 k) (.int .i64 t) (.int .i64 n) (.int .i64 d) (.string s) (.int .i64 vk) (.int .i64 vx) (.int .u64 vb) (.string vs) (.slice la ll lc) (.int .i64 f) (.int .u64 (c : Int)) (.int .i64 m)) := HX.out.below hb
      clear hb
      obtain ⟨x0, x1, x2, x3, x4, x5, x6, x7, x8, x9, x10, x11, x12⟩ := HX.out
      go_wp2_with fail
      go_meet
      exact ⟨⟨false, rfl, by simp⟩, HB.out, HX.out⟩
    | true =>
      go_wp2_with fail
      refine (NC.out _).mono ?_
      rintro e w1 ⟨rfl, hb⟩
      clear x0 x1 x2 x3 x4 x5 x6 x7 x8 x9 x10 x11 x12
      replace HB : Hid (Below w.heap.size w w1) := bel2 HB.out hb
      replace HX : Hid (At13 w1 w.heap.size (.int .i64 k) (.int .i64 t) (.int .i64 n) (.int .i64 d) (.string s) (.int .i64 vk) (.int .i64 vx) (.int .u64 vb) (.string vs) (.slice la ll lc) (.int .i64 f) (.int .u64 (c : Int)) (.int .i64 m)) := HX.out.below hb
      clear hb
      obtain ⟨x0, x1, x2, x3, x4, x5, x6, x7, x8, x9, x10, x11, x12⟩ := HX.out
      go_wp2_with fail
      refine (MC.out _).mono ?_
      rintro e w1 ⟨rfl, hb⟩
      clear x0 x1 x2 x3 x4 x5 x6 x7 x8 x9 x10 x11 x12
      replace HB : Hid (Below w.heap.size w w1) := bel2 HB.out hb
      replace HX : Hid (At13 w1 w.heap.size (.int .i64 k) (.int .i64 t) (.int .i64 n) (.int .i64 d) (.string s) (.int .i64 vk) (.int .i64 vx) (.int .u64 vb) (.string vs) (.slice la ll lc) (.int .i64 f) (.int .u64 (c : Int)) (.int .i64 m)) := HX.out.below hb
      clear hb
      obtain ⟨x0, x1, x2, x3, x4, x5, x6, x7, x8, x9, x10, x11, x12⟩ := HX.out
      go_wp2_with fail
      go_meet
      exact ⟨⟨bm, rfl, by simp [k1, k2, t1, t2]⟩, HB.out, HX.out⟩
  case rest =>
  obtain ⟨⟨b, rfl, hbP⟩, HB, HX⟩ := hcut
  replace HB : Hid (Below w.heap.size w wc) := HB
  replace HX : Hid (At13 wc w.heap.size (.int .i64 k) (.int .i64 t) (.int .i64 n) (.int .i64 d) (.string s) (.int .i64 vk) (.int .i64 vx) (.int .u64 vb) (.string vs) (.slice la ll lc) (.int .i64 f) (.int .u64 (c : Int)) (.int .i64 m)) := HX
  generalize hP1 : (((1 ≤ k ∧ k ≤ 19) ∧ (0 ≤ t ∧ t ≤ 1099511627776) ∧ bn = true ∧ bm = true)) = P1 at hbP HM
  have HP : Hid (b = true ↔ P1) := hbP
  clear hbP hP1
  obtain ⟨x0, x1, x2, x3, x4, x5, x6, x7, x8, x9, x10, x11, x12⟩ := HX.out
  go_wp2_with fail
  refine (DC.out _).mono ?_
  rintro e w1 ⟨rfl, hb⟩
  clear x0 x1 x2 x3 x4 x5 x6 x7 x8 x9 x10 x11 x12
  replace HB : Hid (Below w.heap.size w w1) := bel2 HB.out hb
  replace HX : Hid (At13 w1 w.heap.size (.int .i64 k) (.int .i64 t) (.int .i64 n) (.int .i64 d) (.string s) (.int .i64 vk) (.int .i64 vx) (.int .u64 vb) (.string vs) (.slice la ll lc) (.int .i64 f) (.int .u64 (c : Int)) (.int .i64 m)) := HX.out.below hb
  clear hb
  go_upto_if 32 with fail
  go_cut [3] (fun x wx => Jn (P1 ∧ (if qD then (0 ≤ d ∧ d ≤ 2199023255552) else d = 0)) w (.int .i64 k) (.int .i64 t) (.int .i64 n) (.int .i64 d) (.string s) (.int .i64 vk) (.int .i64 vx) (.int .u64 vb) (.string vs) (.slice la ll lc) (.int .i64 f) (.int .u64 (c : Int)) (.int .i64 m) x wx)
  case first =>
    obtain ⟨x0, x1, x2, x3, x4, x5, x6, x7, x8, x9, x10, x11, x12⟩ := HX.out
    cases qD with
    | true =>
      cases b with
      | false =>
        go_wp2_with fail
        go_meet
        exact ⟨⟨false, rfl, by have := HP.out; simp at this; simp [this]⟩, HB.out, HX.out⟩
      | true =>
        have hP1 := HP.out.1 rfl
        clear HP
        by_cases d1 : 0 ≤ d
        rotate_left
        · go_wp2_with fail
          go_meet
          exact ⟨⟨false, rfl, ⟨nofun, fun h => by have := h.2; simp only [if_true] at this; have := this.1; omega⟩⟩, HB.out, HX.out⟩
        by_cases d2 : d ≤ 2199023255552
        rotate_left
        · go_wp2_with fail
          go_meet
          exact ⟨⟨false, rfl, ⟨nofun, fun h => by have := h.2; simp only [if_true] at this; have := this.2; omega⟩⟩, HB.out, HX.out⟩
        go_wp2_with fail
        go_meet
        exact ⟨⟨true, rfl, by simp [d1, d2, hP1]⟩, HB.out, HX.out⟩
    | false =>
      cases b with
      | false =>
        go_wp2_with fail
        go_meet
        exact ⟨⟨false, rfl, by have := HP.out; simp at this; simp [this]⟩, HB.out, HX.out⟩
      | true =>
        have hP1 := HP.out.1 rfl
        clear HP
        go_wp2_with fail
        go_meet
        exact ⟨⟨_, rfl, by simp [hP1]⟩, HB.out, HX.out⟩
  case rest =>
  obtain ⟨⟨b, rfl, hbP⟩, HB, HX⟩ := hcut
  replace HB : Hid (Below w.heap.size w wc) := HB
  replace HX : Hid (At13 wc w.heap.size (.int .i64 k) (.int .i64 t) (.int .i64 n) (.int .i64 d) (.string s) (.int .i64 vk) (.int .i64 vx) (.int .u64 vb) (.string vs) (.slice la ll lc) (.int .i64 f) (.int .u64 (c : Int)) (.int .i64 m)) := HX
  generalize hP1 : (P1 ∧ (if qD then (0 ≤ d ∧ d ≤ 2199023255552) else d = 0)) = P2 at hbP HM
  have HP : Hid (b = true ↔ P2) := hbP
  clear hbP hP1
  obtain ⟨x0, x1, x2, x3, x4, x5, x6, x7, x8, x9, x10, x11, x12⟩ := HX.out
  go_wp2_with fail
  refine (VC.out _).mono ?_
  rintro e w1 ⟨rfl, hb⟩
  clear x0 x1 x2 x3 x4 x5 x6 x7 x8 x9 x10 x11 x12
  replace HB : Hid (Below w.heap.size w w1) := bel2 HB.out hb
  replace HX : Hid (At13 w1 w.heap.size (.int .i64 k) (.int .i64 t) (.int .i64 n) (.int .i64 d) (.string s) (.int .i64 vk) (.int .i64 vx) (.int .u64 vb) (.string vs) (.slice la ll lc) (.int .i64 f) (.int .u64 (c : Int)) (.int .i64 m)) := HX.out.below hb
  clear hb
  go_upto_if 52 with fail
  go_cut [3] (fun x wx => Jn (P2 ∧ ((qV = true ∧ MY) ∨ (qV = false ∧ tv = zE))) w (.int .i64 k) (.int .i64 t) (.int .i64 n) (.int .i64 d) (.string s) (.int .i64 vk) (.int .i64 vx) (.int .u64 vb) (.string vs) (.slice la ll lc) (.int .i64 f) (.int .u64 (c : Int)) (.int .i64 m) x wx)
  case first =>
    obtain ⟨x0, x1, x2, x3, x4, x5, x6, x7, x8, x9, x10, x11, x12⟩ := HX.out
    cases qV with
    | true =>
      cases b with
      | false =>
        go_wp2_with fail
        go_meet
        exact ⟨⟨false, rfl, by have := HP.out; simp at this; simp [this]⟩, HB.out, HX.out⟩
      | true =>
        have hP1 := HP.out.1 rfl
        clear HP
        go_wp2_with fail
        refine Calls.mono (RC.out _ ?_) ?_
        · exact HB.out
        rintro e w1 ⟨⟨r, rfl, r1, r2⟩, hb⟩
        clear x0 x1 x2 x3 x4 x5 x6 x7 x8 x9 x10 x11 x12
        replace HB : Hid (Below w.heap.size w w1) := bel2 HB.out hb
        replace HX : Hid (At13 w1 w.heap.size (.int .i64 k) (.int .i64 t) (.int .i64 n) (.int .i64 d) (.string s) (.int .i64 vk) (.int .i64 vx) (.int .u64 vb) (.string vs) (.slice la ll lc) (.int .i64 f) (.int .u64 (c : Int)) (.int .i64 m)) := HX.out.below hb
        clear hb
        have HR : Hid ((MY → r = 0) ∧ (¬ MY → r = 1)) := ⟨r1, r2⟩
        clear r1 r2
        go_wp2_with fail
        go_meet
        refine ⟨⟨_, rfl, ?_⟩, HB.out, HX.out⟩
        by_cases hm : MY
        · have := HR.out.1 hm; simp [hm, this, hP1]
        · have := HR.out.2 hm; simp [hm, this]
    | false =>
      cases b with
      | false =>
        go_wp2_with fail
        go_meet
        exact ⟨⟨false, rfl, by have := HP.out; simp at this; simp [this]⟩, HB.out, HX.out⟩
      | true =>
        have hP1 := HP.out.1 rfl
        clear HP
        go_wp2_with fail
        refine Calls.mono (SC.out _ ?_) ?_
        · exact HB.out
        rintro e w1 ⟨⟨r, rfl, r1⟩, hb⟩
        clear x0 x1 x2 x3 x4 x5 x6 x7 x8 x9 x10 x11 x12
        replace HB : Hid (Below w.heap.size w w1) := bel2 HB.out hb
        replace HX : Hid (At13 w1 w.heap.size (.int .i64 k) (.int .i64 t) (.int .i64 n) (.int .i64 d) (.string s) (.int .i64 vk) (.int .i64 vx) (.int .u64 vb) (.string vs) (.slice la ll lc) (.int .i64 f) (.int .u64 (c : Int)) (.int .i64 m)) := HX.out.below hb
        clear hb
        have HR : Hid (r = true ↔ tv = zE) := r1
        clear r1
        go_wp2_with fail
        go_meet
        refine ⟨⟨_, rfl, ?_⟩, HB.out, HX.out⟩
        rw [HR.out]
        simp [hP1]
  case rest =>
  obtain ⟨⟨b, rfl, hbP⟩, HB, HX⟩ := hcut
  replace HB : Hid (Below w.heap.size w wc) := HB
  replace HX : Hid (At13 wc w.heap.size (.int .i64 k) (.int .i64 t) (.int .i64 n) (.int .i64 d) (.string s) (.int .i64 vk) (.int .i64 vx) (.int .u64 vb) (.string vs) (.slice la ll lc) (.int .i64 f) (.int .u64 (c : Int)) (.int .i64 m)) := HX
  generalize hP1 : (P2 ∧ ((qV = true ∧ MY) ∨ (qV = false ∧ tv = zE))) = P3 at hbP HM
  have HP : Hid (b = true ↔ P3) := hbP
  clear hbP hP1
  obtain ⟨x0, x1, x2, x3, x4, x5, x6, x7, x8, x9, x10, x11, x12⟩ := HX.out
  go_wp2_with fail
  refine (PC.out _).mono ?_
  rintro e w1 ⟨rfl, e1⟩
  have e2 := e1.symm
  subst e2
  clear e1
  cases qP with
  | true =>
    cases b with
    | false =>
      have hP1 : ¬ P3 := fun h => by have := HP.out.2 h; cases this
      clear HP
      go_wp2_with fail
      refine HF.out 1 _ (fun hm => ?_) (fun _ => rfl) HB.out
      exact absurd (HM.out.1 hm).1 hP1
    | true =>
      have hP1 := HP.out.1 rfl
      clear HP
      go_wp2_with fail
      refine (LC.out _).mono ?_
      rintro e w1 ⟨rfl, hb⟩
      replace HB : Hid (Below w.heap.size w w1) := bel2 HB.out hb
      clear hb x0 x1 x2 x3 x4 x5 x6 x7 x8 x9 x10 x11 x12
      cases mp with
      | true =>
        simp only [ce, if_true]
        go_wp2_with fail
        exact HF.out 0 _ (fun _ => rfl) (fun hn => absurd (HM.out.2 ⟨hP1, by simp⟩) hn) HB.out
      | false =>
        simp only [ce, Bool.false_eq_true, if_false]
        go_wp2_with fail
        exact HF.out 1 _ (fun hm => absurd (HM.out.1 hm).2 (by simp)) (fun _ => rfl) HB.out
  | false =>
    cases b with
    | false =>
      have hP1 : ¬ P3 := fun h => by have := HP.out.2 h; cases this
      clear HP
      go_wp2_with fail
      refine HF.out 1 _ (fun hm => ?_) (fun _ => rfl) HB.out
      exact absurd (HM.out.1 hm).1 hP1
    | true =>
      have hP1 := HP.out.1 rfl
      clear HP
      have HM2 : Hid (ME ↔ (f = 0 ∧ c = 0 ∧ m = 0)) := show ME ↔ (f = 0 ∧ c = 0 ∧ m = 0) from by
        rw [HM.out]
        simp [hP1]
      clear HM hP1
      by_cases q1 : f = 0
      · subst q1
        by_cases q2 : c = 0
        · subst q2
          by_cases q3 : m = 0
          · subst q3
            go_wp2_with fail
            exact HF.out 0 _ (fun _ => rfl) (fun hn => absurd (HM2.out.2 (by simp)) hn) HB.out
          · have HQ : Hid (¬ m = 0) := q3
            have q4 : (m == 0) = false := by simpa using q3
            clear q3
            go_wp2_with fail
            exact HF.out 1 _ (fun hm => absurd (HM2.out.1 hm).2.2 HQ.out) (fun _ => rfl) HB.out
        · have HQ : Hid (¬ c = 0) := q2
          have q4 : ((c : Int) == 0) = false := by simpa using q2
          clear q2
          go_wp2_with fail
          exact HF.out 1 _ (fun hm => absurd (HM2.out.1 hm).2.1 HQ.out) (fun _ => rfl) HB.out
      · have HQ : Hid (¬ f = 0) := q1
        have q4 : (f == 0) = false := by simpa using q1
        clear q1
        go_wp2_with fail
        exact HF.out 1 _ (fun hm => absurd (HM2.out.1 hm).1 HQ.out) (fun _ => rfl) HB.out
end Go.Proofs.Ytelpdmdknmkhmaa
namespace Go.Proofs.Ytelpdmdknmkhmaa
open Go.ChangeShapes Go.WideShapes Go.ChangeAt Go.RowKit
set_option maxHeartbeats 4000000 in
set_option maxRecDepth 100000 in
theorem evrsame_calls (nn : Nat) (tv tv2 : Tv) (k t n d : Int) (s : ByteArray) (vk vx vb : Int) (vs : ByteArray) (la : Option Addr) (ll lc : Nat) (f : Int) (c : Nat) (m : Int) (k2 t2 n2 d2 : Int) (s2 : ByteArray) (vk2 vx2 vb2 : Int) (vs2 : ByteArray) (la2 : Option Addr) (ll2 lc2 : Nat) (f2 : Int) (c2 : Nat) (m2 : Int) (w : World) (h : Is w (nn + 1) (.agg #[.int .i64 vk, .int .i64 vx, .int .u64 vb, .string vs, .slice la ll lc]) tv) (hh : Is w (nn + 1) (.agg #[.int .i64 vk2, .int .i64 vx2, .int .u64 vb2, .string vs2, .slice la2 ll2 lc2]) tv2) :
    Calls Try.prog 8 #[(.agg #[.int .i64 k, .int .i64 t, .int .i64 n, .int .i64 d, .string s, .int .i64 vk, .int .i64 vx, .int .u64 vb, .string vs, .slice la ll lc, .int .i64 f, .int .u64 (c : Int), .int .i64 m]), (.agg #[.int .i64 k2, .int .i64 t2, .int .i64 n2, .int .i64 d2, .string s2, .int .i64 vk2, .int .i64 vx2, .int .u64 vb2, .string vs2, .slice la2 ll2 lc2, .int .i64 f2, .int .u64 (c2 : Int), .int .i64 m2])] w (FitP (k = k2 ∧ t = t2 ∧ n = n2 ∧ d = d2 ∧ s = s2 ∧ tv = tv2 ∧ f = f2 ∧ c = c2 ∧ m = m2) w) := by
  have HF : Hid (∀ b w', (b = true ↔ (k = k2 ∧ t = t2 ∧ n = n2 ∧ d = d2 ∧ s = s2 ∧ tv = tv2 ∧ f = f2 ∧ c = c2 ∧ m = m2)) → Below w.heap.size w w' → FitP (k = k2 ∧ t = t2 ∧ n = n2 ∧ d = d2 ∧ s = s2 ∧ tv = tv2 ∧ f = f2 ∧ c = c2 ∧ m = m2) w (.returned (.bool b)) w') := fun b w' h1 h2 => ⟨⟨b, rfl, h1⟩, h2⟩
  have SC : Hid (∀ W, Below w.heap.size w W → _) := fun W hB => rsame_calls (nn + 1) (.agg #[.int .i64 vk, .int .i64 vx, .int .u64 vb, .string vs, .slice la ll lc]) tv (.agg #[.int .i64 vk2, .int .i64 vx2, .int .u64 vb2, .string vs2, .slice la2 ll2 lc2]) tv2 W (h.below hB) (hh.below hB)
  generalize FitP (k = k2 ∧ t = t2 ∧ n = n2 ∧ d = d2 ∧ s = s2 ∧ tv = tv2 ∧ f = f2 ∧ c = c2 ∧ m = m2) w = Q at HF ⊢
  clear h hh
  by_cases h0 : k = k2
  rotate_left
  · have d0 : (k == k2) = false := by simpa using h0
    go_enter Try.func8, Try.ntmps8
    go_wp2_with fail
    exact HF.out false _ (by simp [h0]) (bel2 (bel1 _ _) (bel1 _ _))
  subst h0
  by_cases h1 : t = t2
  rotate_left
  · have d1 : (t == t2) = false := by simpa using h1
    go_enter Try.func8, Try.ntmps8
    go_wp2_with fail
    exact HF.out false _ (by simp [h1]) (bel2 (bel1 _ _) (bel1 _ _))
  subst h1
  by_cases h2 : n = n2
  rotate_left
  · have d2 : (n == n2) = false := by simpa using h2
    go_enter Try.func8, Try.ntmps8
    go_wp2_with fail
    exact HF.out false _ (by simp [h2]) (bel2 (bel1 _ _) (bel1 _ _))
  subst h2
  by_cases h3 : d = d2
  rotate_left
  · have d3 : (d == d2) = false := by simpa using h3
    go_enter Try.func8, Try.ntmps8
    go_wp2_with fail
    exact HF.out false _ (by simp [h3]) (bel2 (bel1 _ _) (bel1 _ _))
  subst h3
  by_cases h4 : s = s2
  rotate_left
  · have d4 := str_ne h4
    go_enter Try.func8, Try.ntmps8
    go_wp2_with fail
    exact HF.out false _ (by simp [h4]) (bel2 (bel1 _ _) (bel1 _ _))
  subst h4
  have HX : Hid (At13 ((w.alloc (.cells #[.int .i64 k, .int .i64 t, .int .i64 n, .int .i64 d, .string s, .int .i64 vk, .int .i64 vx, .int .u64 vb, .string vs, .slice la ll lc, .int .i64 f, .int .u64 (c : Int), .int .i64 m] 29)).alloc (.cells #[.int .i64 k, .int .i64 t, .int .i64 n, .int .i64 d, .string s, .int .i64 vk2, .int .i64 vx2, .int .u64 vb2, .string vs2, .slice la2 ll2 lc2, .int .i64 f2, .int .u64 (c2 : Int), .int .i64 m2] 29)) w.heap.size (.int .i64 k) (.int .i64 t) (.int .i64 n) (.int .i64 d) (.string s) (.int .i64 vk) (.int .i64 vx) (.int .u64 vb) (.string vs) (.slice la ll lc) (.int .i64 f) (.int .u64 (c : Int)) (.int .i64 m)) := (At13.box w (.int .i64 k) (.int .i64 t) (.int .i64 n) (.int .i64 d) (.string s) (.int .i64 vk) (.int .i64 vx) (.int .u64 vb) (.string vs) (.slice la ll lc) (.int .i64 f) (.int .u64 (c : Int)) (.int .i64 m)).below (bel1 _ _)
  have HY : Hid (At13 ((w.alloc (.cells #[.int .i64 k, .int .i64 t, .int .i64 n, .int .i64 d, .string s, .int .i64 vk, .int .i64 vx, .int .u64 vb, .string vs, .slice la ll lc, .int .i64 f, .int .u64 (c : Int), .int .i64 m] 29)).alloc (.cells #[.int .i64 k, .int .i64 t, .int .i64 n, .int .i64 d, .string s, .int .i64 vk2, .int .i64 vx2, .int .u64 vb2, .string vs2, .slice la2 ll2 lc2, .int .i64 f2, .int .u64 (c2 : Int), .int .i64 m2] 29)) (w.heap.size + 1) (.int .i64 k) (.int .i64 t) (.int .i64 n) (.int .i64 d) (.string s) (.int .i64 vk2) (.int .i64 vx2) (.int .u64 vb2) (.string vs2) (.slice la2 ll2 lc2) (.int .i64 f2) (.int .u64 (c2 : Int)) (.int .i64 m2)) := by
    have := At13.box (w.alloc (.cells #[.int .i64 k, .int .i64 t, .int .i64 n, .int .i64 d, .string s, .int .i64 vk, .int .i64 vx, .int .u64 vb, .string vs, .slice la ll lc, .int .i64 f, .int .u64 (c : Int), .int .i64 m] 29)) (.int .i64 k) (.int .i64 t) (.int .i64 n) (.int .i64 d) (.string s) (.int .i64 vk2) (.int .i64 vx2) (.int .u64 vb2) (.string vs2) (.slice la2 ll2 lc2) (.int .i64 f2) (.int .u64 (c2 : Int)) (.int .i64 m2)
    have hz : (w.alloc (.cells #[.int .i64 k, .int .i64 t, .int .i64 n, .int .i64 d, .string s, .int .i64 vk, .int .i64 vx, .int .u64 vb, .string vs, .slice la ll lc, .int .i64 f, .int .u64 (c : Int), .int .i64 m] 29)).heap.size = w.heap.size + 1 := by simp
    rw [hz] at this
    exact this
  go_enter Try.func8, Try.ntmps8
  go_wp2_with fail
  refine Calls.mono (SC.out _ ?_) ?_
  · exact bel2 (bel1 _ _) (bel1 _ _)
  rintro e w1 ⟨⟨r, rfl, hr⟩, hb⟩
  have HB : Hid (Below w.heap.size w w1) := bel2 (bel2 (bel1 _ _) (bel1 _ _)) hb
  have HR : Hid (r = true ↔ tv = tv2) := hr
  obtain ⟨a0, a1, a2, a3, a4, a5, a6, a7, a8, a9, a10, a11, a12⟩ := HX.out.below hb
  obtain ⟨b0, b1, b2, b3, b4, b5, b6, b7, b8, b9, b10, b11, b12⟩ := HY.out.below hb
  clear hr hb
  cases r with
  | false =>
    go_wp2_with fail
    exact HF.out false _ (by have := HR.out; simp at this; simp [this]) HB.out
  | true =>
    have hv := HR.out.1 rfl
    clear HR
    go_wp2_with fail
    all_goals first
      | (refine HF.out true _ ?_ HB.out; refine ⟨fun _ => ⟨trivial, trivial, trivial, trivial, trivial, hv, ?_, ?_, ?_⟩, fun _ => rfl⟩ <;> (first | rfl | assumption | omega))
      | (refine HF.out false _ ?_ HB.out; simp_all; done)
      | (refine HF.out false _ ?_ HB.out; simp only [Bool.false_eq_true, false_iff]; rintro ⟨-, -, -, -, -, -, q1, q2, q3⟩; omega)
end Go.Proofs.Ytelpdmdknmkhmaa
namespace Go.Proofs.Ytelpdmdknmkhmaa
open Go.ChangeShapes Go.WideShapes Go.ChangeAt Go.RowKit
/-- The world while an event is cloned: its own box, and its result's. -/
structure Mc (w W : World) (c0 c1 c2 c3 c4 c5 c6 c7 c8 c9 c10 c11 c12 : Value) : Prop where
  q1 : w.heap.size + 1 < W.heap.size
  own : At13 W w.heap.size c0 c1 c2 c3 c4 c5 c6 c7 c8 c9 c10 c11 c12
  ofr : ∀ o, W.frozen? ⟨w.heap.size, o, none⟩ = false
  res : At13 W (w.heap.size + 1) (.int .i64 0) (.int .i64 0) (.int .i64 0) (.int .i64 0) (.string ⟨#[]⟩) (.int .i64 0) (.int .i64 0) (.int .u64 0) (.string ⟨#[]⟩) (.slice none 0 0) (.int .i64 0) (.int .u64 0) (.int .i64 0)
  rfr : ∀ o, W.frozen? ⟨w.heap.size + 1, o, none⟩ = false
  bel : Below w.heap.size w W
theorem Mc.step {w W w' : World} {c0 c1 c2 c3 c4 c5 c6 c7 c8 c9 c10 c11 c12 : Value} (m : Mc w W c0 c1 c2 c3 c4 c5 c6 c7 c8 c9 c10 c11 c12) (hb : Below W.heap.size W w') : Mc w w' c0 c1 c2 c3 c4 c5 c6 c7 c8 c9 c10 c11 c12 := by
  have b := m.q1
  have := hb.size
  exact ⟨by omega, m.own.below hb, fun o => (hb.frozen (p := ⟨w.heap.size, o, none⟩) (show w.heap.size < W.heap.size by omega)).trans (m.ofr o), m.res.below hb, fun o => (hb.frozen (p := ⟨w.heap.size + 1, o, none⟩) (show w.heap.size + 1 < W.heap.size by omega)).trans (m.rfr o), bel2 m.bel hb⟩
theorem Mc.put {w W : World} {i : Nat} {c0 c1 c2 c3 c4 c5 c6 c7 c8 c9 c10 c11 c12 d0 d1 d2 d3 d4 d5 d6 d7 d8 d9 d10 d11 d12 : Value} (m : Mc w W c0 c1 c2 c3 c4 c5 c6 c7 c8 c9 c10 c11 c12) (u : Value) (h5 : At13 (W.setCell ⟨w.heap.size, i, none⟩ u) w.heap.size d0 d1 d2 d3 d4 d5 d6 d7 d8 d9 d10 d11 d12) : Mc w (W.setCell ⟨w.heap.size, i, none⟩ u) d0 d1 d2 d3 d4 d5 d6 d7 d8 d9 d10 d11 d12 := by
  have b := m.q1
  have hb : ∀ B, B ≠ w.heap.size → (W.setCell ⟨w.heap.size, i, none⟩ u).heap[B]? = W.heap[B]? := fun B hB => Below.heap_setCell _ _ _ _ hB
  have hsz : (W.setCell ⟨w.heap.size, i, none⟩ u).heap.size = W.heap.size := by simp [World.setCell]
  exact ⟨by rw [hsz]; exact b, h5, fun o => (World.frozen?_setCell _ _ _ _).trans (m.ofr o), m.res.keep (hb _ (by omega)), fun o => (World.frozen?_setCell _ _ _ _).trans (m.rfr o), m.bel.trans ((KB.setCell w.heap.size W i u).below (Nat.le_refl _) (by omega))⟩
theorem Mc.first (w : World) (c0 c1 c2 c3 c4 c5 c6 c7 c8 c9 c10 c11 c12 : Value) : Mc w ((w.alloc (.cells #[c0, c1, c2, c3, c4, c5, c6, c7, c8, c9, c10, c11, c12] 29)).alloc (.cells #[.int .i64 0, .int .i64 0, .int .i64 0, .int .i64 0, .string ⟨#[]⟩, .int .i64 0, .int .i64 0, .int .u64 0, .string ⟨#[]⟩, .slice none 0 0, .int .i64 0, .int .u64 0, .int .i64 0] 29)) c0 c1 c2 c3 c4 c5 c6 c7 c8 c9 c10 c11 c12 := by
  have hz : (w.alloc (.cells #[c0, c1, c2, c3, c4, c5, c6, c7, c8, c9, c10, c11, c12] 29)).heap.size = w.heap.size + 1 := by simp
  have b1 := bel1 w (.cells #[c0, c1, c2, c3, c4, c5, c6, c7, c8, c9, c10, c11, c12] 29)
  have b2 := bel1 (w.alloc (.cells #[c0, c1, c2, c3, c4, c5, c6, c7, c8, c9, c10, c11, c12] 29)) (.cells #[.int .i64 0, .int .i64 0, .int .i64 0, .int .i64 0, .string ⟨#[]⟩, .int .i64 0, .int .i64 0, .int .u64 0, .string ⟨#[]⟩, .slice none 0 0, .int .i64 0, .int .u64 0, .int .i64 0] 29)
  refine ⟨by simp, (At13.box w c0 c1 c2 c3 c4 c5 c6 c7 c8 c9 c10 c11 c12).below b2, fun o => (b2.frozen (p := ⟨w.heap.size, o, none⟩) (by show w.heap.size < _; omega)).trans (freshP w _ _ o), ?_, fun o => ?_, bel2 b1 b2⟩
  · have := At13.box (w.alloc (.cells #[c0, c1, c2, c3, c4, c5, c6, c7, c8, c9, c10, c11, c12] 29)) (.int .i64 0) (.int .i64 0) (.int .i64 0) (.int .i64 0) (.string ⟨#[]⟩) (.int .i64 0) (.int .i64 0) (.int .u64 0) (.string ⟨#[]⟩) (.slice none 0 0) (.int .i64 0) (.int .u64 0) (.int .i64 0)
    rw [hz] at this
    exact this
  · have := freshP (w.alloc (.cells #[c0, c1, c2, c3, c4, c5, c6, c7, c8, c9, c10, c11, c12] 29)) #[.int .i64 0, .int .i64 0, .int .i64 0, .int .i64 0, .string ⟨#[]⟩, .int .i64 0, .int .i64 0, .int .u64 0, .string ⟨#[]⟩, .slice none 0 0, .int .i64 0, .int .u64 0, .int .i64 0] 29 o
    rw [hz] at this
    exact this
/-- What a clone is: the same event, whose value lies elsewhere. -/
def ClP (nn : Nat) (tv : Tv) (k t n d : Int) (s : ByteArray) (f : Int) (c : Nat) (m : Int) (w : World) (e : Ending) (w' : World) : Prop :=
  ∃ (vk2 vx2 vb2 : Int) (vs2 : ByteArray) (la2 : Option Addr) (ll2 lc2 : Nat), e = .returned (.agg #[.int .i64 k, .int .i64 t, .int .i64 n, .int .i64 d, .string s, .int .i64 vk2, .int .i64 vx2, .int .u64 vb2, .string vs2, .slice la2 ll2 lc2, .int .i64 f, .int .u64 (c : Int), .int .i64 m]) ∧ Is w' (nn + 1) (.agg #[.int .i64 vk2, .int .i64 vx2, .int .u64 vb2, .string vs2, .slice la2 ll2 lc2]) tv ∧ Below w.heap.size w w'
set_option maxHeartbeats 4000000 in
set_option maxRecDepth 100000 in
theorem evclone_calls (nn : Nat) (tv : Tv) (k t n d : Int) (s : ByteArray) (vk vx vb : Int) (vs : ByteArray) (la : Option Addr) (ll lc : Nat) (f : Int) (c : Nat) (m : Int) (w : World) (h : Is w (nn + 1) (.agg #[.int .i64 vk, .int .i64 vx, .int .u64 vb, .string vs, .slice la ll lc]) tv) (hs : SmallW (nn + 1) tv) :
    Calls Try.prog 9 #[(.agg #[.int .i64 k, .int .i64 t, .int .i64 n, .int .i64 d, .string s, .int .i64 vk, .int .i64 vx, .int .u64 vb, .string vs, .slice la ll lc, .int .i64 f, .int .u64 (c : Int), .int .i64 m])] w (ClP nn tv k t n d s f c m w) := by
  have M0 : Hid (Mc w ((w.alloc (.cells #[.int .i64 k, .int .i64 t, .int .i64 n, .int .i64 d, .string s, .int .i64 vk, .int .i64 vx, .int .u64 vb, .string vs, .slice la ll lc, .int .i64 f, .int .u64 (c : Int), .int .i64 m] 29)).alloc (.cells #[.int .i64 0, .int .i64 0, .int .i64 0, .int .i64 0, .string ⟨#[]⟩, .int .i64 0, .int .i64 0, .int .u64 0, .string ⟨#[]⟩, .slice none 0 0, .int .i64 0, .int .u64 0, .int .i64 0] 29)) (.int .i64 k) (.int .i64 t) (.int .i64 n) (.int .i64 d) (.string s) (.int .i64 vk) (.int .i64 vx) (.int .u64 vb) (.string vs) (.slice la ll lc) (.int .i64 f) (.int .u64 (c : Int)) (.int .i64 m)) := Mc.first w (.int .i64 k) (.int .i64 t) (.int .i64 n) (.int .i64 d) (.string s) (.int .i64 vk) (.int .i64 vx) (.int .u64 vb) (.string vs) (.slice la ll lc) (.int .i64 f) (.int .u64 (c : Int)) (.int .i64 m)
  have C0 : Hid (∀ W, Below w.heap.size w W → _) := fun W hB => cloneW (nn + 1) (.agg #[.int .i64 vk, .int .i64 vx, .int .u64 vb, .string vs, .slice la ll lc]) tv W (h.below hB) hs
  clear h hs
  obtain ⟨W0, hW0⟩ : ∃ W0, W0 = ((w.alloc (.cells #[.int .i64 k, .int .i64 t, .int .i64 n, .int .i64 d, .string s, .int .i64 vk, .int .i64 vx, .int .u64 vb, .string vs, .slice la ll lc, .int .i64 f, .int .u64 (c : Int), .int .i64 m] 29)).alloc (.cells #[.int .i64 0, .int .i64 0, .int .i64 0, .int .i64 0, .string ⟨#[]⟩, .int .i64 0, .int .i64 0, .int .u64 0, .string ⟨#[]⟩, .slice none 0 0, .int .i64 0, .int .u64 0, .int .i64 0] 29)) := ⟨_, rfl⟩
  rw [← hW0] at M0
  have HW0 : Hid (W0 = ((w.alloc (.cells #[.int .i64 k, .int .i64 t, .int .i64 n, .int .i64 d, .string s, .int .i64 vk, .int .i64 vx, .int .u64 vb, .string vs, .slice la ll lc, .int .i64 f, .int .u64 (c : Int), .int .i64 m] 29)).alloc (.cells #[.int .i64 0, .int .i64 0, .int .i64 0, .int .i64 0, .string ⟨#[]⟩, .int .i64 0, .int .i64 0, .int .u64 0, .string ⟨#[]⟩, .slice none 0 0, .int .i64 0, .int .u64 0, .int .i64 0] 29))) := hW0
  clear hW0
  go_enter Try.func9, Try.ntmps9
  go_upto_region 1 with fail
  rw [← HW0.out]
  obtain ⟨a0, a1, a2, a3, a4, a5, a6, a7, a8, a9, a10, a11, a12⟩ := M0.out.own
  go_wp2_with fail
  refine Calls.mono (C0.out _ ?_) ?_
  · exact M0.out.bel
  rintro e w1 ⟨⟨v', rfl, hi⟩, hb⟩
  obtain ⟨vk2, vx2, vb2, vs2, la2, ll2, lc2, rfl⟩ := hi.shape
  have M1 := M0.out.step hb
  have M1x0 : Mc w (w1.setCell ⟨w.heap.size, 5, none⟩ (.int .i64 vk2)) (.int .i64 k) (.int .i64 t) (.int .i64 n) (.int .i64 d) (.string s) (.int .i64 vk2) (.int .i64 vx) (.int .u64 vb) (.string vs) (.slice la ll lc) (.int .i64 f) (.int .u64 (c : Int)) (.int .i64 m) := Mc.put M1 _ (M1.own.set5 _)
  have M1x1 : Mc w ((w1.setCell ⟨w.heap.size, 5, none⟩ (.int .i64 vk2)).setCell ⟨w.heap.size, 6, none⟩ (.int .i64 vx2)) (.int .i64 k) (.int .i64 t) (.int .i64 n) (.int .i64 d) (.string s) (.int .i64 vk2) (.int .i64 vx2) (.int .u64 vb) (.string vs) (.slice la ll lc) (.int .i64 f) (.int .u64 (c : Int)) (.int .i64 m) := Mc.put M1x0 _ (M1x0.own.set6 _)
  have M1x2 : Mc w (((w1.setCell ⟨w.heap.size, 5, none⟩ (.int .i64 vk2)).setCell ⟨w.heap.size, 6, none⟩ (.int .i64 vx2)).setCell ⟨w.heap.size, 7, none⟩ (.int .u64 vb2)) (.int .i64 k) (.int .i64 t) (.int .i64 n) (.int .i64 d) (.string s) (.int .i64 vk2) (.int .i64 vx2) (.int .u64 vb2) (.string vs) (.slice la ll lc) (.int .i64 f) (.int .u64 (c : Int)) (.int .i64 m) := Mc.put M1x1 _ (M1x1.own.set7 _)
  have M1x3 : Mc w ((((w1.setCell ⟨w.heap.size, 5, none⟩ (.int .i64 vk2)).setCell ⟨w.heap.size, 6, none⟩ (.int .i64 vx2)).setCell ⟨w.heap.size, 7, none⟩ (.int .u64 vb2)).setCell ⟨w.heap.size, 8, none⟩ (.string vs2)) (.int .i64 k) (.int .i64 t) (.int .i64 n) (.int .i64 d) (.string s) (.int .i64 vk2) (.int .i64 vx2) (.int .u64 vb2) (.string vs2) (.slice la ll lc) (.int .i64 f) (.int .u64 (c : Int)) (.int .i64 m) := Mc.put M1x2 _ (M1x2.own.set8 _)
  have M1x4 : Mc w (((((w1.setCell ⟨w.heap.size, 5, none⟩ (.int .i64 vk2)).setCell ⟨w.heap.size, 6, none⟩ (.int .i64 vx2)).setCell ⟨w.heap.size, 7, none⟩ (.int .u64 vb2)).setCell ⟨w.heap.size, 8, none⟩ (.string vs2)).setCell ⟨w.heap.size, 9, none⟩ (.slice la2 ll2 lc2)) (.int .i64 k) (.int .i64 t) (.int .i64 n) (.int .i64 d) (.string s) (.int .i64 vk2) (.int .i64 vx2) (.int .u64 vb2) (.string vs2) (.slice la2 ll2 lc2) (.int .i64 f) (.int .u64 (c : Int)) (.int .i64 m) := Mc.put M1x3 _ (M1x3.own.set9 _)
  have hi0 := M0.out.q1
  have I1 : Hid (IsN (w.heap.size + 1 + 1) (((((w1.setCell ⟨w.heap.size, 5, none⟩ (.int .i64 vk2)).setCell ⟨w.heap.size, 6, none⟩ (.int .i64 vx2)).setCell ⟨w.heap.size, 7, none⟩ (.int .u64 vb2)).setCell ⟨w.heap.size, 8, none⟩ (.string vs2)).setCell ⟨w.heap.size, 9, none⟩ (.slice la2 ll2 lc2)) (nn + 1) (.agg #[.int .i64 vk2, .int .i64 vx2, .int .u64 vb2, .string vs2, .slice la2 ll2 lc2]) tv) := IsN.put (by omega) _ (IsN.put (by omega) _ (IsN.put (by omega) _ (IsN.put (by omega) _ (IsN.put (by omega) _ (hi.lower (by omega))))))
  obtain ⟨W1, hW1⟩ : ∃ W1, W1 = (((((w1.setCell ⟨w.heap.size, 5, none⟩ (.int .i64 vk2)).setCell ⟨w.heap.size, 6, none⟩ (.int .i64 vx2)).setCell ⟨w.heap.size, 7, none⟩ (.int .u64 vb2)).setCell ⟨w.heap.size, 8, none⟩ (.string vs2)).setCell ⟨w.heap.size, 9, none⟩ (.slice la2 ll2 lc2)) := ⟨_, rfl⟩
  have M2 : Hid (Mc w W1 (.int .i64 k) (.int .i64 t) (.int .i64 n) (.int .i64 d) (.string s) (.int .i64 vk2) (.int .i64 vx2) (.int .u64 vb2) (.string vs2) (.slice la2 ll2 lc2) (.int .i64 f) (.int .u64 (c : Int)) (.int .i64 m)) := by rw [hW1]; exact M1x4
  rw [← hW1] at I1
  have HW1 : Hid (W1 = (((((w1.setCell ⟨w.heap.size, 5, none⟩ (.int .i64 vk2)).setCell ⟨w.heap.size, 6, none⟩ (.int .i64 vx2)).setCell ⟨w.heap.size, 7, none⟩ (.int .u64 vb2)).setCell ⟨w.heap.size, 8, none⟩ (.string vs2)).setCell ⟨w.heap.size, 9, none⟩ (.slice la2 ll2 lc2))) := hW1
  clear a0 a1 a2 a3 a4 a5 a6 a7 a8 a9 a10 a11 a12
  obtain ⟨a0, a1, a2, a3, a4, a5, a6, a7, a8, a9, a10, a11, a12⟩ := M1.own
  have f5 := M1.ofr 5
  have f6 := M1.ofr 6
  have f7 := M1.ofr 7
  have f8 := M1.ofr 8
  have f9 := M1.ofr 9
  clear hW1 M1 M1x0 M1x1 M1x2 M1x3 M1x4 hi hb hi0
  go_upto_region 2 with fail
  rw [← HW1.out]
  clear a0 a1 a2 a3 a4 a5 a6 a7 a8 a9 a10 a11 a12 f5 f6 f7 f8 f9
  obtain ⟨a0, a1, a2, a3, a4, a5, a6, a7, a8, a9, a10, a11, a12⟩ := M2.out.own
  obtain ⟨b0, b1, b2, b3, b4, b5, b6, b7, b8, b9, b10, b11, b12⟩ := M2.out.res
  have f0 := M2.out.rfr 0
  have f1 := M2.out.rfr 1
  have f2 := M2.out.rfr 2
  have f3 := M2.out.rfr 3
  have f4 := M2.out.rfr 4
  have f5 := M2.out.rfr 5
  have f6 := M2.out.rfr 6
  have f7 := M2.out.rfr 7
  have f8 := M2.out.rfr 8
  have f9 := M2.out.rfr 9
  have f10 := M2.out.rfr 10
  have f11 := M2.out.rfr 11
  have f12 := M2.out.rfr 12
  go_wp2_with fail
  refine bodyPost_ret (ret13 Try.results9 _ (g := w.heap.size + 1) rfl (set13_at M2.out.res (.int .i64 k) (.int .i64 t) (.int .i64 n) (.int .i64 d) (.string s) (.int .i64 vk2) (.int .i64 vx2) (.int .u64 vb2) (.string vs2) (.slice la2 ll2 lc2) (.int .i64 f) (.int .u64 (c : Int)) (.int .i64 m))) rfl ?_
  have hq := M2.out.q1
  have kb := set13_kb W1 (w.heap.size + 1) (.int .i64 k) (.int .i64 t) (.int .i64 n) (.int .i64 d) (.string s) (.int .i64 vk2) (.int .i64 vx2) (.int .u64 vb2) (.string vs2) (.slice la2 ll2 lc2) (.int .i64 f) (.int .u64 (c : Int)) (.int .i64 m)
  exact ⟨vk2, vx2, vb2, vs2, la2, ll2, lc2, rfl, (IsN.kb kb (by omega) I1.out).is, M2.out.bel.trans (kb.below (by omega) (by omega))⟩
end Go.Proofs.Ytelpdmdknmkhmaa
namespace Go.Proofs.Ytelpdmdknmkhmaa
open Go.ChangeShapes Go.WideShapes Go.ChangeAt Go.RowKit Go.BigFrame
theorem ckp_is {P : Prop} {R : Int} (h1 : P → R = 0) (h2 : ¬ P → R = 1) {w : World} {e : Ending} {w' : World} (h : CkP P w e w') : e = .returned (.int .i64 R) ∧ Below w.heap.size w w' := by
  obtain ⟨r, rfl, g1, g2, hb⟩ := h
  by_cases hp : P
  · rw [h1 hp, g1 hp]; exact ⟨rfl, hb⟩
  · rw [h2 hp, g2 hp]; exact ⟨rfl, hb⟩
theorem fitp_is {P : Prop} {R : Bool} (h1 : R = true ↔ P) {w : World} {e : Ending} {w' : World} (h : FitP P w e w') : e = .returned (.bool R) ∧ Below w.heap.size w w' := by
  obtain ⟨⟨r, rfl, g1⟩, hb⟩ := h
  have : r = R := by cases R <;> cases r <;> simp_all
  rw [this]
  exact ⟨rfl, hb⟩
set_option maxHeartbeats 16000000 in
set_option maxRecDepth 100000 in
theorem checks_walk (nn nn2 : Nat) (tv tv2 : Tv) (k t n d : Int) (s : ByteArray) (vk vx vb : Int) (vs : ByteArray) (la : Option Addr) (ll lc : Nat) (f : Int) (c : Nat) (m : Int) (k2 t2 n2 d2 : Int) (s2 : ByteArray) (vk2 vx2 vb2 : Int) (vs2 : ByteArray) (la2 : Option Addr) (ll2 lc2 : Nat) (f2 : Int) (c2 : Nat) (m2 : Int) (hp : PFit f c m) (w : World) (h : Is w (nn + 1) (.agg #[.int .i64 vk, .int .i64 vx, .int .u64 vb, .string vs, .slice la ll lc]) tv) (hs : SmallW (nn + 1) tv) (h2 : Is w (nn2 + 1) (.agg #[.int .i64 vk2, .int .i64 vx2, .int .u64 vb2, .string vs2, .slice la2 ll2 lc2]) tv2) :
    Calls Try.prog 3 #[(.agg #[.int .i64 k, .int .i64 t, .int .i64 n, .int .i64 d, .string s, .int .i64 vk, .int .i64 vx, .int .u64 vb, .string vs, .slice la ll lc, .int .i64 f, .int .u64 (c : Int), .int .i64 m]), (.agg #[.int .i64 k2, .int .i64 t2, .int .i64 n2, .int .i64 d2, .string s2, .int .i64 vk2, .int .i64 vx2, .int .u64 vb2, .string vs2, .slice la2 ll2 lc2, .int .i64 f2, .int .u64 (c2 : Int), .int .i64 m2])] w fun e w' => e = .returned (.bool true) ∧ Below w.heap.size w w' := by
  obtain ⟨R, r1, r2⟩ : ∃ R : Int, ((MayE (nn + 1) ⟨k, t, n, d, s, tv, f, c, m⟩) → R = 0) ∧ (¬ (MayE (nn + 1) ⟨k, t, n, d, s, tv, f, c, m⟩) → R = 1) := by
    by_cases hm : (MayE (nn + 1) ⟨k, t, n, d, s, tv, f, c, m⟩)
    · exact ⟨0, fun _ => rfl, fun hn => absurd hm hn⟩
    · exact ⟨1, fun hn => absurd hn hm, fun _ => rfl⟩
  obtain ⟨Q, hQ⟩ : ∃ Q : Bool, Q = true ↔ (k = k2 ∧ t = t2 ∧ n = n2 ∧ d = d2 ∧ s = s2 ∧ tv = tv2 ∧ f = f2 ∧ c = c2 ∧ m = m2) := ⟨@decide (k = k2 ∧ t = t2 ∧ n = n2 ∧ d = d2 ∧ s = s2 ∧ tv = tv2 ∧ f = f2 ∧ c = c2 ∧ m = m2) (Classical.propDecidable _), by simp⟩
  have K1 : Hid (∀ W, Below w.heap.size w W → Calls Try.prog 5 #[(.agg #[.int .i64 k, .int .i64 t, .int .i64 n, .int .i64 d, .string s, .int .i64 vk, .int .i64 vx, .int .u64 vb, .string vs, .slice la ll lc, .int .i64 f, .int .u64 (c : Int), .int .i64 m])] W fun e w' => e = .returned (.int .i64 R) ∧ Below W.heap.size W w') := fun W hB => (evcheck_calls nn tv k t n d s vk vx vb vs la ll lc f c m hp.c1 W (h.below hB)).mono fun e w' hh => ckp_is r1 r2 hh
  have K2 : Hid (∀ W, Below w.heap.size w W → Calls Try.prog 6 #[(.agg #[.int .i64 k, .int .i64 t, .int .i64 n, .int .i64 d, .string s, .int .i64 vk, .int .i64 vx, .int .u64 vb, .string vs, .slice la ll lc, .int .i64 f, .int .u64 (c : Int), .int .i64 m])] W fun e w' => e = .returned (.int .i64 R) ∧ Below W.heap.size W w') := fun W hB => (evrefcheck_calls nn tv k t n d s vk vx vb vs la ll lc f c m W (h.below hB)).mono fun e w' hh => ckp_is r1 r2 hh
  have K3 : Hid (∀ W, Below w.heap.size w W → Calls Try.prog 7 #[(.agg #[.int .i64 k, .int .i64 t, .int .i64 n, .int .i64 d, .string s, .int .i64 vk, .int .i64 vx, .int .u64 vb, .string vs, .slice la ll lc, .int .i64 f, .int .u64 (c : Int), .int .i64 m]), (.agg #[.int .i64 k2, .int .i64 t2, .int .i64 n2, .int .i64 d2, .string s2, .int .i64 vk2, .int .i64 vx2, .int .u64 vb2, .string vs2, .slice la2 ll2 lc2, .int .i64 f2, .int .u64 (c2 : Int), .int .i64 m2])] W fun e w' => e = .returned (.bool Q) ∧ Below W.heap.size W w') := fun W hB => (evsame_calls (max nn nn2) tv tv2 k t n d s vk vx vb vs la ll lc f c m k2 t2 n2 d2 s2 vk2 vx2 vb2 vs2 la2 ll2 lc2 f2 c2 m2 W ((h.below hB).up (by omega)) ((h2.below hB).up (by omega))).mono fun e w' hh => fitp_is hQ hh
  have K4 : Hid (∀ W, Below w.heap.size w W → Calls Try.prog 8 #[(.agg #[.int .i64 k, .int .i64 t, .int .i64 n, .int .i64 d, .string s, .int .i64 vk, .int .i64 vx, .int .u64 vb, .string vs, .slice la ll lc, .int .i64 f, .int .u64 (c : Int), .int .i64 m]), (.agg #[.int .i64 k2, .int .i64 t2, .int .i64 n2, .int .i64 d2, .string s2, .int .i64 vk2, .int .i64 vx2, .int .u64 vb2, .string vs2, .slice la2 ll2 lc2, .int .i64 f2, .int .u64 (c2 : Int), .int .i64 m2])] W fun e w' => e = .returned (.bool Q) ∧ Below W.heap.size W w') := fun W hB => (evrsame_calls (max nn nn2) tv tv2 k t n d s vk vx vb vs la ll lc f c m k2 t2 n2 d2 s2 vk2 vx2 vb2 vs2 la2 ll2 lc2 f2 c2 m2 W ((h.below hB).up (by omega)) ((h2.below hB).up (by omega))).mono fun e w' hh => fitp_is hQ hh
  have K5 : Hid (∀ W, Below w.heap.size w W → Calls Try.prog 9 #[(.agg #[.int .i64 k, .int .i64 t, .int .i64 n, .int .i64 d, .string s, .int .i64 vk, .int .i64 vx, .int .u64 vb, .string vs, .slice la ll lc, .int .i64 f, .int .u64 (c : Int), .int .i64 m])] W (ClP nn tv k t n d s f c m W)) := fun W hB => evclone_calls nn tv k t n d s vk vx vb vs la ll lc f c m W (h.below hB) hs
  have K6 : Hid (∀ W zk zx zb zs za zl zc, Below w.heap.size w W → Is W (nn + 1) (.agg #[.int .i64 zk, .int .i64 zx, .int .u64 zb, .string zs, .slice za zl zc]) tv → Calls Try.prog 7 #[(.agg #[.int .i64 k, .int .i64 t, .int .i64 n, .int .i64 d, .string s, .int .i64 vk, .int .i64 vx, .int .u64 vb, .string vs, .slice la ll lc, .int .i64 f, .int .u64 (c : Int), .int .i64 m]), .agg #[.int .i64 k, .int .i64 t, .int .i64 n, .int .i64 d, .string s, .int .i64 zk, .int .i64 zx, .int .u64 zb, .string zs, .slice za zl zc, .int .i64 f, .int .u64 (c : Int), .int .i64 m]] W fun e w' => e = .returned (.bool true) ∧ Below W.heap.size W w') := fun W zk zx zb zs za zl zc hB hZ => (evsame_calls nn tv tv k t n d s vk vx vb vs la ll lc f c m k t n d s zk zx zb zs za zl zc f c m W (h.below hB) hZ).mono fun e w' hh => fitp_is (by simp) hh
  clear r1 r2 hQ hp h hs h2
  have k0 := (At13.box w (.int .i64 k) (.int .i64 t) (.int .i64 n) (.int .i64 d) (.string s) (.int .i64 vk) (.int .i64 vx) (.int .u64 vb) (.string vs) (.slice la ll lc) (.int .i64 f) (.int .u64 (c : Int)) (.int .i64 m)).below (bel1 _ (.cells #[.int .i64 k2, .int .i64 t2, .int .i64 n2, .int .i64 d2, .string s2, .int .i64 vk2, .int .i64 vx2, .int .u64 vb2, .string vs2, .slice la2 ll2 lc2, .int .i64 f2, .int .u64 (c2 : Int), .int .i64 m2] 29))
  have k1 := At13.box (w.alloc (.cells #[.int .i64 k, .int .i64 t, .int .i64 n, .int .i64 d, .string s, .int .i64 vk, .int .i64 vx, .int .u64 vb, .string vs, .slice la ll lc, .int .i64 f, .int .u64 (c : Int), .int .i64 m] 29)) (.int .i64 k2) (.int .i64 t2) (.int .i64 n2) (.int .i64 d2) (.string s2) (.int .i64 vk2) (.int .i64 vx2) (.int .u64 vb2) (.string vs2) (.slice la2 ll2 lc2) (.int .i64 f2) (.int .u64 (c2 : Int)) (.int .i64 m2)
  have hz : (w.alloc (.cells #[.int .i64 k, .int .i64 t, .int .i64 n, .int .i64 d, .string s, .int .i64 vk, .int .i64 vx, .int .u64 vb, .string vs, .slice la ll lc, .int .i64 f, .int .u64 (c : Int), .int .i64 m] 29)).heap.size = w.heap.size + 1 := by simp
  rw [hz] at k1
  have hbb : Below w.heap.size w ((w.alloc (.cells #[.int .i64 k, .int .i64 t, .int .i64 n, .int .i64 d, .string s, .int .i64 vk, .int .i64 vx, .int .u64 vb, .string vs, .slice la ll lc, .int .i64 f, .int .u64 (c : Int), .int .i64 m] 29)).alloc (.cells #[.int .i64 k2, .int .i64 t2, .int .i64 n2, .int .i64 d2, .string s2, .int .i64 vk2, .int .i64 vx2, .int .u64 vb2, .string vs2, .slice la2 ll2 lc2, .int .i64 f2, .int .u64 (c2 : Int), .int .i64 m2] 29)) := bel2 (bel1 _ _) (bel1 _ _)
  obtain ⟨W0, hW0⟩ : ∃ W0, W0 = (w.alloc (.cells #[.int .i64 k, .int .i64 t, .int .i64 n, .int .i64 d, .string s, .int .i64 vk, .int .i64 vx, .int .u64 vb, .string vs, .slice la ll lc, .int .i64 f, .int .u64 (c : Int), .int .i64 m] 29)).alloc (.cells #[.int .i64 k2, .int .i64 t2, .int .i64 n2, .int .i64 d2, .string s2, .int .i64 vk2, .int .i64 vx2, .int .u64 vb2, .string vs2, .slice la2 ll2 lc2, .int .i64 f2, .int .u64 (c2 : Int), .int .i64 m2] 29) := ⟨_, rfl⟩
  rw [← hW0] at k0 k1 hbb
  have HW0 : Hid (W0 = (w.alloc (.cells #[.int .i64 k, .int .i64 t, .int .i64 n, .int .i64 d, .string s, .int .i64 vk, .int .i64 vx, .int .u64 vb, .string vs, .slice la ll lc, .int .i64 f, .int .u64 (c : Int), .int .i64 m] 29)).alloc (.cells #[.int .i64 k2, .int .i64 t2, .int .i64 n2, .int .i64 d2, .string s2, .int .i64 vk2, .int .i64 vx2, .int .u64 vb2, .string vs2, .slice la2 ll2 lc2, .int .i64 f2, .int .u64 (c2 : Int), .int .i64 m2] 29)) := hW0
  have HA : Hid (At13 W0 w.heap.size (.int .i64 k) (.int .i64 t) (.int .i64 n) (.int .i64 d) (.string s) (.int .i64 vk) (.int .i64 vx) (.int .u64 vb) (.string vs) (.slice la ll lc) (.int .i64 f) (.int .u64 (c : Int)) (.int .i64 m)) := k0
  have HB : Hid (At13 W0 (w.heap.size + 1) (.int .i64 k2) (.int .i64 t2) (.int .i64 n2) (.int .i64 d2) (.string s2) (.int .i64 vk2) (.int .i64 vx2) (.int .u64 vb2) (.string vs2) (.slice la2 ll2 lc2) (.int .i64 f2) (.int .u64 (c2 : Int)) (.int .i64 m2)) := k1
  have HT0 : Hid (Below w.heap.size w W0) := hbb
  clear k0 k1 hz hbb hW0
  go_enter Try.func3, Try.ntmps3
  go_upto_region 1 with fail
  rw [← HW0.out]
  clear HW0
  obtain ⟨a0_0, a0_1, a0_2, a0_3, a0_4, a0_5, a0_6, a0_7, a0_8, a0_9, a0_10, a0_11, a0_12⟩ := HA.out.below (Below.refl _ W0); obtain ⟨b0_0, b0_1, b0_2, b0_3, b0_4, b0_5, b0_6, b0_7, b0_8, b0_9, b0_10, b0_11, b0_12⟩ := HB.out.below (Below.refl _ W0)
  go_region_held3 (fun w' => w'.cell? ⟨w.heap.size, 0, none⟩ = some (.int .i64 k) ∧ w'.cell? ⟨w.heap.size, 1, none⟩ = some (.int .i64 t) ∧ w'.cell? ⟨w.heap.size, 2, none⟩ = some (.int .i64 n) ∧ w'.cell? ⟨w.heap.size, 3, none⟩ = some (.int .i64 d) ∧ w'.cell? ⟨w.heap.size, 4, none⟩ = some (.string s) ∧ w'.cell? ⟨w.heap.size, 5, none⟩ = some (.int .i64 vk) ∧ w'.cell? ⟨w.heap.size, 6, none⟩ = some (.int .i64 vx) ∧ w'.cell? ⟨w.heap.size, 7, none⟩ = some (.int .u64 vb) ∧ w'.cell? ⟨w.heap.size, 8, none⟩ = some (.string vs) ∧ w'.cell? ⟨w.heap.size, 9, none⟩ = some (.slice la ll lc) ∧ w'.cell? ⟨w.heap.size, 10, none⟩ = some (.int .i64 f) ∧ w'.cell? ⟨w.heap.size, 11, none⟩ = some (.int .u64 (c : Int)) ∧ w'.cell? ⟨w.heap.size, 12, none⟩ = some (.int .i64 m) ∧ w'.cell? ⟨w.heap.size + 1, 0, none⟩ = some (.int .i64 k2) ∧ w'.cell? ⟨w.heap.size + 1, 1, none⟩ = some (.int .i64 t2) ∧ w'.cell? ⟨w.heap.size + 1, 2, none⟩ = some (.int .i64 n2) ∧ w'.cell? ⟨w.heap.size + 1, 3, none⟩ = some (.int .i64 d2) ∧ w'.cell? ⟨w.heap.size + 1, 4, none⟩ = some (.string s2) ∧ w'.cell? ⟨w.heap.size + 1, 5, none⟩ = some (.int .i64 vk2) ∧ w'.cell? ⟨w.heap.size + 1, 6, none⟩ = some (.int .i64 vx2) ∧ w'.cell? ⟨w.heap.size + 1, 7, none⟩ = some (.int .u64 vb2) ∧ w'.cell? ⟨w.heap.size + 1, 8, none⟩ = some (.string vs2) ∧ w'.cell? ⟨w.heap.size + 1, 9, none⟩ = some (.slice la2 ll2 lc2) ∧ w'.cell? ⟨w.heap.size + 1, 10, none⟩ = some (.int .i64 f2) ∧ w'.cell? ⟨w.heap.size + 1, 11, none⟩ = some (.int .u64 (c2 : Int)) ∧ w'.cell? ⟨w.heap.size + 1, 12, none⟩ = some (.int .i64 m2)) (go_keep) (first
    | (go_at_call 5; refine (K1.out _ (bel2 HT0.out (Below.refl _ W0).drew)).mono ?_; rintro e w1 ⟨rfl, hb⟩; have T1 : Hid (Below W0.heap.size W0 w1) := bel2 (Below.refl _ W0).drew hb; obtain ⟨a1_0, a1_1, a1_2, a1_3, a1_4, a1_5, a1_6, a1_7, a1_8, a1_9, a1_10, a1_11, a1_12⟩ := HA.out.below T1.out; obtain ⟨b1_0, b1_1, b1_2, b1_3, b1_4, b1_5, b1_6, b1_7, b1_8, b1_9, b1_10, b1_11, b1_12⟩ := HB.out.below T1.out; clear hb a0_0 a0_1 a0_2 a0_3 a0_4 a0_5 a0_6 a0_7 a0_8 a0_9 a0_10 a0_11 a0_12 b0_0 b0_1 b0_2 b0_3 b0_4 b0_5 b0_6 b0_7 b0_8 b0_9 b0_10 b0_11 b0_12)
    | (go_at_call 6; refine (K2.out _ (bel2 HT0.out T1.out)).mono ?_; rintro e w2 ⟨rfl, hb⟩; have T2 : Hid (Below W0.heap.size W0 w2) := bel2 T1.out hb; obtain ⟨a2_0, a2_1, a2_2, a2_3, a2_4, a2_5, a2_6, a2_7, a2_8, a2_9, a2_10, a2_11, a2_12⟩ := HA.out.below T2.out; obtain ⟨b2_0, b2_1, b2_2, b2_3, b2_4, b2_5, b2_6, b2_7, b2_8, b2_9, b2_10, b2_11, b2_12⟩ := HB.out.below T2.out; clear hb a1_0 a1_1 a1_2 a1_3 a1_4 a1_5 a1_6 a1_7 a1_8 a1_9 a1_10 a1_11 a1_12 b1_0 b1_1 b1_2 b1_3 b1_4 b1_5 b1_6 b1_7 b1_8 b1_9 b1_10 b1_11 b1_12)
    | (go_at_call_of 7 (Value.agg #[.int .i64 k2, .int .i64 t2, .int .i64 n2, .int .i64 d2, .string s2, .int .i64 vk2, .int .i64 vx2, .int .u64 vb2, .string vs2, .slice la2 ll2 lc2, .int .i64 f2, .int .u64 (c2 : Int), .int .i64 m2]); refine (K3.out _ (bel2 HT0.out T2.out)).mono ?_; rintro e w3 ⟨rfl, hb⟩; have T3 : Hid (Below W0.heap.size W0 w3) := bel2 T2.out hb; obtain ⟨a3_0, a3_1, a3_2, a3_3, a3_4, a3_5, a3_6, a3_7, a3_8, a3_9, a3_10, a3_11, a3_12⟩ := HA.out.below T3.out; obtain ⟨b3_0, b3_1, b3_2, b3_3, b3_4, b3_5, b3_6, b3_7, b3_8, b3_9, b3_10, b3_11, b3_12⟩ := HB.out.below T3.out; clear hb a2_0 a2_1 a2_2 a2_3 a2_4 a2_5 a2_6 a2_7 a2_8 a2_9 a2_10 a2_11 a2_12 b2_0 b2_1 b2_2 b2_3 b2_4 b2_5 b2_6 b2_7 b2_8 b2_9 b2_10 b2_11 b2_12)
    | (go_at_call 8; refine (K4.out _ (bel2 HT0.out T3.out)).mono ?_; rintro e w4 ⟨rfl, hb⟩; have T4 : Hid (Below W0.heap.size W0 w4) := bel2 T3.out hb; obtain ⟨a4_0, a4_1, a4_2, a4_3, a4_4, a4_5, a4_6, a4_7, a4_8, a4_9, a4_10, a4_11, a4_12⟩ := HA.out.below T4.out; obtain ⟨b4_0, b4_1, b4_2, b4_3, b4_4, b4_5, b4_6, b4_7, b4_8, b4_9, b4_10, b4_11, b4_12⟩ := HB.out.below T4.out; clear hb a3_0 a3_1 a3_2 a3_3 a3_4 a3_5 a3_6 a3_7 a3_8 a3_9 a3_10 a3_11 a3_12 b3_0 b3_1 b3_2 b3_3 b3_4 b3_5 b3_6 b3_7 b3_8 b3_9 b3_10 b3_11 b3_12)
    | (go_at_call 9; refine (K5.out _ (bel2 HT0.out T4.out)).mono ?_; rintro e w5 ⟨zk, zx, zb, zs, za, zl, zc, rfl, hi, hb⟩; have T5 : Hid (Below W0.heap.size W0 w5) := bel2 T4.out hb; have HI5 : Hid (Is w5 (nn + 1) (.agg #[.int .i64 zk, .int .i64 zx, .int .u64 zb, .string zs, .slice za zl zc]) tv) := hi; clear hi; obtain ⟨a5_0, a5_1, a5_2, a5_3, a5_4, a5_5, a5_6, a5_7, a5_8, a5_9, a5_10, a5_11, a5_12⟩ := HA.out.below T5.out; obtain ⟨b5_0, b5_1, b5_2, b5_3, b5_4, b5_5, b5_6, b5_7, b5_8, b5_9, b5_10, b5_11, b5_12⟩ := HB.out.below T5.out; clear hb a4_0 a4_1 a4_2 a4_3 a4_4 a4_5 a4_6 a4_7 a4_8 a4_9 a4_10 a4_11 a4_12 b4_0 b4_1 b4_2 b4_3 b4_4 b4_5 b4_6 b4_7 b4_8 b4_9 b4_10 b4_11 b4_12)
    | (go_at_call 7; refine (K6.out _ zk zx zb zs za zl zc (bel2 HT0.out T5.out) HI5.out).mono ?_; rintro e w6 ⟨rfl, hb⟩; have T6 : Hid (Below W0.heap.size W0 w6) := bel2 T5.out hb; obtain ⟨a6_0, a6_1, a6_2, a6_3, a6_4, a6_5, a6_6, a6_7, a6_8, a6_9, a6_10, a6_11, a6_12⟩ := HA.out.below T6.out; obtain ⟨b6_0, b6_1, b6_2, b6_3, b6_4, b6_5, b6_6, b6_7, b6_8, b6_9, b6_10, b6_11, b6_12⟩ := HB.out.below T6.out; clear hb a5_0 a5_1 a5_2 a5_3 a5_4 a5_5 a5_6 a5_7 a5_8 a5_9 a5_10 a5_11 a5_12 b5_0 b5_1 b5_2 b5_3 b5_4 b5_5 b5_6 b5_7 b5_8 b5_9 b5_10 b5_11 b5_12)
    | (go_at_call 10; refine (awake_calls _).mono ?_; rintro e w7 ⟨rfl, hb⟩; have T7 : Hid (Below W0.heap.size W0 w7) := bel2 T6.out hb; obtain ⟨a7_0, a7_1, a7_2, a7_3, a7_4, a7_5, a7_6, a7_7, a7_8, a7_9, a7_10, a7_11, a7_12⟩ := HA.out.below T7.out; obtain ⟨b7_0, b7_1, b7_2, b7_3, b7_4, b7_5, b7_6, b7_7, b7_8, b7_9, b7_10, b7_11, b7_12⟩ := HB.out.below T7.out; clear hb a6_0 a6_1 a6_2 a6_3 a6_4 a6_5 a6_6 a6_7 a6_8 a6_9 a6_10 a6_11 a6_12 b6_0 b6_1 b6_2 b6_3 b6_4 b6_5 b6_6 b6_7 b6_8 b6_9 b6_10 b6_11 b6_12))
  clear a7_0 a7_1 a7_2 a7_3 a7_4 a7_5 a7_6 a7_7 a7_8 a7_9 a7_10 a7_11 a7_12 b7_0 b7_1 b7_2 b7_3 b7_4 b7_5 b7_6 b7_7 b7_8 b7_9 b7_10 b7_11 b7_12
  go_wp2_with fail
  go_ret
  exact ⟨rfl, bel2 HT0.out T7.out⟩
end Go.Proofs.Ytelpdmdknmkhmaa
namespace Go.Proofs.Ytelpdmdknmkhmaa
open Go.ChangeShapes Go.WideShapes Go.ChangeAt Go.RowKit Go.Deep
set_option maxRecDepth 100000 in
theorem open_evW {H : Type} {enc : TypeId × Value → H} {W : World} {base : Nat} {spare : Nat → Bool} {held : Bool} (fuel : Nat) (cs : List Value) (x : DataW H × List MemPlace) (h : DataW.trod enc Try.prog W base spare held fuel 29 cs = some x) (hwt : ∀ y ∈ x.1.weights Try.prog 29, y ≤ reachBytes) :
    ∃ (k t n d : Int) (s : ByteArray) (vk vx vb : Int) (vs : ByteArray) (la : Option Addr) (ll lc : Nat) (f : Int) (c : Nat) (m : Int) (nn : Nat) (tv : Tv), cs = [.int .i64 k, .int .i64 t, .int .i64 n, .int .i64 d, .string s, .int .i64 vk, .int .i64 vx, .int .u64 vb, .string vs, .slice la ll lc, .int .i64 f, .int .u64 (c : Int), .int .i64 m] ∧ Is W (nn + 1) (.agg #[.int .i64 vk, .int .i64 vx, .int .u64 vb, .string vs, .slice la ll lc]) tv ∧ SmallW (nn + 1) tv ∧ PFit f c m := by
  obtain ⟨xs, q, hk, hxy, hlen, hxl, hf⟩ := DataW.trod_struct Try.underlying29 h
  rw [cells29] at hlen
  obtain ⟨e0, e1, e2, e3, e4, e5, e6, e7, e8, e9, e10, e11, e12, rfl⟩ := list13 hlen
  obtain ⟨y0, y1, y2, y3, y4, y5, y6, rfl⟩ := list7 (l := xs) hxl
  have hw5 : ∀ y ∈ y5.1.weights Try.prog 25, y ≤ reachBytes := fun y hy => by
    apply hwt
    rw [hxy]
    simp only [DataW.weights, Try.underlying29]
    exact DataW.weights_mem_each (j := 5) rfl rfl y hy
  clear hwt
  have g0 := hf 0 _ rfl
  have g1 := hf 1 _ rfl
  have g2 := hf 2 _ rfl
  have g3 := hf 3 _ rfl
  have g4 := hf 4 _ rfl
  have g5 := hf 5 _ rfl
  have g6 := hf 6 _ rfl
  clear hf hxl hlen hxy h
  simp only [List.getElem?_cons_zero, List.getElem?_cons_succ] at g0 g1 g2 g3 g4 g5 g6
  obtain ⟨n0, p0, _, w0⟩ := DataW.trod_int Try.underlying3 g0
  obtain ⟨n1, p1, _, w1⟩ := DataW.trod_int Try.underlying3 g1
  obtain ⟨n2, p2, _, w2⟩ := DataW.trod_int Try.underlying3 g2
  obtain ⟨n3, p3, _, w3⟩ := DataW.trod_int Try.underlying3 g3
  obtain ⟨s4, p4, _, w4⟩ := DataW.trod_string Try.underlying9 g4
  cases p0; cases p1; cases p2; cases p3; cases p4
  obtain ⟨v0, v1, v2, v3, v4, tv, nn, p5, hi, hsm⟩ := open_valW q _ _ g5 hw5
  obtain ⟨f, c, m, p6, hp⟩ := open_po q _ _ g6
  cases p5
  cases p6
  cases nn with
  | zero => exact hi.elim
  | succ nn =>
    obtain ⟨vk, vx, vb, vs, la, ll, lc, rfl, rfl, rfl, rfl, rfl⟩ := hi.shape
    exact ⟨n0, n1, n2, n3, s4, vk, vx, vb, vs, la, ll, lc, f, c, m, nn, tv, rfl, hi, hsm, hp⟩
end Go.Proofs.Ytelpdmdknmkhmaa
