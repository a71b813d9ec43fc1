/- Values and states in memory; a state that came in (texts of the seat of StateOwn). -/
import Derived.Test.YtmcbgfcpalfcjaaVA
import Derived.ChangeArms
import Derived.ChangeSame
import Derived.Deep.Slices
import Derived.Deep.WholeRow
import Derived.SizedLaws
import Derived.Laws.Rows
import Derived.Laws.Tables
import Derived.Laws.OwnMore
import Derived.Deep.MidRow
import Derived.Deep.RegionHeld3
import Derived.Deep.DeepCutAuto
namespace Go.Proofs.Ytmcbgfcpalfcjaa
open Go.ChangeAt Go.ChangeShapes Go.Deep Go.RowKit Go.WideShapes
theorem cells25 : Try.prog.cellsOf 25 = 5 := by kernel_rfl
/-- An address whose cell is read has no spot. -/
theorem plain_addr {w : World} {a : Addr} {v : Value} (h : w.cell? a = some v) : a.spot = none := by
  obtain ⟨b, o, s⟩ := a
  unfold World.cell? at h
  cases s with
  | none => rfl
  | some k => split at h <;> simp at h
theorem addp (b o i : Nat) : (⟨b, o, none⟩ : Addr).add i = ⟨b, o + i, none⟩ := by unfold Addr.add; split <;> simp_all
theorem list5 {α : Type} : ∀ {l : List α}, l.length = 5 → ∃ a b c d e, l = [a, b, c, d, e]
  | [a, b, c, d, e], _ => ⟨a, b, c, d, e, rfl⟩
theorem lo64 {x : Int} (h : (Lit.int .i64 x).wf = true) : -9223372036854775808 ≤ x ∧ x ≤ 9223372036854775807 := by
  have e : IntKind.i64.min = -9223372036854775808 := by decide +kernel
  simp only [Lit.wf, decide_eq_true_eq, Bool.and_eq_true] at h
  exact ⟨by rw [← e]; exact h.1, h.2⟩
theorem lou64 {x : Int} (h : (Lit.int .u64 x).wf = true) : 0 ≤ x ∧ x ≤ 18446744073709551615 := by
  have e : IntKind.u64.min = 0 := by decide +kernel
  simp only [Lit.wf, decide_eq_true_eq, Bool.and_eq_true] at h
  exact ⟨by rw [← e]; exact h.1, h.2⟩
/-- No list has more values than an argument may have. -/
def SmallW : Nat → Tv → Prop
  | 0, _ => False
  | n + 1, .mk _ _ _ _ l => l.length ≤ 2199023255488 ∧ ∀ (i : Nat) t, l[i]? = some t → SmallW n t
theorem SmallW.up : ∀ {n m : Nat} {t : Tv}, SmallW n t → n ≤ m → SmallW m t
  | 0, _, _, h, _ => h.elim
  | n + 1, 0, _, _, hm => by omega
  | n + 1, m + 1, .mk _ _ _ _ l, ⟨h1, h2⟩, hm => ⟨h1, fun i t ht => (h2 i t ht).up (by omega)⟩
theorem mem_all {H : Type} {P : Program} {e : TypeId} : ∀ {ds : List (DataW H)} {d : DataW H}, d ∈ ds → ∀ y ∈ d.weights P e, y ∈ DataW.weightsAll P e ds
  | x :: r, d, h, y, hy => by
    simp only [DataW.weightsAll, List.mem_append]
    rcases List.mem_cons.1 h with rfl | h
    · exact .inl hy
    · exact .inr (mem_all h y hy)
set_option maxRecDepth 100000 in
theorem open_valW {H : Type} {enc : TypeId × Value → H} {W : World} {base : Nat} {spare : Nat → Bool} {held : Bool} : ∀ (fuel : Nat) (cs : List Value) (x : DataW H × List MemPlace),
    DataW.trod enc Try.prog W base spare held fuel 25 cs = some x → (∀ y ∈ x.1.weights Try.prog 25, y ≤ reachBytes) → ∃ c0 c1 c2 c3 c4 t n, cs = [c0, c1, c2, c3, c4] ∧ Is W n (.agg #[c0, c1, c2, c3, c4]) t ∧ SmallW n t := by
  intro fuel
  induction fuel using Nat.strongRecOn with
  | _ fuel ih =>
    intro cs x h hwt
    obtain ⟨xs, k, hk, hxy, hlen, hxl, hf⟩ := DataW.trod_struct Try.underlying25 h
    rw [cells25] at hlen
    obtain ⟨c0, c1, c2, c3, c4, rfl⟩ := list5 hlen
    obtain ⟨y0, y1, y2, y3, y4, rfl⟩ := list5 (l := xs) hxl
    have hw4 : ∀ y ∈ y4.1.weights Try.prog 23, y ≤ reachBytes := fun y hy => by
      apply hwt
      rw [hxy]
      simp only [DataW.weights, Try.underlying25]
      exact DataW.weights_mem_each (j := 4) rfl rfl y hy
    clear hwt
    have g0 := hf 0 _ rfl
    have g1 := hf 1 _ rfl
    have g2 := hf 2 _ rfl
    have g3 := hf 3 _ rfl
    have g4 := hf 4 _ rfl
    clear hf hxl hlen hxy h
    simp only [List.getElem?_cons_zero, List.getElem?_cons_succ] at g0 g1 g2 g3 g4
    obtain ⟨n0, e0, _, w0⟩ := DataW.trod_int Try.underlying3 g0
    obtain ⟨n1, e1, _, w1⟩ := DataW.trod_int Try.underlying3 g1
    obtain ⟨n2, e2, _, w2⟩ := DataW.trod_int Try.underlying22 g2
    obtain ⟨s3, e3, _, w3⟩ := DataW.trod_string Try.underlying9 g3
    cases e0; cases e1; cases e2; cases e3
    unfold maxLen at w3
    rcases DataW.trod_slice Try.underlying23 g4 with ⟨h4, _⟩ | ⟨a, len, cap, elems, rest, q, hq, h4, h4x, _, hl, hm, he, hx, _, _⟩
    · cases h4
      exact ⟨_, _, _, _, _, .mk n0 n1 n2 s3 [], 1, rfl, ⟨none, 0, rfl, ⟨(lo64 w0).1, (lo64 w0).2, (lo64 w1).1, (lo64 w1).2, (lou64 w2).1, (lou64 w2).2, by omega, Nat.le_refl _, by omega⟩, fun i t ht => by simp at ht⟩, ⟨by decide, fun i t ht => by simp at ht⟩⟩
    · cases h4
      unfold maxLen at hm
      have hlen64 : len ≤ 2199023255488 := by
        have hb : Try.prog.bytesOf 25 = 64 := by kernel_rfl
        have := hw4 ((elems.length + rest.length) * Try.prog.bytesOf 25) (by rw [h4x]; simp [DataW.weights, Try.underlying23])
        rw [hb, he] at this
        unfold reachBytes at this
        omega
      have helem : ∀ i (hi : i < elems.length), ∀ y ∈ (elems[i]).1.weights Try.prog 25, y ≤ reachBytes := fun i hi y hy => by
        apply hw4
        rw [h4x]
        simp only [DataW.weights, Try.underlying23, List.mem_cons, List.mem_append]
        exact .inr (.inl (mem_all (List.mem_map.2 ⟨_, List.getElem_mem hi, rfl⟩) y hy))
      clear h4x hw4
      have each : ∀ i, i < len → ∃ r : (Value × Value × Value × Value × Value) × Tv × Nat, ∃ B o, a = ⟨B, o, none⟩ ∧ At5 W B (o + i * 5) r.1.1 r.1.2.1 r.1.2.2.1 r.1.2.2.2.1 r.1.2.2.2.2 ∧ Is W r.2.2 (.agg #[r.1.1, r.1.2.1, r.1.2.2.1, r.1.2.2.2.1, r.1.2.2.2.2]) r.2.1 ∧ SmallW r.2.2 r.2.1 := by
        intro i hi
        have key := hx i hi
        rw [List.getElem?_eq_getElem (by omega)] at key
        obtain ⟨cs', k1, k2⟩ := Option.bind_eq_some_iff.1 key
        obtain ⟨d0, d1, d2, d3, d4, t, n, rfl, hi', hsm⟩ := ih q (by omega) cs' _ k2 (helem i (by omega))
        rw [cells25] at k1
        obtain ⟨_, _, hcell⟩ := World.cells?_some k1
        have p0 := hcell 0 (by simp)
        have hsp : a.spot = none := by
          have key0 := hx 0 (by omega)
          rw [List.getElem?_eq_getElem (by omega)] at key0
          obtain ⟨cs0, k10, k20⟩ := Option.bind_eq_some_iff.1 key0
          obtain ⟨f0, f1, f2, f3, f4, _, _, rfl, _, _⟩ := ih q (by omega) cs0 _ k20 (helem 0 (by omega))
          rw [cells25] at k10
          obtain ⟨_, _, hcell0⟩ := World.cells?_some k10
          have q0 := hcell0 0 (by simp)
          rw [add_add] at q0
          have := plain_addr q0
          simpa [Addr.add] using this
        obtain ⟨B, o, sp⟩ := a
        cases hsp
        have ad : ∀ r, ((⟨B, o, none⟩ : Addr).add (i * 5)).add r = ⟨B, o + i * 5 + r, none⟩ := by
          intro r
          rw [addp, addp]
        have p1 := hcell 1 (by simp)
        have p2 := hcell 2 (by simp)
        have p3 := hcell 3 (by simp)
        have p4 := hcell 4 (by simp)
        rw [ad] at p0 p1 p2 p3 p4
        exact ⟨((d0, d1, d2, d3, d4), t, n), B, o, rfl, ⟨by simpa using p0, by simpa using p1, by simpa using p2, by simpa using p3, by simpa using p4⟩, hi', hsm⟩
      have inh : Inhabited ((Value × Value × Value × Value × Value) × Tv × Nat) := ⟨(undef, undef, undef, undef, undef), .mk 0 0 0 ⟨#[]⟩ [], 0⟩
      obtain ⟨F, hF⟩ := choose_lt each
      obtain ⟨N, hN⟩ := fuel_lt (n := len) (q := fun i N => (F i).2.2 ≤ N) (fun _ _ _ h h' => Nat.le_trans h' h) (fun i _ => ⟨_, Nat.le_refl _⟩)
      refine ⟨_, _, _, _, _, .mk n0 n1 n2 s3 ((List.range len).map fun i => (F i).2.1), N + 1, rfl, ⟨some a, cap, ?_, ?_, ?_⟩, ⟨by simpa using hlen64, ?_⟩⟩
      · simp
      · exact ⟨(lo64 w0).1, (lo64 w0).2, (lo64 w1).1, (lo64 w1).2, (lou64 w2).1, (lou64 w2).2, by omega, by simpa using hl, by omega⟩
      · intro i t ht
        have hi : i < len := by have := (List.getElem?_eq_some_iff.1 ht).1; simpa using this
        rw [List.getElem?_map, List.getElem?_range hi] at ht
        cases ht
        obtain ⟨B, o, ha, h5, hI, _⟩ := hF i hi
        exact ⟨B, o, _, _, _, _, _, by rw [ha], h5, hI.up (hN i hi)⟩
      · intro i t ht
        have hi : i < len := by have := (List.getElem?_eq_some_iff.1 ht).1; simpa using this
        rw [List.getElem?_map, List.getElem?_range hi] at ht
        cases ht
        obtain ⟨B, o, ha, h5, _, hS⟩ := hF i hi
        exact hS.up (hN i hi)
/-- A timer. -/
structure Tm where
  s : ByteArray
  d : Int
/-- An update. -/
structure Up where
  s : ByteArray
  v : Tv
  g : Int
  o : Tv
/-- A state. -/
structure Sta where
  run : Int
  status : Int
  count : Int
  time : Int
  dl : Int
  fr : Int
  sig : Int
  typ : ByteArray
  inp : Tv
  pf : Int
  pc : Nat
  pm : Int
  ts : Int
  ta : Int
  td : Int
  te : Int
  tn : Int
  fresh : Bool
  cancel : Bool
  tm : List Tm
  up : List Up
  res : Tv
  rea : ByteArray
/-- A timer's two cells. -/
def Tm.cells (t : Tm) : Array Value := #[.string t.s, .int .i64 t.d]
/-- The cells of cs lie at p of block B. -/
def Lies (w : World) (B p : Nat) (cs : Array Value) : Prop := ∀ j v, cs[j]? = some v → w.cell? ⟨B, p + j, none⟩ = some v
theorem Lies.keep {w w' : World} {B p : Nat} {cs : Array Value} (h : Lies w B p cs) (hb : ∀ a v, a.block = B → w.cell? a = some v → w'.cell? a = some v) : Lies w' B p cs := fun j v hj => hb _ _ rfl (h j v hj)
theorem Lies.below {w w' : World} {B p : Nat} {cs : Array Value} (h : Lies w B p cs) (hb : Below w.heap.size w w') : Lies w' B p cs := fun j v hj => (hb.cell (World.block_lt_of_cell? w _ (h j v hj))).trans (h j v hj)
theorem Lies.row {w : World} {g : Nat} {cs : Array Value} {t : TypeId} {fr : Nat × Nat} (h : w.heap[g]? = some (.cells cs t fr)) : Lies w g 0 cs := fun j v hj => by
  rw [Nat.zero_add, cell_of_row w g j cs t fr h]
  exact hj
/-- Rows of k cells each lie one behind the other. -/
def RowS (ok : Nat → Prop) (w : World) (a : Option Addr) (k : Nat) (rows : List (Array Value)) : Prop :=
  ∀ i r, rows[i]? = some r → r.size = k ∧ (∀ (j : Nat) (v : Value), r[j]? = some v → v.oneCell' = true) ∧ ∃ B o, a = some ⟨B, o, none⟩ ∧ ok B ∧ Lies w B (o + i * k) r
theorem RowS.map {ok ok' : Nat → Prop} {w w' : World} {a : Option Addr} {k : Nat} {rows : List (Array Value)} (hok : ∀ B, B < w.heap.size → ok B → ok' B) (hc : ∀ a v, ok a.block → w.cell? a = some v → w'.cell? a = some v) (hk : 0 < k) (h : RowS ok w a k rows) : RowS ok' w' a k rows := fun i r hr => by
  obtain ⟨h1, h2, B, o, ha, hB, hl⟩ := h i r hr
  have h0 := hl 0 _ (Array.getElem?_eq_getElem (by omega))
  exact ⟨h1, h2, B, o, ha, hok B (World.block_lt_of_cell? w _ h0) hB, hl.keep fun a v e hv => hc a v (by rw [e]; exact hB) hv⟩
/-- Five cells of cs from p on are the value t. -/
def V5 (R : Value → Tv → Prop) (cs : Array Value) (p : Nat) (t : Tv) : Prop :=
  ∃ k x b s a m c, cs[p]? = some (.int .i64 k) ∧ cs[p + 1]? = some (.int .i64 x) ∧ cs[p + 2]? = some (.int .u64 b) ∧ cs[p + 3]? = some (.string s) ∧ cs[p + 4]? = some (.slice a m c) ∧ R (.agg #[.int .i64 k, .int .i64 x, .int .u64 b, .string s, .slice a m c]) t
theorem V5.map {R R' : Value → Tv → Prop} {cs : Array Value} {p : Nat} {t : Tv} (hR : ∀ v, R v t → R' v t) (h : V5 R cs p t) : V5 R' cs p t := by
  obtain ⟨k, x, b, s, a, m, c, h0, h1, h2, h3, h4, h5⟩ := h
  exact ⟨k, x, b, s, a, m, c, h0, h1, h2, h3, h4, hR _ h5⟩
/-- Twelve cells are an update. -/
structure IsU (R : Value → Tv → Prop) (us : Array Value) (u : Up) : Prop where
  size : us.size = 12
  c0 : us[0]? = some (.string u.s)
  v : V5 R us 1 u.v
  c6 : us[6]? = some (.int .i64 u.g)
  o : V5 R us 7 u.o
theorem IsU.map {R R' : Value → Tv → Prop} {us : Array Value} {u : Up} (hR : ∀ v t, R v t → R' v t) (h : IsU R us u) : IsU R' us u :=
  ⟨h.size, h.c0, h.v.map fun v => hR v _, h.c6, h.o.map fun v => hR v _⟩
/-- Thirty-one cells are a state, its lists in blocks that are ok. -/
structure IsS (ok : Nat → Prop) (R : Value → Tv → Prop) (w : World) (cs : Array Value) (s : Sta) : Prop where
  size : cs.size = 31
  c0 : cs[0]? = some (.int .i64 s.run)
  c1 : cs[1]? = some (.int .i64 s.status)
  c2 : cs[2]? = some (.int .i64 s.count)
  c3 : cs[3]? = some (.int .i64 s.time)
  c4 : cs[4]? = some (.int .i64 s.dl)
  c5 : cs[5]? = some (.int .i64 s.fr)
  c6 : cs[6]? = some (.int .i64 s.sig)
  c7 : cs[7]? = some (.string s.typ)
  inp : V5 R cs 8 s.inp
  c13 : cs[13]? = some (.int .i64 s.pf)
  c14 : cs[14]? = some (.int .u64 (s.pc : Int))
  c15 : cs[15]? = some (.int .i64 s.pm)
  c16 : cs[16]? = some (.int .i64 s.ts)
  c17 : cs[17]? = some (.int .i64 s.ta)
  c18 : cs[18]? = some (.int .i64 s.td)
  c19 : cs[19]? = some (.int .i64 s.te)
  c20 : cs[20]? = some (.int .i64 s.tn)
  c21 : cs[21]? = some (.bool s.fresh)
  c22 : cs[22]? = some (.bool s.cancel)
  tm : ∃ a c, cs[23]? = some (.slice a s.tm.length c) ∧ RowS ok w a 2 (s.tm.map Tm.cells)
  up : ∃ a c us, cs[24]? = some (.slice a s.up.length c) ∧ us.length = s.up.length ∧ RowS ok w a 12 us ∧ ∀ (i : Nat) r u, us[i]? = some r → s.up[i]? = some u → IsU R r u
  res : V5 R cs 25 s.res
  c30 : cs[30]? = some (.string s.rea)
theorem IsS.map {ok ok' : Nat → Prop} {R R' : Value → Tv → Prop} {w w' : World} {cs : Array Value} {s : Sta} (hok : ∀ B, B < w.heap.size → ok B → ok' B) (hc : ∀ a v, ok a.block → w.cell? a = some v → w'.cell? a = some v) (hR : ∀ v t, R v t → R' v t) (h : IsS ok R w cs s) : IsS ok' R' w' cs s := by
  obtain ⟨a, c, h1, h2⟩ := h.tm
  obtain ⟨ua, uc, us, g1, g2, g3, g4⟩ := h.up
  exact { size := h.size, c0 := h.c0, c1 := h.c1, c2 := h.c2, c3 := h.c3, c4 := h.c4, c5 := h.c5, c6 := h.c6, c7 := h.c7, c13 := h.c13, c14 := h.c14, c15 := h.c15, c16 := h.c16, c17 := h.c17, c18 := h.c18, c19 := h.c19, c20 := h.c20, c21 := h.c21, c22 := h.c22, c30 := h.c30, inp := h.inp.map fun v => hR v _, res := h.res.map fun v => hR v _, tm := ⟨a, c, h1, h2.map hok hc (by decide)⟩, up := ⟨ua, uc, us, g1, g2, g3.map hok hc (by decide), fun i r u hr hu => (g4 i r u hr hu).map hR⟩ }
/-- A state that is read. -/
def Rs (w : World) (n : Nat) (cs : Array Value) (s : Sta) : Prop := IsS (fun _ => True) (Is w n) w cs s
theorem Rs.below {w w' : World} {n : Nat} {cs : Array Value} {s : Sta} (h : Rs w n cs s) (hb : Below w.heap.size w w') : Rs w' n cs s :=
  IsS.map (fun _ _ h => h) (fun _ _ _ hv => (hb.cell (World.block_lt_of_cell? w _ hv)).trans hv) (fun _ _ h => h.below hb) h
theorem V5.other {R : Value → Tv → Prop} {cs ds : Array Value} {p : Nat} {t : Tv} (h : V5 R cs p t) (he : ∀ q, p ≤ q → q < p + 5 → ds[q]? = cs[q]?) : V5 R ds p t := by
  obtain ⟨k, x, b, s, a, m, c, h0, h1, h2, h3, h4, h5⟩ := h
  exact ⟨k, x, b, s, a, m, c, (he _ (by omega) (by omega)).trans h0, (he _ (by omega) (by omega)).trans h1, (he _ (by omega) (by omega)).trans h2, (he _ (by omega) (by omega)).trans h3, (he _ (by omega) (by omega)).trans h4, h5⟩
theorem row_below {W w' : World} (hb : Below W.heap.size W w') {g : Nat} {o : Obj} (h : W.heap[g]? = some o) : w'.heap[g]? = some o := by
  rw [hb.block g (by rcases Nat.lt_or_ge g W.heap.size with h2 | h2; exact h2; rw [Array.getElem?_eq_none h2] at h; cases h), h]
theorem row_cell {w : World} {g j t : Nat} {cs : Array Value} {fr : Nat × Nat} {v : Value} (h : w.heap[g]? = some (.cells cs t fr)) (hj : cs[j]? = some v) : w.cell? ⟨g, j, none⟩ = some v := by
  rw [cell_of_row w g j cs t fr h]
  exact hj
theorem all_one {cs : Array Value} (h : ∀ (j : Nat) (v : Value), cs[j]? = some v → v.oneCell' = true) : cs.all (·.oneCell') = true := by
  rw [Array.all_eq_true]
  intro i hi
  exact h i _ (Array.getElem?_eq_getElem hi)
theorem V5.one {R : Value → Tv → Prop} {cs : Array Value} {p : Nat} {t : Tv} (h : V5 R cs p t) (j : Nat) (v : Value) (h1 : p ≤ j) (h2 : j < p + 5) (hv : cs[j]? = some v) : v.oneCell' = true := by
  obtain ⟨k, x, b, s, a, m, c, g0, g1, g2, g3, g4, _⟩ := h
  have : j = p ∨ j = p + 1 ∨ j = p + 2 ∨ j = p + 3 ∨ j = p + 4 := by omega
  rcases this with rfl | rfl | rfl | rfl | rfl
  · rw [g0] at hv; cases hv; rfl
  · rw [g1] at hv; cases hv; rfl
  · rw [g2] at hv; cases hv; rfl
  · rw [g3] at hv; cases hv; rfl
  · rw [g4] at hv; cases hv; rfl
theorem IsU.one {R : Value → Tv → Prop} {us : Array Value} {u : Up} (h : IsU R us u) (j : Nat) (v : Value) (hv : us[j]? = some v) : v.oneCell' = true := by
  have hj := (Array.getElem?_eq_some_iff.1 hv).1
  rw [h.size] at hj
  have : j = 0 ∨ (1 ≤ j ∧ j < 1 + 5) ∨ j = 6 ∨ (7 ≤ j ∧ j < 7 + 5) := by omega
  rcases this with rfl | ⟨h1, h2⟩ | rfl | ⟨h1, h2⟩
  · rw [h.c0] at hv; cases hv; rfl
  · exact h.v.one j v h1 h2 hv
  · rw [h.c6] at hv; cases hv; rfl
  · exact h.o.one j v h1 h2 hv
theorem cell_blk {w w' : World} {a : Addr} {v : Value} (hb : w'.heap[a.block]? = w.heap[a.block]?) (h : w.cell? a = some v) : w'.cell? a = some v := (World.cell?_of_block (w := w) hb).trans h
theorem RowS.base {ok : Nat → Prop} {w : World} {a : Option Addr} {k : Nat} {rows : List (Array Value)} (hk : 0 < k) (h : RowS ok w a k rows) : rows = [] ∨ ∃ B o, a = some ⟨B, o, none⟩ ∧ ok B ∧ B < w.heap.size ∧ ∀ (i : Nat) r, rows[i]? = some r → Lies w B (o + i * k) r := by
  cases rows with
  | nil => exact .inl rfl
  | cons r l =>
    obtain ⟨h1, _, B, o, ha, hB, hl⟩ := h 0 r rfl
    refine .inr ⟨B, o, ha, hB, World.block_lt_of_cell? w _ (hl 0 _ (Array.getElem?_eq_getElem (by omega))), fun i r' hr => ?_⟩
    obtain ⟨_, _, B', o', ha', _, hl'⟩ := h i r' hr
    rw [ha] at ha'
    cases ha'
    exact hl'
theorem cellW {w w' : World} {a : Addr} {v : Value} (h : w.cell? a = some v) (hb : Below w.heap.size w w') : w'.cell? a = some v := (hb.cell (World.block_lt_of_cell? w a h)).trans h
theorem info33s (cs : Array Value) (h : cs.size = 31) : (Try.prog.info? 33).map (·.size) = some cs.size := by
  rw [h]
  kernel_rfl
theorem IsS.one {ok : Nat → Prop} {R : Value → Tv → Prop} {w : World} {cs : Array Value} {s : Sta} (h : IsS ok R w cs s) (j : Nat) (v : Value) (hv : cs[j]? = some v) : v.oneCell' = true := by
  have hj := (Array.getElem?_eq_some_iff.1 hv).1
  rw [h.size] at hj
  obtain ⟨ta, tc, t1, _⟩ := h.tm
  obtain ⟨ua, uc, us, u1, _⟩ := h.up
  have : (8 ≤ j ∧ j < 8 + 5) ∨ (25 ≤ j ∧ j < 25 + 5) ∨ j = 0 ∨ j = 1 ∨ j = 2 ∨ j = 3 ∨ j = 4 ∨ j = 5 ∨ j = 6 ∨ j = 7 ∨ j = 13 ∨ j = 14 ∨ j = 15 ∨ j = 16 ∨ j = 17 ∨ j = 18 ∨ j = 19 ∨ j = 20 ∨ j = 21 ∨ j = 22 ∨ j = 23 ∨ j = 24 ∨ j = 30 := by omega
  rcases this with ⟨h1, h2⟩ | ⟨h1, h2⟩ | rfl | rfl | rfl | rfl | rfl | rfl | rfl | rfl | rfl | rfl | rfl | rfl | rfl | rfl | rfl | rfl | rfl | rfl | rfl | rfl | rfl
  · exact h.inp.one j v h1 h2 hv
  · exact h.res.one j v h1 h2 hv
  · rw [h.c0] at hv; cases hv; rfl
  · rw [h.c1] at hv; cases hv; rfl
  · rw [h.c2] at hv; cases hv; rfl
  · rw [h.c3] at hv; cases hv; rfl
  · rw [h.c4] at hv; cases hv; rfl
  · rw [h.c5] at hv; cases hv; rfl
  · rw [h.c6] at hv; cases hv; rfl
  · rw [h.c7] at hv; cases hv; rfl
  · rw [h.c13] at hv; cases hv; rfl
  · rw [h.c14] at hv; cases hv; rfl
  · rw [h.c15] at hv; cases hv; rfl
  · rw [h.c16] at hv; cases hv; rfl
  · rw [h.c17] at hv; cases hv; rfl
  · rw [h.c18] at hv; cases hv; rfl
  · rw [h.c19] at hv; cases hv; rfl
  · rw [h.c20] at hv; cases hv; rfl
  · rw [h.c21] at hv; cases hv; rfl
  · rw [h.c22] at hv; cases hv; rfl
  · rw [t1] at hv; cases hv; rfl
  · rw [u1] at hv; cases hv; rfl
  · rw [h.c30] at hv; cases hv; rfl
theorem lies_range {w : World} {B p : Nat} {r : Array Value} (h : Lies w B p r) : w.rangeAt B p r.toList := fun j v hv => h j v (by simpa using hv)
theorem wpList_load_rowG {P : Program} {ops : Array Oper} {rest : List Oper} {o : Oper} {a : Act} {w : World} {Q : Exit → Act → World → Prop} (hw : Region.wanted o (yielded ops a.tmps) = true) (ty : TypeId) (x : Operand) (ho : o.op = .load ty x)
    (g : Nat) (hx : a.eval x = .pointer (some ⟨g, 0, none⟩)) (t : TypeId) (cs : Array Value) (fr : Nat × Nat) (d : TypeDesc) (hg : w.heap[g]? = some (.cells cs t fr))
    (hu : P.underlying ty = some d) (hd : (match d with | .struct _ | .array _ _ => true | _ => false) = true) (hi : (P.info? ty).map (·.size) = some cs.size)
    (h : wpList P ops Q rest (a.put o.dst (.agg cs)) w) : wpList P ops Q (o :: rest) a w :=
  wpList_step fun _ hK => by rw [if_pos hw]; exact wp_load_row ty x ho g hx t cs fr d hg hu hd hi (hK _ _ h)
/-- A state whose values are not too long. -/
structure SmS (n : Nat) (s : Sta) : Prop where
  inp : SmallW n s.inp
  res : SmallW n s.res
  up : ∀ (i : Nat) u, s.up[i]? = some u → SmallW n u.v ∧ SmallW n u.o
theorem list2 {α : Type} : ∀ {l : List α}, l.length = 2 → ∃ a b, l = [a, b]
  | [a, b], _ => ⟨a, b, rfl⟩
theorem list3 {α : Type} : ∀ {l : List α}, l.length = 3 → ∃ a b c, l = [a, b, c]
  | [a, b, c], _ => ⟨a, b, c, rfl⟩
theorem list4 {α : Type} : ∀ {l : List α}, l.length = 4 → ∃ a b c d, l = [a, b, c, d]
  | [a, b, c, d], _ => ⟨a, b, c, d, rfl⟩
theorem list12 {α : Type} : ∀ {l : List α}, l.length = 12 → ∃ a0 a1 a2 a3 a4 a5 a6 a7 a8 a9 a10 a11, l = [a0, a1, a2, a3, a4, a5, a6, a7, a8, a9, a10, a11]
  | [a0, a1, a2, a3, a4, a5, a6, a7, a8, a9, a10, a11], _ => ⟨a0, a1, a2, a3, a4, a5, a6, a7, a8, a9, a10, a11, rfl⟩
theorem list17 {α : Type} : ∀ {l : List α}, l.length = 17 → ∃ a0 a1 a2 a3 a4 a5 a6 a7 a8 a9 a10 a11 a12 a13 a14 a15 a16, l = [a0, a1, a2, a3, a4, a5, a6, a7, a8, a9, a10, a11, a12, a13, a14, a15, a16]
  | [a0, a1, a2, a3, a4, a5, a6, a7, a8, a9, a10, a11, a12, a13, a14, a15, a16], _ => ⟨a0, a1, a2, a3, a4, a5, a6, a7, a8, a9, a10, a11, a12, a13, a14, a15, a16, rfl⟩
theorem list31 {α : Type} : ∀ {l : List α}, l.length = 31 → ∃ a0 a1 a2 a3 a4 a5 a6 a7 a8 a9 a10 a11 a12 a13 a14 a15 a16 a17 a18 a19 a20 a21 a22 a23 a24 a25 a26 a27 a28 a29 a30, l = [a0, a1, a2, a3, a4, a5, a6, a7, a8, a9, a10, a11, a12, a13, a14, a15, a16, a17, a18, a19, a20, a21, a22, a23, a24, a25, a26, a27, a28, a29, a30]
  | [a0, a1, a2, a3, a4, a5, a6, a7, a8, a9, a10, a11, a12, a13, a14, a15, a16, a17, a18, a19, a20, a21, a22, a23, a24, a25, a26, a27, a28, a29, a30], _ => ⟨a0, a1, a2, a3, a4, a5, a6, a7, a8, a9, a10, a11, a12, a13, a14, a15, a16, a17, a18, a19, a20, a21, a22, a23, a24, a25, a26, a27, a28, a29, a30, rfl⟩
theorem cells38 : Try.prog.cellsOf 49 = 2 := by kernel_rfl
theorem cells40 : Try.prog.cellsOf 65 = 12 := by kernel_rfl
theorem cells27 : Try.prog.cellsOf 27 = 3 := by kernel_rfl
theorem cells29 : Try.prog.cellsOf 29 = 5 := by kernel_rfl
theorem cells33 : Try.prog.cellsOf 33 = 31 := by kernel_rfl
/-- A slice of structs that came in: rows of cells, each read by itself. -/
theorem open_rows {H : Type} {enc : TypeId × Value → H} {W : World} {base : Nat} {spare : Nat → Bool} {held : Bool} {sl el : TypeId} {k : Nat} (hs : Try.prog.underlying sl = some (.slice el)) (hc : Try.prog.cellsOf el = k) (hk : 0 < k) (fuel : Nat) (cs : List Value) (x : DataW H × List MemPlace)
    (h : DataW.trod enc Try.prog W base spare held fuel sl cs = some x) (hwt : ∀ y ∈ x.1.weights Try.prog sl, y ≤ reachBytes) :
    ∃ (a : Option Addr) (cap q : Nat) (rows : List (List Value)), cs = [.slice a rows.length cap] ∧ rows.length ≤ 9223372036854775807 ∧ ∀ (i : Nat) r, rows[i]? = some r → r.length = k ∧ (∃ B o, a = some ⟨B, o, none⟩ ∧ ∀ (j : Nat) v, r[j]? = some v → W.cell? ⟨B, o + i * k + j, none⟩ = some v) ∧
      ∃ y, DataW.trod enc Try.prog W base spare held q el r = some y ∧ ∀ z ∈ y.1.weights Try.prog el, z ≤ reachBytes := by
  rcases DataW.trod_slice hs h with ⟨h4, _⟩ | ⟨a, len, cap, elems, rest, q, hq, h4, h4x, _, hl, hm, he, hx, _, _⟩
  · exact ⟨none, 0, 0, [], by rw [h4]; rfl, by simp, fun i r hr => by simp at hr⟩
  · unfold maxLen at hm
    have helem : ∀ i (hi : i < elems.length), ∀ y ∈ (elems[i]).1.weights Try.prog el, y ≤ reachBytes := fun i hi y hy => by
      apply hwt
      rw [h4x]
      simp only [DataW.weights, hs, List.mem_cons, List.mem_append]
      exact .inr (.inl (mem_all (List.mem_map.2 ⟨_, List.getElem_mem hi, rfl⟩) y hy))
    have each : ∀ i, i < len → ∃ r : List Value, r.length = k ∧ (∃ B o, a = ⟨B, o, none⟩ ∧ ∀ (j : Nat) v, r[j]? = some v → W.cell? ⟨B, o + i * k + j, none⟩ = some v) ∧ ∃ y, DataW.trod enc Try.prog W base spare held q el r = some y ∧ ∀ z ∈ y.1.weights Try.prog el, z ≤ reachBytes := by
      intro i hi
      have key := hx i hi
      rw [List.getElem?_eq_getElem (by omega)] at key
      obtain ⟨cs', k1, k2⟩ := Option.bind_eq_some_iff.1 key
      rw [hc] at k1
      obtain ⟨hl1, hl2, hcell⟩ := World.cells?_some k1
      have hlen : cs'.length = k := by first | exact hl1 | exact hl2
      have hsp : a.spot = none := by
        have key0 := hx 0 (by omega)
        rw [List.getElem?_eq_getElem (by omega)] at key0
        obtain ⟨cs0, k10, _⟩ := Option.bind_eq_some_iff.1 key0
        rw [hc] at k10
        obtain ⟨g1, g2, hcell0⟩ := World.cells?_some k10
        have hl0 : cs0.length = k := by first | exact g1 | exact g2
        have q0 := hcell0 0 (by omega)
        rw [List.getElem?_eq_getElem (by omega)] at q0
        have := plain_addr q0
        simpa [Addr.add] using this
      obtain ⟨B, o, sp⟩ := a
      cases hsp
      refine ⟨cs', hlen, ⟨B, o, rfl, fun j v hj => ?_⟩, _, k2, helem i (by omega)⟩
      have hjl := (List.getElem?_eq_some_iff.1 hj).1
      have := hcell j (by omega)
      rw [addp, addp] at this
      rw [this]
      simpa using hj
    have inh : Inhabited (List Value) := ⟨[]⟩
    obtain ⟨F, hF⟩ := choose_lt each
    refine ⟨some a, cap, q, (List.range len).map F, by rw [h4]; simp, by simp; omega, fun i r hr => ?_⟩
    have hi : i < len := by have := (List.getElem?_eq_some_iff.1 hr).1; simpa using this
    rw [List.getElem?_map, List.getElem?_range hi] at hr
    cases hr
    obtain ⟨h1, ⟨B, o, h2, h3⟩, h5⟩ := hF i hi
    exact ⟨h1, ⟨B, o, by rw [h2], h3⟩, h5⟩
set_option maxRecDepth 100000 in
theorem open_tm {H : Type} {enc : TypeId × Value → H} {W : World} {base : Nat} {spare : Nat → Bool} {held : Bool} (fuel : Nat) (cs : List Value) (x : DataW H × List MemPlace) (h : DataW.trod enc Try.prog W base spare held fuel 49 cs = some x) :
    ∃ t : Tm, cs = [.string t.s, .int .i64 t.d] ∧ -9223372036854775808 ≤ t.d ∧ t.d ≤ 9223372036854775807 := by
  obtain ⟨xs, k, hk, hxy, hlen, hxl, hf⟩ := DataW.trod_struct Try.underlying49 h
  rw [cells38] at hlen
  obtain ⟨c0, c1, rfl⟩ := list2 hlen
  obtain ⟨y0, y1, rfl⟩ := list2 (l := xs) hxl
  have g0 := hf 0 _ rfl
  have g1 := hf 1 _ rfl
  clear hf hxl hlen hxy h
  simp only [List.getElem?_cons_zero, List.getElem?_cons_succ] at g0 g1
  obtain ⟨n0, e0, _, w0⟩ := DataW.trod_string Try.underlying9 g0
  obtain ⟨n1, e1, _, w1⟩ := DataW.trod_int Try.underlying3 g1
  cases e0; cases e1
  exact ⟨⟨n0, n1⟩, rfl, lo64 w1⟩
set_option maxRecDepth 100000 in
theorem open_po {H : Type} {enc : TypeId × Value → H} {W : World} {base : Nat} {spare : Nat → Bool} {held : Bool} (fuel : Nat) (cs : List Value) (x : DataW H × List MemPlace) (h : DataW.trod enc Try.prog W base spare held fuel 27 cs = some x) :
    ∃ (f : Int) (c : Nat) (m : Int), cs = [.int .i64 f, .int .u64 (c : Int), .int .i64 m] ∧ c < 18446744073709551616 := by
  obtain ⟨xs, k, hk, hxy, hlen, hxl, hf⟩ := DataW.trod_struct Try.underlying27 h
  rw [cells27] at hlen
  obtain ⟨c0, c1, c2, rfl⟩ := list3 hlen
  obtain ⟨y0, y1, y2, rfl⟩ := list3 (l := xs) hxl
  have g0 := hf 0 _ rfl
  have g1 := hf 1 _ rfl
  have g2 := hf 2 _ rfl
  clear hf hxl hlen hxy h
  simp only [List.getElem?_cons_zero, List.getElem?_cons_succ] at g0 g1 g2
  obtain ⟨n0, e0, _, w0⟩ := DataW.trod_int Try.underlying3 g0
  obtain ⟨n1, e1, _, w1⟩ := DataW.trod_int Try.underlying22 g1
  obtain ⟨n2, e2, _, w2⟩ := DataW.trod_int Try.underlying3 g2
  cases e0; cases e1; cases e2
  have g1 := lou64 w1
  refine ⟨n0, n1.toNat, n2, ?_, by omega⟩
  rw [Int.toNat_of_nonneg g1.1]
set_option maxRecDepth 100000 in
theorem open_task {H : Type} {enc : TypeId × Value → H} {W : World} {base : Nat} {spare : Nat → Bool} {held : Bool} (fuel : Nat) (cs : List Value) (x : DataW H × List MemPlace) (h : DataW.trod enc Try.prog W base spare held fuel 29 cs = some x) :
    ∃ a b c d e : Int, cs = [.int .i64 a, .int .i64 b, .int .i64 c, .int .i64 d, .int .i64 e] := by
  obtain ⟨xs, k, hk, hxy, hlen, hxl, hf⟩ := DataW.trod_struct Try.underlying29 h
  rw [cells29] at hlen
  obtain ⟨c0, c1, c2, c3, c4, rfl⟩ := list5 hlen
  obtain ⟨y0, y1, y2, y3, y4, rfl⟩ := list5 (l := xs) hxl
  have g0 := hf 0 _ rfl
  have g1 := hf 1 _ rfl
  have g2 := hf 2 _ rfl
  have g3 := hf 3 _ rfl
  have g4 := hf 4 _ rfl
  clear hf hxl hlen hxy h
  simp only [List.getElem?_cons_zero, List.getElem?_cons_succ] at g0 g1 g2 g3 g4
  obtain ⟨n0, e0, _, _⟩ := DataW.trod_int Try.underlying3 g0
  obtain ⟨n1, e1, _, _⟩ := DataW.trod_int Try.underlying3 g1
  obtain ⟨n2, e2, _, _⟩ := DataW.trod_int Try.underlying3 g2
  obtain ⟨n3, e3, _, _⟩ := DataW.trod_int Try.underlying3 g3
  obtain ⟨n4, e4, _, _⟩ := DataW.trod_int Try.underlying3 g4
  cases e0; cases e1; cases e2; cases e3; cases e4
  exact ⟨_, _, _, _, _, rfl⟩
theorem isV5 {W : World} {n : Nat} {v0 v1 v2 v3 v4 : Value} {t : Tv} (h : Is W n (.agg #[v0, v1, v2, v3, v4]) t) {cs : Array Value} {p : Nat} (h0 : cs[p]? = some v0) (h1 : cs[p + 1]? = some v1) (h2 : cs[p + 2]? = some v2) (h3 : cs[p + 3]? = some v3) (h4 : cs[p + 4]? = some v4) : V5 (Is W n) cs p t := by
  obtain ⟨k, x, b, s, a, m, c, rfl, rfl, rfl, rfl, rfl⟩ := h.shape
  exact ⟨k, x, b, s, a, m, c, h0, h1, h2, h3, h4, h⟩
set_option maxRecDepth 100000 in
theorem open_up {H : Type} {enc : TypeId × Value → H} {W : World} {base : Nat} {spare : Nat → Bool} {held : Bool} (fuel : Nat) (cs : List Value) (x : DataW H × List MemPlace) (h : DataW.trod enc Try.prog W base spare held fuel 65 cs = some x) (hwt : ∀ y ∈ x.1.weights Try.prog 65, y ≤ reachBytes) :
    ∃ (u : Up) (n : Nat), IsU (Is W n) cs.toArray u ∧ SmallW n u.v ∧ SmallW n u.o := by
  obtain ⟨xs, q, hk, hxy, hlen, hxl, hf⟩ := DataW.trod_struct Try.underlying65 h
  rw [cells40] at hlen
  obtain ⟨a0, a1, a2, a3, a4, a5, a6, a7, a8, a9, a10, a11, rfl⟩ := list12 hlen
  obtain ⟨y0, y1, y2, y3, rfl⟩ := list4 (l := xs) hxl
  have hw1 : ∀ y ∈ y1.1.weights Try.prog 25, y ≤ reachBytes := fun y hy => by
    apply hwt
    rw [hxy]
    simp only [DataW.weights, Try.underlying65]
    exact DataW.weights_mem_each (j := 1) rfl rfl y hy
  have hw3 : ∀ y ∈ y3.1.weights Try.prog 25, y ≤ reachBytes := fun y hy => by
    apply hwt
    rw [hxy]
    simp only [DataW.weights, Try.underlying65]
    exact DataW.weights_mem_each (j := 3) rfl rfl y hy
  clear hwt
  have g0 := hf 0 _ rfl
  have g1 := hf 1 _ rfl
  have g2 := hf 2 _ rfl
  have g3 := hf 3 _ rfl
  clear hf hxl hlen hxy h
  simp only [List.getElem?_cons_zero, List.getElem?_cons_succ] at g0 g1 g2 g3
  obtain ⟨s0, p0, _, _⟩ := DataW.trod_string Try.underlying9 g0
  obtain ⟨v0, v1, v2, v3, v4, t1, m1, p1, i1, sm1⟩ := open_valW q _ _ g1 hw1
  obtain ⟨n2, p2, _, _⟩ := DataW.trod_int Try.underlying3 g2
  obtain ⟨o0, o1, o2, o3, o4, t3, m3, p3, i3, sm3⟩ := open_valW q _ _ g3 hw3
  cases p0; cases p1; cases p2; cases p3
  refine ⟨⟨s0, t1, n2, t3⟩, m1 + m3, ⟨rfl, rfl, isV5 (i1.up (by omega)) rfl rfl rfl rfl rfl, rfl, isV5 (i3.up (by omega)) rfl rfl rfl rfl rfl⟩, sm1.up (by omega), sm3.up (by omega)⟩
set_option maxRecDepth 100000 in
theorem open_sta {H : Type} {enc : TypeId × Value → H} {W : World} {base : Nat} {spare : Nat → Bool} {held : Bool} (fuel : Nat) (cs : List Value) (x : DataW H × List MemPlace) (h : DataW.trod enc Try.prog W base spare held fuel 33 cs = some x) (hwt : ∀ y ∈ x.1.weights Try.prog 33, y ≤ reachBytes) :
    ∃ (s : Sta) (n : Nat), Rs W n cs.toArray s ∧ SmS n s ∧ s.pc < 18446744073709551616 := by
  obtain ⟨xs, q, hk, hxy, hlen, hxl, hf⟩ := DataW.trod_struct Try.underlying33 h
  rw [cells33] at hlen
  obtain ⟨a0, a1, a2, a3, a4, a5, a6, a7, a8, a9, a10, a11, a12, a13, a14, a15, a16, a17, a18, a19, a20, a21, a22, a23, a24, a25, a26, a27, a28, a29, a30, rfl⟩ := list31 hlen
  obtain ⟨y0, y1, y2, y3, y4, y5, y6, y7, y8, y9, y10, y11, y12, y13, y14, y15, y16, rfl⟩ := list17 (l := xs) hxl
  have hw8 : ∀ y ∈ y8.1.weights Try.prog 25, y ≤ reachBytes := fun y hy => by
    apply hwt
    rw [hxy]
    simp only [DataW.weights, Try.underlying33]
    exact DataW.weights_mem_each (j := 8) rfl rfl y hy
  have hw13 : ∀ y ∈ y13.1.weights Try.prog 30, y ≤ reachBytes := fun y hy => by
    apply hwt
    rw [hxy]
    simp only [DataW.weights, Try.underlying33]
    exact DataW.weights_mem_each (j := 13) rfl rfl y hy
  have hw14 : ∀ y ∈ y14.1.weights Try.prog 31, y ≤ reachBytes := fun y hy => by
    apply hwt
    rw [hxy]
    simp only [DataW.weights, Try.underlying33]
    exact DataW.weights_mem_each (j := 14) rfl rfl y hy
  have hw15 : ∀ y ∈ y15.1.weights Try.prog 25, y ≤ reachBytes := fun y hy => by
    apply hwt
    rw [hxy]
    simp only [DataW.weights, Try.underlying33]
    exact DataW.weights_mem_each (j := 15) rfl rfl y hy
  clear hwt
  have g0 := hf 0 _ rfl
  have g1 := hf 1 _ rfl
  have g2 := hf 2 _ rfl
  have g3 := hf 3 _ rfl
  have g4 := hf 4 _ rfl
  have g5 := hf 5 _ rfl
  have g6 := hf 6 _ rfl
  have g7 := hf 7 _ rfl
  have g8 := hf 8 _ rfl
  have g9 := hf 9 _ rfl
  have g10 := hf 10 _ rfl
  have g11 := hf 11 _ rfl
  have g12 := hf 12 _ rfl
  have g13 := hf 13 _ rfl
  have g14 := hf 14 _ rfl
  have g15 := hf 15 _ rfl
  have g16 := hf 16 _ rfl
  clear hf hxl hlen hxy h
  simp only [List.getElem?_cons_zero, List.getElem?_cons_succ] at g0 g1 g2 g3 g4 g5 g6 g7 g8 g9 g10 g11 g12 g13 g14 g15 g16
  obtain ⟨n0, p0, _, _⟩ := DataW.trod_int Try.underlying3 g0
  obtain ⟨n1, p1, _, _⟩ := DataW.trod_int Try.underlying3 g1
  obtain ⟨n2, p2, _, _⟩ := DataW.trod_int Try.underlying3 g2
  obtain ⟨n3, p3, _, _⟩ := DataW.trod_int Try.underlying3 g3
  obtain ⟨n4, p4, _, _⟩ := DataW.trod_int Try.underlying3 g4
  obtain ⟨n5, p5, _, _⟩ := DataW.trod_int Try.underlying3 g5
  obtain ⟨n6, p6, _, _⟩ := DataW.trod_int Try.underlying3 g6
  obtain ⟨s7, p7, _, _⟩ := DataW.trod_string Try.underlying9 g7
  obtain ⟨v0, v1, v2, v3, v4, t8, m8, p8, i8, sm8⟩ := open_valW q _ _ g8 hw8
  obtain ⟨f9, c9, m9, p9, q9⟩ := open_po q _ _ g9
  obtain ⟨k0, k1, k2, k3, k4, p10⟩ := open_task q _ _ g10
  obtain ⟨b11, p11, _⟩ := DataW.trod_bool Try.underlying4 g11
  obtain ⟨b12, p12, _⟩ := DataW.trod_bool Try.underlying4 g12
  obtain ⟨ta, tc, tq, trows, p13, _, ht⟩ := open_rows Try.underlying30 cells38 (by decide) q _ _ g13 hw13
  obtain ⟨ua, uc, uq, urows, p14, _, hu⟩ := open_rows Try.underlying31 cells40 (by decide) q _ _ g14 hw14
  obtain ⟨o0, o1, o2, o3, o4, t15, m15, p15, i15, sm15⟩ := open_valW q _ _ g15 hw15
  obtain ⟨s16, p16, _, _⟩ := DataW.trod_string Try.underlying9 g16
  cases p0; cases p1; cases p2; cases p3; cases p4; cases p5; cases p6; cases p7; cases p8; cases p9; cases p10; cases p11; cases p12; cases p13; cases p14; cases p15; cases p16
  have inh1 : Inhabited Tm := ⟨⟨⟨#[]⟩, 0⟩⟩
  have inh2 : Inhabited (Up × Nat) := ⟨⟨⟨#[]⟩, t8, 0, t8⟩, 0⟩
  have et : ∀ i, i < trows.length → ∃ t : Tm, trows[i]? = some [.string t.s, .int .i64 t.d] := fun i hi => by
    obtain ⟨_, _, y, hy, _⟩ := ht i _ (List.getElem?_eq_getElem hi)
    obtain ⟨t, e, _⟩ := open_tm _ _ _ hy
    exact ⟨t, by rw [List.getElem?_eq_getElem hi, e]⟩
  have eu : ∀ i, i < urows.length → ∃ u : Up × Nat, ∃ r, urows[i]? = some r ∧ IsU (Is W u.2) r.toArray u.1 ∧ SmallW u.2 u.1.v ∧ SmallW u.2 u.1.o := fun i hi => by
    obtain ⟨_, _, y, hy, hz⟩ := hu i _ (List.getElem?_eq_getElem hi)
    obtain ⟨u, n, e⟩ := open_up _ _ _ hy hz
    exact ⟨(u, n), _, List.getElem?_eq_getElem hi, e⟩
  obtain ⟨FT, hFT⟩ := choose_lt et
  obtain ⟨FU, hFU⟩ := choose_lt eu
  obtain ⟨N, hN⟩ := fuel_lt (n := urows.length) (q := fun i N => (FU i).2 ≤ N) (fun _ _ _ h h' => Nat.le_trans h' h) (fun i _ => ⟨_, Nat.le_refl _⟩)
  have hup : ∀ (i : Nat) u, ((List.range urows.length).map fun i => (FU i).1)[i]? = some u → i < urows.length ∧ u = (FU i).1 := fun i u h => by
    have hi : i < urows.length := by have := (List.getElem?_eq_some_iff.1 h).1; simpa using this
    rw [List.getElem?_map, List.getElem?_range hi] at h
    cases h
    exact ⟨hi, rfl⟩
  refine ⟨⟨n0, n1, n2, n3, n4, n5, n6, s7, t8, f9, c9, m9, k0, k1, k2, k3, k4, b11, b12, (List.range trows.length).map FT, (List.range urows.length).map fun i => (FU i).1, t15, s16⟩, m8 + m15 + N, ?_, ⟨sm8.up (by omega), sm15.up (by omega), fun i u h => ?_⟩, q9⟩
  · refine { size := rfl, c0 := rfl, c1 := rfl, c2 := rfl, c3 := rfl, c4 := rfl, c5 := rfl, c6 := rfl, c7 := rfl, c13 := rfl, c14 := rfl, c15 := rfl, c16 := rfl, c17 := rfl, c18 := rfl, c19 := rfl, c20 := rfl, c21 := rfl, c22 := rfl, c30 := rfl, inp := isV5 (i8.up (by omega)) rfl rfl rfl rfl rfl, res := isV5 (i15.up (by omega)) rfl rfl rfl rfl rfl, tm := ⟨ta, tc, by simp, fun i r hr => ?_⟩, up := ⟨ua, uc, urows.map List.toArray, by simp, by simp, fun i r hr => ?_, fun i r u hr h => ?_⟩ }
    · have hi : i < trows.length := by have := (List.getElem?_eq_some_iff.1 hr).1; simpa using this
      rw [List.getElem?_map, List.getElem?_map, List.getElem?_range hi] at hr
      cases hr
      obtain ⟨_, ⟨B, o, h2, h3⟩, _⟩ := ht i _ (hFT i hi)
      refine ⟨rfl, fun j v hj => ?_, B, o, h2, trivial, fun j v hj => h3 j v (by simpa [Tm.cells] using hj)⟩
      have hj2 : [Value.string (FT i).s, .int .i64 (FT i).d][j]? = some v := by simpa [Tm.cells] using hj
      have hm := List.mem_of_getElem? hj2
      simp only [List.mem_cons, List.not_mem_nil, or_false] at hm
      rcases hm with rfl | rfl <;> rfl
    · have hi : i < urows.length := by have := (List.getElem?_eq_some_iff.1 hr).1; simpa using this
      obtain ⟨r', hr', e⟩ := hFU i hi
      rw [List.getElem?_map, hr'] at hr
      cases hr
      obtain ⟨h1, ⟨B, o, h2, h3⟩, _⟩ := hu i _ hr'
      exact ⟨by simpa using h1, e.1.one, B, o, h2, trivial, fun j v hj => h3 j v (by simpa using hj)⟩
    · obtain ⟨hi, rfl⟩ := hup i u h
      obtain ⟨r', hr', e⟩ := hFU i hi
      rw [List.getElem?_map, hr'] at hr
      cases hr
      exact e.1.map fun v t hv => hv.up (by have := hN i hi; omega)
  · obtain ⟨hi, rfl⟩ := hup i u h
    obtain ⟨r', hr', e⟩ := hFU i hi
    exact ⟨e.2.1.up (by have := hN i hi; omega), e.2.2.up (by have := hN i hi; omega)⟩
end Go.Proofs.Ytmcbgfcpalfcjaa
