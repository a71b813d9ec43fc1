/- The contracts of event.Clone and of change by a start. -/
import Derived.Test.YtcdhlklmnnmpoaaGreatSS
namespace Go.Proofs.YtcdhlklmnnmpoaaGreat
open Go.ChangeShapes Go.WideShapes Go.ChangeAt Go.RowKit
def zEv : Array Value := #[.int .i64 0, .int .i64 0, .int .i64 0, .int .i64 0, .string ⟨#[]⟩, .int .i64 0, .int .i64 0, .int .u64 0, .string ⟨#[]⟩, .slice none 0 0, .int .i64 0, .int .u64 0, .int .i64 0]
def EcP (n : Nat) (w : World) (x : Ev) (e : Ending) (w' : World) : Prop := (∃ es', e = .returned (.agg es') ∧ IsEv (IsP (Free w.heap.size w') w' n) es' x) ∧ Below w.heap.size w w'
theorem put5_ev {R R' : Value → Tv → Prop} {es : Array Value} {e : Ev} {k1 x1 b1 : Int} {s1 : ByteArray} {a1 : Option Addr} {m1 c1 : Nat} (h : IsEv R es e) (hv : R' (.agg #[.int .i64 k1, .int .i64 x1, .int .u64 b1, .string s1, .slice a1 m1 c1]) e.v) : IsEv R' (put5 es 5 (.int .i64 k1) (.int .i64 x1) (.int .u64 b1) (.string s1) (.slice a1 m1 c1)) e := by
  have o : ∀ q, (q < 5 ∨ 5 + 5 ≤ q) → (put5 es 5 (.int .i64 k1) (.int .i64 x1) (.int .u64 b1) (.string s1) (.slice a1 m1 c1))[q]? = es[q]? := fun q hq => put5_other _ _ _ _ _ _ _ _ hq
  exact { size := by rw [put5_size, h.size], c0 := (o 0 (by omega)).trans h.c0, c1 := (o 1 (by omega)).trans h.c1, c2 := (o 2 (by omega)).trans h.c2, c3 := (o 3 (by omega)).trans h.c3, c4 := (o 4 (by omega)).trans h.c4, v := put5_v5 (by rw [h.size]; omega) hv, c10 := (o 10 (by omega)).trans h.c10, c11 := (o 11 (by omega)).trans h.c11, c12 := (o 12 (by omega)).trans h.c12 }
set_option maxHeartbeats 4000000 in
set_option maxRecDepth 100000 in
theorem evcloneA (n : Nat) (es : Array Value) (x : Ev) (w : World) (h : IsEv (Is w n) es x) (hm : SmallW n x.v) : Calls Tryz.prog 71 #[.agg es] w (EcP n w x) := by
  obtain ⟨k, x0, b, s, a, m, c, i1, i2, i3, i4, i5, iv⟩ := h.v
  have CV : Hid (∀ W, Below w.heap.size w W → _) := fun W hB => cloneW n _ _ W (iv.below hB) hm
  have H : Hid (IsEv (Is w n) es x) := h
  have HQ : Hid (∀ e w', (∃ es', e = .returned (.agg es') ∧ IsEv (IsP (Free w.heap.size w') w' n) es' x) → Below w.heap.size w w' → EcP n w x e w') := fun e w' a b => ⟨a, b⟩
  clear iv h hm
  generalize EcP n w x = Q at HQ ⊢
  go_enter Tryz.func71, Tryz.ntmps71
  go_wp2_with fail
  refine (CV.out _ (bel2 (bel1 _ _) (bel1 _ _))).mono ?_
  rintro e w1 ⟨⟨v1, rfl, hn1⟩, hb1⟩
  obtain ⟨k1, x1, b1, s1, a1, m1, c1, rfl⟩ := hn1.shape
  have HB : Hid (Below w.heap.size w w1) := bel2 (bel2 (bel1 _ _) (bel1 _ _)) hb1
  have hg : w1.heap[w.heap.size]? = some (.cells es 54 (0, 0)) := row_below hb1 (heap_alloc2_old _ _ _)
  have hz : w1.heap[w.heap.size + 1]? = some (.cells zEv 54 (0, 0)) := row_below hb1 (heap_alloc2_new _ _ _)
  have hs : w.heap.size + 2 ≤ w1.heap.size := by have := hb1.size; simpa using this
  have HN : Hid (IsM (w.heap.size + 2) w1 n _ x.v) := hn1.lower (by simp)
  have y5 : w1.cell? ⟨w.heap.size, 5, none⟩ = some (.int .i64 k) := row_cell hg i1
  have y6 : w1.cell? ⟨w.heap.size, 6, none⟩ = some (.int .i64 x0) := row_cell hg i2
  have y7 : w1.cell? ⟨w.heap.size, 7, none⟩ = some (.int .u64 b) := row_cell hg i3
  have y8 : w1.cell? ⟨w.heap.size, 8, none⟩ = some (.string s) := row_cell hg i4
  have y9 : w1.cell? ⟨w.heap.size, 9, none⟩ = some (.slice a m c) := row_cell hg i5
  have yf : ∀ o, w1.frozen? ⟨w.heap.size, o, none⟩ = false := fun o => frozen_of_row w1 _ o _ 54 hg
  have k5 := set5_kb w1 w.heap.size 5 (.int .i64 k1) (.int .i64 x1) (.int .u64 b1) (.string s1) (.slice a1 m1 c1)
  have R3 : (set5 w1 w.heap.size 5 (.int .i64 k1) (.int .i64 x1) (.int .u64 b1) (.string s1) (.slice a1 m1 c1)).heap[w.heap.size]? = some (.cells (put5 es 5 (.int .i64 k1) (.int .i64 x1) (.int .u64 b1) (.string s1) (.slice a1 m1 c1)) 54 (0, 0)) := set5_row hg (.int .i64 k1) (.int .i64 x1) (.int .u64 b1) (.string s1) (.slice a1 m1 c1)
  have Z3 := row_kb hz k5 (by omega)
  have B3 : Hid (Below w.heap.size w (set5 w1 w.heap.size 5 (.int .i64 k1) (.int .i64 x1) (.int .u64 b1) (.string s1) (.slice a1 m1 c1))) := HB.out.trans (k5.below (Nat.le_refl _) (by omega))
  have U3 : Hid (IsEv (IsM (w.heap.size + 2) (set5 w1 w.heap.size 5 (.int .i64 k1) (.int .i64 x1) (.int .u64 b1) (.string s1) (.slice a1 m1 c1)) n) (put5 es 5 (.int .i64 k1) (.int .i64 x1) (.int .u64 b1) (.string s1) (.slice a1 m1 c1)) x) := put5_ev H.out (HN.out.kb k5 (lt2 _))
  have hu := info46s _ U3.out.size
  have ho : zEv.size = (put5 es 5 (.int .i64 k1) (.int .i64 x1) (.int .u64 b1) (.string s1) (.slice a1 m1 c1)).size := U3.out.size.symm
  have h1 := all_one U3.out.one
  clear hb1 hn1 CV hg hz k5 i1 i2 i3 i4 i5
  go_upto_region 2 with fail
  change Code.wp _ _ _ _ (set5 w1 w.heap.size 5 (.int .i64 k1) (.int .i64 x1) (.int .u64 b1) (.string s1) (.slice a1 m1 c1))
  generalize put5 es 5 (.int .i64 k1) (.int .i64 x1) (.int .u64 b1) (.string s1) (.slice a1 m1 c1) = es' at R3 U3 hu ho h1
  generalize set5 w1 w.heap.size 5 (.int .i64 k1) (.int .i64 x1) (.int .u64 b1) (.string s1) (.slice a1 m1 c1) = W3 at R3 Z3 B3 U3 ⊢
  clear y5 y6 y7 y8 y9 yf
  go_wp2_with (first
      | refine wpList_load_row rfl 54 _ rfl w.heap.size rfl 54 es' (0, 0) _ R3 Tryz.underlying54 rfl hu ?_
      | refine wpList_store_row rfl 54 _ _ rfl (w.heap.size + 1) es' rfl rfl 54 zEv Z3 hu ho h1 ?_)
  have k6 := setRow_kb W3 (w.heap.size + 1) es'
  refine bodyPost_ret (results_cell_row Tryz.results71 _ _ (w.heap.size + 1) 54 es' (0, 0) _ rfl (setRow_heap W3 (w.heap.size + 1) zEv es' 54 (0, 0) Z3) Tryz.underlying54 rfl hu) rfl (HQ.out _ _ ⟨es', rfl, ?_⟩ ?_)
  · exact U3.out.map fun v t h => ((h.kb k6 (by omega)).lower (by omega)).isP
  · exact below_setRow B3.out (Nat.le_succ _) es'
theorem kdrew {g : Nat} {w w' : World} (h : KB g w w') : KB g w w'.drew := ⟨h.1, h.2.1, h.2.2.1, h.2.2.2.1, h.2.2.2.2⟩
theorem set_one {cs : Array Value} (h : ∀ (j : Nat) (v : Value), cs[j]? = some v → v.oneCell' = true) (p : Nat) (u : Value) (hu : u.oneCell' = true) (j : Nat) (v : Value) (hv : (cs.setIfInBounds p u)[j]? = some v) : v.oneCell' = true := by
  rw [Array.getElem?_setIfInBounds] at hv
  split at hv
  · split at hv
    · cases hv; exact hu
    · cases hv
  · exact h j v hv
/-- A state's block of which Status and Count are known. -/
structure ChS (W : World) (B : Nat) (cs : Array Value) : Prop where
  row : W.heap[B]? = some (.cells cs 41 (0, 0))
  size : cs.size = 31
  one : ∀ (j : Nat) (v : Value), cs[j]? = some v → v.oneCell' = true
  c1 : cs[1]? = some (.int .i64 1)
  c2 : cs[2]? = some (.int .i64 1)
theorem ChS.set {W : World} {B : Nat} {cs : Array Value} (h : ChS W B cs) (p : Nat) (u : Value) (h1 : p ≠ 1) (h2 : p ≠ 2) (hu : u.oneCell' = true) : ChS (W.setCell ⟨B, p, none⟩ u) B (cs.setIfInBounds p u) :=
  ⟨heap_setCell_same W B p cs 41 u h.row, by simp [h.size], set_one h.one p u hu, by rw [Array.getElem?_setIfInBounds_ne h1]; exact h.c1, by rw [Array.getElem?_setIfInBounds_ne h2]; exact h.c2⟩
theorem ChS.drew {W : World} {B : Nat} {cs : Array Value} (h : ChS W B cs) : ChS W.drew B cs := ⟨h.row, h.size, h.one, h.c1, h.c2⟩
set_option maxHeartbeats 1000000 in
set_option maxRecDepth 100000 in
theorem change1 (n : Nat) (B : Nat) (cs es : Array Value) (s : Sta) (x : Ev) (w : World) (hg : w.heap[B]? = some (.cells cs 41 (0, 0))) (h : Rs w n cs s) (he : IsEv (Is w n) es x) (hk : x.k = 1) (hc : s.count = 0) :
    Calls Tryz.prog 70 #[.pointer (some ⟨B, 0, none⟩), .agg es] w fun e w' => e = .returned (.tuple #[]) ∧ KB B w w' ∧ ∃ cs', w'.heap[B]? = some (.cells cs' 41 (0, 0)) ∧ cs'.size = 31 ∧ (∀ (j : Nat) (v : Value), cs'[j]? = some v → v.oneCell' = true) ∧ cs'[1]? = some (.int .i64 1) ∧ cs'[2]? = some (.int .i64 1) := by
  obtain ⟨k, x0, b, st, a, m, c, i1, i2, i3, i4, i5, iv⟩ := h.inp
  obtain ⟨k', x0', b', s', a', m', c', j1, j2, j3, j4, j5, jv⟩ := he.v
  have g0 : ∀ j, w.cell? ⟨B, j, none⟩ = cs[j]? := fun j => cell_of_row w B j cs 41 (0, 0) hg
  have gf : ∀ o, w.frozen? ⟨B, o, none⟩ = false := fun o => frozen_of_row w B o _ 41 hg
  have hBl : B < w.heap.size := (Array.getElem?_eq_some_iff.1 hg).1
  have c1 := h.c1
  have c2 := h.c2
  have c3 := h.c3
  have c4 := h.c4
  have c7 := h.c7
  have c13 := h.c13
  have c14 := h.c14
  have c15 := h.c15
  have c21 := h.c21
  have e0 := he.c0
  have e1 := he.c1
  have e3 := he.c3
  have e4 := he.c4
  have e10 := he.c10
  have e11 := he.c11
  have e12 := he.c12
  rw [hk] at e0
  rw [hc] at c2
  have hsz := h.size
  have h31 := h.one
  have HSZ : Hid (cs.size = 31) := hsz
  have HON : Hid (∀ (j : Nat) (v : Value), cs[j]? = some v → v.oneCell' = true) := h31
  have HG0 : Hid (w.heap[B]? = some (.cells cs 41 (0, 0))) := hg
  clear iv jv h he hsz h31 hg hk hc
  go_enter Tryz.func70, Tryz.ntmps70
  go_upto_region 6 with fail
  have q1 := heap_setCell_same w B 2 cs 41 (.int .i64 1) HG0.out
  have q2 := heap_setCell_same _ B 3 _ 41 (.int .i64 x.t) q1
  have q3 := heap_setCell_same _ B 1 _ 41 (.int .i64 1) q2
  have q4 := heap_setCell_same _ B 21 _ 41 (.bool true) q3
  have k4 := (((KB.setCell B w 2 (.int .i64 1)).trans (KB.setCell B _ 3 (.int .i64 x.t))).trans (KB.setCell B _ 1 (.int .i64 1))).trans (KB.setCell B _ 21 (.bool true))
  have z1 := set_one HON.out 2 (.int .i64 1) rfl
  have z2 := set_one z1 3 (.int .i64 x.t) rfl
  have z3 := set_one z2 1 (.int .i64 1) rfl
  have z4 := set_one z3 21 (.bool true) rfl
  have Z5 : Hid ((((((cs.setIfInBounds 2 (.int .i64 1)).setIfInBounds 3 (.int .i64 x.t)).setIfInBounds 1 (.int .i64 1)).setIfInBounds 21 (.bool true)).size = 31) ∧ ((((cs.setIfInBounds 2 (.int .i64 1)).setIfInBounds 3 (.int .i64 x.t)).setIfInBounds 1 (.int .i64 1)).setIfInBounds 21 (.bool true))[1]? = some (.int .i64 1) ∧ ((((cs.setIfInBounds 2 (.int .i64 1)).setIfInBounds 3 (.int .i64 x.t)).setIfInBounds 1 (.int .i64 1)).setIfInBounds 21 (.bool true))[2]? = some (.int .i64 1)) := by
    have hs := HSZ.out
    refine ⟨by simp [hs], ?_, ?_⟩ <;> simp [hs]
  have o4 : ∀ q, q ≠ 1 → q ≠ 2 → q ≠ 3 → q ≠ 21 → ((((cs.setIfInBounds 2 (.int .i64 1)).setIfInBounds 3 (.int .i64 x.t)).setIfInBounds 1 (.int .i64 1)).setIfInBounds 21 (.bool true))[q]? = cs[q]? := by
    intro q a1 a2 a3 a4
    rw [Array.getElem?_setIfInBounds_ne (Ne.symm a4), Array.getElem?_setIfInBounds_ne (Ne.symm a1), Array.getElem?_setIfInBounds_ne (Ne.symm a3), Array.getElem?_setIfInBounds_ne (Ne.symm a2)]
  have Q4 := row_below (bel1 _ (.cells es 54)) q4
  have K4 := k4.trans (KB.of_below (bel1 _ (.cells es 54)))
  have E4 : ((((((w.setCell ⟨B, 2, none⟩ (.int .i64 1)).setCell ⟨B, 3, none⟩ (.int .i64 x.t)).setCell ⟨B, 1, none⟩ (.int .i64 1)).setCell ⟨B, 21, none⟩ (.bool true)).alloc (.cells es 54)).heap[w.heap.size]? = some (.cells es 54 (0, 0))) := by
    have := heap_alloc_new ((((w.setCell ⟨B, 2, none⟩ (.int .i64 1)).setCell ⟨B, 3, none⟩ (.int .i64 x.t)).setCell ⟨B, 1, none⟩ (.int .i64 1)).setCell ⟨B, 21, none⟩ (.bool true)) (.cells es 54)
    simpa [World.setCell] using this
  clear q1 q2 q3 q4 k4 z1 z2 z3 g0 gf c1 c2 c3 c21 e0 e1
  generalize (((cs.setIfInBounds 2 (.int .i64 1)).setIfInBounds 3 (.int .i64 x.t)).setIfInBounds 1 (.int .i64 1)).setIfInBounds 21 (.bool true) = cs4 at Q4 z4 Z5 o4
  generalize ((((w.setCell ⟨B, 2, none⟩ (.int .i64 1)).setCell ⟨B, 3, none⟩ (.int .i64 x.t)).setCell ⟨B, 1, none⟩ (.int .i64 1)).setCell ⟨B, 21, none⟩ (.bool true)).alloc (.cells es 54) = W at Q4 K4 E4 ⊢
  have d4 := (o4 4 (by decide) (by decide) (by decide) (by decide)).trans c4
  have d7 := (o4 7 (by decide) (by decide) (by decide) (by decide)).trans c7
  have d8 := (o4 8 (by decide) (by decide) (by decide) (by decide)).trans i1
  have d9 := (o4 9 (by decide) (by decide) (by decide) (by decide)).trans i2
  have d10 := (o4 10 (by decide) (by decide) (by decide) (by decide)).trans i3
  have d11 := (o4 11 (by decide) (by decide) (by decide) (by decide)).trans i4
  have d12 := (o4 12 (by decide) (by decide) (by decide) (by decide)).trans i5
  have d13 := (o4 13 (by decide) (by decide) (by decide) (by decide)).trans c13
  have d14 := (o4 14 (by decide) (by decide) (by decide) (by decide)).trans c14
  have d15 := (o4 15 (by decide) (by decide) (by decide) (by decide)).trans c15
  have g4 : ∀ j, W.cell? ⟨B, j, none⟩ = cs4[j]? := fun j => cell_of_row W B j cs4 41 (0, 0) Q4
  have gf4 : ∀ o, W.frozen? ⟨B, o, none⟩ = false := fun o => frozen_of_row W B o _ 41 Q4
  have x4 : ∀ j, W.cell? ⟨w.heap.size, j, none⟩ = es[j]? := fun j => cell_of_row W _ j es 54 (0, 0) E4
  have HQ4 : Hid (W.heap[B]? = some (.cells cs4 41 (0, 0))) := Q4
  have HK4 : Hid (KB B w W) := K4
  have HZ4 : Hid (∀ (j : Nat) (v : Value), cs4[j]? = some v → v.oneCell' = true) := z4
  have HE4 : Hid (W.heap[w.heap.size]? = some (.cells es 54 (0, 0))) := E4
  have keepS : Hid (∀ W', KB B W W' → ∀ j, W'.cell? ⟨w.heap.size, j, none⟩ = es[j]?) := fun W' hk j => cell_of_row W' _ j es 54 (0, 0) (row_kb HE4.out hk (by omega))
  have HBl : Hid (B < w.heap.size) := hBl
  clear Q4 K4 E4 z4 o4 c4 c7 c13 c14 c15 i1 i2 i3 i4 i5 hBl
  refine wp_region_held_drew (S := (fun w' => ∀ j, w'.cell? ⟨w.heap.size, j, none⟩ = es[j]?)) (by kernel_rfl) x4 (fun hHeld => ?_)
  change wpAnyH _ _ _ _ _ _ _ _ (World.drew _)
  refine wpAnyH_take (i := 0) (oi := { dst := some 26, op := Go.Op.move (Go.Operand.tmp 0), type := 113, pos := "step.go:100", after := #[], guard := none }) (v := ?_) rfl (by kernel_rfl) (by kernel_rfl) (by kernel_rfl) (fun _ _ _ h => h) (Or.inl ⟨by rfl, ?_⟩) hHeld ?_
  rotate_left 1
  · (intro w hSw; (try dsimp only at hSw); go_simp <;> with_reducible rfl)
  simp only [Act.put, List.setIfInBounds_toArray, List.set_cons_zero, List.set_cons_succ]
  refine wpAnyH_take (i := 1) (oi := { dst := some 27, op := Go.Op.move (Go.Operand.tmp 0), type := 113, pos := "step.go:100", after := #[{ on := 14, ground := Go.Ground.gcOnly Go.Departure.lateStores }], guard := none }) (v := ?_) rfl (by kernel_rfl) (by kernel_rfl) (by kernel_rfl) (fun _ _ _ h => h) (Or.inl ⟨by rfl, ?_⟩) hHeld ?_
  rotate_left 1
  · (intro w hSw; (try dsimp only at hSw); go_simp <;> with_reducible rfl)
  simp only [Act.put, List.setIfInBounds_toArray, List.set_cons_zero, List.set_cons_succ]
  refine wpAnyH_take (i := 2) (oi := { dst := some 28, op := Go.Op.move (Go.Operand.tmp 0), type := 113, pos := "step.go:100", after := #[{ on := 17, ground := Go.Ground.gcOnly Go.Departure.lateStores }], guard := none }) (v := ?_) rfl (by kernel_rfl) (by kernel_rfl) (by kernel_rfl) (fun _ _ _ h => h) (Or.inl ⟨by rfl, ?_⟩) hHeld ?_
  rotate_left 1
  · (intro w hSw; (try dsimp only at hSw); go_simp <;> with_reducible rfl)
  simp only [Act.put, List.setIfInBounds_toArray, List.set_cons_zero, List.set_cons_succ]
  refine wpAnyH_take (i := 3) (oi := { dst := some 29, op := Go.Op.move (Go.Operand.tmp 0), type := 113, pos := "step.go:100", after := #[{ on := 20, ground := Go.Ground.gcOnly Go.Departure.lateStores }], guard := none }) (v := ?_) rfl (by kernel_rfl) (by kernel_rfl) (by kernel_rfl) (fun _ _ _ h => h) (Or.inl ⟨by rfl, ?_⟩) hHeld ?_
  rotate_left 1
  · (intro w hSw; (try dsimp only at hSw); go_simp <;> with_reducible rfl)
  simp only [Act.put, List.setIfInBounds_toArray, List.set_cons_zero, List.set_cons_succ]
  refine wpAnyH_take (i := 4) (oi := { dst := some 30, op := Go.Op.fieldAddr 54 (Go.Operand.tmp 3) 4, type := 0, pos := "step.go:100", after := #[], guard := none }) (v := ?_) rfl (by kernel_rfl) (by kernel_rfl) (by kernel_rfl) (fun _ _ _ h => h) (Or.inl ⟨by rfl, ?_⟩) hHeld ?_
  rotate_left 1
  · (intro w hSw; (try dsimp only at hSw); go_simp <;> with_reducible rfl)
  simp only [Act.put, List.setIfInBounds_toArray, List.set_cons_zero, List.set_cons_succ]
  refine wpAnyH_take (i := 5) (oi := { dst := some 31, op := Go.Op.load 9 (Go.Operand.tmp 30), type := 9, pos := "step.go:100", after := #[{ on := 4, ground := Go.Ground.data }], guard := none }) (v := ?_) rfl (by kernel_rfl) (by kernel_rfl) (by kernel_rfl) (fun _ _ _ h => h) (Or.inl ⟨by rfl, ?_⟩) hHeld ?_
  rotate_left 1
  · (intro w hSw; (try dsimp only at hSw); go_simp <;> with_reducible rfl)
  simp only [Act.put, List.setIfInBounds_toArray, List.set_cons_zero, List.set_cons_succ]
  refine wpAnyH_take (i := 6) (oi := { dst := some 32, op := Go.Op.fieldAddr 54 (Go.Operand.tmp 3) 5, type := 0, pos := "step.go:100", after := #[{ on := 14, ground := Go.Ground.gcOnly Go.Departure.lateStores }], guard := none }) (v := ?_) rfl (by kernel_rfl) (by kernel_rfl) (by kernel_rfl) (fun _ _ _ h => h) (Or.inl ⟨by rfl, ?_⟩) hHeld ?_
  rotate_left 1
  · (intro w hSw; (try dsimp only at hSw); go_simp <;> with_reducible rfl)
  simp only [Act.put, List.setIfInBounds_toArray, List.set_cons_zero, List.set_cons_succ]
  refine wpAnyH_take (i := 7) (oi := { dst := some 33, op := Go.Op.load 25 (Go.Operand.tmp 32), type := 25, pos := "step.go:100", after := #[{ on := 6, ground := Go.Ground.data }, { on := 14, ground := Go.Ground.gcOnly Go.Departure.lateStores }], guard := none }) (v := ?_) rfl (by kernel_rfl) (by kernel_rfl) (by kernel_rfl) (fun _ _ _ h => h) (Or.inl ⟨by rfl, ?_⟩) hHeld ?_
  rotate_left 1
  · (intro w hSw; (try dsimp only at hSw); go_simp <;> with_reducible rfl)
  simp only [Act.put, List.setIfInBounds_toArray, List.set_cons_zero, List.set_cons_succ]
  refine wpAnyH_take (i := 8) (oi := { dst := some 34, op := Go.Op.fieldAddr 54 (Go.Operand.tmp 3) 3, type := 0, pos := "step.go:100", after := #[{ on := 17, ground := Go.Ground.gcOnly Go.Departure.lateStores }], guard := none }) (v := ?_) rfl (by kernel_rfl) (by kernel_rfl) (by kernel_rfl) (fun _ _ _ h => h) (Or.inl ⟨by rfl, ?_⟩) hHeld ?_
  rotate_left 1
  · (intro w hSw; (try dsimp only at hSw); go_simp <;> with_reducible rfl)
  simp only [Act.put, List.setIfInBounds_toArray, List.set_cons_zero, List.set_cons_succ]
  refine wpAnyH_take (i := 9) (oi := { dst := some 35, op := Go.Op.load 3 (Go.Operand.tmp 34), type := 3, pos := "step.go:100", after := #[{ on := 8, ground := Go.Ground.data }, { on := 17, ground := Go.Ground.gcOnly Go.Departure.lateStores }], guard := none }) (v := ?_) rfl (by kernel_rfl) (by kernel_rfl) (by kernel_rfl) (fun _ _ _ h => h) (Or.inl ⟨by rfl, ?_⟩) hHeld ?_
  rotate_left 1
  · (intro w hSw; (try dsimp only at hSw); go_simp <;> with_reducible rfl)
  simp only [Act.put, List.setIfInBounds_toArray, List.set_cons_zero, List.set_cons_succ]
  refine wpAnyH_take (i := 10) (oi := { dst := some 36, op := Go.Op.fieldAddr 54 (Go.Operand.tmp 3) 6, type := 0, pos := "step.go:100", after := #[{ on := 20, ground := Go.Ground.gcOnly Go.Departure.lateStores }], guard := none }) (v := ?_) rfl (by kernel_rfl) (by kernel_rfl) (by kernel_rfl) (fun _ _ _ h => h) (Or.inl ⟨by rfl, ?_⟩) hHeld ?_
  rotate_left 1
  · (intro w hSw; (try dsimp only at hSw); go_simp <;> with_reducible rfl)
  simp only [Act.put, List.setIfInBounds_toArray, List.set_cons_zero, List.set_cons_succ]
  refine wpAnyH_take (i := 11) (oi := { dst := some 37, op := Go.Op.load 35 (Go.Operand.tmp 36), type := 35, pos := "step.go:100", after := #[{ on := 10, ground := Go.Ground.data }, { on := 20, ground := Go.Ground.gcOnly Go.Departure.lateStores }], guard := none }) (v := ?_) rfl (by kernel_rfl) (by kernel_rfl) (by kernel_rfl) (fun _ _ _ h => h) (Or.inl ⟨by rfl, ?_⟩) hHeld ?_
  rotate_left 1
  · (intro w hSw; (try dsimp only at hSw); go_simp <;> with_reducible rfl)
  simp only [Act.put, List.setIfInBounds_toArray, List.set_cons_zero, List.set_cons_succ]
  refine wpAnyH_take (i := 12) (oi := { dst := some 38, op := Go.Op.nilCheck (Go.Operand.tmp 26), type := 0, pos := "step.go:100", after := #[{ on := 0, ground := Go.Ground.data }, { on := 0, ground := Go.Ground.phase }, { on := 1, ground := Go.Ground.textOnly Go.Departure.lateStores }, { on := 2, ground := Go.Ground.textOnly Go.Departure.lateStores }, { on := 3, ground := Go.Ground.textOnly Go.Departure.lateStores }, { on := 4, ground := Go.Ground.phase }, { on := 5, ground := Go.Ground.phase }, { on := 6, ground := Go.Ground.textOnly Go.Departure.lateStores }, { on := 7, ground := Go.Ground.textOnly Go.Departure.lateStores }, { on := 8, ground := Go.Ground.textOnly Go.Departure.lateStores }, { on := 9, ground := Go.Ground.textOnly Go.Departure.lateStores }, { on := 10, ground := Go.Ground.textOnly Go.Departure.lateStores }, { on := 11, ground := Go.Ground.textOnly Go.Departure.lateStores }], guard := none }) (v := ?_) rfl (by kernel_rfl) (by kernel_rfl) (by kernel_rfl) (fun _ _ _ h => h) (Or.inl ⟨by rfl, ?_⟩) hHeld ?_
  rotate_left 1
  · (intro w hSw; (try dsimp only at hSw); go_simp <;> with_reducible rfl)
  simp only [Act.put, List.setIfInBounds_toArray, List.set_cons_zero, List.set_cons_succ]
  refine wpAnyH_take (i := 13) (oi := { dst := some 39, op := Go.Op.fieldAddr 41 (Go.Operand.tmp 38) 7, type := 0, pos := "step.go:100", after := #[{ on := 12, ground := Go.Ground.data }, { on := 0, ground := Go.Ground.phase }, { on := 1, ground := Go.Ground.textOnly Go.Departure.lateStores }, { on := 2, ground := Go.Ground.textOnly Go.Departure.lateStores }, { on := 3, ground := Go.Ground.textOnly Go.Departure.lateStores }, { on := 4, ground := Go.Ground.phase }, { on := 5, ground := Go.Ground.phase }, { on := 6, ground := Go.Ground.textOnly Go.Departure.lateStores }, { on := 7, ground := Go.Ground.textOnly Go.Departure.lateStores }, { on := 8, ground := Go.Ground.textOnly Go.Departure.lateStores }, { on := 9, ground := Go.Ground.textOnly Go.Departure.lateStores }, { on := 10, ground := Go.Ground.textOnly Go.Departure.lateStores }, { on := 11, ground := Go.Ground.textOnly Go.Departure.lateStores }], guard := none }) (v := ?_) rfl (by kernel_rfl) (by kernel_rfl) (by kernel_rfl) (fun _ _ _ h => h) (Or.inl ⟨by rfl, ?_⟩) hHeld ?_
  rotate_left 1
  · (intro w hSw; (try dsimp only at hSw); go_simp <;> with_reducible rfl)
  simp only [Act.put, List.setIfInBounds_toArray, List.set_cons_zero, List.set_cons_succ]
  refine wpAnyH_ready (rs := [14]) (by kernel_rfl) (by simp) ?_
  refine AllReadyH.cons (o := { dst := none, op := Go.Op.store 9 (Go.Operand.tmp 39) (Go.Operand.tmp 31), type := 0, pos := "step.go:100", after := #[{ on := 13, ground := Go.Ground.data }, { on := 5, ground := Go.Ground.data }, { on := 0, ground := Go.Ground.phase }, { on := 1, ground := Go.Ground.textOnly Go.Departure.lateStores }, { on := 2, ground := Go.Ground.textOnly Go.Departure.lateStores }, { on := 3, ground := Go.Ground.textOnly Go.Departure.lateStores }, { on := 4, ground := Go.Ground.phase }, { on := 5, ground := Go.Ground.phase }, { on := 6, ground := Go.Ground.textOnly Go.Departure.lateStores }, { on := 7, ground := Go.Ground.textOnly Go.Departure.lateStores }, { on := 8, ground := Go.Ground.textOnly Go.Departure.lateStores }, { on := 9, ground := Go.Ground.textOnly Go.Departure.lateStores }, { on := 10, ground := Go.Ground.textOnly Go.Departure.lateStores }, { on := 11, ground := Go.Ground.textOnly Go.Departure.lateStores }], guard := none }) rfl (fun K hK => ?_) AllReadyH.nil
  go_simp
  refine hK.out _ _ (keepS.out _ (kdrew (KB.setCell B W 7 (.string x.s)))) (fun hHeld => ?_)
  clear hK K
  refine wpAnyH_take (i := 15) (oi := { dst := some 40, op := Go.Op.nilCheck (Go.Operand.tmp 27), type := 0, pos := "step.go:100", after := #[{ on := 1, ground := Go.Ground.data }, { on := 0, ground := Go.Ground.phase }, { on := 1, ground := Go.Ground.phase }, { on := 2, ground := Go.Ground.textOnly Go.Departure.lateStores }, { on := 3, ground := Go.Ground.textOnly Go.Departure.lateStores }, { on := 4, ground := Go.Ground.phase }, { on := 5, ground := Go.Ground.phase }, { on := 6, ground := Go.Ground.phase }, { on := 7, ground := Go.Ground.phase }, { on := 8, ground := Go.Ground.textOnly Go.Departure.lateStores }, { on := 9, ground := Go.Ground.textOnly Go.Departure.lateStores }, { on := 10, ground := Go.Ground.textOnly Go.Departure.lateStores }, { on := 11, ground := Go.Ground.textOnly Go.Departure.lateStores }, { on := 12, ground := Go.Ground.phase }, { on := 13, ground := Go.Ground.phase }, { on := 14, ground := Go.Ground.phase }], guard := none }) (v := ?_) rfl (by kernel_rfl) (by kernel_rfl) (by kernel_rfl) (fun _ _ _ h => h) (Or.inl ⟨by rfl, ?_⟩) hHeld ?_
  rotate_left 1
  · (intro w hSw; (try dsimp only at hSw); go_simp <;> with_reducible rfl)
  simp only [Act.put, List.setIfInBounds_toArray, List.set_cons_zero, List.set_cons_succ]
  refine wpAnyH_take (i := 16) (oi := { dst := some 41, op := Go.Op.fieldAddr 41 (Go.Operand.tmp 40) 8, type := 0, pos := "step.go:100", after := #[{ on := 15, ground := Go.Ground.data }, { on := 0, ground := Go.Ground.phase }, { on := 1, ground := Go.Ground.phase }, { on := 2, ground := Go.Ground.textOnly Go.Departure.lateStores }, { on := 3, ground := Go.Ground.textOnly Go.Departure.lateStores }, { on := 4, ground := Go.Ground.phase }, { on := 5, ground := Go.Ground.phase }, { on := 6, ground := Go.Ground.phase }, { on := 7, ground := Go.Ground.phase }, { on := 8, ground := Go.Ground.textOnly Go.Departure.lateStores }, { on := 9, ground := Go.Ground.textOnly Go.Departure.lateStores }, { on := 10, ground := Go.Ground.textOnly Go.Departure.lateStores }, { on := 11, ground := Go.Ground.textOnly Go.Departure.lateStores }, { on := 12, ground := Go.Ground.phase }, { on := 13, ground := Go.Ground.phase }, { on := 14, ground := Go.Ground.phase }], guard := none }) (v := ?_) rfl (by kernel_rfl) (by kernel_rfl) (by kernel_rfl) (fun _ _ _ h => h) (Or.inl ⟨by rfl, ?_⟩) hHeld ?_
  rotate_left 1
  · (intro w hSw; (try dsimp only at hSw); go_simp <;> with_reducible rfl)
  simp only [Act.put, List.setIfInBounds_toArray, List.set_cons_zero, List.set_cons_succ]
  refine wpAnyH_ready (rs := [17]) (by kernel_rfl) (by simp) ?_
  refine AllReadyH.cons (o := { dst := none, op := Go.Op.store 25 (Go.Operand.tmp 41) (Go.Operand.tmp 33), type := 0, pos := "step.go:100", after := #[{ on := 16, ground := Go.Ground.data }, { on := 7, ground := Go.Ground.data }, { on := 14, ground := Go.Ground.chain }, { on := 0, ground := Go.Ground.phase }, { on := 1, ground := Go.Ground.phase }, { on := 2, ground := Go.Ground.textOnly Go.Departure.lateStores }, { on := 3, ground := Go.Ground.textOnly Go.Departure.lateStores }, { on := 4, ground := Go.Ground.phase }, { on := 5, ground := Go.Ground.phase }, { on := 6, ground := Go.Ground.phase }, { on := 7, ground := Go.Ground.phase }, { on := 8, ground := Go.Ground.textOnly Go.Departure.lateStores }, { on := 9, ground := Go.Ground.textOnly Go.Departure.lateStores }, { on := 10, ground := Go.Ground.textOnly Go.Departure.lateStores }, { on := 11, ground := Go.Ground.textOnly Go.Departure.lateStores }, { on := 12, ground := Go.Ground.phase }, { on := 13, ground := Go.Ground.phase }, { on := 14, ground := Go.Ground.phase }], guard := none }) rfl (fun K hK => ?_) AllReadyH.nil
  go_simp
  refine hK.out _ _ (keepS.out _ (kdrew ((((((KB.setCell B W 7 (.string x.s)).trans (KB.setCell B _ 8 (.int .i64 k'))).trans (KB.setCell B _ 9 (.int .i64 x0'))).trans (KB.setCell B _ 10 (.int .u64 b'))).trans (KB.setCell B _ 11 (.string s'))).trans (KB.setCell B _ 12 (.slice a' m' c'))))) (fun hHeld => ?_)
  clear hK K
  refine wpAnyH_take (i := 18) (oi := { dst := some 42, op := Go.Op.nilCheck (Go.Operand.tmp 28), type := 0, pos := "step.go:100", after := #[{ on := 2, ground := Go.Ground.data }, { on := 0, ground := Go.Ground.phase }, { on := 1, ground := Go.Ground.phase }, { on := 2, ground := Go.Ground.phase }, { on := 3, ground := Go.Ground.textOnly Go.Departure.lateStores }, { on := 4, ground := Go.Ground.phase }, { on := 5, ground := Go.Ground.phase }, { on := 6, ground := Go.Ground.phase }, { on := 7, ground := Go.Ground.phase }, { on := 8, ground := Go.Ground.phase }, { on := 9, ground := Go.Ground.phase }, { on := 10, ground := Go.Ground.textOnly Go.Departure.lateStores }, { on := 11, ground := Go.Ground.textOnly Go.Departure.lateStores }, { on := 12, ground := Go.Ground.phase }, { on := 13, ground := Go.Ground.phase }, { on := 14, ground := Go.Ground.phase }, { on := 15, ground := Go.Ground.phase }, { on := 16, ground := Go.Ground.phase }, { on := 17, ground := Go.Ground.phase }], guard := none }) (v := ?_) rfl (by kernel_rfl) (by kernel_rfl) (by kernel_rfl) (fun _ _ _ h => h) (Or.inl ⟨by rfl, ?_⟩) hHeld ?_
  rotate_left 1
  · (intro w hSw; (try dsimp only at hSw); go_simp <;> with_reducible rfl)
  simp only [Act.put, List.setIfInBounds_toArray, List.set_cons_zero, List.set_cons_succ]
  refine wpAnyH_take (i := 19) (oi := { dst := some 43, op := Go.Op.fieldAddr 41 (Go.Operand.tmp 42) 4, type := 0, pos := "step.go:100", after := #[{ on := 18, ground := Go.Ground.data }, { on := 0, ground := Go.Ground.phase }, { on := 1, ground := Go.Ground.phase }, { on := 2, ground := Go.Ground.phase }, { on := 3, ground := Go.Ground.textOnly Go.Departure.lateStores }, { on := 4, ground := Go.Ground.phase }, { on := 5, ground := Go.Ground.phase }, { on := 6, ground := Go.Ground.phase }, { on := 7, ground := Go.Ground.phase }, { on := 8, ground := Go.Ground.phase }, { on := 9, ground := Go.Ground.phase }, { on := 10, ground := Go.Ground.textOnly Go.Departure.lateStores }, { on := 11, ground := Go.Ground.textOnly Go.Departure.lateStores }, { on := 12, ground := Go.Ground.phase }, { on := 13, ground := Go.Ground.phase }, { on := 14, ground := Go.Ground.phase }, { on := 15, ground := Go.Ground.phase }, { on := 16, ground := Go.Ground.phase }, { on := 17, ground := Go.Ground.phase }], guard := none }) (v := ?_) rfl (by kernel_rfl) (by kernel_rfl) (by kernel_rfl) (fun _ _ _ h => h) (Or.inl ⟨by rfl, ?_⟩) hHeld ?_
  rotate_left 1
  · (intro w hSw; (try dsimp only at hSw); go_simp <;> with_reducible rfl)
  simp only [Act.put, List.setIfInBounds_toArray, List.set_cons_zero, List.set_cons_succ]
  refine wpAnyH_ready (rs := [20]) (by kernel_rfl) (by simp) ?_
  refine AllReadyH.cons (o := { dst := none, op := Go.Op.store 3 (Go.Operand.tmp 43) (Go.Operand.tmp 35), type := 0, pos := "step.go:100", after := #[{ on := 19, ground := Go.Ground.data }, { on := 9, ground := Go.Ground.data }, { on := 17, ground := Go.Ground.chain }, { on := 0, ground := Go.Ground.phase }, { on := 1, ground := Go.Ground.phase }, { on := 2, ground := Go.Ground.phase }, { on := 3, ground := Go.Ground.textOnly Go.Departure.lateStores }, { on := 4, ground := Go.Ground.phase }, { on := 5, ground := Go.Ground.phase }, { on := 6, ground := Go.Ground.phase }, { on := 7, ground := Go.Ground.phase }, { on := 8, ground := Go.Ground.phase }, { on := 9, ground := Go.Ground.phase }, { on := 10, ground := Go.Ground.textOnly Go.Departure.lateStores }, { on := 11, ground := Go.Ground.textOnly Go.Departure.lateStores }, { on := 12, ground := Go.Ground.phase }, { on := 13, ground := Go.Ground.phase }, { on := 14, ground := Go.Ground.phase }, { on := 15, ground := Go.Ground.phase }, { on := 16, ground := Go.Ground.phase }, { on := 17, ground := Go.Ground.phase }], guard := none }) rfl (fun K hK => ?_) AllReadyH.nil
  go_simp
  refine hK.out _ _ (keepS.out _ (kdrew (((((((KB.setCell B W 7 (.string x.s)).trans (KB.setCell B _ 8 (.int .i64 k'))).trans (KB.setCell B _ 9 (.int .i64 x0'))).trans (KB.setCell B _ 10 (.int .u64 b'))).trans (KB.setCell B _ 11 (.string s'))).trans (KB.setCell B _ 12 (.slice a' m' c'))).trans (KB.setCell B _ 4 (.int .i64 x.d))))) (fun hHeld => ?_)
  clear hK K
  refine wpAnyH_take (i := 21) (oi := { dst := some 44, op := Go.Op.nilCheck (Go.Operand.tmp 29), type := 0, pos := "step.go:100", after := #[{ on := 3, ground := Go.Ground.data }, { on := 0, ground := Go.Ground.phase }, { on := 1, ground := Go.Ground.phase }, { on := 2, ground := Go.Ground.phase }, { on := 3, ground := Go.Ground.phase }, { on := 4, ground := Go.Ground.phase }, { on := 5, ground := Go.Ground.phase }, { on := 6, ground := Go.Ground.phase }, { on := 7, ground := Go.Ground.phase }, { on := 8, ground := Go.Ground.phase }, { on := 9, ground := Go.Ground.phase }, { on := 10, ground := Go.Ground.phase }, { on := 11, ground := Go.Ground.phase }, { on := 12, ground := Go.Ground.phase }, { on := 13, ground := Go.Ground.phase }, { on := 14, ground := Go.Ground.phase }, { on := 15, ground := Go.Ground.phase }, { on := 16, ground := Go.Ground.phase }, { on := 17, ground := Go.Ground.phase }, { on := 18, ground := Go.Ground.phase }, { on := 19, ground := Go.Ground.phase }, { on := 20, ground := Go.Ground.phase }], guard := none }) (v := ?_) rfl (by kernel_rfl) (by kernel_rfl) (by kernel_rfl) (fun _ _ _ h => h) (Or.inl ⟨by rfl, ?_⟩) hHeld ?_
  rotate_left 1
  · (intro w hSw; (try dsimp only at hSw); go_simp <;> with_reducible rfl)
  simp only [Act.put, List.setIfInBounds_toArray, List.set_cons_zero, List.set_cons_succ]
  refine wpAnyH_take (i := 22) (oi := { dst := some 45, op := Go.Op.fieldAddr 41 (Go.Operand.tmp 44) 9, type := 0, pos := "step.go:100", after := #[{ on := 21, ground := Go.Ground.data }, { on := 0, ground := Go.Ground.phase }, { on := 1, ground := Go.Ground.phase }, { on := 2, ground := Go.Ground.phase }, { on := 3, ground := Go.Ground.phase }, { on := 4, ground := Go.Ground.phase }, { on := 5, ground := Go.Ground.phase }, { on := 6, ground := Go.Ground.phase }, { on := 7, ground := Go.Ground.phase }, { on := 8, ground := Go.Ground.phase }, { on := 9, ground := Go.Ground.phase }, { on := 10, ground := Go.Ground.phase }, { on := 11, ground := Go.Ground.phase }, { on := 12, ground := Go.Ground.phase }, { on := 13, ground := Go.Ground.phase }, { on := 14, ground := Go.Ground.phase }, { on := 15, ground := Go.Ground.phase }, { on := 16, ground := Go.Ground.phase }, { on := 17, ground := Go.Ground.phase }, { on := 18, ground := Go.Ground.phase }, { on := 19, ground := Go.Ground.phase }, { on := 20, ground := Go.Ground.phase }], guard := none }) (v := ?_) rfl (by kernel_rfl) (by kernel_rfl) (by kernel_rfl) (fun _ _ _ h => h) (Or.inl ⟨by rfl, ?_⟩) hHeld ?_
  rotate_left 1
  · (intro w hSw; (try dsimp only at hSw); go_simp <;> with_reducible rfl)
  simp only [Act.put, List.setIfInBounds_toArray, List.set_cons_zero, List.set_cons_succ]
  refine wpAnyH_ready (rs := [23]) (by kernel_rfl) (by simp) ?_
  refine AllReadyH.cons (o := { dst := none, op := Go.Op.store 35 (Go.Operand.tmp 45) (Go.Operand.tmp 37), type := 0, pos := "step.go:100", after := #[{ on := 22, ground := Go.Ground.data }, { on := 11, ground := Go.Ground.data }, { on := 20, ground := Go.Ground.chain }, { on := 0, ground := Go.Ground.phase }, { on := 1, ground := Go.Ground.phase }, { on := 2, ground := Go.Ground.phase }, { on := 3, ground := Go.Ground.phase }, { on := 4, ground := Go.Ground.phase }, { on := 5, ground := Go.Ground.phase }, { on := 6, ground := Go.Ground.phase }, { on := 7, ground := Go.Ground.phase }, { on := 8, ground := Go.Ground.phase }, { on := 9, ground := Go.Ground.phase }, { on := 10, ground := Go.Ground.phase }, { on := 11, ground := Go.Ground.phase }, { on := 12, ground := Go.Ground.phase }, { on := 13, ground := Go.Ground.phase }, { on := 14, ground := Go.Ground.phase }, { on := 15, ground := Go.Ground.phase }, { on := 16, ground := Go.Ground.phase }, { on := 17, ground := Go.Ground.phase }, { on := 18, ground := Go.Ground.phase }, { on := 19, ground := Go.Ground.phase }, { on := 20, ground := Go.Ground.phase }], guard := none }) rfl (fun K hK => ?_) AllReadyH.nil
  go_simp
  refine hK.out _ _ (keepS.out _ (kdrew ((((((((((KB.setCell B W 7 (.string x.s)).trans (KB.setCell B _ 8 (.int .i64 k'))).trans (KB.setCell B _ 9 (.int .i64 x0'))).trans (KB.setCell B _ 10 (.int .u64 b'))).trans (KB.setCell B _ 11 (.string s'))).trans (KB.setCell B _ 12 (.slice a' m' c'))).trans (KB.setCell B _ 4 (.int .i64 x.d))).trans (KB.setCell B _ 13 (.int .i64 x.f))).trans (KB.setCell B _ 14 (.int .u64 (x.c : Int)))).trans (KB.setCell B _ 15 (.int .i64 x.m))))) (fun hHeld => ?_)
  clear hK K
  refine wpAnyH_done (by kernel_rfl) ?_ _
  go_wp2_with fail
  go_end0
  have f0 : ChS W B cs4 := ⟨HQ4.out, Z5.out.1, HZ4.out, Z5.out.2.1, Z5.out.2.2⟩
  have f1 := f0.set 7 (.string x.s) (by decide) (by decide) rfl
  have f2 := f1.set 8 (.int .i64 k') (by decide) (by decide) rfl
  have f3 := f2.set 9 (.int .i64 x0') (by decide) (by decide) rfl
  have f4 := f3.set 10 (.int .u64 b') (by decide) (by decide) rfl
  have f5 := f4.set 11 (.string s') (by decide) (by decide) rfl
  have f6 := f5.set 12 (.slice a' m' c') (by decide) (by decide) rfl
  have f7 := f6.set 4 (.int .i64 x.d) (by decide) (by decide) rfl
  have f8 := f7.set 13 (.int .i64 x.f) (by decide) (by decide) rfl
  have f9 := f8.set 14 (.int .u64 (x.c : Int)) (by decide) (by decide) rfl
  have f10 := f9.set 15 (.int .i64 x.m) (by decide) (by decide) rfl
  have f11 := f10.drew
  have f12 : KB B W _ := kdrew ((((((((((KB.setCell B W 7 (.string x.s)).trans (KB.setCell B _ 8 (.int .i64 k'))).trans (KB.setCell B _ 9 (.int .i64 x0'))).trans (KB.setCell B _ 10 (.int .u64 b'))).trans (KB.setCell B _ 11 (.string s'))).trans (KB.setCell B _ 12 (.slice a' m' c'))).trans (KB.setCell B _ 4 (.int .i64 x.d))).trans (KB.setCell B _ 13 (.int .i64 x.f))).trans (KB.setCell B _ 14 (.int .u64 (x.c : Int)))).trans (KB.setCell B _ 15 (.int .i64 x.m)))
  exact ⟨rfl, HK4.out.trans f12, _, f11.row, f11.size, f11.one, f11.c1, f11.c2⟩
end Go.Proofs.YtcdhlklmnnmpoaaGreat
