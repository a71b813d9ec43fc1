/- The contract of cloneUpdate. -/
import Derived.Test.YtcdhlklmnnmpoaaGreatSO
import Derived.Deep.RegionWith
import Derived.BigRegion
import Derived.Laws.CopyOwn
namespace Go.Proofs.YtcdhlklmnnmpoaaGreat
open Go.ChangeShapes Go.WideShapes Go.ChangeAt Go.RowKit
def zU : Array Value := #[.string ⟨#[]⟩, .int .i64 0, .int .i64 0, .int .u64 0, .string ⟨#[]⟩, .slice none 0 0, .int .i64 0, .int .i64 0, .int .i64 0, .int .u64 0, .string ⟨#[]⟩, .slice none 0 0]
theorem blt {g : Nat} {w W W1 : World} (h : Below g w W) (hz : g ≤ W.heap.size) (hb : Below W.heap.size W W1) : Below g w W1 := h.trans (hb.mono hz)
theorem le2 {g m : Nat} (h : g + 2 ≤ m) : g ≤ m := by omega
theorem lt2 (g : Nat) : g < g + 2 := by omega
theorem all_one {cs : Array Value} (h : ∀ (j : Nat) (v : Value), cs[j]? = some v → v.oneCell' = true) : cs.all (·.oneCell') = true := by
  rw [Array.all_eq_true]
  intro i hi
  exact h i _ (Array.getElem?_eq_getElem hi)
theorem V5.one {R : Value → Tv → Prop} {cs : Array Value} {p : Nat} {t : Tv} (h : V5 R cs p t) (j : Nat) (v : Value) (h1 : p ≤ j) (h2 : j < p + 5) (hv : cs[j]? = some v) : v.oneCell' = true := by
  obtain ⟨k, x, b, s, a, m, c, g0, g1, g2, g3, g4, _⟩ := h
  have : j = p ∨ j = p + 1 ∨ j = p + 2 ∨ j = p + 3 ∨ j = p + 4 := by omega
  rcases this with rfl | rfl | rfl | rfl | rfl
  · rw [g0] at hv; cases hv; rfl
  · rw [g1] at hv; cases hv; rfl
  · rw [g2] at hv; cases hv; rfl
  · rw [g3] at hv; cases hv; rfl
  · rw [g4] at hv; cases hv; rfl
theorem IsU.one {R : Value → Tv → Prop} {us : Array Value} {u : Up} (h : IsU R us u) (j : Nat) (v : Value) (hv : us[j]? = some v) : v.oneCell' = true := by
  have hj := (Array.getElem?_eq_some_iff.1 hv).1
  rw [h.size] at hj
  have : j = 0 ∨ (1 ≤ j ∧ j < 1 + 5) ∨ j = 6 ∨ (7 ≤ j ∧ j < 7 + 5) := by omega
  rcases this with rfl | ⟨h1, h2⟩ | rfl | ⟨h1, h2⟩
  · rw [h.c0] at hv; cases hv; rfl
  · exact h.v.one j v h1 h2 hv
  · rw [h.c6] at hv; cases hv; rfl
  · exact h.o.one j v h1 h2 hv
theorem info40s (us : Array Value) (h : us.size = 12) : (Tryz.prog.info? 50).map (·.size) = some us.size := by
  rw [h]
  kernel_rfl
theorem setRow_kb (w : World) (g : Nat) (cs : Array Value) : KB g w (w.setRow g cs) := ⟨rfl, rfl, rfl, by rw [setRow_size]; exact Nat.le_refl _, fun k _ h => setRow_other w g k cs h⟩
theorem cu_isU {R : Value → Tv → Prop} {us : Array Value} {u : Up} {k1 x1 b1 k2 x2 b2 : Int} {s1 s2 : ByteArray} {a1 a2 : Option Addr} {m1 c1 m2 c2 : Nat} (hs : us.size = 12) (h0 : us[0]? = some (.string u.s)) (h6 : us[6]? = some (.int .i64 u.g))
    (hv : R (.agg #[.int .i64 k1, .int .i64 x1, .int .u64 b1, .string s1, .slice a1 m1 c1]) u.v) (ho : R (.agg #[.int .i64 k2, .int .i64 x2, .int .u64 b2, .string s2, .slice a2 m2 c2]) u.o) :
    IsU R (put5 (put5 us 1 (.int .i64 k1) (.int .i64 x1) (.int .u64 b1) (.string s1) (.slice a1 m1 c1)) 7 (.int .i64 k2) (.int .i64 x2) (.int .u64 b2) (.string s2) (.slice a2 m2 c2)) u :=
  ⟨by rw [put5_size, put5_size, hs], by rw [put5_other _ _ _ _ _ _ _ _ (by omega), put5_other _ _ _ _ _ _ _ _ (by omega), h0],
    (put5_v5 (by omega) hv).other fun q h1 h2 => put5_other _ _ _ _ _ _ _ _ (by omega),
    by rw [put5_other _ _ _ _ _ _ _ _ (by omega), put5_other _ _ _ _ _ _ _ _ (by omega), h6], put5_v5 (by rw [put5_size, hs]; omega) ho⟩
/-- What a clone of an update gives. -/
def CuP (n : Nat) (w : World) (u : Up) (e : Ending) (w' : World) : Prop := (∃ us', e = .returned (.agg us') ∧ IsU (IsM w.heap.size w' n) us' u) ∧ Below w.heap.size w w'
set_option maxHeartbeats 4000000 in
theorem cloneUpdate_calls (n : Nat) (us : Array Value) (u : Up) (w : World) (h : IsU (Is w n) us u) (hv : SmallW n u.v) (ho : SmallW n u.o) :
    Calls Tryz.prog 78 #[.agg us] w (CuP n w u) := by
  obtain ⟨k, x, b, s, a, m, c, i1, i2, i3, i4, i5, iv⟩ := h.v
  obtain ⟨k', x', b', s', a', m', c', j1, j2, j3, j4, j5, jv⟩ := h.o
  have CV : Hid (∀ W, Below w.heap.size w W → _) := fun W hB => cloneW n _ _ W (iv.below hB) hv
  have CO : Hid (∀ W, Below w.heap.size w W → _) := fun W hB => cloneW n _ _ W (jv.below hB) ho
  have HS : Hid (us.size = 12) := h.size
  have H0 : Hid (us[0]? = some (.string u.s)) := h.c0
  have H6 : Hid (us[6]? = some (.int .i64 u.g)) := h.c6
  have HQ : Hid (∀ e w', (∃ us', e = .returned (.agg us') ∧ IsU (IsM w.heap.size w' n) us' u) → Below w.heap.size w w' → CuP n w u e w') := fun e w' a b => ⟨a, b⟩
  clear iv jv hv ho h
  generalize CuP n w u = Q at HQ ⊢
  go_enter Tryz.func78, Tryz.ntmps78
  go_wp2_with fail
  have HB : Hid (Below w.heap.size w ((w.alloc (.cells us 50)).alloc (.cells zU 50))) := bel2 (bel1 _ _) (bel1 _ _)
  have hg : (((w.alloc (.cells us 50)).alloc (.cells zU 50)).heap[w.heap.size]? = some (.cells us 50 (0, 0))) := heap_alloc2_old _ _ _
  have hz : Hid (((w.alloc (.cells us 50)).alloc (.cells zU 50)).heap[w.heap.size + 1]? = some (.cells zU 50 (0, 0))) := heap_alloc2_new _ _ _
  have HZ : Hid (w.heap.size + 2 ≤ ((w.alloc (.cells us 50)).alloc (.cells zU 50)).heap.size) := by show _ ≤ _; simp
  change Code.wp _ _ _ _ ((w.alloc (.cells us 50)).alloc (.cells zU 50))
  generalize (w.alloc (.cells us 50)).alloc (.cells zU 50) = W0 at HB hg hz HZ ⊢
  generalize hG : w.heap.size = g at *
  have HG : Hid (w.heap.size = g) := hG
  clear hG
  have e1 : W0.cell? ⟨g, 1, none⟩ = some (.int .i64 k) := row_cell hg i1
  have e2 : W0.cell? ⟨g, 2, none⟩ = some (.int .i64 x) := row_cell hg i2
  have e3 : W0.cell? ⟨g, 3, none⟩ = some (.int .u64 b) := row_cell hg i3
  have e4 : W0.cell? ⟨g, 4, none⟩ = some (.string s) := row_cell hg i4
  have e5 : W0.cell? ⟨g, 5, none⟩ = some (.slice a m c) := row_cell hg i5
  have e7 : W0.cell? ⟨g, 7, none⟩ = some (.int .i64 k') := row_cell hg j1
  have e8 : W0.cell? ⟨g, 8, none⟩ = some (.int .i64 x') := row_cell hg j2
  have e9 : W0.cell? ⟨g, 9, none⟩ = some (.int .u64 b') := row_cell hg j3
  have e10 : W0.cell? ⟨g, 10, none⟩ = some (.string s') := row_cell hg j4
  have e11 : W0.cell? ⟨g, 11, none⟩ = some (.slice a' m' c') := row_cell hg j5
  have ef : ∀ o, W0.frozen? ⟨g, o, none⟩ = false := fun o => frozen_of_row W0 g o _ 50 hg
  have Hg : Hid (W0.heap[g]? = some (.cells us 50 (0, 0))) := hg
  clear hg
  have I : Hid (us[1]? = some (.int .i64 k) ∧ us[2]? = some (.int .i64 x) ∧ us[3]? = some (.int .u64 b) ∧ us[4]? = some (.string s) ∧ us[5]? = some (.slice a m c)) := ⟨i1, i2, i3, i4, i5⟩
  have J : Hid (us[7]? = some (.int .i64 k') ∧ us[8]? = some (.int .i64 x') ∧ us[9]? = some (.int .u64 b') ∧ us[10]? = some (.string s') ∧ us[11]? = some (.slice a' m' c')) := ⟨j1, j2, j3, j4, j5⟩
  clear i1 i2 i3 i4 i5 j1 j2 j3 j4 j5
  go_region_with (first
    | (go_at_call_of 43 (Value.agg #[.int .i64 k, .int .i64 x, .int .u64 b, .string s, .slice a m c]); go_loud (refine (CV.out _ HB.out.drew).mono ?_; rintro e w1 ⟨⟨v1, rfl, hn1⟩, hb1⟩; have HB1 : Hid (Below g w w1) := blt HB.out.drew (le2 HZ.out) hb1; have Hg1 : Hid (w1.heap[g]? = some (.cells us 50 (0, 0))) := row_below hb1 Hg.out; have Hz1 : Hid (w1.heap[g + 1]? = some (.cells zU 50 (0, 0))) := row_below hb1 hz.out; have HZ1 : Hid (g + 2 ≤ w1.heap.size) := Nat.le_trans HZ.out hb1.size; obtain ⟨k1, x1, b1, s1, a1, m1, c1, rfl⟩ := hn1.shape; have HN1 : Hid (IsM (g + 2) w1 n _ u.v) := hn1.lower HZ.out; clear hb1 hn1; have p1 : w1.cell? ⟨g, 1, none⟩ = some (.int .i64 k) := row_cell Hg1.out I.out.1; have p2 : w1.cell? ⟨g, 2, none⟩ = some (.int .i64 x) := row_cell Hg1.out I.out.2.1; have p3 : w1.cell? ⟨g, 3, none⟩ = some (.int .u64 b) := row_cell Hg1.out I.out.2.2.1; have p4 : w1.cell? ⟨g, 4, none⟩ = some (.string s) := row_cell Hg1.out I.out.2.2.2.1; have p5 : w1.cell? ⟨g, 5, none⟩ = some (.slice a m c) := row_cell Hg1.out I.out.2.2.2.2; have p7 : w1.cell? ⟨g, 7, none⟩ = some (.int .i64 k') := row_cell Hg1.out J.out.1; have p8 : w1.cell? ⟨g, 8, none⟩ = some (.int .i64 x') := row_cell Hg1.out J.out.2.1; have p9 : w1.cell? ⟨g, 9, none⟩ = some (.int .u64 b') := row_cell Hg1.out J.out.2.2.1; have p10 : w1.cell? ⟨g, 10, none⟩ = some (.string s') := row_cell Hg1.out J.out.2.2.2.1; have p11 : w1.cell? ⟨g, 11, none⟩ = some (.slice a' m' c') := row_cell Hg1.out J.out.2.2.2.2; have pf : ∀ o, w1.frozen? ⟨g, o, none⟩ = false := fun o => frozen_of_row w1 g o _ 50 Hg1.out))
    | (go_at_call_of 43 (Value.agg #[.int .i64 k', .int .i64 x', .int .u64 b', .string s', .slice a' m' c']); refine (CO.out _ HB1.out).mono ?_; rintro e w2 ⟨⟨v2, rfl, hn2⟩, hb2⟩; have HB2 : Hid (Below g w w2) := blt HB1.out (le2 HZ1.out) hb2; have Hg2 : Hid (w2.heap[g]? = some (.cells us 50 (0, 0))) := row_below hb2 Hg1.out; have Hz2 : Hid (w2.heap[g + 1]? = some (.cells zU 50 (0, 0))) := row_below hb2 Hz1.out; have HZ2 : Hid (g + 2 ≤ w2.heap.size) := Nat.le_trans HZ1.out hb2.size; obtain ⟨k2, x2, b2, s2, a2, m2, c2, rfl⟩ := hn2.shape; have HN2 : Hid (IsM (g + 2) w2 n _ u.o) := hn2.lower HZ1.out; have HM1 : Hid (IsM (g + 2) w2 n _ u.v) := HN1.out.kb (g := g) (KB.of_below hb2) (lt2 g); clear hb2 hn2 HN1 HB1 Hg1 Hz1 HZ1; have q1 : w2.cell? ⟨g, 1, none⟩ = some (.int .i64 k) := row_cell Hg2.out I.out.1; have q2 : w2.cell? ⟨g, 2, none⟩ = some (.int .i64 x) := row_cell Hg2.out I.out.2.1; have q3 : w2.cell? ⟨g, 3, none⟩ = some (.int .u64 b) := row_cell Hg2.out I.out.2.2.1; have q4 : w2.cell? ⟨g, 4, none⟩ = some (.string s) := row_cell Hg2.out I.out.2.2.2.1; have q5 : w2.cell? ⟨g, 5, none⟩ = some (.slice a m c) := row_cell Hg2.out I.out.2.2.2.2; have q7 : w2.cell? ⟨g, 7, none⟩ = some (.int .i64 k') := row_cell Hg2.out J.out.1; have q8 : w2.cell? ⟨g, 8, none⟩ = some (.int .i64 x') := row_cell Hg2.out J.out.2.1; have q9 : w2.cell? ⟨g, 9, none⟩ = some (.int .u64 b') := row_cell Hg2.out J.out.2.2.1; have q10 : w2.cell? ⟨g, 10, none⟩ = some (.string s') := row_cell Hg2.out J.out.2.2.2.1; have q11 : w2.cell? ⟨g, 11, none⟩ = some (.slice a' m' c') := row_cell Hg2.out J.out.2.2.2.2; have qf : ∀ o, w2.frozen? ⟨g, o, none⟩ = false := fun o => frozen_of_row w2 g o _ 50 Hg2.out))
  all_goals
    clear e1 e2 e3 e4 e5 e7 e8 e9 e10 e11 ef p1 p2 p3 p4 p5 p7 p8 p9 p10 p11 pf q1 q2 q3 q4 q5 q7 q8 q9 q10 q11 qf CV CO HB hz HZ Hg I J
    have k5 : KB g w2 (set5 (set5 w2 g 1 (.int .i64 k1) (.int .i64 x1) (.int .u64 b1) (.string s1) (.slice a1 m1 c1)) g 7 (.int .i64 k2) (.int .i64 x2) (.int .u64 b2) (.string s2) (.slice a2 m2 c2)) := (set5_kb w2 g 1 (.int .i64 k1) (.int .i64 x1) (.int .u64 b1) (.string s1) (.slice a1 m1 c1)).trans (set5_kb _ g 7 (.int .i64 k2) (.int .i64 x2) (.int .u64 b2) (.string s2) (.slice a2 m2 c2))
    have R3 : (set5 (set5 w2 g 1 (.int .i64 k1) (.int .i64 x1) (.int .u64 b1) (.string s1) (.slice a1 m1 c1)) g 7 (.int .i64 k2) (.int .i64 x2) (.int .u64 b2) (.string s2) (.slice a2 m2 c2)).heap[g]? = some (.cells (put5 (put5 us 1 (.int .i64 k1) (.int .i64 x1) (.int .u64 b1) (.string s1) (.slice a1 m1 c1)) 7 (.int .i64 k2) (.int .i64 x2) (.int .u64 b2) (.string s2) (.slice a2 m2 c2)) 50 (0, 0)) := set5_row (set5_row Hg2.out (.int .i64 k1) (.int .i64 x1) (.int .u64 b1) (.string s1) (.slice a1 m1 c1)) (.int .i64 k2) (.int .i64 x2) (.int .u64 b2) (.string s2) (.slice a2 m2 c2)
    have Z3 := row_kb Hz2.out k5 (by omega)
    have B3 : Hid (Below g w (set5 (set5 w2 g 1 (.int .i64 k1) (.int .i64 x1) (.int .u64 b1) (.string s1) (.slice a1 m1 c1)) g 7 (.int .i64 k2) (.int .i64 x2) (.int .u64 b2) (.string s2) (.slice a2 m2 c2))) := HB2.out.trans (k5.below (Nat.le_refl _) (le2 HZ2.out))
    have U3 : Hid (IsU (IsM (g + 2) (set5 (set5 w2 g 1 (.int .i64 k1) (.int .i64 x1) (.int .u64 b1) (.string s1) (.slice a1 m1 c1)) g 7 (.int .i64 k2) (.int .i64 x2) (.int .u64 b2) (.string s2) (.slice a2 m2 c2)) n) (put5 (put5 us 1 (.int .i64 k1) (.int .i64 x1) (.int .u64 b1) (.string s1) (.slice a1 m1 c1)) 7 (.int .i64 k2) (.int .i64 x2) (.int .u64 b2) (.string s2) (.slice a2 m2 c2)) u) := cu_isU HS.out H0.out H6.out (HM1.out.kb k5 (lt2 g)) (HN2.out.kb k5 (lt2 g))
    change Exit.then _ _ _ _ (set5 (set5 w2 g 1 (.int .i64 k1) (.int .i64 x1) (.int .u64 b1) (.string s1) (.slice a1 m1 c1)) g 7 (.int .i64 k2) (.int .i64 x2) (.int .u64 b2) (.string s2) (.slice a2 m2 c2))
    clear k5
    generalize set5 (set5 w2 g 1 (.int .i64 k1) (.int .i64 x1) (.int .u64 b1) (.string s1) (.slice a1 m1 c1)) g 7 (.int .i64 k2) (.int .i64 x2) (.int .u64 b2) (.string s2) (.slice a2 m2 c2) = W3 at R3 Z3 B3 U3 ⊢
    generalize put5 (put5 us 1 (.int .i64 k1) (.int .i64 x1) (.int .u64 b1) (.string s1) (.slice a1 m1 c1)) 7 (.int .i64 k2) (.int .i64 x2) (.int .u64 b2) (.string s2) (.slice a2 m2 c2) = us' at R3 U3
    have hu := info40s us' U3.out.size
    have ho : zU.size = us'.size := U3.out.size.symm
    have h1 := all_one U3.out.one
    go_wp2_with (first
      | refine wpList_load_row rfl 50 _ rfl g rfl 50 us' (0, 0) _ R3 Tryz.underlying50 rfl hu ?_
      | refine wpList_store_row rfl 50 _ _ rfl (g + 1) us' rfl rfl 50 zU Z3 hu ho h1 ?_)
    have k6 := setRow_kb W3 (g + 1) us'
    refine bodyPost_ret (results_cell_row Tryz.results78 _ _ (g + 1) 50 us' (0, 0) _ rfl (setRow_heap W3 (g + 1) zU us' 50 (0, 0) Z3) Tryz.underlying50 rfl hu) rfl (HQ.out _ _ ⟨us', rfl, ?_⟩ ?_)
    · exact U3.out.map fun v t h => (h.kb k6 (by omega)).lower (by omega)
    · exact below_setRow B3.out (Nat.le_succ g) us'
end Go.Proofs.YtcdhlklmnnmpoaaGreat
