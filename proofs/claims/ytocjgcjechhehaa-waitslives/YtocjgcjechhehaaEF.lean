/- The contract of the reference's clone of a wait. -/
import Derived.Test.YtocjgcjechhehaaE
namespace Go.Proofs.Ytocjgcjechhehaa
open Go.ChangeAt Go.ChangeShapes Go.Deep Go.RowKit Go.WideShapes
set_option maxHeartbeats 4000000 in
theorem rclone_calls (n : Nat) (us : Array Value) (x0 : Wt) (w : World) (h : IsW (Is w n) us x0) (hs : SmX n x0) :
    Calls Try.prog 34 #[.agg us] w (ClW n w x0) := by
  obtain ⟨k, x, b, s, a, m, c, i1, i2, i3, i4, i5, iv⟩ := h.asked
  obtain ⟨k', x', b', s', a', m', c', j1, j2, j3, j4, j5, jv⟩ := h.value
  have CV : Hid (∀ W, Below w.heap.size w W → _) := fun W hB => rcloneW n _ _ W (iv.below hB) hs.1
  have CO : Hid (∀ W, Below w.heap.size w W → _) := fun W hB => rcloneW n _ _ W (jv.below hB) hs.2
  have HR : Hid (IsW (Is w n) us x0) := h
  have HQ : Hid (∀ e w', (∃ us', e = .returned (.agg us') ∧ IsW (IsN w.heap.size w' n) us' x0) → Below w.heap.size w w' → ClW n w x0 e w') := fun e w' a b => ⟨a, b⟩
  clear iv jv hs h
  generalize ClW n w x0 = Q at HQ ⊢
  go_enter Try.func34, Try.ntmps34
  go_upto_region 1 with fail
  have HB : Hid (Below w.heap.size w ((w.alloc (.cells us 29)).alloc (.cells zW 29))) := bel2 (bel1 _ _) (bel1 _ _)
  have hg : (((w.alloc (.cells us 29)).alloc (.cells zW 29)).heap[w.heap.size]? = some (.cells us 29 (0, 0))) := heap_alloc2_old _ _ _
  have hz : Hid (((w.alloc (.cells us 29)).alloc (.cells zW 29)).heap[w.heap.size + 1]? = some (.cells zW 29 (0, 0))) := heap_alloc2_new _ _ _
  have HZ : Hid (w.heap.size + 2 ≤ ((w.alloc (.cells us 29)).alloc (.cells zW 29)).heap.size) := by show _ ≤ _; simp
  change Code.wp _ _ _ _ ((w.alloc (.cells us 29)).alloc (.cells zW 29))
  generalize (w.alloc (.cells us 29)).alloc (.cells zW 29) = W0 at HB hg hz HZ ⊢
  generalize hG : w.heap.size = g at *
  have HG : Hid (w.heap.size = g) := hG
  clear hG
  have I : Hid (us[6]? = some (.int .i64 k) ∧ us[7]? = some (.int .i64 x) ∧ us[8]? = some (.int .u64 b) ∧ us[9]? = some (.string s) ∧ us[10]? = some (.slice a m c)) := ⟨i1, i2, i3, i4, i5⟩
  have J : Hid (us[11]? = some (.int .i64 k') ∧ us[12]? = some (.int .i64 x') ∧ us[13]? = some (.int .u64 b') ∧ us[14]? = some (.string s') ∧ us[15]? = some (.slice a' m' c')) := ⟨j1, j2, j3, j4, j5⟩
  clear i1 i2 i3 i4 i5 j1 j2 j3 j4 j5
  have e6 : W0.cell? ⟨g, 6, none⟩ = some (.int .i64 k) := row_cell hg I.out.1
  have e7 : W0.cell? ⟨g, 7, none⟩ = some (.int .i64 x) := row_cell hg I.out.2.1
  have e8 : W0.cell? ⟨g, 8, none⟩ = some (.int .u64 b) := row_cell hg I.out.2.2.1
  have e9 : W0.cell? ⟨g, 9, none⟩ = some (.string s) := row_cell hg I.out.2.2.2.1
  have e10 : W0.cell? ⟨g, 10, none⟩ = some (.slice a m c) := row_cell hg I.out.2.2.2.2
  have e11 : W0.cell? ⟨g, 11, none⟩ = some (.int .i64 k') := row_cell hg J.out.1
  have e12 : W0.cell? ⟨g, 12, none⟩ = some (.int .i64 x') := row_cell hg J.out.2.1
  have e13 : W0.cell? ⟨g, 13, none⟩ = some (.int .u64 b') := row_cell hg J.out.2.2.1
  have e14 : W0.cell? ⟨g, 14, none⟩ = some (.string s') := row_cell hg J.out.2.2.2.1
  have e15 : W0.cell? ⟨g, 15, none⟩ = some (.slice a' m' c') := row_cell hg J.out.2.2.2.2
  have ef : ∀ o, W0.frozen? ⟨g, o, none⟩ = false := fun o => frozen_of_row W0 g o _ 29 hg
  have Hg : Hid (W0.heap[g]? = some (.cells us 29 (0, 0))) := hg
  clear hg
  go_region_with (first
    | (go_at_call_of 52 (Value.agg #[.int .i64 k, .int .i64 x, .int .u64 b, .string s, .slice a m c]); go_loud (refine (CV.out _ HB.out.drew).mono ?_; rintro e w1 ⟨⟨v1, rfl, hn1⟩, hb1⟩; have HB1 : Hid (Below g w w1) := blt HB.out.drew (le2 HZ.out) hb1; have Hg1 : Hid (w1.heap[g]? = some (.cells us 29 (0, 0))) := row_below hb1 Hg.out; have Hz1 : Hid (w1.heap[g + 1]? = some (.cells zW 29 (0, 0))) := row_below hb1 hz.out; have HZ1 : Hid (g + 2 ≤ w1.heap.size) := Nat.le_trans HZ.out hb1.size; obtain ⟨k1, x1, b1, s1, a1, m1, c1, rfl⟩ := hn1.shape; have HN1 : Hid (IsN (g + 2) w1 n _ x0.asked) := hn1.lower HZ.out; clear hb1 hn1; have p6 : w1.cell? ⟨g, 6, none⟩ = some (.int .i64 k) := row_cell Hg1.out I.out.1; have p7 : w1.cell? ⟨g, 7, none⟩ = some (.int .i64 x) := row_cell Hg1.out I.out.2.1; have p8 : w1.cell? ⟨g, 8, none⟩ = some (.int .u64 b) := row_cell Hg1.out I.out.2.2.1; have p9 : w1.cell? ⟨g, 9, none⟩ = some (.string s) := row_cell Hg1.out I.out.2.2.2.1; have p10 : w1.cell? ⟨g, 10, none⟩ = some (.slice a m c) := row_cell Hg1.out I.out.2.2.2.2; have p11 : w1.cell? ⟨g, 11, none⟩ = some (.int .i64 k') := row_cell Hg1.out J.out.1; have p12 : w1.cell? ⟨g, 12, none⟩ = some (.int .i64 x') := row_cell Hg1.out J.out.2.1; have p13 : w1.cell? ⟨g, 13, none⟩ = some (.int .u64 b') := row_cell Hg1.out J.out.2.2.1; have p14 : w1.cell? ⟨g, 14, none⟩ = some (.string s') := row_cell Hg1.out J.out.2.2.2.1; have p15 : w1.cell? ⟨g, 15, none⟩ = some (.slice a' m' c') := row_cell Hg1.out J.out.2.2.2.2; have pf : ∀ o, w1.frozen? ⟨g, o, none⟩ = false := fun o => frozen_of_row w1 g o _ 29 Hg1.out))
    | (go_at_call_of 52 (Value.agg #[.int .i64 k', .int .i64 x', .int .u64 b', .string s', .slice a' m' c']); refine (CO.out _ HB1.out).mono ?_; rintro e w2 ⟨⟨v2, rfl, hn2⟩, hb2⟩; have HB2 : Hid (Below g w w2) := blt HB1.out (le2 HZ1.out) hb2; have Hg2 : Hid (w2.heap[g]? = some (.cells us 29 (0, 0))) := row_below hb2 Hg1.out; have Hz2 : Hid (w2.heap[g + 1]? = some (.cells zW 29 (0, 0))) := row_below hb2 Hz1.out; have HZ2 : Hid (g + 2 ≤ w2.heap.size) := Nat.le_trans HZ1.out hb2.size; obtain ⟨k2, x2, b2, s2, a2, m2, c2, rfl⟩ := hn2.shape; have HN2 : Hid (IsN (g + 2) w2 n _ x0.value) := hn2.lower HZ1.out; have HM1 : Hid (IsN (g + 2) w2 n _ x0.asked) := HN1.out.kb (g := g) (KB.of_below hb2) (lt2 g); clear hb2 hn2 HN1 HB1 Hg1 Hz1 HZ1; have q6 : w2.cell? ⟨g, 6, none⟩ = some (.int .i64 k) := row_cell Hg2.out I.out.1; have q7 : w2.cell? ⟨g, 7, none⟩ = some (.int .i64 x) := row_cell Hg2.out I.out.2.1; have q8 : w2.cell? ⟨g, 8, none⟩ = some (.int .u64 b) := row_cell Hg2.out I.out.2.2.1; have q9 : w2.cell? ⟨g, 9, none⟩ = some (.string s) := row_cell Hg2.out I.out.2.2.2.1; have q10 : w2.cell? ⟨g, 10, none⟩ = some (.slice a m c) := row_cell Hg2.out I.out.2.2.2.2; have q11 : w2.cell? ⟨g, 11, none⟩ = some (.int .i64 k') := row_cell Hg2.out J.out.1; have q12 : w2.cell? ⟨g, 12, none⟩ = some (.int .i64 x') := row_cell Hg2.out J.out.2.1; have q13 : w2.cell? ⟨g, 13, none⟩ = some (.int .u64 b') := row_cell Hg2.out J.out.2.2.1; have q14 : w2.cell? ⟨g, 14, none⟩ = some (.string s') := row_cell Hg2.out J.out.2.2.2.1; have q15 : w2.cell? ⟨g, 15, none⟩ = some (.slice a' m' c') := row_cell Hg2.out J.out.2.2.2.2; have qf : ∀ o, w2.frozen? ⟨g, o, none⟩ = false := fun o => frozen_of_row w2 g o _ 29 Hg2.out))
  all_goals
    clear e6 e7 e8 e9 e10 e11 e12 e13 e14 e15 ef p6 p7 p8 p9 p10 p11 p12 p13 p14 p15 pf q6 q7 q8 q9 q10 q11 q12 q13 q14 q15 qf CV CO HB hz HZ Hg I J
    have k5 : KB g w2 (set5 (set5 w2 g 6 (.int .i64 k1) (.int .i64 x1) (.int .u64 b1) (.string s1) (.slice a1 m1 c1)) g 11 (.int .i64 k2) (.int .i64 x2) (.int .u64 b2) (.string s2) (.slice a2 m2 c2)) := (set5_kb w2 g 6 (.int .i64 k1) (.int .i64 x1) (.int .u64 b1) (.string s1) (.slice a1 m1 c1)).trans (set5_kb _ g 11 (.int .i64 k2) (.int .i64 x2) (.int .u64 b2) (.string s2) (.slice a2 m2 c2))
    have R3 : (set5 (set5 w2 g 6 (.int .i64 k1) (.int .i64 x1) (.int .u64 b1) (.string s1) (.slice a1 m1 c1)) g 11 (.int .i64 k2) (.int .i64 x2) (.int .u64 b2) (.string s2) (.slice a2 m2 c2)).heap[g]? = some (.cells (put5 (put5 us 6 (.int .i64 k1) (.int .i64 x1) (.int .u64 b1) (.string s1) (.slice a1 m1 c1)) 11 (.int .i64 k2) (.int .i64 x2) (.int .u64 b2) (.string s2) (.slice a2 m2 c2)) 29 (0, 0)) := set5_row (set5_row Hg2.out (.int .i64 k1) (.int .i64 x1) (.int .u64 b1) (.string s1) (.slice a1 m1 c1)) (.int .i64 k2) (.int .i64 x2) (.int .u64 b2) (.string s2) (.slice a2 m2 c2)
    have Z3 := row_kb Hz2.out k5 (by omega)
    have B3 : Hid (Below g w (set5 (set5 w2 g 6 (.int .i64 k1) (.int .i64 x1) (.int .u64 b1) (.string s1) (.slice a1 m1 c1)) g 11 (.int .i64 k2) (.int .i64 x2) (.int .u64 b2) (.string s2) (.slice a2 m2 c2))) := HB2.out.trans (k5.below (Nat.le_refl _) (le2 HZ2.out))
    have U3 : Hid (IsW (IsN (g + 2) (set5 (set5 w2 g 6 (.int .i64 k1) (.int .i64 x1) (.int .u64 b1) (.string s1) (.slice a1 m1 c1)) g 11 (.int .i64 k2) (.int .i64 x2) (.int .u64 b2) (.string s2) (.slice a2 m2 c2)) n) (put5 (put5 us 6 (.int .i64 k1) (.int .i64 x1) (.int .u64 b1) (.string s1) (.slice a1 m1 c1)) 11 (.int .i64 k2) (.int .i64 x2) (.int .u64 b2) (.string s2) (.slice a2 m2 c2)) x0) := cl_isW HR.out (HM1.out.kb k5 (lt2 g)) (HN2.out.kb k5 (lt2 g))
    change Exit.then _ _ _ _ (set5 (set5 w2 g 6 (.int .i64 k1) (.int .i64 x1) (.int .u64 b1) (.string s1) (.slice a1 m1 c1)) g 11 (.int .i64 k2) (.int .i64 x2) (.int .u64 b2) (.string s2) (.slice a2 m2 c2))
    clear k5
    generalize (set5 (set5 w2 g 6 (.int .i64 k1) (.int .i64 x1) (.int .u64 b1) (.string s1) (.slice a1 m1 c1)) g 11 (.int .i64 k2) (.int .i64 x2) (.int .u64 b2) (.string s2) (.slice a2 m2 c2)) = W3 at R3 Z3 B3 U3 ⊢
    generalize (put5 (put5 us 6 (.int .i64 k1) (.int .i64 x1) (.int .u64 b1) (.string s1) (.slice a1 m1 c1)) 11 (.int .i64 k2) (.int .i64 x2) (.int .u64 b2) (.string s2) (.slice a2 m2 c2)) = us' at R3 U3
    have hu := info29s us' U3.out.size
    have ho : zW.size = us'.size := U3.out.size.symm
    have h1 := all_one U3.out.one
    go_wp2_with (first
      | refine wpList_load_row rfl 29 _ rfl g rfl 29 us' (0, 0) _ R3 Try.underlying29 rfl hu ?_
      | refine wpList_store_row rfl 29 _ _ rfl (g + 1) us' rfl rfl 29 zW Z3 hu ho h1 ?_)
    have k6 := setRow_kb W3 (g + 1) us'
    refine bodyPost_ret (results_cell_row Try.results34 _ _ (g + 1) 29 us' (0, 0) _ rfl (setRow_heap W3 (g + 1) zW us' 29 (0, 0) Z3) Try.underlying29 rfl hu) rfl (HQ.out _ _ ⟨us', rfl, ?_⟩ ?_)
    · exact U3.out.map fun v t h => (h.kb k6 (by omega)).lower (by omega)
    · exact below_setRow B3.out (Nat.le_succ g) us'
end Go.Proofs.Ytocjgcjechhehaa
