/- The contract of the reference's List, of two values. -/
import Derived.Test.YtobblioplfpndaaYG
namespace Go.Proofs.Ytobblioplfpndaa
open Go.ChangeShapes Go.WideShapes Go.ChangeAt Go.RowKit Go.BigFrame
set_option maxHeartbeats 2000000 in
theorem rlist_calls (n g : Nat) (w : World) (t1 t2 : Tv) (c0 c1 c2 c3 c4 d0 d1 d2 d3 d4 : Value) (h1 : At5 w g 0 c0 c1 c2 c3 c4) (h2 : At5 w g 5 d0 d1 d2 d3 d4) (i1 : Is w n (.agg #[c0, c1, c2, c3, c4]) t1) (i2 : Is w n (.agg #[d0, d1, d2, d3, d4]) t2) (hs : ∀ z ∈ [c0, c1, c2, c3, c4, d0, d1, d2, d3, d4], z.oneCell' = true) :
    Calls Try.prog 19 #[.slice (some ⟨g, 0, none⟩) 2 2] w (LiP w n t1 t2) := by
  obtain ⟨G, cap, w1, hrun, hG, hc1, hc2, a1, a2, hb1⟩ := vtwo_run (lo := (w.alloc (.cells #[.int .i64 0, .int .i64 0, .int .u64 0, .string ⟨#[]⟩, .slice none 0 0] 25)).heap.size) (h1.below (bel1 w (.cells #[.int .i64 0, .int .i64 0, .int .u64 0, .string ⟨#[]⟩, .slice none 0 0] 25))) (h2.below (bel1 w _)) hs (Nat.le_refl _)
  have hz : w.heap.size < w1.heap.size := by have := hb1.size; simp at this; omega
  have hG' : w.heap.size + 1 ≤ G := by simpa using hG
  have p2 := (box_at w (.int .i64 0) (.int .i64 0) (.int .u64 0) (.string ⟨#[]⟩) (.slice none 0 0)).below hb1
  have f2 : ∀ o, w1.frozen? ⟨w.heap.size, o, none⟩ = false := fun o => (hb1.frozen (by simp)).trans (fresh w _ o)
  have HP2 : Hid (At5 w1 w.heap.size 0 _ _ _ _ _) := p2
  obtain ⟨p20, p21, p22, p23, p24⟩ := p2
  have q1 := f2 0
  have q2 := f2 1
  have q3 := f2 2
  have q4 := f2 3
  have q5 := f2 4
  have HB1 : Hid (Below w.heap.size w w1) := bel2 (bel1 _ _) hb1
  have HA : Hid (At5 w1 G 0 c0 c1 c2 c3 c4 ∧ At5 w1 G 5 d0 d1 d2 d3 d4) := ⟨a1, a2⟩
  have HI : Hid (Is w n (.agg #[c0, c1, c2, c3, c4]) t1 ∧ Is w n (.agg #[d0, d1, d2, d3, d4]) t2) := ⟨i1, i2⟩
  have HC1 : Hid (2 ≤ cap ∧ cap ≤ 9223372036854775807 ∧ w.heap.size + 1 ≤ G ∧ w.heap.size < w1.heap.size) := ⟨hc1, hc2, hG', hz⟩
  have HRun : Hid (_ = _) := hrun
  clear hrun hb1 f2 hc1 hc2 hG hG' hz h1 h2 i1 i2 hs a1 a2
  go_enter Try.func19, Try.ntmps19
  go_wp2_with (at_builtin; refine Lib.wpList_append_run _ rfl _ _ 23 23 rfl _ _ rfl rfl _ _ HRun.out ?_)
  have kb2 := set5_kb w1 w.heap.size 0 (.int .i64 4) (.int .i64 0) (.int .u64 0) (.string ⟨#[]⟩) (.slice (some ⟨G, 0, none⟩) 2 cap)
  refine bodyPost_ret (ret5 Try.results19 _ (g := w.heap.size) rfl (set5_at HP2.out _ _ _ _ _)) rfl ?_
  obtain ⟨e1, e2, e3, e4⟩ := HC1.out
  have hbf : Below w.heap.size w (set5 w1 w.heap.size 0 (.int .i64 4) (.int .i64 0) (.int .u64 0) (.string ⟨#[]⟩) (.slice (some ⟨G, 0, none⟩) 2 cap)) := HB1.out.trans (kb2.below (Nat.le_refl _) (by omega))
  exact ⟨⟨_, rfl, some ⟨G, 0, none⟩, cap, rfl, ⟨by decide, by decide, by decide, by decide, by decide, by decide, by decide, e1, e2⟩, row2 (HA.out.1.kb kb2 (by omega)) (HA.out.2.kb kb2 (by omega)) (HI.out.1.below hbf) (HI.out.2.below hbf)⟩, hbf⟩
end Go.Proofs.Ytobblioplfpndaa
