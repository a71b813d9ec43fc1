/- The reference's Parse of what is no head. -/
import Derived.Test.YthakbkkopneilaaDoorZ
namespace Go.Proofs.YthakbkkopneilaaDoor
open Go.ChangeShapes Go.WideShapes Go.ChangeAt Go.RowKit
set_option maxHeartbeats 1000000 in
set_option maxRecDepth 100000 in
theorem rparse_none1 (v : Value) (l : List UInt8) (w : World) (hn : takeL l 0 1 = none) (hv : Hb w v l) (hl : l.length ≤ 1000000000) : Calls Tryd.prog 16 #[v] w (PX w l none) := by
  have N1 : Hid (∀ W, Below w.heap.size w W → Calls Tryd.prog 34 #[v] W (NX W (nextL (l.drop 0)))) := fun W hW => by rw [List.drop_zero]; exact rnext_calls v l W (hv.below hW) (by omega)
  obtain ⟨va, vc, rfl, _, _⟩ := hv
  have HN := take_none hn
  clear hl hn
  go_enter Tryd.func16, Tryd.ntmps16
  go_wp2_with fail
  refine (N1.out _ (below_alloc w _)).mono ?_
  intro e w1 h1
  obtain ⟨xa, xn, xc, rfl, ox1, hb1⟩ := h1.flat
  generalize nk (nextL (l.drop 0)) = K at HN ox1 ⊢
  generalize nc (nextL (l.drop 0)) = C at HN ox1 ⊢
  generalize nn (nextL (l.drop 0)) = M at HN ox1 ⊢
  have Z1 : SegAt w1 w.heap.size (.int .i64 0) (.int .i64 0) (.bool false) (.slice none 0 0) (.slice none 0 0) (.int .i64 0) (.bool false) := by
    unfold SegAt; rw [hb1.block _ (by simp)]; exact heap_last w _
  have B1 : Below w.heap.size w w1 := (below_alloc w _).trans (hb1.mono (by simp))
  obtain ⟨W1, hW1⟩ : ∃ W1, W1 = w1.alloc (Obj.cells #[.int .i64 K, .slice xa xn xc] 57) := ⟨_, rfl⟩
  have S1 : SegAt W1 w.heap.size (.int .i64 0) (.int .i64 0) (.bool false) (.slice none 0 0) (.slice none 0 0) (.int .i64 0) (.bool false) := by
    rw [hW1]; exact Z1.below (below_alloc w1 _)
  have HB : Hid (Below w.heap.size w W1) := by show Below _ _ _; rw [hW1]; exact B1.alloc B1.size _
  have HS1 : Hid (SegAt W1 w.heap.size (.int .i64 0) (.int .i64 0) (.bool false) (.slice none 0 0) (.slice none 0 0) (.int .i64 0) (.bool false)) := S1
  have HW1 : Hid (W1 = w1.alloc (Obj.cells #[.int .i64 K, .slice xa xn xc] 57)) := hW1
  clear h1 ox1 hb1 Z1 B1 hW1 S1
  rcases HN with hc | ⟨hc, hk⟩
  · have dc : (C != 0) = true := by simp [hc]
    go_upto_region 3 with fail
    rw [← HW1.out]
    obtain ⟨t0, t1, t2, t3, t4, t5, t6, z0, z1, z2, z3, z4, z5, z6⟩ := HS1.out.all
    have HR : Hid (_ = W1) := reset7 HS1.out
    go_wp2_with fail
    rw [HR.out]
    refine bodyPost_ret (ret16 _ rfl rfl HS1.out) rfl ?_
    exact ⟨HB.out, rfl⟩
  · have dc : (C != 0) = false := by simp [hc]
    have dk : (K != 1) = true := by simpa using hk
    go_upto_region 3 with fail
    rw [← HW1.out]
    obtain ⟨t0, t1, t2, t3, t4, t5, t6, z0, z1, z2, z3, z4, z5, z6⟩ := HS1.out.all
    have HR : Hid (_ = W1) := reset7 HS1.out
    go_wp2_with fail
    rw [HR.out]
    refine bodyPost_ret (ret16 _ rfl rfl HS1.out) rfl ?_
    exact ⟨HB.out, rfl⟩
end Go.Proofs.YthakbkkopneilaaDoor
