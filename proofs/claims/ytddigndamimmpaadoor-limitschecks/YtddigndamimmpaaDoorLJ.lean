/- The reference's empty. -/
import Derived.Test.YtddigndamimmpaaDoorLG
import Derived.Test.YtddigndamimmpaaDoorCB
import Derived.Test.YtddigndamimmpaaDoorLF
namespace Go.Proofs.YtddigndamimmpaaDoor
open Go.ChangeShapes Go.WideShapes Go.ChangeAt Go.RowKit
attribute [local go_sem] iteB
/-- What the reference's empty says. -/
def EmR (h1 h2 h3 h4 h5 h6 h7 h8 : Bool) (tv : Tv) (q m : ByteArray) (ru nu wa pf : Int) (pc : Nat) (pm : Int) (cn an : Nat) : Prop :=
  (h1 = true ∨ q.toList.isEmpty = true) ∧ (h2 = true ∨ m.toList.isEmpty = true) ∧ (h3 = true ∨ tv = zE) ∧ (h4 = true ∨ ru = 0) ∧ (h5 = true ∨ nu = 0) ∧ (h6 = true ∨ wa = 0) ∧ (h7 = true ∨ (pf = 0 ∧ pc = 0 ∧ pm = 0)) ∧ (h8 = true ∨ (cn = 0 ∧ an = 0))
set_option maxHeartbeats 2000000 in
theorem em_175 (n : Nat) (tv : Tv) (k : Int) (f q m : ByteArray) (vk vx vb : Int) (vs : ByteArray) (la : Option Addr) (ll lc : Nat) (ru nu wa pf : Int) (pc : Nat) (pm : Int) (ca : Option Addr) (cn cc : Nat) (aa : Option Addr) (an ac : Nat) (w : World) (_hv : Is w (n + 1) (.agg #[.int .i64 vk, .int .i64 vx, .int .u64 vb, .string vs, .slice la ll lc]) tv) (hs0 : cn + an ≤ 1000) (hF : fld k = 175) : Calls Tryd.prog 20 #[.agg #[.int .i64 k, .string f, .string q, .string m, .int .i64 vk, .int .i64 vx, .int .u64 vb, .string vs, .slice la ll lc, .int .i64 ru, .int .i64 nu, .int .i64 wa, .int .i64 pf, .int .u64 (pc : Int), .int .i64 pm, .slice ca cn cc, .slice aa an ac]] w (FitP (EmR true true true false true false true false tv q m ru nu wa pf pc pm cn an) w) := by
  have HE : Hid ((EmR true true true false true false true false tv q m ru nu wa pf pc pm cn an) ↔ (ru = 0 ∧ wa = 0 ∧ (cn = 0 ∧ an = 0))) := by rw [Hid]; simp [EmR]
  generalize (EmR true true true false true false true false tv q m ru nu wa pf pc pm cn an) = PP at HE ⊢
  have HZ : Hid (cn + an ≤ 1000) := hs0
  have H1 : Hid (∀ W, Calls Tryd.prog 23 #[.int .i64 k, .int .i64 2] W fun e w' => e = .returned (.bool true) ∧ Below W.heap.size W w') := fun W => (show hs k 1 = true by unfold hs; rw [hF]; decide) ▸ has_1 k W
  have H2 : Hid (∀ W, Calls Tryd.prog 23 #[.int .i64 k, .int .i64 4] W fun e w' => e = .returned (.bool true) ∧ Below W.heap.size W w') := fun W => (show hs k 2 = true by unfold hs; rw [hF]; decide) ▸ has_2 k W
  have H3 : Hid (∀ W, Calls Tryd.prog 23 #[.int .i64 k, .int .i64 8] W fun e w' => e = .returned (.bool true) ∧ Below W.heap.size W w') := fun W => (show hs k 3 = true by unfold hs; rw [hF]; decide) ▸ has_3 k W
  have H4 : Hid (∀ W, Calls Tryd.prog 23 #[.int .i64 k, .int .i64 16] W fun e w' => e = .returned (.bool false) ∧ Below W.heap.size W w') := fun W => (show hs k 4 = false by unfold hs; rw [hF]; decide) ▸ has_4 k W
  have H5 : Hid (∀ W, Calls Tryd.prog 23 #[.int .i64 k, .int .i64 32] W fun e w' => e = .returned (.bool true) ∧ Below W.heap.size W w') := fun W => (show hs k 5 = true by unfold hs; rw [hF]; decide) ▸ has_5 k W
  have H6 : Hid (∀ W, Calls Tryd.prog 23 #[.int .i64 k, .int .i64 64] W fun e w' => e = .returned (.bool false) ∧ Below W.heap.size W w') := fun W => (show hs k 6 = false by unfold hs; rw [hF]; decide) ▸ has_6 k W
  have H7 : Hid (∀ W, Calls Tryd.prog 23 #[.int .i64 k, .int .i64 128] W fun e w' => e = .returned (.bool true) ∧ Below W.heap.size W w') := fun W => (show hs k 7 = true by unfold hs; rw [hF]; decide) ▸ has_7 k W
  have H8 : Hid (∀ W, Calls Tryd.prog 23 #[.int .i64 k, .int .i64 256] W fun e w' => e = .returned (.bool false) ∧ Below W.heap.size W w') := fun W => (show hs k 8 = false by unfold hs; rw [hF]; decide) ▸ has_8 k W
  clear _hv hF hs0
  have HB : Hid (Below w.heap.size w (w.alloc (.cells #[.int .i64 k, .string f, .string q, .string m, .int .i64 vk, .int .i64 vx, .int .u64 vb, .string vs, .slice la ll lc, .int .i64 ru, .int .i64 nu, .int .i64 wa, .int .i64 pf, .int .u64 (pc : Int), .int .i64 pm, .slice ca cn cc, .slice aa an ac] 31))) := bel1 _ _
  have HX : Hid (AtR (w.alloc (.cells #[.int .i64 k, .string f, .string q, .string m, .int .i64 vk, .int .i64 vx, .int .u64 vb, .string vs, .slice la ll lc, .int .i64 ru, .int .i64 nu, .int .i64 wa, .int .i64 pf, .int .u64 (pc : Int), .int .i64 pm, .slice ca cn cc, .slice aa an ac] 31)) w.heap.size k f q m vk vx vb vs la ll lc ru nu wa pf pc pm ca cn cc aa an ac) := AtR.box w k f q m vk vx vb vs la ll lc ru nu wa pf pc pm ca cn cc aa an ac
  generalize hW0 : w.alloc (.cells #[.int .i64 k, .string f, .string q, .string m, .int .i64 vk, .int .i64 vx, .int .u64 vb, .string vs, .slice la ll lc, .int .i64 ru, .int .i64 nu, .int .i64 wa, .int .i64 pf, .int .u64 (pc : Int), .int .i64 pm, .slice ca cn cc, .slice aa an ac] 31) = W1 at HB HX
  have H0 : Hid (w.alloc (.cells #[.int .i64 k, .string f, .string q, .string m, .int .i64 vk, .int .i64 vx, .int .u64 vb, .string vs, .slice la ll lc, .int .i64 ru, .int .i64 nu, .int .i64 wa, .int .i64 pf, .int .u64 (pc : Int), .int .i64 pm, .slice ca cn cc, .slice aa an ac] 31) = W1) := hW0
  clear hW0
  go_enter Tryd.func20, Tryd.ntmps20
  go_upto_region 1 with fail
  rw [H0.out]
  clear H0
  obtain ⟨x0, x1, x2, x3, x4, x5, x6, x7, x8, x9, x10, x11, x12, x13, x14, x15, x16⟩ := HX.out
  clear x1
  go_upto_region 2 with fail
  clear x0
  go_wp2_with fail
  refine Calls.mono (H1.out _) ?_
  rintro e y1 ⟨rfl, hb⟩
  replace HX : Hid (AtR y1 w.heap.size k f q m vk vx vb vs la ll lc ru nu wa pf pc pm ca cn cc aa an ac) := HX.out.below hb
  replace HB : Hid (Below w.heap.size w y1) := bel2 HB.out hb
  clear hb
  clear x2 x3 x4 x5 x6 x7 x8 x9 x10 x11 x12 x13 x14 x15 x16
  obtain ⟨x0, x1, x2, x3, x4, x5, x6, x7, x8, x9, x10, x11, x12, x13, x14, x15, x16⟩ := HX.out
  clear x0 x1
  go_wp2_with fail
  refine Calls.mono (H2.out _) ?_
  rintro e y2 ⟨rfl, hb⟩
  replace HX : Hid (AtR y2 w.heap.size k f q m vk vx vb vs la ll lc ru nu wa pf pc pm ca cn cc aa an ac) := HX.out.below hb
  replace HB : Hid (Below w.heap.size w y2) := bel2 HB.out hb
  clear hb
  clear x2 x3 x4 x5 x6 x7 x8 x9 x10 x11 x12 x13 x14 x15 x16
  obtain ⟨x0, x1, x2, x3, x4, x5, x6, x7, x8, x9, x10, x11, x12, x13, x14, x15, x16⟩ := HX.out
  clear x0 x1
  go_wp2_with fail
  refine Calls.mono (H3.out _) ?_
  rintro e y3 ⟨rfl, hb⟩
  replace HX : Hid (AtR y3 w.heap.size k f q m vk vx vb vs la ll lc ru nu wa pf pc pm ca cn cc aa an ac) := HX.out.below hb
  replace HB : Hid (Below w.heap.size w y3) := bel2 HB.out hb
  clear hb
  clear x2 x3 x4 x5 x6 x7 x8 x9 x10 x11 x12 x13 x14 x15 x16
  obtain ⟨x0, x1, x2, x3, x4, x5, x6, x7, x8, x9, x10, x11, x12, x13, x14, x15, x16⟩ := HX.out
  clear x0 x1
  go_wp2_with fail
  refine Calls.mono (H4.out _) ?_
  rintro e y4 ⟨rfl, hb⟩
  replace HX : Hid (AtR y4 w.heap.size k f q m vk vx vb vs la ll lc ru nu wa pf pc pm ca cn cc aa an ac) := HX.out.below hb
  replace HB : Hid (Below w.heap.size w y4) := bel2 HB.out hb
  clear hb
  clear x2 x3 x4 x5 x6 x7 x8 x9 x10 x11 x12 x13 x14 x15 x16
  obtain ⟨x0, x1, x2, x3, x4, x5, x6, x7, x8, x9, x10, x11, x12, x13, x14, x15, x16⟩ := HX.out
  clear x0 x1
  by_cases c4 : ru = 0
  rotate_left
  · have d4 : (ru != 0) = true := by simpa using c4
    go_wp2_with fail
    go_ret
    exact ⟨⟨false, rfl, nofun, fun hp => absurd (HE.out.1 hp) (by simp [c4])⟩, HB.out⟩
  have d4 : (ru != 0) = false := by simpa using c4
  have C4 : Hid (ru = 0) := c4
  clear c4
  go_wp2_with fail
  refine Calls.mono (H5.out _) ?_
  rintro e y5 ⟨rfl, hb⟩
  replace HX : Hid (AtR y5 w.heap.size k f q m vk vx vb vs la ll lc ru nu wa pf pc pm ca cn cc aa an ac) := HX.out.below hb
  replace HB : Hid (Below w.heap.size w y5) := bel2 HB.out hb
  clear hb
  clear x2 x3 x4 x5 x6 x7 x8 x9 x10 x11 x12 x13 x14 x15 x16
  obtain ⟨x0, x1, x2, x3, x4, x5, x6, x7, x8, x9, x10, x11, x12, x13, x14, x15, x16⟩ := HX.out
  clear x0 x1
  go_wp2_with fail
  refine Calls.mono (H6.out _) ?_
  rintro e y6 ⟨rfl, hb⟩
  replace HX : Hid (AtR y6 w.heap.size k f q m vk vx vb vs la ll lc ru nu wa pf pc pm ca cn cc aa an ac) := HX.out.below hb
  replace HB : Hid (Below w.heap.size w y6) := bel2 HB.out hb
  clear hb
  clear x2 x3 x4 x5 x6 x7 x8 x9 x10 x11 x12 x13 x14 x15 x16
  obtain ⟨x0, x1, x2, x3, x4, x5, x6, x7, x8, x9, x10, x11, x12, x13, x14, x15, x16⟩ := HX.out
  clear x0 x1
  by_cases c6 : wa = 0
  rotate_left
  · have d6 : (wa != 0) = true := by simpa using c6
    go_wp2_with fail
    go_ret
    exact ⟨⟨false, rfl, nofun, fun hp => absurd (HE.out.1 hp) (by simp [c6])⟩, HB.out⟩
  have d6 : (wa != 0) = false := by simpa using c6
  have C6 : Hid (wa = 0) := c6
  clear c6
  go_wp2_with fail
  refine Calls.mono (H7.out _) ?_
  rintro e y7 ⟨rfl, hb⟩
  replace HX : Hid (AtR y7 w.heap.size k f q m vk vx vb vs la ll lc ru nu wa pf pc pm ca cn cc aa an ac) := HX.out.below hb
  replace HB : Hid (Below w.heap.size w y7) := bel2 HB.out hb
  clear hb
  clear x2 x3 x4 x5 x6 x7 x8 x9 x10 x11 x12 x13 x14 x15 x16
  obtain ⟨x0, x1, x2, x3, x4, x5, x6, x7, x8, x9, x10, x11, x12, x13, x14, x15, x16⟩ := HX.out
  clear x0 x1
  go_wp2_with fail
  refine Calls.mono (H8.out _) ?_
  rintro e y8 ⟨rfl, hb⟩
  replace HX : Hid (AtR y8 w.heap.size k f q m vk vx vb vs la ll lc ru nu wa pf pc pm ca cn cc aa an ac) := HX.out.below hb
  replace HB : Hid (Below w.heap.size w y8) := bel2 HB.out hb
  clear hb
  clear x2 x3 x4 x5 x6 x7 x8 x9 x10 x11 x12 x13 x14 x15 x16
  obtain ⟨x0, x1, x2, x3, x4, x5, x6, x7, x8, x9, x10, x11, x12, x13, x14, x15, x16⟩ := HX.out
  clear x0 x1
  have w8 : wrap64 ((cn : Int) + (an : Int)) = ((cn + an : Nat) : Int) := by have := HZ.out; unfold wrap64; omega
  have w9 : IntKind.i64.wrap ((cn : Int) + (an : Int)) = ((cn + an : Nat) : Int) := by have := HZ.out; rw [IntKind.wrap_i64]; omega
  by_cases c8 : cn + an = 0
  · have d8 : (((cn + an : Nat) : Int) == 0) = true := by rw [c8]; rfl
    go_wp2_with fail
    go_ret
    have k1 : cn = 0 := by omega
    have k2 : an = 0 := by omega
    exact ⟨⟨true, by first | rfl | simp_all, fun _ => HE.out.2 (by simp [k1, k2, C4.out, C6.out]), fun _ => rfl⟩, HB.out⟩
  · have d8 : (((cn + an : Nat) : Int) == 0) = false := by rw [beq_eq_false_iff_ne]; omega
    have N8 : ¬ (cn = 0 ∧ an = 0) := fun h => c8 (by omega)
    go_wp2_with fail
    go_ret
    exact ⟨⟨false, by first | rfl | simp_all, nofun, fun hp => absurd (HE.out.1 hp) (by simp [N8])⟩, HB.out⟩
set_option maxHeartbeats 2000000 in
theorem em_15 (n : Nat) (tv : Tv) (k : Int) (f q m : ByteArray) (vk vx vb : Int) (vs : ByteArray) (la : Option Addr) (ll lc : Nat) (ru nu wa pf : Int) (pc : Nat) (pm : Int) (ca : Option Addr) (cn cc : Nat) (aa : Option Addr) (an ac : Nat) (w : World) (_hv : Is w (n + 1) (.agg #[.int .i64 vk, .int .i64 vx, .int .u64 vb, .string vs, .slice la ll lc]) tv) (hs0 : cn + an ≤ 1000) (hF : fld k = 15) : Calls Tryd.prog 20 #[.agg #[.int .i64 k, .string f, .string q, .string m, .int .i64 vk, .int .i64 vx, .int .u64 vb, .string vs, .slice la ll lc, .int .i64 ru, .int .i64 nu, .int .i64 wa, .int .i64 pf, .int .u64 (pc : Int), .int .i64 pm, .slice ca cn cc, .slice aa an ac]] w (FitP (EmR true true true false false false false false tv q m ru nu wa pf pc pm cn an) w) := by
  have HE : Hid ((EmR true true true false false false false false tv q m ru nu wa pf pc pm cn an) ↔ (ru = 0 ∧ nu = 0 ∧ wa = 0 ∧ (pf = 0 ∧ pc = 0 ∧ pm = 0) ∧ (cn = 0 ∧ an = 0))) := by rw [Hid]; simp [EmR]
  generalize (EmR true true true false false false false false tv q m ru nu wa pf pc pm cn an) = PP at HE ⊢
  have HZ : Hid (cn + an ≤ 1000) := hs0
  have H1 : Hid (∀ W, Calls Tryd.prog 23 #[.int .i64 k, .int .i64 2] W fun e w' => e = .returned (.bool true) ∧ Below W.heap.size W w') := fun W => (show hs k 1 = true by unfold hs; rw [hF]; decide) ▸ has_1 k W
  have H2 : Hid (∀ W, Calls Tryd.prog 23 #[.int .i64 k, .int .i64 4] W fun e w' => e = .returned (.bool true) ∧ Below W.heap.size W w') := fun W => (show hs k 2 = true by unfold hs; rw [hF]; decide) ▸ has_2 k W
  have H3 : Hid (∀ W, Calls Tryd.prog 23 #[.int .i64 k, .int .i64 8] W fun e w' => e = .returned (.bool true) ∧ Below W.heap.size W w') := fun W => (show hs k 3 = true by unfold hs; rw [hF]; decide) ▸ has_3 k W
  have H4 : Hid (∀ W, Calls Tryd.prog 23 #[.int .i64 k, .int .i64 16] W fun e w' => e = .returned (.bool false) ∧ Below W.heap.size W w') := fun W => (show hs k 4 = false by unfold hs; rw [hF]; decide) ▸ has_4 k W
  have H5 : Hid (∀ W, Calls Tryd.prog 23 #[.int .i64 k, .int .i64 32] W fun e w' => e = .returned (.bool false) ∧ Below W.heap.size W w') := fun W => (show hs k 5 = false by unfold hs; rw [hF]; decide) ▸ has_5 k W
  have H6 : Hid (∀ W, Calls Tryd.prog 23 #[.int .i64 k, .int .i64 64] W fun e w' => e = .returned (.bool false) ∧ Below W.heap.size W w') := fun W => (show hs k 6 = false by unfold hs; rw [hF]; decide) ▸ has_6 k W
  have H7 : Hid (∀ W, Calls Tryd.prog 23 #[.int .i64 k, .int .i64 128] W fun e w' => e = .returned (.bool false) ∧ Below W.heap.size W w') := fun W => (show hs k 7 = false by unfold hs; rw [hF]; decide) ▸ has_7 k W
  have H8 : Hid (∀ W, Calls Tryd.prog 23 #[.int .i64 k, .int .i64 256] W fun e w' => e = .returned (.bool false) ∧ Below W.heap.size W w') := fun W => (show hs k 8 = false by unfold hs; rw [hF]; decide) ▸ has_8 k W
  clear _hv hF hs0
  have HB : Hid (Below w.heap.size w (w.alloc (.cells #[.int .i64 k, .string f, .string q, .string m, .int .i64 vk, .int .i64 vx, .int .u64 vb, .string vs, .slice la ll lc, .int .i64 ru, .int .i64 nu, .int .i64 wa, .int .i64 pf, .int .u64 (pc : Int), .int .i64 pm, .slice ca cn cc, .slice aa an ac] 31))) := bel1 _ _
  have HX : Hid (AtR (w.alloc (.cells #[.int .i64 k, .string f, .string q, .string m, .int .i64 vk, .int .i64 vx, .int .u64 vb, .string vs, .slice la ll lc, .int .i64 ru, .int .i64 nu, .int .i64 wa, .int .i64 pf, .int .u64 (pc : Int), .int .i64 pm, .slice ca cn cc, .slice aa an ac] 31)) w.heap.size k f q m vk vx vb vs la ll lc ru nu wa pf pc pm ca cn cc aa an ac) := AtR.box w k f q m vk vx vb vs la ll lc ru nu wa pf pc pm ca cn cc aa an ac
  generalize hW0 : w.alloc (.cells #[.int .i64 k, .string f, .string q, .string m, .int .i64 vk, .int .i64 vx, .int .u64 vb, .string vs, .slice la ll lc, .int .i64 ru, .int .i64 nu, .int .i64 wa, .int .i64 pf, .int .u64 (pc : Int), .int .i64 pm, .slice ca cn cc, .slice aa an ac] 31) = W1 at HB HX
  have H0 : Hid (w.alloc (.cells #[.int .i64 k, .string f, .string q, .string m, .int .i64 vk, .int .i64 vx, .int .u64 vb, .string vs, .slice la ll lc, .int .i64 ru, .int .i64 nu, .int .i64 wa, .int .i64 pf, .int .u64 (pc : Int), .int .i64 pm, .slice ca cn cc, .slice aa an ac] 31) = W1) := hW0
  clear hW0
  go_enter Tryd.func20, Tryd.ntmps20
  go_upto_region 1 with fail
  rw [H0.out]
  clear H0
  obtain ⟨x0, x1, x2, x3, x4, x5, x6, x7, x8, x9, x10, x11, x12, x13, x14, x15, x16⟩ := HX.out
  clear x1
  go_upto_region 2 with fail
  clear x0
  go_wp2_with fail
  refine Calls.mono (H1.out _) ?_
  rintro e y1 ⟨rfl, hb⟩
  replace HX : Hid (AtR y1 w.heap.size k f q m vk vx vb vs la ll lc ru nu wa pf pc pm ca cn cc aa an ac) := HX.out.below hb
  replace HB : Hid (Below w.heap.size w y1) := bel2 HB.out hb
  clear hb
  clear x2 x3 x4 x5 x6 x7 x8 x9 x10 x11 x12 x13 x14 x15 x16
  obtain ⟨x0, x1, x2, x3, x4, x5, x6, x7, x8, x9, x10, x11, x12, x13, x14, x15, x16⟩ := HX.out
  clear x0 x1
  go_wp2_with fail
  refine Calls.mono (H2.out _) ?_
  rintro e y2 ⟨rfl, hb⟩
  replace HX : Hid (AtR y2 w.heap.size k f q m vk vx vb vs la ll lc ru nu wa pf pc pm ca cn cc aa an ac) := HX.out.below hb
  replace HB : Hid (Below w.heap.size w y2) := bel2 HB.out hb
  clear hb
  clear x2 x3 x4 x5 x6 x7 x8 x9 x10 x11 x12 x13 x14 x15 x16
  obtain ⟨x0, x1, x2, x3, x4, x5, x6, x7, x8, x9, x10, x11, x12, x13, x14, x15, x16⟩ := HX.out
  clear x0 x1
  go_wp2_with fail
  refine Calls.mono (H3.out _) ?_
  rintro e y3 ⟨rfl, hb⟩
  replace HX : Hid (AtR y3 w.heap.size k f q m vk vx vb vs la ll lc ru nu wa pf pc pm ca cn cc aa an ac) := HX.out.below hb
  replace HB : Hid (Below w.heap.size w y3) := bel2 HB.out hb
  clear hb
  clear x2 x3 x4 x5 x6 x7 x8 x9 x10 x11 x12 x13 x14 x15 x16
  obtain ⟨x0, x1, x2, x3, x4, x5, x6, x7, x8, x9, x10, x11, x12, x13, x14, x15, x16⟩ := HX.out
  clear x0 x1
  go_wp2_with fail
  refine Calls.mono (H4.out _) ?_
  rintro e y4 ⟨rfl, hb⟩
  replace HX : Hid (AtR y4 w.heap.size k f q m vk vx vb vs la ll lc ru nu wa pf pc pm ca cn cc aa an ac) := HX.out.below hb
  replace HB : Hid (Below w.heap.size w y4) := bel2 HB.out hb
  clear hb
  clear x2 x3 x4 x5 x6 x7 x8 x9 x10 x11 x12 x13 x14 x15 x16
  obtain ⟨x0, x1, x2, x3, x4, x5, x6, x7, x8, x9, x10, x11, x12, x13, x14, x15, x16⟩ := HX.out
  clear x0 x1
  by_cases c4 : ru = 0
  rotate_left
  · have d4 : (ru != 0) = true := by simpa using c4
    go_wp2_with fail
    go_ret
    exact ⟨⟨false, rfl, nofun, fun hp => absurd (HE.out.1 hp) (by simp [c4])⟩, HB.out⟩
  have d4 : (ru != 0) = false := by simpa using c4
  have C4 : Hid (ru = 0) := c4
  clear c4
  go_wp2_with fail
  refine Calls.mono (H5.out _) ?_
  rintro e y5 ⟨rfl, hb⟩
  replace HX : Hid (AtR y5 w.heap.size k f q m vk vx vb vs la ll lc ru nu wa pf pc pm ca cn cc aa an ac) := HX.out.below hb
  replace HB : Hid (Below w.heap.size w y5) := bel2 HB.out hb
  clear hb
  clear x2 x3 x4 x5 x6 x7 x8 x9 x10 x11 x12 x13 x14 x15 x16
  obtain ⟨x0, x1, x2, x3, x4, x5, x6, x7, x8, x9, x10, x11, x12, x13, x14, x15, x16⟩ := HX.out
  clear x0 x1
  by_cases c5 : nu = 0
  rotate_left
  · have d5 : (nu != 0) = true := by simpa using c5
    go_wp2_with fail
    go_ret
    exact ⟨⟨false, rfl, nofun, fun hp => absurd (HE.out.1 hp) (by simp [c5])⟩, HB.out⟩
  have d5 : (nu != 0) = false := by simpa using c5
  have C5 : Hid (nu = 0) := c5
  clear c5
  go_wp2_with fail
  refine Calls.mono (H6.out _) ?_
  rintro e y6 ⟨rfl, hb⟩
  replace HX : Hid (AtR y6 w.heap.size k f q m vk vx vb vs la ll lc ru nu wa pf pc pm ca cn cc aa an ac) := HX.out.below hb
  replace HB : Hid (Below w.heap.size w y6) := bel2 HB.out hb
  clear hb
  clear x2 x3 x4 x5 x6 x7 x8 x9 x10 x11 x12 x13 x14 x15 x16
  obtain ⟨x0, x1, x2, x3, x4, x5, x6, x7, x8, x9, x10, x11, x12, x13, x14, x15, x16⟩ := HX.out
  clear x0 x1
  by_cases c6 : wa = 0
  rotate_left
  · have d6 : (wa != 0) = true := by simpa using c6
    go_wp2_with fail
    go_ret
    exact ⟨⟨false, rfl, nofun, fun hp => absurd (HE.out.1 hp) (by simp [c6])⟩, HB.out⟩
  have d6 : (wa != 0) = false := by simpa using c6
  have C6 : Hid (wa = 0) := c6
  clear c6
  go_wp2_with fail
  refine Calls.mono (H7.out _) ?_
  rintro e y7 ⟨rfl, hb⟩
  replace HX : Hid (AtR y7 w.heap.size k f q m vk vx vb vs la ll lc ru nu wa pf pc pm ca cn cc aa an ac) := HX.out.below hb
  replace HB : Hid (Below w.heap.size w y7) := bel2 HB.out hb
  clear hb
  clear x2 x3 x4 x5 x6 x7 x8 x9 x10 x11 x12 x13 x14 x15 x16
  obtain ⟨x0, x1, x2, x3, x4, x5, x6, x7, x8, x9, x10, x11, x12, x13, x14, x15, x16⟩ := HX.out
  clear x0 x1
  cases c7 : (!decide (pf = 0) || (!decide (pc = 0) || !decide (pm = 0)))
  rotate_left
  · have N7 : ¬ (pf = 0 ∧ pc = 0 ∧ pm = 0) := fun h => by simp [h.1, h.2.1, h.2.2] at c7
    go_wp2_with fail
    go_ret
    exact ⟨⟨false, rfl, nofun, fun hp => absurd (HE.out.1 hp) (by simp [N7])⟩, HB.out⟩
  have C7 : Hid (pf = 0 ∧ pc = 0 ∧ pm = 0) := by simp at c7; exact ⟨c7.1, c7.2.1, c7.2.2⟩
  go_wp2_with fail
  refine Calls.mono (H8.out _) ?_
  rintro e y8 ⟨rfl, hb⟩
  replace HX : Hid (AtR y8 w.heap.size k f q m vk vx vb vs la ll lc ru nu wa pf pc pm ca cn cc aa an ac) := HX.out.below hb
  replace HB : Hid (Below w.heap.size w y8) := bel2 HB.out hb
  clear hb
  clear x2 x3 x4 x5 x6 x7 x8 x9 x10 x11 x12 x13 x14 x15 x16
  obtain ⟨x0, x1, x2, x3, x4, x5, x6, x7, x8, x9, x10, x11, x12, x13, x14, x15, x16⟩ := HX.out
  clear x0 x1
  have w8 : wrap64 ((cn : Int) + (an : Int)) = ((cn + an : Nat) : Int) := by have := HZ.out; unfold wrap64; omega
  have w9 : IntKind.i64.wrap ((cn : Int) + (an : Int)) = ((cn + an : Nat) : Int) := by have := HZ.out; rw [IntKind.wrap_i64]; omega
  by_cases c8 : cn + an = 0
  · have d8 : (((cn + an : Nat) : Int) == 0) = true := by rw [c8]; rfl
    go_wp2_with fail
    go_ret
    have k1 : cn = 0 := by omega
    have k2 : an = 0 := by omega
    exact ⟨⟨true, by first | rfl | simp_all, fun _ => HE.out.2 (by simp [k1, k2, C4.out, C5.out, C6.out, C7.out]), fun _ => rfl⟩, HB.out⟩
  · have d8 : (((cn + an : Nat) : Int) == 0) = false := by rw [beq_eq_false_iff_ne]; omega
    have N8 : ¬ (cn = 0 ∧ an = 0) := fun h => c8 (by omega)
    go_wp2_with fail
    go_ret
    exact ⟨⟨false, by first | rfl | simp_all, nofun, fun hp => absurd (HE.out.1 hp) (by simp [N8])⟩, HB.out⟩
set_option maxHeartbeats 2000000 in
theorem em_77 (n : Nat) (tv : Tv) (k : Int) (f q m : ByteArray) (vk vx vb : Int) (vs : ByteArray) (la : Option Addr) (ll lc : Nat) (ru nu wa pf : Int) (pc : Nat) (pm : Int) (ca : Option Addr) (cn cc : Nat) (aa : Option Addr) (an ac : Nat) (w : World) (_hv : Is w (n + 1) (.agg #[.int .i64 vk, .int .i64 vx, .int .u64 vb, .string vs, .slice la ll lc]) tv) (hs0 : cn + an ≤ 1000) (hF : fld k = 77) : Calls Tryd.prog 20 #[.agg #[.int .i64 k, .string f, .string q, .string m, .int .i64 vk, .int .i64 vx, .int .u64 vb, .string vs, .slice la ll lc, .int .i64 ru, .int .i64 nu, .int .i64 wa, .int .i64 pf, .int .u64 (pc : Int), .int .i64 pm, .slice ca cn cc, .slice aa an ac]] w (FitP (EmR false true true false false true false false tv q m ru nu wa pf pc pm cn an) w) := by
  have HE : Hid ((EmR false true true false false true false false tv q m ru nu wa pf pc pm cn an) ↔ (q.toList.isEmpty = true ∧ ru = 0 ∧ nu = 0 ∧ (pf = 0 ∧ pc = 0 ∧ pm = 0) ∧ (cn = 0 ∧ an = 0))) := by rw [Hid]; simp [EmR]
  generalize (EmR false true true false false true false false tv q m ru nu wa pf pc pm cn an) = PP at HE ⊢
  have HZ : Hid (cn + an ≤ 1000) := hs0
  have H1 : Hid (∀ W, Calls Tryd.prog 23 #[.int .i64 k, .int .i64 2] W fun e w' => e = .returned (.bool false) ∧ Below W.heap.size W w') := fun W => (show hs k 1 = false by unfold hs; rw [hF]; decide) ▸ has_1 k W
  have H2 : Hid (∀ W, Calls Tryd.prog 23 #[.int .i64 k, .int .i64 4] W fun e w' => e = .returned (.bool true) ∧ Below W.heap.size W w') := fun W => (show hs k 2 = true by unfold hs; rw [hF]; decide) ▸ has_2 k W
  have H3 : Hid (∀ W, Calls Tryd.prog 23 #[.int .i64 k, .int .i64 8] W fun e w' => e = .returned (.bool true) ∧ Below W.heap.size W w') := fun W => (show hs k 3 = true by unfold hs; rw [hF]; decide) ▸ has_3 k W
  have H4 : Hid (∀ W, Calls Tryd.prog 23 #[.int .i64 k, .int .i64 16] W fun e w' => e = .returned (.bool false) ∧ Below W.heap.size W w') := fun W => (show hs k 4 = false by unfold hs; rw [hF]; decide) ▸ has_4 k W
  have H5 : Hid (∀ W, Calls Tryd.prog 23 #[.int .i64 k, .int .i64 32] W fun e w' => e = .returned (.bool false) ∧ Below W.heap.size W w') := fun W => (show hs k 5 = false by unfold hs; rw [hF]; decide) ▸ has_5 k W
  have H6 : Hid (∀ W, Calls Tryd.prog 23 #[.int .i64 k, .int .i64 64] W fun e w' => e = .returned (.bool true) ∧ Below W.heap.size W w') := fun W => (show hs k 6 = true by unfold hs; rw [hF]; decide) ▸ has_6 k W
  have H7 : Hid (∀ W, Calls Tryd.prog 23 #[.int .i64 k, .int .i64 128] W fun e w' => e = .returned (.bool false) ∧ Below W.heap.size W w') := fun W => (show hs k 7 = false by unfold hs; rw [hF]; decide) ▸ has_7 k W
  have H8 : Hid (∀ W, Calls Tryd.prog 23 #[.int .i64 k, .int .i64 256] W fun e w' => e = .returned (.bool false) ∧ Below W.heap.size W w') := fun W => (show hs k 8 = false by unfold hs; rw [hF]; decide) ▸ has_8 k W
  clear _hv hF hs0
  have HB : Hid (Below w.heap.size w (w.alloc (.cells #[.int .i64 k, .string f, .string q, .string m, .int .i64 vk, .int .i64 vx, .int .u64 vb, .string vs, .slice la ll lc, .int .i64 ru, .int .i64 nu, .int .i64 wa, .int .i64 pf, .int .u64 (pc : Int), .int .i64 pm, .slice ca cn cc, .slice aa an ac] 31))) := bel1 _ _
  have HX : Hid (AtR (w.alloc (.cells #[.int .i64 k, .string f, .string q, .string m, .int .i64 vk, .int .i64 vx, .int .u64 vb, .string vs, .slice la ll lc, .int .i64 ru, .int .i64 nu, .int .i64 wa, .int .i64 pf, .int .u64 (pc : Int), .int .i64 pm, .slice ca cn cc, .slice aa an ac] 31)) w.heap.size k f q m vk vx vb vs la ll lc ru nu wa pf pc pm ca cn cc aa an ac) := AtR.box w k f q m vk vx vb vs la ll lc ru nu wa pf pc pm ca cn cc aa an ac
  generalize hW0 : w.alloc (.cells #[.int .i64 k, .string f, .string q, .string m, .int .i64 vk, .int .i64 vx, .int .u64 vb, .string vs, .slice la ll lc, .int .i64 ru, .int .i64 nu, .int .i64 wa, .int .i64 pf, .int .u64 (pc : Int), .int .i64 pm, .slice ca cn cc, .slice aa an ac] 31) = W1 at HB HX
  have H0 : Hid (w.alloc (.cells #[.int .i64 k, .string f, .string q, .string m, .int .i64 vk, .int .i64 vx, .int .u64 vb, .string vs, .slice la ll lc, .int .i64 ru, .int .i64 nu, .int .i64 wa, .int .i64 pf, .int .u64 (pc : Int), .int .i64 pm, .slice ca cn cc, .slice aa an ac] 31) = W1) := hW0
  clear hW0
  go_enter Tryd.func20, Tryd.ntmps20
  go_upto_region 1 with fail
  rw [H0.out]
  clear H0
  obtain ⟨x0, x1, x2, x3, x4, x5, x6, x7, x8, x9, x10, x11, x12, x13, x14, x15, x16⟩ := HX.out
  clear x1
  go_upto_region 2 with fail
  clear x0
  go_wp2_with fail
  refine Calls.mono (H1.out _) ?_
  rintro e y1 ⟨rfl, hb⟩
  replace HX : Hid (AtR y1 w.heap.size k f q m vk vx vb vs la ll lc ru nu wa pf pc pm ca cn cc aa an ac) := HX.out.below hb
  replace HB : Hid (Below w.heap.size w y1) := bel2 HB.out hb
  clear hb
  clear x2 x3 x4 x5 x6 x7 x8 x9 x10 x11 x12 x13 x14 x15 x16
  obtain ⟨x0, x1, x2, x3, x4, x5, x6, x7, x8, x9, x10, x11, x12, x13, x14, x15, x16⟩ := HX.out
  clear x0 x1
  cases c1 : q.toList.isEmpty
  · go_wp2_with fail
    go_ret
    exact ⟨⟨false, rfl, nofun, fun hp => absurd (HE.out.1 hp) (by simp [c1])⟩, HB.out⟩
  go_wp2_with fail
  refine Calls.mono (H2.out _) ?_
  rintro e y2 ⟨rfl, hb⟩
  replace HX : Hid (AtR y2 w.heap.size k f q m vk vx vb vs la ll lc ru nu wa pf pc pm ca cn cc aa an ac) := HX.out.below hb
  replace HB : Hid (Below w.heap.size w y2) := bel2 HB.out hb
  clear hb
  clear x2 x3 x4 x5 x6 x7 x8 x9 x10 x11 x12 x13 x14 x15 x16
  obtain ⟨x0, x1, x2, x3, x4, x5, x6, x7, x8, x9, x10, x11, x12, x13, x14, x15, x16⟩ := HX.out
  clear x0 x1
  go_wp2_with fail
  refine Calls.mono (H3.out _) ?_
  rintro e y3 ⟨rfl, hb⟩
  replace HX : Hid (AtR y3 w.heap.size k f q m vk vx vb vs la ll lc ru nu wa pf pc pm ca cn cc aa an ac) := HX.out.below hb
  replace HB : Hid (Below w.heap.size w y3) := bel2 HB.out hb
  clear hb
  clear x2 x3 x4 x5 x6 x7 x8 x9 x10 x11 x12 x13 x14 x15 x16
  obtain ⟨x0, x1, x2, x3, x4, x5, x6, x7, x8, x9, x10, x11, x12, x13, x14, x15, x16⟩ := HX.out
  clear x0 x1
  go_wp2_with fail
  refine Calls.mono (H4.out _) ?_
  rintro e y4 ⟨rfl, hb⟩
  replace HX : Hid (AtR y4 w.heap.size k f q m vk vx vb vs la ll lc ru nu wa pf pc pm ca cn cc aa an ac) := HX.out.below hb
  replace HB : Hid (Below w.heap.size w y4) := bel2 HB.out hb
  clear hb
  clear x2 x3 x4 x5 x6 x7 x8 x9 x10 x11 x12 x13 x14 x15 x16
  obtain ⟨x0, x1, x2, x3, x4, x5, x6, x7, x8, x9, x10, x11, x12, x13, x14, x15, x16⟩ := HX.out
  clear x0 x1
  by_cases c4 : ru = 0
  rotate_left
  · have d4 : (ru != 0) = true := by simpa using c4
    go_wp2_with fail
    go_ret
    exact ⟨⟨false, rfl, nofun, fun hp => absurd (HE.out.1 hp) (by simp [c4])⟩, HB.out⟩
  have d4 : (ru != 0) = false := by simpa using c4
  have C4 : Hid (ru = 0) := c4
  clear c4
  go_wp2_with fail
  refine Calls.mono (H5.out _) ?_
  rintro e y5 ⟨rfl, hb⟩
  replace HX : Hid (AtR y5 w.heap.size k f q m vk vx vb vs la ll lc ru nu wa pf pc pm ca cn cc aa an ac) := HX.out.below hb
  replace HB : Hid (Below w.heap.size w y5) := bel2 HB.out hb
  clear hb
  clear x2 x3 x4 x5 x6 x7 x8 x9 x10 x11 x12 x13 x14 x15 x16
  obtain ⟨x0, x1, x2, x3, x4, x5, x6, x7, x8, x9, x10, x11, x12, x13, x14, x15, x16⟩ := HX.out
  clear x0 x1
  by_cases c5 : nu = 0
  rotate_left
  · have d5 : (nu != 0) = true := by simpa using c5
    go_wp2_with fail
    go_ret
    exact ⟨⟨false, rfl, nofun, fun hp => absurd (HE.out.1 hp) (by simp [c5])⟩, HB.out⟩
  have d5 : (nu != 0) = false := by simpa using c5
  have C5 : Hid (nu = 0) := c5
  clear c5
  go_wp2_with fail
  refine Calls.mono (H6.out _) ?_
  rintro e y6 ⟨rfl, hb⟩
  replace HX : Hid (AtR y6 w.heap.size k f q m vk vx vb vs la ll lc ru nu wa pf pc pm ca cn cc aa an ac) := HX.out.below hb
  replace HB : Hid (Below w.heap.size w y6) := bel2 HB.out hb
  clear hb
  clear x2 x3 x4 x5 x6 x7 x8 x9 x10 x11 x12 x13 x14 x15 x16
  obtain ⟨x0, x1, x2, x3, x4, x5, x6, x7, x8, x9, x10, x11, x12, x13, x14, x15, x16⟩ := HX.out
  clear x0 x1
  go_wp2_with fail
  refine Calls.mono (H7.out _) ?_
  rintro e y7 ⟨rfl, hb⟩
  replace HX : Hid (AtR y7 w.heap.size k f q m vk vx vb vs la ll lc ru nu wa pf pc pm ca cn cc aa an ac) := HX.out.below hb
  replace HB : Hid (Below w.heap.size w y7) := bel2 HB.out hb
  clear hb
  clear x2 x3 x4 x5 x6 x7 x8 x9 x10 x11 x12 x13 x14 x15 x16
  obtain ⟨x0, x1, x2, x3, x4, x5, x6, x7, x8, x9, x10, x11, x12, x13, x14, x15, x16⟩ := HX.out
  clear x0 x1
  cases c7 : (!decide (pf = 0) || (!decide (pc = 0) || !decide (pm = 0)))
  rotate_left
  · have N7 : ¬ (pf = 0 ∧ pc = 0 ∧ pm = 0) := fun h => by simp [h.1, h.2.1, h.2.2] at c7
    go_wp2_with fail
    go_ret
    exact ⟨⟨false, rfl, nofun, fun hp => absurd (HE.out.1 hp) (by simp [N7])⟩, HB.out⟩
  have C7 : Hid (pf = 0 ∧ pc = 0 ∧ pm = 0) := by simp at c7; exact ⟨c7.1, c7.2.1, c7.2.2⟩
  go_wp2_with fail
  refine Calls.mono (H8.out _) ?_
  rintro e y8 ⟨rfl, hb⟩
  replace HX : Hid (AtR y8 w.heap.size k f q m vk vx vb vs la ll lc ru nu wa pf pc pm ca cn cc aa an ac) := HX.out.below hb
  replace HB : Hid (Below w.heap.size w y8) := bel2 HB.out hb
  clear hb
  clear x2 x3 x4 x5 x6 x7 x8 x9 x10 x11 x12 x13 x14 x15 x16
  obtain ⟨x0, x1, x2, x3, x4, x5, x6, x7, x8, x9, x10, x11, x12, x13, x14, x15, x16⟩ := HX.out
  clear x0 x1
  have w8 : wrap64 ((cn : Int) + (an : Int)) = ((cn + an : Nat) : Int) := by have := HZ.out; unfold wrap64; omega
  have w9 : IntKind.i64.wrap ((cn : Int) + (an : Int)) = ((cn + an : Nat) : Int) := by have := HZ.out; rw [IntKind.wrap_i64]; omega
  by_cases c8 : cn + an = 0
  · have d8 : (((cn + an : Nat) : Int) == 0) = true := by rw [c8]; rfl
    go_wp2_with fail
    go_ret
    have k1 : cn = 0 := by omega
    have k2 : an = 0 := by omega
    exact ⟨⟨true, by first | rfl | simp_all, fun _ => HE.out.2 (by simp [k1, k2, c1, C4.out, C5.out, C7.out]), fun _ => rfl⟩, HB.out⟩
  · have d8 : (((cn + an : Nat) : Int) == 0) = false := by rw [beq_eq_false_iff_ne]; omega
    have N8 : ¬ (cn = 0 ∧ an = 0) := fun h => c8 (by omega)
    go_wp2_with fail
    go_ret
    exact ⟨⟨false, by first | rfl | simp_all, nofun, fun hp => absurd (HE.out.1 hp) (by simp [N8])⟩, HB.out⟩
set_option maxHeartbeats 2000000 in
theorem em_107 (n : Nat) (tv : Tv) (k : Int) (f q m : ByteArray) (vk vx vb : Int) (vs : ByteArray) (la : Option Addr) (ll lc : Nat) (ru nu wa pf : Int) (pc : Nat) (pm : Int) (ca : Option Addr) (cn cc : Nat) (aa : Option Addr) (an ac : Nat) (w : World) (_hv : Is w (n + 1) (.agg #[.int .i64 vk, .int .i64 vx, .int .u64 vb, .string vs, .slice la ll lc]) tv) (hs0 : cn + an ≤ 1000) (hF : fld k = 107) : Calls Tryd.prog 20 #[.agg #[.int .i64 k, .string f, .string q, .string m, .int .i64 vk, .int .i64 vx, .int .u64 vb, .string vs, .slice la ll lc, .int .i64 ru, .int .i64 nu, .int .i64 wa, .int .i64 pf, .int .u64 (pc : Int), .int .i64 pm, .slice ca cn cc, .slice aa an ac]] w (FitP (EmR true false true false true true false false tv q m ru nu wa pf pc pm cn an) w) := by
  have HE : Hid ((EmR true false true false true true false false tv q m ru nu wa pf pc pm cn an) ↔ (m.toList.isEmpty = true ∧ ru = 0 ∧ (pf = 0 ∧ pc = 0 ∧ pm = 0) ∧ (cn = 0 ∧ an = 0))) := by rw [Hid]; simp [EmR]
  generalize (EmR true false true false true true false false tv q m ru nu wa pf pc pm cn an) = PP at HE ⊢
  have HZ : Hid (cn + an ≤ 1000) := hs0
  have H1 : Hid (∀ W, Calls Tryd.prog 23 #[.int .i64 k, .int .i64 2] W fun e w' => e = .returned (.bool true) ∧ Below W.heap.size W w') := fun W => (show hs k 1 = true by unfold hs; rw [hF]; decide) ▸ has_1 k W
  have H2 : Hid (∀ W, Calls Tryd.prog 23 #[.int .i64 k, .int .i64 4] W fun e w' => e = .returned (.bool false) ∧ Below W.heap.size W w') := fun W => (show hs k 2 = false by unfold hs; rw [hF]; decide) ▸ has_2 k W
  have H3 : Hid (∀ W, Calls Tryd.prog 23 #[.int .i64 k, .int .i64 8] W fun e w' => e = .returned (.bool true) ∧ Below W.heap.size W w') := fun W => (show hs k 3 = true by unfold hs; rw [hF]; decide) ▸ has_3 k W
  have H4 : Hid (∀ W, Calls Tryd.prog 23 #[.int .i64 k, .int .i64 16] W fun e w' => e = .returned (.bool false) ∧ Below W.heap.size W w') := fun W => (show hs k 4 = false by unfold hs; rw [hF]; decide) ▸ has_4 k W
  have H5 : Hid (∀ W, Calls Tryd.prog 23 #[.int .i64 k, .int .i64 32] W fun e w' => e = .returned (.bool true) ∧ Below W.heap.size W w') := fun W => (show hs k 5 = true by unfold hs; rw [hF]; decide) ▸ has_5 k W
  have H6 : Hid (∀ W, Calls Tryd.prog 23 #[.int .i64 k, .int .i64 64] W fun e w' => e = .returned (.bool true) ∧ Below W.heap.size W w') := fun W => (show hs k 6 = true by unfold hs; rw [hF]; decide) ▸ has_6 k W
  have H7 : Hid (∀ W, Calls Tryd.prog 23 #[.int .i64 k, .int .i64 128] W fun e w' => e = .returned (.bool false) ∧ Below W.heap.size W w') := fun W => (show hs k 7 = false by unfold hs; rw [hF]; decide) ▸ has_7 k W
  have H8 : Hid (∀ W, Calls Tryd.prog 23 #[.int .i64 k, .int .i64 256] W fun e w' => e = .returned (.bool false) ∧ Below W.heap.size W w') := fun W => (show hs k 8 = false by unfold hs; rw [hF]; decide) ▸ has_8 k W
  clear _hv hF hs0
  have HB : Hid (Below w.heap.size w (w.alloc (.cells #[.int .i64 k, .string f, .string q, .string m, .int .i64 vk, .int .i64 vx, .int .u64 vb, .string vs, .slice la ll lc, .int .i64 ru, .int .i64 nu, .int .i64 wa, .int .i64 pf, .int .u64 (pc : Int), .int .i64 pm, .slice ca cn cc, .slice aa an ac] 31))) := bel1 _ _
  have HX : Hid (AtR (w.alloc (.cells #[.int .i64 k, .string f, .string q, .string m, .int .i64 vk, .int .i64 vx, .int .u64 vb, .string vs, .slice la ll lc, .int .i64 ru, .int .i64 nu, .int .i64 wa, .int .i64 pf, .int .u64 (pc : Int), .int .i64 pm, .slice ca cn cc, .slice aa an ac] 31)) w.heap.size k f q m vk vx vb vs la ll lc ru nu wa pf pc pm ca cn cc aa an ac) := AtR.box w k f q m vk vx vb vs la ll lc ru nu wa pf pc pm ca cn cc aa an ac
  generalize hW0 : w.alloc (.cells #[.int .i64 k, .string f, .string q, .string m, .int .i64 vk, .int .i64 vx, .int .u64 vb, .string vs, .slice la ll lc, .int .i64 ru, .int .i64 nu, .int .i64 wa, .int .i64 pf, .int .u64 (pc : Int), .int .i64 pm, .slice ca cn cc, .slice aa an ac] 31) = W1 at HB HX
  have H0 : Hid (w.alloc (.cells #[.int .i64 k, .string f, .string q, .string m, .int .i64 vk, .int .i64 vx, .int .u64 vb, .string vs, .slice la ll lc, .int .i64 ru, .int .i64 nu, .int .i64 wa, .int .i64 pf, .int .u64 (pc : Int), .int .i64 pm, .slice ca cn cc, .slice aa an ac] 31) = W1) := hW0
  clear hW0
  go_enter Tryd.func20, Tryd.ntmps20
  go_upto_region 1 with fail
  rw [H0.out]
  clear H0
  obtain ⟨x0, x1, x2, x3, x4, x5, x6, x7, x8, x9, x10, x11, x12, x13, x14, x15, x16⟩ := HX.out
  clear x1
  go_upto_region 2 with fail
  clear x0
  go_wp2_with fail
  refine Calls.mono (H1.out _) ?_
  rintro e y1 ⟨rfl, hb⟩
  replace HX : Hid (AtR y1 w.heap.size k f q m vk vx vb vs la ll lc ru nu wa pf pc pm ca cn cc aa an ac) := HX.out.below hb
  replace HB : Hid (Below w.heap.size w y1) := bel2 HB.out hb
  clear hb
  clear x2 x3 x4 x5 x6 x7 x8 x9 x10 x11 x12 x13 x14 x15 x16
  obtain ⟨x0, x1, x2, x3, x4, x5, x6, x7, x8, x9, x10, x11, x12, x13, x14, x15, x16⟩ := HX.out
  clear x0 x1
  go_wp2_with fail
  refine Calls.mono (H2.out _) ?_
  rintro e y2 ⟨rfl, hb⟩
  replace HX : Hid (AtR y2 w.heap.size k f q m vk vx vb vs la ll lc ru nu wa pf pc pm ca cn cc aa an ac) := HX.out.below hb
  replace HB : Hid (Below w.heap.size w y2) := bel2 HB.out hb
  clear hb
  clear x2 x3 x4 x5 x6 x7 x8 x9 x10 x11 x12 x13 x14 x15 x16
  obtain ⟨x0, x1, x2, x3, x4, x5, x6, x7, x8, x9, x10, x11, x12, x13, x14, x15, x16⟩ := HX.out
  clear x0 x1
  cases c2 : m.toList.isEmpty
  · go_wp2_with fail
    go_ret
    exact ⟨⟨false, rfl, nofun, fun hp => absurd (HE.out.1 hp) (by simp [c2])⟩, HB.out⟩
  go_wp2_with fail
  refine Calls.mono (H3.out _) ?_
  rintro e y3 ⟨rfl, hb⟩
  replace HX : Hid (AtR y3 w.heap.size k f q m vk vx vb vs la ll lc ru nu wa pf pc pm ca cn cc aa an ac) := HX.out.below hb
  replace HB : Hid (Below w.heap.size w y3) := bel2 HB.out hb
  clear hb
  clear x2 x3 x4 x5 x6 x7 x8 x9 x10 x11 x12 x13 x14 x15 x16
  obtain ⟨x0, x1, x2, x3, x4, x5, x6, x7, x8, x9, x10, x11, x12, x13, x14, x15, x16⟩ := HX.out
  clear x0 x1
  go_wp2_with fail
  refine Calls.mono (H4.out _) ?_
  rintro e y4 ⟨rfl, hb⟩
  replace HX : Hid (AtR y4 w.heap.size k f q m vk vx vb vs la ll lc ru nu wa pf pc pm ca cn cc aa an ac) := HX.out.below hb
  replace HB : Hid (Below w.heap.size w y4) := bel2 HB.out hb
  clear hb
  clear x2 x3 x4 x5 x6 x7 x8 x9 x10 x11 x12 x13 x14 x15 x16
  obtain ⟨x0, x1, x2, x3, x4, x5, x6, x7, x8, x9, x10, x11, x12, x13, x14, x15, x16⟩ := HX.out
  clear x0 x1
  by_cases c4 : ru = 0
  rotate_left
  · have d4 : (ru != 0) = true := by simpa using c4
    go_wp2_with fail
    go_ret
    exact ⟨⟨false, rfl, nofun, fun hp => absurd (HE.out.1 hp) (by simp [c4])⟩, HB.out⟩
  have d4 : (ru != 0) = false := by simpa using c4
  have C4 : Hid (ru = 0) := c4
  clear c4
  go_wp2_with fail
  refine Calls.mono (H5.out _) ?_
  rintro e y5 ⟨rfl, hb⟩
  replace HX : Hid (AtR y5 w.heap.size k f q m vk vx vb vs la ll lc ru nu wa pf pc pm ca cn cc aa an ac) := HX.out.below hb
  replace HB : Hid (Below w.heap.size w y5) := bel2 HB.out hb
  clear hb
  clear x2 x3 x4 x5 x6 x7 x8 x9 x10 x11 x12 x13 x14 x15 x16
  obtain ⟨x0, x1, x2, x3, x4, x5, x6, x7, x8, x9, x10, x11, x12, x13, x14, x15, x16⟩ := HX.out
  clear x0 x1
  go_wp2_with fail
  refine Calls.mono (H6.out _) ?_
  rintro e y6 ⟨rfl, hb⟩
  replace HX : Hid (AtR y6 w.heap.size k f q m vk vx vb vs la ll lc ru nu wa pf pc pm ca cn cc aa an ac) := HX.out.below hb
  replace HB : Hid (Below w.heap.size w y6) := bel2 HB.out hb
  clear hb
  clear x2 x3 x4 x5 x6 x7 x8 x9 x10 x11 x12 x13 x14 x15 x16
  obtain ⟨x0, x1, x2, x3, x4, x5, x6, x7, x8, x9, x10, x11, x12, x13, x14, x15, x16⟩ := HX.out
  clear x0 x1
  go_wp2_with fail
  refine Calls.mono (H7.out _) ?_
  rintro e y7 ⟨rfl, hb⟩
  replace HX : Hid (AtR y7 w.heap.size k f q m vk vx vb vs la ll lc ru nu wa pf pc pm ca cn cc aa an ac) := HX.out.below hb
  replace HB : Hid (Below w.heap.size w y7) := bel2 HB.out hb
  clear hb
  clear x2 x3 x4 x5 x6 x7 x8 x9 x10 x11 x12 x13 x14 x15 x16
  obtain ⟨x0, x1, x2, x3, x4, x5, x6, x7, x8, x9, x10, x11, x12, x13, x14, x15, x16⟩ := HX.out
  clear x0 x1
  cases c7 : (!decide (pf = 0) || (!decide (pc = 0) || !decide (pm = 0)))
  rotate_left
  · have N7 : ¬ (pf = 0 ∧ pc = 0 ∧ pm = 0) := fun h => by simp [h.1, h.2.1, h.2.2] at c7
    go_wp2_with fail
    go_ret
    exact ⟨⟨false, rfl, nofun, fun hp => absurd (HE.out.1 hp) (by simp [N7])⟩, HB.out⟩
  have C7 : Hid (pf = 0 ∧ pc = 0 ∧ pm = 0) := by simp at c7; exact ⟨c7.1, c7.2.1, c7.2.2⟩
  go_wp2_with fail
  refine Calls.mono (H8.out _) ?_
  rintro e y8 ⟨rfl, hb⟩
  replace HX : Hid (AtR y8 w.heap.size k f q m vk vx vb vs la ll lc ru nu wa pf pc pm ca cn cc aa an ac) := HX.out.below hb
  replace HB : Hid (Below w.heap.size w y8) := bel2 HB.out hb
  clear hb
  clear x2 x3 x4 x5 x6 x7 x8 x9 x10 x11 x12 x13 x14 x15 x16
  obtain ⟨x0, x1, x2, x3, x4, x5, x6, x7, x8, x9, x10, x11, x12, x13, x14, x15, x16⟩ := HX.out
  clear x0 x1
  have w8 : wrap64 ((cn : Int) + (an : Int)) = ((cn + an : Nat) : Int) := by have := HZ.out; unfold wrap64; omega
  have w9 : IntKind.i64.wrap ((cn : Int) + (an : Int)) = ((cn + an : Nat) : Int) := by have := HZ.out; rw [IntKind.wrap_i64]; omega
  by_cases c8 : cn + an = 0
  · have d8 : (((cn + an : Nat) : Int) == 0) = true := by rw [c8]; rfl
    go_wp2_with fail
    go_ret
    have k1 : cn = 0 := by omega
    have k2 : an = 0 := by omega
    exact ⟨⟨true, by first | rfl | simp_all, fun _ => HE.out.2 (by simp [k1, k2, c2, C4.out, C7.out]), fun _ => rfl⟩, HB.out⟩
  · have d8 : (((cn + an : Nat) : Int) == 0) = false := by rw [beq_eq_false_iff_ne]; omega
    have N8 : ¬ (cn = 0 ∧ an = 0) := fun h => c8 (by omega)
    go_wp2_with fail
    go_ret
    exact ⟨⟨false, by first | rfl | simp_all, nofun, fun hp => absurd (HE.out.1 hp) (by simp [N8])⟩, HB.out⟩
set_option maxHeartbeats 2000000 in
theorem em_3 (n : Nat) (tv : Tv) (k : Int) (f q m : ByteArray) (vk vx vb : Int) (vs : ByteArray) (la : Option Addr) (ll lc : Nat) (ru nu wa pf : Int) (pc : Nat) (pm : Int) (ca : Option Addr) (cn cc : Nat) (aa : Option Addr) (an ac : Nat) (w : World) (hv : Is w (n + 1) (.agg #[.int .i64 vk, .int .i64 vx, .int .u64 vb, .string vs, .slice la ll lc]) tv) (hs0 : cn + an ≤ 1000) (hF : fld k = 3) : Calls Tryd.prog 20 #[.agg #[.int .i64 k, .string f, .string q, .string m, .int .i64 vk, .int .i64 vx, .int .u64 vb, .string vs, .slice la ll lc, .int .i64 ru, .int .i64 nu, .int .i64 wa, .int .i64 pf, .int .u64 (pc : Int), .int .i64 pm, .slice ca cn cc, .slice aa an ac]] w (FitP (EmR true false false false false false false false tv q m ru nu wa pf pc pm cn an) w) := by
  have HE : Hid ((EmR true false false false false false false false tv q m ru nu wa pf pc pm cn an) ↔ (m.toList.isEmpty = true ∧ tv = zE ∧ ru = 0 ∧ nu = 0 ∧ wa = 0 ∧ (pf = 0 ∧ pc = 0 ∧ pm = 0) ∧ (cn = 0 ∧ an = 0))) := by rw [Hid]; simp [EmR]
  generalize (EmR true false false false false false false false tv q m ru nu wa pf pc pm cn an) = PP at HE ⊢
  have HZ : Hid (cn + an ≤ 1000) := hs0
  have H1 : Hid (∀ W, Calls Tryd.prog 23 #[.int .i64 k, .int .i64 2] W fun e w' => e = .returned (.bool true) ∧ Below W.heap.size W w') := fun W => (show hs k 1 = true by unfold hs; rw [hF]; decide) ▸ has_1 k W
  have H2 : Hid (∀ W, Calls Tryd.prog 23 #[.int .i64 k, .int .i64 4] W fun e w' => e = .returned (.bool false) ∧ Below W.heap.size W w') := fun W => (show hs k 2 = false by unfold hs; rw [hF]; decide) ▸ has_2 k W
  have H3 : Hid (∀ W, Calls Tryd.prog 23 #[.int .i64 k, .int .i64 8] W fun e w' => e = .returned (.bool false) ∧ Below W.heap.size W w') := fun W => (show hs k 3 = false by unfold hs; rw [hF]; decide) ▸ has_3 k W
  have H4 : Hid (∀ W, Calls Tryd.prog 23 #[.int .i64 k, .int .i64 16] W fun e w' => e = .returned (.bool false) ∧ Below W.heap.size W w') := fun W => (show hs k 4 = false by unfold hs; rw [hF]; decide) ▸ has_4 k W
  have H5 : Hid (∀ W, Calls Tryd.prog 23 #[.int .i64 k, .int .i64 32] W fun e w' => e = .returned (.bool false) ∧ Below W.heap.size W w') := fun W => (show hs k 5 = false by unfold hs; rw [hF]; decide) ▸ has_5 k W
  have H6 : Hid (∀ W, Calls Tryd.prog 23 #[.int .i64 k, .int .i64 64] W fun e w' => e = .returned (.bool false) ∧ Below W.heap.size W w') := fun W => (show hs k 6 = false by unfold hs; rw [hF]; decide) ▸ has_6 k W
  have H7 : Hid (∀ W, Calls Tryd.prog 23 #[.int .i64 k, .int .i64 128] W fun e w' => e = .returned (.bool false) ∧ Below W.heap.size W w') := fun W => (show hs k 7 = false by unfold hs; rw [hF]; decide) ▸ has_7 k W
  have H8 : Hid (∀ W, Calls Tryd.prog 23 #[.int .i64 k, .int .i64 256] W fun e w' => e = .returned (.bool false) ∧ Below W.heap.size W w') := fun W => (show hs k 8 = false by unfold hs; rw [hF]; decide) ▸ has_8 k W
  have SC : Hid (∀ W, Below w.heap.size w W → _) := fun W hB => rsame_calls (n + 1) (.agg #[.int .i64 vk, .int .i64 vx, .int .u64 vb, .string vs, .slice la ll lc]) tv (.agg #[.int .i64 0, .int .i64 0, .int .u64 0, .string ⟨#[]⟩, .slice none 0 0]) zE W (hv.below hB) (zE_is W n)
  clear hv hF hs0
  have HB : Hid (Below w.heap.size w (w.alloc (.cells #[.int .i64 k, .string f, .string q, .string m, .int .i64 vk, .int .i64 vx, .int .u64 vb, .string vs, .slice la ll lc, .int .i64 ru, .int .i64 nu, .int .i64 wa, .int .i64 pf, .int .u64 (pc : Int), .int .i64 pm, .slice ca cn cc, .slice aa an ac] 31))) := bel1 _ _
  have HX : Hid (AtR (w.alloc (.cells #[.int .i64 k, .string f, .string q, .string m, .int .i64 vk, .int .i64 vx, .int .u64 vb, .string vs, .slice la ll lc, .int .i64 ru, .int .i64 nu, .int .i64 wa, .int .i64 pf, .int .u64 (pc : Int), .int .i64 pm, .slice ca cn cc, .slice aa an ac] 31)) w.heap.size k f q m vk vx vb vs la ll lc ru nu wa pf pc pm ca cn cc aa an ac) := AtR.box w k f q m vk vx vb vs la ll lc ru nu wa pf pc pm ca cn cc aa an ac
  generalize hW0 : w.alloc (.cells #[.int .i64 k, .string f, .string q, .string m, .int .i64 vk, .int .i64 vx, .int .u64 vb, .string vs, .slice la ll lc, .int .i64 ru, .int .i64 nu, .int .i64 wa, .int .i64 pf, .int .u64 (pc : Int), .int .i64 pm, .slice ca cn cc, .slice aa an ac] 31) = W1 at HB HX
  have H0 : Hid (w.alloc (.cells #[.int .i64 k, .string f, .string q, .string m, .int .i64 vk, .int .i64 vx, .int .u64 vb, .string vs, .slice la ll lc, .int .i64 ru, .int .i64 nu, .int .i64 wa, .int .i64 pf, .int .u64 (pc : Int), .int .i64 pm, .slice ca cn cc, .slice aa an ac] 31) = W1) := hW0
  clear hW0
  go_enter Tryd.func20, Tryd.ntmps20
  go_upto_region 1 with fail
  rw [H0.out]
  clear H0
  obtain ⟨x0, x1, x2, x3, x4, x5, x6, x7, x8, x9, x10, x11, x12, x13, x14, x15, x16⟩ := HX.out
  clear x1
  go_upto_region 2 with fail
  clear x0
  go_wp2_with fail
  refine Calls.mono (H1.out _) ?_
  rintro e y1 ⟨rfl, hb⟩
  replace HX : Hid (AtR y1 w.heap.size k f q m vk vx vb vs la ll lc ru nu wa pf pc pm ca cn cc aa an ac) := HX.out.below hb
  replace HB : Hid (Below w.heap.size w y1) := bel2 HB.out hb
  clear hb
  clear x2 x3 x4 x5 x6 x7 x8 x9 x10 x11 x12 x13 x14 x15 x16
  obtain ⟨x0, x1, x2, x3, x4, x5, x6, x7, x8, x9, x10, x11, x12, x13, x14, x15, x16⟩ := HX.out
  clear x0 x1
  go_wp2_with fail
  refine Calls.mono (H2.out _) ?_
  rintro e y2 ⟨rfl, hb⟩
  replace HX : Hid (AtR y2 w.heap.size k f q m vk vx vb vs la ll lc ru nu wa pf pc pm ca cn cc aa an ac) := HX.out.below hb
  replace HB : Hid (Below w.heap.size w y2) := bel2 HB.out hb
  clear hb
  clear x2 x3 x4 x5 x6 x7 x8 x9 x10 x11 x12 x13 x14 x15 x16
  obtain ⟨x0, x1, x2, x3, x4, x5, x6, x7, x8, x9, x10, x11, x12, x13, x14, x15, x16⟩ := HX.out
  clear x0 x1
  cases c2 : m.toList.isEmpty
  · go_wp2_with fail
    go_ret
    exact ⟨⟨false, rfl, nofun, fun hp => absurd (HE.out.1 hp) (by simp [c2])⟩, HB.out⟩
  go_wp2_with fail
  refine Calls.mono (H3.out _) ?_
  rintro e y3 ⟨rfl, hb⟩
  replace HX : Hid (AtR y3 w.heap.size k f q m vk vx vb vs la ll lc ru nu wa pf pc pm ca cn cc aa an ac) := HX.out.below hb
  replace HB : Hid (Below w.heap.size w y3) := bel2 HB.out hb
  clear hb
  clear x2 x3 x4 x5 x6 x7 x8 x9 x10 x11 x12 x13 x14 x15 x16
  obtain ⟨x0, x1, x2, x3, x4, x5, x6, x7, x8, x9, x10, x11, x12, x13, x14, x15, x16⟩ := HX.out
  clear x0 x1
  go_wp2_with fail
  refine Calls.mono (SC.out _ HB.out) ?_
  rintro e y4 ⟨⟨r3, rfl, e3⟩, hb⟩
  replace HX : Hid (AtR y4 w.heap.size k f q m vk vx vb vs la ll lc ru nu wa pf pc pm ca cn cc aa an ac) := HX.out.below hb
  replace HB : Hid (Below w.heap.size w y4) := bel2 HB.out hb
  have E3 : Hid (r3 = true ↔ tv = zE) := e3
  clear hb e3
  clear x2 x3 x4 x5 x6 x7 x8 x9 x10 x11 x12 x13 x14 x15 x16
  obtain ⟨x0, x1, x2, x3, x4, x5, x6, x7, x8, x9, x10, x11, x12, x13, x14, x15, x16⟩ := HX.out
  clear x0 x1
  cases r3
  · have N3 : ¬ tv = zE := fun h => by cases E3.out.2 h
    go_wp2_with fail
    go_ret
    exact ⟨⟨false, rfl, nofun, fun hp => absurd (HE.out.1 hp) (by simp [N3])⟩, HB.out⟩
  have C3 : Hid (tv = zE) := E3.out.1 rfl
  go_wp2_with fail
  refine Calls.mono (H4.out _) ?_
  rintro e y5 ⟨rfl, hb⟩
  replace HX : Hid (AtR y5 w.heap.size k f q m vk vx vb vs la ll lc ru nu wa pf pc pm ca cn cc aa an ac) := HX.out.below hb
  replace HB : Hid (Below w.heap.size w y5) := bel2 HB.out hb
  clear hb
  clear x2 x3 x4 x5 x6 x7 x8 x9 x10 x11 x12 x13 x14 x15 x16
  obtain ⟨x0, x1, x2, x3, x4, x5, x6, x7, x8, x9, x10, x11, x12, x13, x14, x15, x16⟩ := HX.out
  clear x0 x1
  by_cases c4 : ru = 0
  rotate_left
  · have d4 : (ru != 0) = true := by simpa using c4
    go_wp2_with fail
    go_ret
    exact ⟨⟨false, rfl, nofun, fun hp => absurd (HE.out.1 hp) (by simp [c4])⟩, HB.out⟩
  have d4 : (ru != 0) = false := by simpa using c4
  have C4 : Hid (ru = 0) := c4
  clear c4
  go_wp2_with fail
  refine Calls.mono (H5.out _) ?_
  rintro e y6 ⟨rfl, hb⟩
  replace HX : Hid (AtR y6 w.heap.size k f q m vk vx vb vs la ll lc ru nu wa pf pc pm ca cn cc aa an ac) := HX.out.below hb
  replace HB : Hid (Below w.heap.size w y6) := bel2 HB.out hb
  clear hb
  clear x2 x3 x4 x5 x6 x7 x8 x9 x10 x11 x12 x13 x14 x15 x16
  obtain ⟨x0, x1, x2, x3, x4, x5, x6, x7, x8, x9, x10, x11, x12, x13, x14, x15, x16⟩ := HX.out
  clear x0 x1
  by_cases c5 : nu = 0
  rotate_left
  · have d5 : (nu != 0) = true := by simpa using c5
    go_wp2_with fail
    go_ret
    exact ⟨⟨false, rfl, nofun, fun hp => absurd (HE.out.1 hp) (by simp [c5])⟩, HB.out⟩
  have d5 : (nu != 0) = false := by simpa using c5
  have C5 : Hid (nu = 0) := c5
  clear c5
  go_wp2_with fail
  refine Calls.mono (H6.out _) ?_
  rintro e y7 ⟨rfl, hb⟩
  replace HX : Hid (AtR y7 w.heap.size k f q m vk vx vb vs la ll lc ru nu wa pf pc pm ca cn cc aa an ac) := HX.out.below hb
  replace HB : Hid (Below w.heap.size w y7) := bel2 HB.out hb
  clear hb
  clear x2 x3 x4 x5 x6 x7 x8 x9 x10 x11 x12 x13 x14 x15 x16
  obtain ⟨x0, x1, x2, x3, x4, x5, x6, x7, x8, x9, x10, x11, x12, x13, x14, x15, x16⟩ := HX.out
  clear x0 x1
  by_cases c6 : wa = 0
  rotate_left
  · have d6 : (wa != 0) = true := by simpa using c6
    go_wp2_with fail
    go_ret
    exact ⟨⟨false, rfl, nofun, fun hp => absurd (HE.out.1 hp) (by simp [c6])⟩, HB.out⟩
  have d6 : (wa != 0) = false := by simpa using c6
  have C6 : Hid (wa = 0) := c6
  clear c6
  go_wp2_with fail
  refine Calls.mono (H7.out _) ?_
  rintro e y8 ⟨rfl, hb⟩
  replace HX : Hid (AtR y8 w.heap.size k f q m vk vx vb vs la ll lc ru nu wa pf pc pm ca cn cc aa an ac) := HX.out.below hb
  replace HB : Hid (Below w.heap.size w y8) := bel2 HB.out hb
  clear hb
  clear x2 x3 x4 x5 x6 x7 x8 x9 x10 x11 x12 x13 x14 x15 x16
  obtain ⟨x0, x1, x2, x3, x4, x5, x6, x7, x8, x9, x10, x11, x12, x13, x14, x15, x16⟩ := HX.out
  clear x0 x1
  cases c7 : (!decide (pf = 0) || (!decide (pc = 0) || !decide (pm = 0)))
  rotate_left
  · have N7 : ¬ (pf = 0 ∧ pc = 0 ∧ pm = 0) := fun h => by simp [h.1, h.2.1, h.2.2] at c7
    go_wp2_with fail
    go_ret
    exact ⟨⟨false, rfl, nofun, fun hp => absurd (HE.out.1 hp) (by simp [N7])⟩, HB.out⟩
  have C7 : Hid (pf = 0 ∧ pc = 0 ∧ pm = 0) := by simp at c7; exact ⟨c7.1, c7.2.1, c7.2.2⟩
  go_wp2_with fail
  refine Calls.mono (H8.out _) ?_
  rintro e y9 ⟨rfl, hb⟩
  replace HX : Hid (AtR y9 w.heap.size k f q m vk vx vb vs la ll lc ru nu wa pf pc pm ca cn cc aa an ac) := HX.out.below hb
  replace HB : Hid (Below w.heap.size w y9) := bel2 HB.out hb
  clear hb
  clear x2 x3 x4 x5 x6 x7 x8 x9 x10 x11 x12 x13 x14 x15 x16
  obtain ⟨x0, x1, x2, x3, x4, x5, x6, x7, x8, x9, x10, x11, x12, x13, x14, x15, x16⟩ := HX.out
  clear x0 x1
  have w8 : wrap64 ((cn : Int) + (an : Int)) = ((cn + an : Nat) : Int) := by have := HZ.out; unfold wrap64; omega
  have w9 : IntKind.i64.wrap ((cn : Int) + (an : Int)) = ((cn + an : Nat) : Int) := by have := HZ.out; rw [IntKind.wrap_i64]; omega
  by_cases c8 : cn + an = 0
  · have d8 : (((cn + an : Nat) : Int) == 0) = true := by rw [c8]; rfl
    go_wp2_with fail
    go_ret
    have k1 : cn = 0 := by omega
    have k2 : an = 0 := by omega
    exact ⟨⟨true, by first | rfl | simp_all, fun _ => HE.out.2 (by simp [k1, k2, c2, C3.out, C4.out, C5.out, C6.out, C7.out]), fun _ => rfl⟩, HB.out⟩
  · have d8 : (((cn + an : Nat) : Int) == 0) = false := by rw [beq_eq_false_iff_ne]; omega
    have N8 : ¬ (cn = 0 ∧ an = 0) := fun h => c8 (by omega)
    go_wp2_with fail
    go_ret
    exact ⟨⟨false, by first | rfl | simp_all, nofun, fun hp => absurd (HE.out.1 hp) (by simp [N8])⟩, HB.out⟩
set_option maxHeartbeats 2000000 in
theorem em_7 (n : Nat) (tv : Tv) (k : Int) (f q m : ByteArray) (vk vx vb : Int) (vs : ByteArray) (la : Option Addr) (ll lc : Nat) (ru nu wa pf : Int) (pc : Nat) (pm : Int) (ca : Option Addr) (cn cc : Nat) (aa : Option Addr) (an ac : Nat) (w : World) (hv : Is w (n + 1) (.agg #[.int .i64 vk, .int .i64 vx, .int .u64 vb, .string vs, .slice la ll lc]) tv) (hs0 : cn + an ≤ 1000) (hF : fld k = 7) : Calls Tryd.prog 20 #[.agg #[.int .i64 k, .string f, .string q, .string m, .int .i64 vk, .int .i64 vx, .int .u64 vb, .string vs, .slice la ll lc, .int .i64 ru, .int .i64 nu, .int .i64 wa, .int .i64 pf, .int .u64 (pc : Int), .int .i64 pm, .slice ca cn cc, .slice aa an ac]] w (FitP (EmR true true false false false false false false tv q m ru nu wa pf pc pm cn an) w) := by
  have HE : Hid ((EmR true true false false false false false false tv q m ru nu wa pf pc pm cn an) ↔ (tv = zE ∧ ru = 0 ∧ nu = 0 ∧ wa = 0 ∧ (pf = 0 ∧ pc = 0 ∧ pm = 0) ∧ (cn = 0 ∧ an = 0))) := by rw [Hid]; simp [EmR]
  generalize (EmR true true false false false false false false tv q m ru nu wa pf pc pm cn an) = PP at HE ⊢
  have HZ : Hid (cn + an ≤ 1000) := hs0
  have H1 : Hid (∀ W, Calls Tryd.prog 23 #[.int .i64 k, .int .i64 2] W fun e w' => e = .returned (.bool true) ∧ Below W.heap.size W w') := fun W => (show hs k 1 = true by unfold hs; rw [hF]; decide) ▸ has_1 k W
  have H2 : Hid (∀ W, Calls Tryd.prog 23 #[.int .i64 k, .int .i64 4] W fun e w' => e = .returned (.bool true) ∧ Below W.heap.size W w') := fun W => (show hs k 2 = true by unfold hs; rw [hF]; decide) ▸ has_2 k W
  have H3 : Hid (∀ W, Calls Tryd.prog 23 #[.int .i64 k, .int .i64 8] W fun e w' => e = .returned (.bool false) ∧ Below W.heap.size W w') := fun W => (show hs k 3 = false by unfold hs; rw [hF]; decide) ▸ has_3 k W
  have H4 : Hid (∀ W, Calls Tryd.prog 23 #[.int .i64 k, .int .i64 16] W fun e w' => e = .returned (.bool false) ∧ Below W.heap.size W w') := fun W => (show hs k 4 = false by unfold hs; rw [hF]; decide) ▸ has_4 k W
  have H5 : Hid (∀ W, Calls Tryd.prog 23 #[.int .i64 k, .int .i64 32] W fun e w' => e = .returned (.bool false) ∧ Below W.heap.size W w') := fun W => (show hs k 5 = false by unfold hs; rw [hF]; decide) ▸ has_5 k W
  have H6 : Hid (∀ W, Calls Tryd.prog 23 #[.int .i64 k, .int .i64 64] W fun e w' => e = .returned (.bool false) ∧ Below W.heap.size W w') := fun W => (show hs k 6 = false by unfold hs; rw [hF]; decide) ▸ has_6 k W
  have H7 : Hid (∀ W, Calls Tryd.prog 23 #[.int .i64 k, .int .i64 128] W fun e w' => e = .returned (.bool false) ∧ Below W.heap.size W w') := fun W => (show hs k 7 = false by unfold hs; rw [hF]; decide) ▸ has_7 k W
  have H8 : Hid (∀ W, Calls Tryd.prog 23 #[.int .i64 k, .int .i64 256] W fun e w' => e = .returned (.bool false) ∧ Below W.heap.size W w') := fun W => (show hs k 8 = false by unfold hs; rw [hF]; decide) ▸ has_8 k W
  have SC : Hid (∀ W, Below w.heap.size w W → _) := fun W hB => rsame_calls (n + 1) (.agg #[.int .i64 vk, .int .i64 vx, .int .u64 vb, .string vs, .slice la ll lc]) tv (.agg #[.int .i64 0, .int .i64 0, .int .u64 0, .string ⟨#[]⟩, .slice none 0 0]) zE W (hv.below hB) (zE_is W n)
  clear hv hF hs0
  have HB : Hid (Below w.heap.size w (w.alloc (.cells #[.int .i64 k, .string f, .string q, .string m, .int .i64 vk, .int .i64 vx, .int .u64 vb, .string vs, .slice la ll lc, .int .i64 ru, .int .i64 nu, .int .i64 wa, .int .i64 pf, .int .u64 (pc : Int), .int .i64 pm, .slice ca cn cc, .slice aa an ac] 31))) := bel1 _ _
  have HX : Hid (AtR (w.alloc (.cells #[.int .i64 k, .string f, .string q, .string m, .int .i64 vk, .int .i64 vx, .int .u64 vb, .string vs, .slice la ll lc, .int .i64 ru, .int .i64 nu, .int .i64 wa, .int .i64 pf, .int .u64 (pc : Int), .int .i64 pm, .slice ca cn cc, .slice aa an ac] 31)) w.heap.size k f q m vk vx vb vs la ll lc ru nu wa pf pc pm ca cn cc aa an ac) := AtR.box w k f q m vk vx vb vs la ll lc ru nu wa pf pc pm ca cn cc aa an ac
  generalize hW0 : w.alloc (.cells #[.int .i64 k, .string f, .string q, .string m, .int .i64 vk, .int .i64 vx, .int .u64 vb, .string vs, .slice la ll lc, .int .i64 ru, .int .i64 nu, .int .i64 wa, .int .i64 pf, .int .u64 (pc : Int), .int .i64 pm, .slice ca cn cc, .slice aa an ac] 31) = W1 at HB HX
  have H0 : Hid (w.alloc (.cells #[.int .i64 k, .string f, .string q, .string m, .int .i64 vk, .int .i64 vx, .int .u64 vb, .string vs, .slice la ll lc, .int .i64 ru, .int .i64 nu, .int .i64 wa, .int .i64 pf, .int .u64 (pc : Int), .int .i64 pm, .slice ca cn cc, .slice aa an ac] 31) = W1) := hW0
  clear hW0
  go_enter Tryd.func20, Tryd.ntmps20
  go_upto_region 1 with fail
  rw [H0.out]
  clear H0
  obtain ⟨x0, x1, x2, x3, x4, x5, x6, x7, x8, x9, x10, x11, x12, x13, x14, x15, x16⟩ := HX.out
  clear x1
  go_upto_region 2 with fail
  clear x0
  go_wp2_with fail
  refine Calls.mono (H1.out _) ?_
  rintro e y1 ⟨rfl, hb⟩
  replace HX : Hid (AtR y1 w.heap.size k f q m vk vx vb vs la ll lc ru nu wa pf pc pm ca cn cc aa an ac) := HX.out.below hb
  replace HB : Hid (Below w.heap.size w y1) := bel2 HB.out hb
  clear hb
  clear x2 x3 x4 x5 x6 x7 x8 x9 x10 x11 x12 x13 x14 x15 x16
  obtain ⟨x0, x1, x2, x3, x4, x5, x6, x7, x8, x9, x10, x11, x12, x13, x14, x15, x16⟩ := HX.out
  clear x0 x1
  go_wp2_with fail
  refine Calls.mono (H2.out _) ?_
  rintro e y2 ⟨rfl, hb⟩
  replace HX : Hid (AtR y2 w.heap.size k f q m vk vx vb vs la ll lc ru nu wa pf pc pm ca cn cc aa an ac) := HX.out.below hb
  replace HB : Hid (Below w.heap.size w y2) := bel2 HB.out hb
  clear hb
  clear x2 x3 x4 x5 x6 x7 x8 x9 x10 x11 x12 x13 x14 x15 x16
  obtain ⟨x0, x1, x2, x3, x4, x5, x6, x7, x8, x9, x10, x11, x12, x13, x14, x15, x16⟩ := HX.out
  clear x0 x1
  go_wp2_with fail
  refine Calls.mono (H3.out _) ?_
  rintro e y3 ⟨rfl, hb⟩
  replace HX : Hid (AtR y3 w.heap.size k f q m vk vx vb vs la ll lc ru nu wa pf pc pm ca cn cc aa an ac) := HX.out.below hb
  replace HB : Hid (Below w.heap.size w y3) := bel2 HB.out hb
  clear hb
  clear x2 x3 x4 x5 x6 x7 x8 x9 x10 x11 x12 x13 x14 x15 x16
  obtain ⟨x0, x1, x2, x3, x4, x5, x6, x7, x8, x9, x10, x11, x12, x13, x14, x15, x16⟩ := HX.out
  clear x0 x1
  go_wp2_with fail
  refine Calls.mono (SC.out _ HB.out) ?_
  rintro e y4 ⟨⟨r3, rfl, e3⟩, hb⟩
  replace HX : Hid (AtR y4 w.heap.size k f q m vk vx vb vs la ll lc ru nu wa pf pc pm ca cn cc aa an ac) := HX.out.below hb
  replace HB : Hid (Below w.heap.size w y4) := bel2 HB.out hb
  have E3 : Hid (r3 = true ↔ tv = zE) := e3
  clear hb e3
  clear x2 x3 x4 x5 x6 x7 x8 x9 x10 x11 x12 x13 x14 x15 x16
  obtain ⟨x0, x1, x2, x3, x4, x5, x6, x7, x8, x9, x10, x11, x12, x13, x14, x15, x16⟩ := HX.out
  clear x0 x1
  cases r3
  · have N3 : ¬ tv = zE := fun h => by cases E3.out.2 h
    go_wp2_with fail
    go_ret
    exact ⟨⟨false, rfl, nofun, fun hp => absurd (HE.out.1 hp) (by simp [N3])⟩, HB.out⟩
  have C3 : Hid (tv = zE) := E3.out.1 rfl
  go_wp2_with fail
  refine Calls.mono (H4.out _) ?_
  rintro e y5 ⟨rfl, hb⟩
  replace HX : Hid (AtR y5 w.heap.size k f q m vk vx vb vs la ll lc ru nu wa pf pc pm ca cn cc aa an ac) := HX.out.below hb
  replace HB : Hid (Below w.heap.size w y5) := bel2 HB.out hb
  clear hb
  clear x2 x3 x4 x5 x6 x7 x8 x9 x10 x11 x12 x13 x14 x15 x16
  obtain ⟨x0, x1, x2, x3, x4, x5, x6, x7, x8, x9, x10, x11, x12, x13, x14, x15, x16⟩ := HX.out
  clear x0 x1
  by_cases c4 : ru = 0
  rotate_left
  · have d4 : (ru != 0) = true := by simpa using c4
    go_wp2_with fail
    go_ret
    exact ⟨⟨false, rfl, nofun, fun hp => absurd (HE.out.1 hp) (by simp [c4])⟩, HB.out⟩
  have d4 : (ru != 0) = false := by simpa using c4
  have C4 : Hid (ru = 0) := c4
  clear c4
  go_wp2_with fail
  refine Calls.mono (H5.out _) ?_
  rintro e y6 ⟨rfl, hb⟩
  replace HX : Hid (AtR y6 w.heap.size k f q m vk vx vb vs la ll lc ru nu wa pf pc pm ca cn cc aa an ac) := HX.out.below hb
  replace HB : Hid (Below w.heap.size w y6) := bel2 HB.out hb
  clear hb
  clear x2 x3 x4 x5 x6 x7 x8 x9 x10 x11 x12 x13 x14 x15 x16
  obtain ⟨x0, x1, x2, x3, x4, x5, x6, x7, x8, x9, x10, x11, x12, x13, x14, x15, x16⟩ := HX.out
  clear x0 x1
  by_cases c5 : nu = 0
  rotate_left
  · have d5 : (nu != 0) = true := by simpa using c5
    go_wp2_with fail
    go_ret
    exact ⟨⟨false, rfl, nofun, fun hp => absurd (HE.out.1 hp) (by simp [c5])⟩, HB.out⟩
  have d5 : (nu != 0) = false := by simpa using c5
  have C5 : Hid (nu = 0) := c5
  clear c5
  go_wp2_with fail
  refine Calls.mono (H6.out _) ?_
  rintro e y7 ⟨rfl, hb⟩
  replace HX : Hid (AtR y7 w.heap.size k f q m vk vx vb vs la ll lc ru nu wa pf pc pm ca cn cc aa an ac) := HX.out.below hb
  replace HB : Hid (Below w.heap.size w y7) := bel2 HB.out hb
  clear hb
  clear x2 x3 x4 x5 x6 x7 x8 x9 x10 x11 x12 x13 x14 x15 x16
  obtain ⟨x0, x1, x2, x3, x4, x5, x6, x7, x8, x9, x10, x11, x12, x13, x14, x15, x16⟩ := HX.out
  clear x0 x1
  by_cases c6 : wa = 0
  rotate_left
  · have d6 : (wa != 0) = true := by simpa using c6
    go_wp2_with fail
    go_ret
    exact ⟨⟨false, rfl, nofun, fun hp => absurd (HE.out.1 hp) (by simp [c6])⟩, HB.out⟩
  have d6 : (wa != 0) = false := by simpa using c6
  have C6 : Hid (wa = 0) := c6
  clear c6
  go_wp2_with fail
  refine Calls.mono (H7.out _) ?_
  rintro e y8 ⟨rfl, hb⟩
  replace HX : Hid (AtR y8 w.heap.size k f q m vk vx vb vs la ll lc ru nu wa pf pc pm ca cn cc aa an ac) := HX.out.below hb
  replace HB : Hid (Below w.heap.size w y8) := bel2 HB.out hb
  clear hb
  clear x2 x3 x4 x5 x6 x7 x8 x9 x10 x11 x12 x13 x14 x15 x16
  obtain ⟨x0, x1, x2, x3, x4, x5, x6, x7, x8, x9, x10, x11, x12, x13, x14, x15, x16⟩ := HX.out
  clear x0 x1
  cases c7 : (!decide (pf = 0) || (!decide (pc = 0) || !decide (pm = 0)))
  rotate_left
  · have N7 : ¬ (pf = 0 ∧ pc = 0 ∧ pm = 0) := fun h => by simp [h.1, h.2.1, h.2.2] at c7
    go_wp2_with fail
    go_ret
    exact ⟨⟨false, rfl, nofun, fun hp => absurd (HE.out.1 hp) (by simp [N7])⟩, HB.out⟩
  have C7 : Hid (pf = 0 ∧ pc = 0 ∧ pm = 0) := by simp at c7; exact ⟨c7.1, c7.2.1, c7.2.2⟩
  go_wp2_with fail
  refine Calls.mono (H8.out _) ?_
  rintro e y9 ⟨rfl, hb⟩
  replace HX : Hid (AtR y9 w.heap.size k f q m vk vx vb vs la ll lc ru nu wa pf pc pm ca cn cc aa an ac) := HX.out.below hb
  replace HB : Hid (Below w.heap.size w y9) := bel2 HB.out hb
  clear hb
  clear x2 x3 x4 x5 x6 x7 x8 x9 x10 x11 x12 x13 x14 x15 x16
  obtain ⟨x0, x1, x2, x3, x4, x5, x6, x7, x8, x9, x10, x11, x12, x13, x14, x15, x16⟩ := HX.out
  clear x0 x1
  have w8 : wrap64 ((cn : Int) + (an : Int)) = ((cn + an : Nat) : Int) := by have := HZ.out; unfold wrap64; omega
  have w9 : IntKind.i64.wrap ((cn : Int) + (an : Int)) = ((cn + an : Nat) : Int) := by have := HZ.out; rw [IntKind.wrap_i64]; omega
  by_cases c8 : cn + an = 0
  · have d8 : (((cn + an : Nat) : Int) == 0) = true := by rw [c8]; rfl
    go_wp2_with fail
    go_ret
    have k1 : cn = 0 := by omega
    have k2 : an = 0 := by omega
    exact ⟨⟨true, by first | rfl | simp_all, fun _ => HE.out.2 (by simp [k1, k2, C3.out, C4.out, C5.out, C6.out, C7.out]), fun _ => rfl⟩, HB.out⟩
  · have d8 : (((cn + an : Nat) : Int) == 0) = false := by rw [beq_eq_false_iff_ne]; omega
    have N8 : ¬ (cn = 0 ∧ an = 0) := fun h => c8 (by omega)
    go_wp2_with fail
    go_ret
    exact ⟨⟨false, by first | rfl | simp_all, nofun, fun hp => absurd (HE.out.1 hp) (by simp [N8])⟩, HB.out⟩
set_option maxHeartbeats 2000000 in
theorem em_35 (n : Nat) (tv : Tv) (k : Int) (f q m : ByteArray) (vk vx vb : Int) (vs : ByteArray) (la : Option Addr) (ll lc : Nat) (ru nu wa pf : Int) (pc : Nat) (pm : Int) (ca : Option Addr) (cn cc : Nat) (aa : Option Addr) (an ac : Nat) (w : World) (hv : Is w (n + 1) (.agg #[.int .i64 vk, .int .i64 vx, .int .u64 vb, .string vs, .slice la ll lc]) tv) (hs0 : cn + an ≤ 1000) (hF : fld k = 35) : Calls Tryd.prog 20 #[.agg #[.int .i64 k, .string f, .string q, .string m, .int .i64 vk, .int .i64 vx, .int .u64 vb, .string vs, .slice la ll lc, .int .i64 ru, .int .i64 nu, .int .i64 wa, .int .i64 pf, .int .u64 (pc : Int), .int .i64 pm, .slice ca cn cc, .slice aa an ac]] w (FitP (EmR true false false false true false false false tv q m ru nu wa pf pc pm cn an) w) := by
  have HE : Hid ((EmR true false false false true false false false tv q m ru nu wa pf pc pm cn an) ↔ (m.toList.isEmpty = true ∧ tv = zE ∧ ru = 0 ∧ wa = 0 ∧ (pf = 0 ∧ pc = 0 ∧ pm = 0) ∧ (cn = 0 ∧ an = 0))) := by rw [Hid]; simp [EmR]
  generalize (EmR true false false false true false false false tv q m ru nu wa pf pc pm cn an) = PP at HE ⊢
  have HZ : Hid (cn + an ≤ 1000) := hs0
  have H1 : Hid (∀ W, Calls Tryd.prog 23 #[.int .i64 k, .int .i64 2] W fun e w' => e = .returned (.bool true) ∧ Below W.heap.size W w') := fun W => (show hs k 1 = true by unfold hs; rw [hF]; decide) ▸ has_1 k W
  have H2 : Hid (∀ W, Calls Tryd.prog 23 #[.int .i64 k, .int .i64 4] W fun e w' => e = .returned (.bool false) ∧ Below W.heap.size W w') := fun W => (show hs k 2 = false by unfold hs; rw [hF]; decide) ▸ has_2 k W
  have H3 : Hid (∀ W, Calls Tryd.prog 23 #[.int .i64 k, .int .i64 8] W fun e w' => e = .returned (.bool false) ∧ Below W.heap.size W w') := fun W => (show hs k 3 = false by unfold hs; rw [hF]; decide) ▸ has_3 k W
  have H4 : Hid (∀ W, Calls Tryd.prog 23 #[.int .i64 k, .int .i64 16] W fun e w' => e = .returned (.bool false) ∧ Below W.heap.size W w') := fun W => (show hs k 4 = false by unfold hs; rw [hF]; decide) ▸ has_4 k W
  have H5 : Hid (∀ W, Calls Tryd.prog 23 #[.int .i64 k, .int .i64 32] W fun e w' => e = .returned (.bool true) ∧ Below W.heap.size W w') := fun W => (show hs k 5 = true by unfold hs; rw [hF]; decide) ▸ has_5 k W
  have H6 : Hid (∀ W, Calls Tryd.prog 23 #[.int .i64 k, .int .i64 64] W fun e w' => e = .returned (.bool false) ∧ Below W.heap.size W w') := fun W => (show hs k 6 = false by unfold hs; rw [hF]; decide) ▸ has_6 k W
  have H7 : Hid (∀ W, Calls Tryd.prog 23 #[.int .i64 k, .int .i64 128] W fun e w' => e = .returned (.bool false) ∧ Below W.heap.size W w') := fun W => (show hs k 7 = false by unfold hs; rw [hF]; decide) ▸ has_7 k W
  have H8 : Hid (∀ W, Calls Tryd.prog 23 #[.int .i64 k, .int .i64 256] W fun e w' => e = .returned (.bool false) ∧ Below W.heap.size W w') := fun W => (show hs k 8 = false by unfold hs; rw [hF]; decide) ▸ has_8 k W
  have SC : Hid (∀ W, Below w.heap.size w W → _) := fun W hB => rsame_calls (n + 1) (.agg #[.int .i64 vk, .int .i64 vx, .int .u64 vb, .string vs, .slice la ll lc]) tv (.agg #[.int .i64 0, .int .i64 0, .int .u64 0, .string ⟨#[]⟩, .slice none 0 0]) zE W (hv.below hB) (zE_is W n)
  clear hv hF hs0
  have HB : Hid (Below w.heap.size w (w.alloc (.cells #[.int .i64 k, .string f, .string q, .string m, .int .i64 vk, .int .i64 vx, .int .u64 vb, .string vs, .slice la ll lc, .int .i64 ru, .int .i64 nu, .int .i64 wa, .int .i64 pf, .int .u64 (pc : Int), .int .i64 pm, .slice ca cn cc, .slice aa an ac] 31))) := bel1 _ _
  have HX : Hid (AtR (w.alloc (.cells #[.int .i64 k, .string f, .string q, .string m, .int .i64 vk, .int .i64 vx, .int .u64 vb, .string vs, .slice la ll lc, .int .i64 ru, .int .i64 nu, .int .i64 wa, .int .i64 pf, .int .u64 (pc : Int), .int .i64 pm, .slice ca cn cc, .slice aa an ac] 31)) w.heap.size k f q m vk vx vb vs la ll lc ru nu wa pf pc pm ca cn cc aa an ac) := AtR.box w k f q m vk vx vb vs la ll lc ru nu wa pf pc pm ca cn cc aa an ac
  generalize hW0 : w.alloc (.cells #[.int .i64 k, .string f, .string q, .string m, .int .i64 vk, .int .i64 vx, .int .u64 vb, .string vs, .slice la ll lc, .int .i64 ru, .int .i64 nu, .int .i64 wa, .int .i64 pf, .int .u64 (pc : Int), .int .i64 pm, .slice ca cn cc, .slice aa an ac] 31) = W1 at HB HX
  have H0 : Hid (w.alloc (.cells #[.int .i64 k, .string f, .string q, .string m, .int .i64 vk, .int .i64 vx, .int .u64 vb, .string vs, .slice la ll lc, .int .i64 ru, .int .i64 nu, .int .i64 wa, .int .i64 pf, .int .u64 (pc : Int), .int .i64 pm, .slice ca cn cc, .slice aa an ac] 31) = W1) := hW0
  clear hW0
  go_enter Tryd.func20, Tryd.ntmps20
  go_upto_region 1 with fail
  rw [H0.out]
  clear H0
  obtain ⟨x0, x1, x2, x3, x4, x5, x6, x7, x8, x9, x10, x11, x12, x13, x14, x15, x16⟩ := HX.out
  clear x1
  go_upto_region 2 with fail
  clear x0
  go_wp2_with fail
  refine Calls.mono (H1.out _) ?_
  rintro e y1 ⟨rfl, hb⟩
  replace HX : Hid (AtR y1 w.heap.size k f q m vk vx vb vs la ll lc ru nu wa pf pc pm ca cn cc aa an ac) := HX.out.below hb
  replace HB : Hid (Below w.heap.size w y1) := bel2 HB.out hb
  clear hb
  clear x2 x3 x4 x5 x6 x7 x8 x9 x10 x11 x12 x13 x14 x15 x16
  obtain ⟨x0, x1, x2, x3, x4, x5, x6, x7, x8, x9, x10, x11, x12, x13, x14, x15, x16⟩ := HX.out
  clear x0 x1
  go_wp2_with fail
  refine Calls.mono (H2.out _) ?_
  rintro e y2 ⟨rfl, hb⟩
  replace HX : Hid (AtR y2 w.heap.size k f q m vk vx vb vs la ll lc ru nu wa pf pc pm ca cn cc aa an ac) := HX.out.below hb
  replace HB : Hid (Below w.heap.size w y2) := bel2 HB.out hb
  clear hb
  clear x2 x3 x4 x5 x6 x7 x8 x9 x10 x11 x12 x13 x14 x15 x16
  obtain ⟨x0, x1, x2, x3, x4, x5, x6, x7, x8, x9, x10, x11, x12, x13, x14, x15, x16⟩ := HX.out
  clear x0 x1
  cases c2 : m.toList.isEmpty
  · go_wp2_with fail
    go_ret
    exact ⟨⟨false, rfl, nofun, fun hp => absurd (HE.out.1 hp) (by simp [c2])⟩, HB.out⟩
  go_wp2_with fail
  refine Calls.mono (H3.out _) ?_
  rintro e y3 ⟨rfl, hb⟩
  replace HX : Hid (AtR y3 w.heap.size k f q m vk vx vb vs la ll lc ru nu wa pf pc pm ca cn cc aa an ac) := HX.out.below hb
  replace HB : Hid (Below w.heap.size w y3) := bel2 HB.out hb
  clear hb
  clear x2 x3 x4 x5 x6 x7 x8 x9 x10 x11 x12 x13 x14 x15 x16
  obtain ⟨x0, x1, x2, x3, x4, x5, x6, x7, x8, x9, x10, x11, x12, x13, x14, x15, x16⟩ := HX.out
  clear x0 x1
  go_wp2_with fail
  refine Calls.mono (SC.out _ HB.out) ?_
  rintro e y4 ⟨⟨r3, rfl, e3⟩, hb⟩
  replace HX : Hid (AtR y4 w.heap.size k f q m vk vx vb vs la ll lc ru nu wa pf pc pm ca cn cc aa an ac) := HX.out.below hb
  replace HB : Hid (Below w.heap.size w y4) := bel2 HB.out hb
  have E3 : Hid (r3 = true ↔ tv = zE) := e3
  clear hb e3
  clear x2 x3 x4 x5 x6 x7 x8 x9 x10 x11 x12 x13 x14 x15 x16
  obtain ⟨x0, x1, x2, x3, x4, x5, x6, x7, x8, x9, x10, x11, x12, x13, x14, x15, x16⟩ := HX.out
  clear x0 x1
  cases r3
  · have N3 : ¬ tv = zE := fun h => by cases E3.out.2 h
    go_wp2_with fail
    go_ret
    exact ⟨⟨false, rfl, nofun, fun hp => absurd (HE.out.1 hp) (by simp [N3])⟩, HB.out⟩
  have C3 : Hid (tv = zE) := E3.out.1 rfl
  go_wp2_with fail
  refine Calls.mono (H4.out _) ?_
  rintro e y5 ⟨rfl, hb⟩
  replace HX : Hid (AtR y5 w.heap.size k f q m vk vx vb vs la ll lc ru nu wa pf pc pm ca cn cc aa an ac) := HX.out.below hb
  replace HB : Hid (Below w.heap.size w y5) := bel2 HB.out hb
  clear hb
  clear x2 x3 x4 x5 x6 x7 x8 x9 x10 x11 x12 x13 x14 x15 x16
  obtain ⟨x0, x1, x2, x3, x4, x5, x6, x7, x8, x9, x10, x11, x12, x13, x14, x15, x16⟩ := HX.out
  clear x0 x1
  by_cases c4 : ru = 0
  rotate_left
  · have d4 : (ru != 0) = true := by simpa using c4
    go_wp2_with fail
    go_ret
    exact ⟨⟨false, rfl, nofun, fun hp => absurd (HE.out.1 hp) (by simp [c4])⟩, HB.out⟩
  have d4 : (ru != 0) = false := by simpa using c4
  have C4 : Hid (ru = 0) := c4
  clear c4
  go_wp2_with fail
  refine Calls.mono (H5.out _) ?_
  rintro e y6 ⟨rfl, hb⟩
  replace HX : Hid (AtR y6 w.heap.size k f q m vk vx vb vs la ll lc ru nu wa pf pc pm ca cn cc aa an ac) := HX.out.below hb
  replace HB : Hid (Below w.heap.size w y6) := bel2 HB.out hb
  clear hb
  clear x2 x3 x4 x5 x6 x7 x8 x9 x10 x11 x12 x13 x14 x15 x16
  obtain ⟨x0, x1, x2, x3, x4, x5, x6, x7, x8, x9, x10, x11, x12, x13, x14, x15, x16⟩ := HX.out
  clear x0 x1
  go_wp2_with fail
  refine Calls.mono (H6.out _) ?_
  rintro e y7 ⟨rfl, hb⟩
  replace HX : Hid (AtR y7 w.heap.size k f q m vk vx vb vs la ll lc ru nu wa pf pc pm ca cn cc aa an ac) := HX.out.below hb
  replace HB : Hid (Below w.heap.size w y7) := bel2 HB.out hb
  clear hb
  clear x2 x3 x4 x5 x6 x7 x8 x9 x10 x11 x12 x13 x14 x15 x16
  obtain ⟨x0, x1, x2, x3, x4, x5, x6, x7, x8, x9, x10, x11, x12, x13, x14, x15, x16⟩ := HX.out
  clear x0 x1
  by_cases c6 : wa = 0
  rotate_left
  · have d6 : (wa != 0) = true := by simpa using c6
    go_wp2_with fail
    go_ret
    exact ⟨⟨false, rfl, nofun, fun hp => absurd (HE.out.1 hp) (by simp [c6])⟩, HB.out⟩
  have d6 : (wa != 0) = false := by simpa using c6
  have C6 : Hid (wa = 0) := c6
  clear c6
  go_wp2_with fail
  refine Calls.mono (H7.out _) ?_
  rintro e y8 ⟨rfl, hb⟩
  replace HX : Hid (AtR y8 w.heap.size k f q m vk vx vb vs la ll lc ru nu wa pf pc pm ca cn cc aa an ac) := HX.out.below hb
  replace HB : Hid (Below w.heap.size w y8) := bel2 HB.out hb
  clear hb
  clear x2 x3 x4 x5 x6 x7 x8 x9 x10 x11 x12 x13 x14 x15 x16
  obtain ⟨x0, x1, x2, x3, x4, x5, x6, x7, x8, x9, x10, x11, x12, x13, x14, x15, x16⟩ := HX.out
  clear x0 x1
  cases c7 : (!decide (pf = 0) || (!decide (pc = 0) || !decide (pm = 0)))
  rotate_left
  · have N7 : ¬ (pf = 0 ∧ pc = 0 ∧ pm = 0) := fun h => by simp [h.1, h.2.1, h.2.2] at c7
    go_wp2_with fail
    go_ret
    exact ⟨⟨false, rfl, nofun, fun hp => absurd (HE.out.1 hp) (by simp [N7])⟩, HB.out⟩
  have C7 : Hid (pf = 0 ∧ pc = 0 ∧ pm = 0) := by simp at c7; exact ⟨c7.1, c7.2.1, c7.2.2⟩
  go_wp2_with fail
  refine Calls.mono (H8.out _) ?_
  rintro e y9 ⟨rfl, hb⟩
  replace HX : Hid (AtR y9 w.heap.size k f q m vk vx vb vs la ll lc ru nu wa pf pc pm ca cn cc aa an ac) := HX.out.below hb
  replace HB : Hid (Below w.heap.size w y9) := bel2 HB.out hb
  clear hb
  clear x2 x3 x4 x5 x6 x7 x8 x9 x10 x11 x12 x13 x14 x15 x16
  obtain ⟨x0, x1, x2, x3, x4, x5, x6, x7, x8, x9, x10, x11, x12, x13, x14, x15, x16⟩ := HX.out
  clear x0 x1
  have w8 : wrap64 ((cn : Int) + (an : Int)) = ((cn + an : Nat) : Int) := by have := HZ.out; unfold wrap64; omega
  have w9 : IntKind.i64.wrap ((cn : Int) + (an : Int)) = ((cn + an : Nat) : Int) := by have := HZ.out; rw [IntKind.wrap_i64]; omega
  by_cases c8 : cn + an = 0
  · have d8 : (((cn + an : Nat) : Int) == 0) = true := by rw [c8]; rfl
    go_wp2_with fail
    go_ret
    have k1 : cn = 0 := by omega
    have k2 : an = 0 := by omega
    exact ⟨⟨true, by first | rfl | simp_all, fun _ => HE.out.2 (by simp [k1, k2, c2, C3.out, C4.out, C6.out, C7.out]), fun _ => rfl⟩, HB.out⟩
  · have d8 : (((cn + an : Nat) : Int) == 0) = false := by rw [beq_eq_false_iff_ne]; omega
    have N8 : ¬ (cn = 0 ∧ an = 0) := fun h => c8 (by omega)
    go_wp2_with fail
    go_ret
    exact ⟨⟨false, by first | rfl | simp_all, nofun, fun hp => absurd (HE.out.1 hp) (by simp [N8])⟩, HB.out⟩
set_option maxHeartbeats 2000000 in
theorem em_1 (n : Nat) (tv : Tv) (k : Int) (f q m : ByteArray) (vk vx vb : Int) (vs : ByteArray) (la : Option Addr) (ll lc : Nat) (ru nu wa pf : Int) (pc : Nat) (pm : Int) (ca : Option Addr) (cn cc : Nat) (aa : Option Addr) (an ac : Nat) (w : World) (hv : Is w (n + 1) (.agg #[.int .i64 vk, .int .i64 vx, .int .u64 vb, .string vs, .slice la ll lc]) tv) (hs0 : cn + an ≤ 1000) (hF : fld k = 1) : Calls Tryd.prog 20 #[.agg #[.int .i64 k, .string f, .string q, .string m, .int .i64 vk, .int .i64 vx, .int .u64 vb, .string vs, .slice la ll lc, .int .i64 ru, .int .i64 nu, .int .i64 wa, .int .i64 pf, .int .u64 (pc : Int), .int .i64 pm, .slice ca cn cc, .slice aa an ac]] w (FitP (EmR false false false false false false false false tv q m ru nu wa pf pc pm cn an) w) := by
  have HE : Hid ((EmR false false false false false false false false tv q m ru nu wa pf pc pm cn an) ↔ (q.toList.isEmpty = true ∧ m.toList.isEmpty = true ∧ tv = zE ∧ ru = 0 ∧ nu = 0 ∧ wa = 0 ∧ (pf = 0 ∧ pc = 0 ∧ pm = 0) ∧ (cn = 0 ∧ an = 0))) := by rw [Hid]; simp [EmR]
  generalize (EmR false false false false false false false false tv q m ru nu wa pf pc pm cn an) = PP at HE ⊢
  have HZ : Hid (cn + an ≤ 1000) := hs0
  have H1 : Hid (∀ W, Calls Tryd.prog 23 #[.int .i64 k, .int .i64 2] W fun e w' => e = .returned (.bool false) ∧ Below W.heap.size W w') := fun W => (show hs k 1 = false by unfold hs; rw [hF]; decide) ▸ has_1 k W
  have H2 : Hid (∀ W, Calls Tryd.prog 23 #[.int .i64 k, .int .i64 4] W fun e w' => e = .returned (.bool false) ∧ Below W.heap.size W w') := fun W => (show hs k 2 = false by unfold hs; rw [hF]; decide) ▸ has_2 k W
  have H3 : Hid (∀ W, Calls Tryd.prog 23 #[.int .i64 k, .int .i64 8] W fun e w' => e = .returned (.bool false) ∧ Below W.heap.size W w') := fun W => (show hs k 3 = false by unfold hs; rw [hF]; decide) ▸ has_3 k W
  have H4 : Hid (∀ W, Calls Tryd.prog 23 #[.int .i64 k, .int .i64 16] W fun e w' => e = .returned (.bool false) ∧ Below W.heap.size W w') := fun W => (show hs k 4 = false by unfold hs; rw [hF]; decide) ▸ has_4 k W
  have H5 : Hid (∀ W, Calls Tryd.prog 23 #[.int .i64 k, .int .i64 32] W fun e w' => e = .returned (.bool false) ∧ Below W.heap.size W w') := fun W => (show hs k 5 = false by unfold hs; rw [hF]; decide) ▸ has_5 k W
  have H6 : Hid (∀ W, Calls Tryd.prog 23 #[.int .i64 k, .int .i64 64] W fun e w' => e = .returned (.bool false) ∧ Below W.heap.size W w') := fun W => (show hs k 6 = false by unfold hs; rw [hF]; decide) ▸ has_6 k W
  have H7 : Hid (∀ W, Calls Tryd.prog 23 #[.int .i64 k, .int .i64 128] W fun e w' => e = .returned (.bool false) ∧ Below W.heap.size W w') := fun W => (show hs k 7 = false by unfold hs; rw [hF]; decide) ▸ has_7 k W
  have H8 : Hid (∀ W, Calls Tryd.prog 23 #[.int .i64 k, .int .i64 256] W fun e w' => e = .returned (.bool false) ∧ Below W.heap.size W w') := fun W => (show hs k 8 = false by unfold hs; rw [hF]; decide) ▸ has_8 k W
  have SC : Hid (∀ W, Below w.heap.size w W → _) := fun W hB => rsame_calls (n + 1) (.agg #[.int .i64 vk, .int .i64 vx, .int .u64 vb, .string vs, .slice la ll lc]) tv (.agg #[.int .i64 0, .int .i64 0, .int .u64 0, .string ⟨#[]⟩, .slice none 0 0]) zE W (hv.below hB) (zE_is W n)
  clear hv hF hs0
  have HB : Hid (Below w.heap.size w (w.alloc (.cells #[.int .i64 k, .string f, .string q, .string m, .int .i64 vk, .int .i64 vx, .int .u64 vb, .string vs, .slice la ll lc, .int .i64 ru, .int .i64 nu, .int .i64 wa, .int .i64 pf, .int .u64 (pc : Int), .int .i64 pm, .slice ca cn cc, .slice aa an ac] 31))) := bel1 _ _
  have HX : Hid (AtR (w.alloc (.cells #[.int .i64 k, .string f, .string q, .string m, .int .i64 vk, .int .i64 vx, .int .u64 vb, .string vs, .slice la ll lc, .int .i64 ru, .int .i64 nu, .int .i64 wa, .int .i64 pf, .int .u64 (pc : Int), .int .i64 pm, .slice ca cn cc, .slice aa an ac] 31)) w.heap.size k f q m vk vx vb vs la ll lc ru nu wa pf pc pm ca cn cc aa an ac) := AtR.box w k f q m vk vx vb vs la ll lc ru nu wa pf pc pm ca cn cc aa an ac
  generalize hW0 : w.alloc (.cells #[.int .i64 k, .string f, .string q, .string m, .int .i64 vk, .int .i64 vx, .int .u64 vb, .string vs, .slice la ll lc, .int .i64 ru, .int .i64 nu, .int .i64 wa, .int .i64 pf, .int .u64 (pc : Int), .int .i64 pm, .slice ca cn cc, .slice aa an ac] 31) = W1 at HB HX
  have H0 : Hid (w.alloc (.cells #[.int .i64 k, .string f, .string q, .string m, .int .i64 vk, .int .i64 vx, .int .u64 vb, .string vs, .slice la ll lc, .int .i64 ru, .int .i64 nu, .int .i64 wa, .int .i64 pf, .int .u64 (pc : Int), .int .i64 pm, .slice ca cn cc, .slice aa an ac] 31) = W1) := hW0
  clear hW0
  go_enter Tryd.func20, Tryd.ntmps20
  go_upto_region 1 with fail
  rw [H0.out]
  clear H0
  obtain ⟨x0, x1, x2, x3, x4, x5, x6, x7, x8, x9, x10, x11, x12, x13, x14, x15, x16⟩ := HX.out
  clear x1
  go_upto_region 2 with fail
  clear x0
  go_wp2_with fail
  refine Calls.mono (H1.out _) ?_
  rintro e y1 ⟨rfl, hb⟩
  replace HX : Hid (AtR y1 w.heap.size k f q m vk vx vb vs la ll lc ru nu wa pf pc pm ca cn cc aa an ac) := HX.out.below hb
  replace HB : Hid (Below w.heap.size w y1) := bel2 HB.out hb
  clear hb
  clear x2 x3 x4 x5 x6 x7 x8 x9 x10 x11 x12 x13 x14 x15 x16
  obtain ⟨x0, x1, x2, x3, x4, x5, x6, x7, x8, x9, x10, x11, x12, x13, x14, x15, x16⟩ := HX.out
  clear x0 x1
  cases c1 : q.toList.isEmpty
  · go_wp2_with fail
    go_ret
    exact ⟨⟨false, rfl, nofun, fun hp => absurd (HE.out.1 hp) (by simp [c1])⟩, HB.out⟩
  go_wp2_with fail
  refine Calls.mono (H2.out _) ?_
  rintro e y2 ⟨rfl, hb⟩
  replace HX : Hid (AtR y2 w.heap.size k f q m vk vx vb vs la ll lc ru nu wa pf pc pm ca cn cc aa an ac) := HX.out.below hb
  replace HB : Hid (Below w.heap.size w y2) := bel2 HB.out hb
  clear hb
  clear x2 x3 x4 x5 x6 x7 x8 x9 x10 x11 x12 x13 x14 x15 x16
  obtain ⟨x0, x1, x2, x3, x4, x5, x6, x7, x8, x9, x10, x11, x12, x13, x14, x15, x16⟩ := HX.out
  clear x0 x1
  cases c2 : m.toList.isEmpty
  · go_wp2_with fail
    go_ret
    exact ⟨⟨false, rfl, nofun, fun hp => absurd (HE.out.1 hp) (by simp [c2])⟩, HB.out⟩
  go_wp2_with fail
  refine Calls.mono (H3.out _) ?_
  rintro e y3 ⟨rfl, hb⟩
  replace HX : Hid (AtR y3 w.heap.size k f q m vk vx vb vs la ll lc ru nu wa pf pc pm ca cn cc aa an ac) := HX.out.below hb
  replace HB : Hid (Below w.heap.size w y3) := bel2 HB.out hb
  clear hb
  clear x2 x3 x4 x5 x6 x7 x8 x9 x10 x11 x12 x13 x14 x15 x16
  obtain ⟨x0, x1, x2, x3, x4, x5, x6, x7, x8, x9, x10, x11, x12, x13, x14, x15, x16⟩ := HX.out
  clear x0 x1
  go_wp2_with fail
  refine Calls.mono (SC.out _ HB.out) ?_
  rintro e y4 ⟨⟨r3, rfl, e3⟩, hb⟩
  replace HX : Hid (AtR y4 w.heap.size k f q m vk vx vb vs la ll lc ru nu wa pf pc pm ca cn cc aa an ac) := HX.out.below hb
  replace HB : Hid (Below w.heap.size w y4) := bel2 HB.out hb
  have E3 : Hid (r3 = true ↔ tv = zE) := e3
  clear hb e3
  clear x2 x3 x4 x5 x6 x7 x8 x9 x10 x11 x12 x13 x14 x15 x16
  obtain ⟨x0, x1, x2, x3, x4, x5, x6, x7, x8, x9, x10, x11, x12, x13, x14, x15, x16⟩ := HX.out
  clear x0 x1
  cases r3
  · have N3 : ¬ tv = zE := fun h => by cases E3.out.2 h
    go_wp2_with fail
    go_ret
    exact ⟨⟨false, rfl, nofun, fun hp => absurd (HE.out.1 hp) (by simp [N3])⟩, HB.out⟩
  have C3 : Hid (tv = zE) := E3.out.1 rfl
  go_wp2_with fail
  refine Calls.mono (H4.out _) ?_
  rintro e y5 ⟨rfl, hb⟩
  replace HX : Hid (AtR y5 w.heap.size k f q m vk vx vb vs la ll lc ru nu wa pf pc pm ca cn cc aa an ac) := HX.out.below hb
  replace HB : Hid (Below w.heap.size w y5) := bel2 HB.out hb
  clear hb
  clear x2 x3 x4 x5 x6 x7 x8 x9 x10 x11 x12 x13 x14 x15 x16
  obtain ⟨x0, x1, x2, x3, x4, x5, x6, x7, x8, x9, x10, x11, x12, x13, x14, x15, x16⟩ := HX.out
  clear x0 x1
  by_cases c4 : ru = 0
  rotate_left
  · have d4 : (ru != 0) = true := by simpa using c4
    go_wp2_with fail
    go_ret
    exact ⟨⟨false, rfl, nofun, fun hp => absurd (HE.out.1 hp) (by simp [c4])⟩, HB.out⟩
  have d4 : (ru != 0) = false := by simpa using c4
  have C4 : Hid (ru = 0) := c4
  clear c4
  go_wp2_with fail
  refine Calls.mono (H5.out _) ?_
  rintro e y6 ⟨rfl, hb⟩
  replace HX : Hid (AtR y6 w.heap.size k f q m vk vx vb vs la ll lc ru nu wa pf pc pm ca cn cc aa an ac) := HX.out.below hb
  replace HB : Hid (Below w.heap.size w y6) := bel2 HB.out hb
  clear hb
  clear x2 x3 x4 x5 x6 x7 x8 x9 x10 x11 x12 x13 x14 x15 x16
  obtain ⟨x0, x1, x2, x3, x4, x5, x6, x7, x8, x9, x10, x11, x12, x13, x14, x15, x16⟩ := HX.out
  clear x0 x1
  by_cases c5 : nu = 0
  rotate_left
  · have d5 : (nu != 0) = true := by simpa using c5
    go_wp2_with fail
    go_ret
    exact ⟨⟨false, rfl, nofun, fun hp => absurd (HE.out.1 hp) (by simp [c5])⟩, HB.out⟩
  have d5 : (nu != 0) = false := by simpa using c5
  have C5 : Hid (nu = 0) := c5
  clear c5
  go_wp2_with fail
  refine Calls.mono (H6.out _) ?_
  rintro e y7 ⟨rfl, hb⟩
  replace HX : Hid (AtR y7 w.heap.size k f q m vk vx vb vs la ll lc ru nu wa pf pc pm ca cn cc aa an ac) := HX.out.below hb
  replace HB : Hid (Below w.heap.size w y7) := bel2 HB.out hb
  clear hb
  clear x2 x3 x4 x5 x6 x7 x8 x9 x10 x11 x12 x13 x14 x15 x16
  obtain ⟨x0, x1, x2, x3, x4, x5, x6, x7, x8, x9, x10, x11, x12, x13, x14, x15, x16⟩ := HX.out
  clear x0 x1
  by_cases c6 : wa = 0
  rotate_left
  · have d6 : (wa != 0) = true := by simpa using c6
    go_wp2_with fail
    go_ret
    exact ⟨⟨false, rfl, nofun, fun hp => absurd (HE.out.1 hp) (by simp [c6])⟩, HB.out⟩
  have d6 : (wa != 0) = false := by simpa using c6
  have C6 : Hid (wa = 0) := c6
  clear c6
  go_wp2_with fail
  refine Calls.mono (H7.out _) ?_
  rintro e y8 ⟨rfl, hb⟩
  replace HX : Hid (AtR y8 w.heap.size k f q m vk vx vb vs la ll lc ru nu wa pf pc pm ca cn cc aa an ac) := HX.out.below hb
  replace HB : Hid (Below w.heap.size w y8) := bel2 HB.out hb
  clear hb
  clear x2 x3 x4 x5 x6 x7 x8 x9 x10 x11 x12 x13 x14 x15 x16
  obtain ⟨x0, x1, x2, x3, x4, x5, x6, x7, x8, x9, x10, x11, x12, x13, x14, x15, x16⟩ := HX.out
  clear x0 x1
  cases c7 : (!decide (pf = 0) || (!decide (pc = 0) || !decide (pm = 0)))
  rotate_left
  · have N7 : ¬ (pf = 0 ∧ pc = 0 ∧ pm = 0) := fun h => by simp [h.1, h.2.1, h.2.2] at c7
    go_wp2_with fail
    go_ret
    exact ⟨⟨false, rfl, nofun, fun hp => absurd (HE.out.1 hp) (by simp [N7])⟩, HB.out⟩
  have C7 : Hid (pf = 0 ∧ pc = 0 ∧ pm = 0) := by simp at c7; exact ⟨c7.1, c7.2.1, c7.2.2⟩
  go_wp2_with fail
  refine Calls.mono (H8.out _) ?_
  rintro e y9 ⟨rfl, hb⟩
  replace HX : Hid (AtR y9 w.heap.size k f q m vk vx vb vs la ll lc ru nu wa pf pc pm ca cn cc aa an ac) := HX.out.below hb
  replace HB : Hid (Below w.heap.size w y9) := bel2 HB.out hb
  clear hb
  clear x2 x3 x4 x5 x6 x7 x8 x9 x10 x11 x12 x13 x14 x15 x16
  obtain ⟨x0, x1, x2, x3, x4, x5, x6, x7, x8, x9, x10, x11, x12, x13, x14, x15, x16⟩ := HX.out
  clear x0 x1
  have w8 : wrap64 ((cn : Int) + (an : Int)) = ((cn + an : Nat) : Int) := by have := HZ.out; unfold wrap64; omega
  have w9 : IntKind.i64.wrap ((cn : Int) + (an : Int)) = ((cn + an : Nat) : Int) := by have := HZ.out; rw [IntKind.wrap_i64]; omega
  by_cases c8 : cn + an = 0
  · have d8 : (((cn + an : Nat) : Int) == 0) = true := by rw [c8]; rfl
    go_wp2_with fail
    go_ret
    have k1 : cn = 0 := by omega
    have k2 : an = 0 := by omega
    exact ⟨⟨true, by first | rfl | simp_all, fun _ => HE.out.2 (by simp [k1, k2, c1, c2, C3.out, C4.out, C5.out, C6.out, C7.out]), fun _ => rfl⟩, HB.out⟩
  · have d8 : (((cn + an : Nat) : Int) == 0) = false := by rw [beq_eq_false_iff_ne]; omega
    have N8 : ¬ (cn = 0 ∧ an = 0) := fun h => c8 (by omega)
    go_wp2_with fail
    go_ret
    exact ⟨⟨false, by first | rfl | simp_all, nofun, fun hp => absurd (HE.out.1 hp) (by simp [N8])⟩, HB.out⟩
set_option maxHeartbeats 2000000 in
theorem em_33 (n : Nat) (tv : Tv) (k : Int) (f q m : ByteArray) (vk vx vb : Int) (vs : ByteArray) (la : Option Addr) (ll lc : Nat) (ru nu wa pf : Int) (pc : Nat) (pm : Int) (ca : Option Addr) (cn cc : Nat) (aa : Option Addr) (an ac : Nat) (w : World) (hv : Is w (n + 1) (.agg #[.int .i64 vk, .int .i64 vx, .int .u64 vb, .string vs, .slice la ll lc]) tv) (hs0 : cn + an ≤ 1000) (hF : fld k = 33) : Calls Tryd.prog 20 #[.agg #[.int .i64 k, .string f, .string q, .string m, .int .i64 vk, .int .i64 vx, .int .u64 vb, .string vs, .slice la ll lc, .int .i64 ru, .int .i64 nu, .int .i64 wa, .int .i64 pf, .int .u64 (pc : Int), .int .i64 pm, .slice ca cn cc, .slice aa an ac]] w (FitP (EmR false false false false true false false false tv q m ru nu wa pf pc pm cn an) w) := by
  have HE : Hid ((EmR false false false false true false false false tv q m ru nu wa pf pc pm cn an) ↔ (q.toList.isEmpty = true ∧ m.toList.isEmpty = true ∧ tv = zE ∧ ru = 0 ∧ wa = 0 ∧ (pf = 0 ∧ pc = 0 ∧ pm = 0) ∧ (cn = 0 ∧ an = 0))) := by rw [Hid]; simp [EmR]
  generalize (EmR false false false false true false false false tv q m ru nu wa pf pc pm cn an) = PP at HE ⊢
  have HZ : Hid (cn + an ≤ 1000) := hs0
  have H1 : Hid (∀ W, Calls Tryd.prog 23 #[.int .i64 k, .int .i64 2] W fun e w' => e = .returned (.bool false) ∧ Below W.heap.size W w') := fun W => (show hs k 1 = false by unfold hs; rw [hF]; decide) ▸ has_1 k W
  have H2 : Hid (∀ W, Calls Tryd.prog 23 #[.int .i64 k, .int .i64 4] W fun e w' => e = .returned (.bool false) ∧ Below W.heap.size W w') := fun W => (show hs k 2 = false by unfold hs; rw [hF]; decide) ▸ has_2 k W
  have H3 : Hid (∀ W, Calls Tryd.prog 23 #[.int .i64 k, .int .i64 8] W fun e w' => e = .returned (.bool false) ∧ Below W.heap.size W w') := fun W => (show hs k 3 = false by unfold hs; rw [hF]; decide) ▸ has_3 k W
  have H4 : Hid (∀ W, Calls Tryd.prog 23 #[.int .i64 k, .int .i64 16] W fun e w' => e = .returned (.bool false) ∧ Below W.heap.size W w') := fun W => (show hs k 4 = false by unfold hs; rw [hF]; decide) ▸ has_4 k W
  have H5 : Hid (∀ W, Calls Tryd.prog 23 #[.int .i64 k, .int .i64 32] W fun e w' => e = .returned (.bool true) ∧ Below W.heap.size W w') := fun W => (show hs k 5 = true by unfold hs; rw [hF]; decide) ▸ has_5 k W
  have H6 : Hid (∀ W, Calls Tryd.prog 23 #[.int .i64 k, .int .i64 64] W fun e w' => e = .returned (.bool false) ∧ Below W.heap.size W w') := fun W => (show hs k 6 = false by unfold hs; rw [hF]; decide) ▸ has_6 k W
  have H7 : Hid (∀ W, Calls Tryd.prog 23 #[.int .i64 k, .int .i64 128] W fun e w' => e = .returned (.bool false) ∧ Below W.heap.size W w') := fun W => (show hs k 7 = false by unfold hs; rw [hF]; decide) ▸ has_7 k W
  have H8 : Hid (∀ W, Calls Tryd.prog 23 #[.int .i64 k, .int .i64 256] W fun e w' => e = .returned (.bool false) ∧ Below W.heap.size W w') := fun W => (show hs k 8 = false by unfold hs; rw [hF]; decide) ▸ has_8 k W
  have SC : Hid (∀ W, Below w.heap.size w W → _) := fun W hB => rsame_calls (n + 1) (.agg #[.int .i64 vk, .int .i64 vx, .int .u64 vb, .string vs, .slice la ll lc]) tv (.agg #[.int .i64 0, .int .i64 0, .int .u64 0, .string ⟨#[]⟩, .slice none 0 0]) zE W (hv.below hB) (zE_is W n)
  clear hv hF hs0
  have HB : Hid (Below w.heap.size w (w.alloc (.cells #[.int .i64 k, .string f, .string q, .string m, .int .i64 vk, .int .i64 vx, .int .u64 vb, .string vs, .slice la ll lc, .int .i64 ru, .int .i64 nu, .int .i64 wa, .int .i64 pf, .int .u64 (pc : Int), .int .i64 pm, .slice ca cn cc, .slice aa an ac] 31))) := bel1 _ _
  have HX : Hid (AtR (w.alloc (.cells #[.int .i64 k, .string f, .string q, .string m, .int .i64 vk, .int .i64 vx, .int .u64 vb, .string vs, .slice la ll lc, .int .i64 ru, .int .i64 nu, .int .i64 wa, .int .i64 pf, .int .u64 (pc : Int), .int .i64 pm, .slice ca cn cc, .slice aa an ac] 31)) w.heap.size k f q m vk vx vb vs la ll lc ru nu wa pf pc pm ca cn cc aa an ac) := AtR.box w k f q m vk vx vb vs la ll lc ru nu wa pf pc pm ca cn cc aa an ac
  generalize hW0 : w.alloc (.cells #[.int .i64 k, .string f, .string q, .string m, .int .i64 vk, .int .i64 vx, .int .u64 vb, .string vs, .slice la ll lc, .int .i64 ru, .int .i64 nu, .int .i64 wa, .int .i64 pf, .int .u64 (pc : Int), .int .i64 pm, .slice ca cn cc, .slice aa an ac] 31) = W1 at HB HX
  have H0 : Hid (w.alloc (.cells #[.int .i64 k, .string f, .string q, .string m, .int .i64 vk, .int .i64 vx, .int .u64 vb, .string vs, .slice la ll lc, .int .i64 ru, .int .i64 nu, .int .i64 wa, .int .i64 pf, .int .u64 (pc : Int), .int .i64 pm, .slice ca cn cc, .slice aa an ac] 31) = W1) := hW0
  clear hW0
  go_enter Tryd.func20, Tryd.ntmps20
  go_upto_region 1 with fail
  rw [H0.out]
  clear H0
  obtain ⟨x0, x1, x2, x3, x4, x5, x6, x7, x8, x9, x10, x11, x12, x13, x14, x15, x16⟩ := HX.out
  clear x1
  go_upto_region 2 with fail
  clear x0
  go_wp2_with fail
  refine Calls.mono (H1.out _) ?_
  rintro e y1 ⟨rfl, hb⟩
  replace HX : Hid (AtR y1 w.heap.size k f q m vk vx vb vs la ll lc ru nu wa pf pc pm ca cn cc aa an ac) := HX.out.below hb
  replace HB : Hid (Below w.heap.size w y1) := bel2 HB.out hb
  clear hb
  clear x2 x3 x4 x5 x6 x7 x8 x9 x10 x11 x12 x13 x14 x15 x16
  obtain ⟨x0, x1, x2, x3, x4, x5, x6, x7, x8, x9, x10, x11, x12, x13, x14, x15, x16⟩ := HX.out
  clear x0 x1
  cases c1 : q.toList.isEmpty
  · go_wp2_with fail
    go_ret
    exact ⟨⟨false, rfl, nofun, fun hp => absurd (HE.out.1 hp) (by simp [c1])⟩, HB.out⟩
  go_wp2_with fail
  refine Calls.mono (H2.out _) ?_
  rintro e y2 ⟨rfl, hb⟩
  replace HX : Hid (AtR y2 w.heap.size k f q m vk vx vb vs la ll lc ru nu wa pf pc pm ca cn cc aa an ac) := HX.out.below hb
  replace HB : Hid (Below w.heap.size w y2) := bel2 HB.out hb
  clear hb
  clear x2 x3 x4 x5 x6 x7 x8 x9 x10 x11 x12 x13 x14 x15 x16
  obtain ⟨x0, x1, x2, x3, x4, x5, x6, x7, x8, x9, x10, x11, x12, x13, x14, x15, x16⟩ := HX.out
  clear x0 x1
  cases c2 : m.toList.isEmpty
  · go_wp2_with fail
    go_ret
    exact ⟨⟨false, rfl, nofun, fun hp => absurd (HE.out.1 hp) (by simp [c2])⟩, HB.out⟩
  go_wp2_with fail
  refine Calls.mono (H3.out _) ?_
  rintro e y3 ⟨rfl, hb⟩
  replace HX : Hid (AtR y3 w.heap.size k f q m vk vx vb vs la ll lc ru nu wa pf pc pm ca cn cc aa an ac) := HX.out.below hb
  replace HB : Hid (Below w.heap.size w y3) := bel2 HB.out hb
  clear hb
  clear x2 x3 x4 x5 x6 x7 x8 x9 x10 x11 x12 x13 x14 x15 x16
  obtain ⟨x0, x1, x2, x3, x4, x5, x6, x7, x8, x9, x10, x11, x12, x13, x14, x15, x16⟩ := HX.out
  clear x0 x1
  go_wp2_with fail
  refine Calls.mono (SC.out _ HB.out) ?_
  rintro e y4 ⟨⟨r3, rfl, e3⟩, hb⟩
  replace HX : Hid (AtR y4 w.heap.size k f q m vk vx vb vs la ll lc ru nu wa pf pc pm ca cn cc aa an ac) := HX.out.below hb
  replace HB : Hid (Below w.heap.size w y4) := bel2 HB.out hb
  have E3 : Hid (r3 = true ↔ tv = zE) := e3
  clear hb e3
  clear x2 x3 x4 x5 x6 x7 x8 x9 x10 x11 x12 x13 x14 x15 x16
  obtain ⟨x0, x1, x2, x3, x4, x5, x6, x7, x8, x9, x10, x11, x12, x13, x14, x15, x16⟩ := HX.out
  clear x0 x1
  cases r3
  · have N3 : ¬ tv = zE := fun h => by cases E3.out.2 h
    go_wp2_with fail
    go_ret
    exact ⟨⟨false, rfl, nofun, fun hp => absurd (HE.out.1 hp) (by simp [N3])⟩, HB.out⟩
  have C3 : Hid (tv = zE) := E3.out.1 rfl
  go_wp2_with fail
  refine Calls.mono (H4.out _) ?_
  rintro e y5 ⟨rfl, hb⟩
  replace HX : Hid (AtR y5 w.heap.size k f q m vk vx vb vs la ll lc ru nu wa pf pc pm ca cn cc aa an ac) := HX.out.below hb
  replace HB : Hid (Below w.heap.size w y5) := bel2 HB.out hb
  clear hb
  clear x2 x3 x4 x5 x6 x7 x8 x9 x10 x11 x12 x13 x14 x15 x16
  obtain ⟨x0, x1, x2, x3, x4, x5, x6, x7, x8, x9, x10, x11, x12, x13, x14, x15, x16⟩ := HX.out
  clear x0 x1
  by_cases c4 : ru = 0
  rotate_left
  · have d4 : (ru != 0) = true := by simpa using c4
    go_wp2_with fail
    go_ret
    exact ⟨⟨false, rfl, nofun, fun hp => absurd (HE.out.1 hp) (by simp [c4])⟩, HB.out⟩
  have d4 : (ru != 0) = false := by simpa using c4
  have C4 : Hid (ru = 0) := c4
  clear c4
  go_wp2_with fail
  refine Calls.mono (H5.out _) ?_
  rintro e y6 ⟨rfl, hb⟩
  replace HX : Hid (AtR y6 w.heap.size k f q m vk vx vb vs la ll lc ru nu wa pf pc pm ca cn cc aa an ac) := HX.out.below hb
  replace HB : Hid (Below w.heap.size w y6) := bel2 HB.out hb
  clear hb
  clear x2 x3 x4 x5 x6 x7 x8 x9 x10 x11 x12 x13 x14 x15 x16
  obtain ⟨x0, x1, x2, x3, x4, x5, x6, x7, x8, x9, x10, x11, x12, x13, x14, x15, x16⟩ := HX.out
  clear x0 x1
  go_wp2_with fail
  refine Calls.mono (H6.out _) ?_
  rintro e y7 ⟨rfl, hb⟩
  replace HX : Hid (AtR y7 w.heap.size k f q m vk vx vb vs la ll lc ru nu wa pf pc pm ca cn cc aa an ac) := HX.out.below hb
  replace HB : Hid (Below w.heap.size w y7) := bel2 HB.out hb
  clear hb
  clear x2 x3 x4 x5 x6 x7 x8 x9 x10 x11 x12 x13 x14 x15 x16
  obtain ⟨x0, x1, x2, x3, x4, x5, x6, x7, x8, x9, x10, x11, x12, x13, x14, x15, x16⟩ := HX.out
  clear x0 x1
  by_cases c6 : wa = 0
  rotate_left
  · have d6 : (wa != 0) = true := by simpa using c6
    go_wp2_with fail
    go_ret
    exact ⟨⟨false, rfl, nofun, fun hp => absurd (HE.out.1 hp) (by simp [c6])⟩, HB.out⟩
  have d6 : (wa != 0) = false := by simpa using c6
  have C6 : Hid (wa = 0) := c6
  clear c6
  go_wp2_with fail
  refine Calls.mono (H7.out _) ?_
  rintro e y8 ⟨rfl, hb⟩
  replace HX : Hid (AtR y8 w.heap.size k f q m vk vx vb vs la ll lc ru nu wa pf pc pm ca cn cc aa an ac) := HX.out.below hb
  replace HB : Hid (Below w.heap.size w y8) := bel2 HB.out hb
  clear hb
  clear x2 x3 x4 x5 x6 x7 x8 x9 x10 x11 x12 x13 x14 x15 x16
  obtain ⟨x0, x1, x2, x3, x4, x5, x6, x7, x8, x9, x10, x11, x12, x13, x14, x15, x16⟩ := HX.out
  clear x0 x1
  cases c7 : (!decide (pf = 0) || (!decide (pc = 0) || !decide (pm = 0)))
  rotate_left
  · have N7 : ¬ (pf = 0 ∧ pc = 0 ∧ pm = 0) := fun h => by simp [h.1, h.2.1, h.2.2] at c7
    go_wp2_with fail
    go_ret
    exact ⟨⟨false, rfl, nofun, fun hp => absurd (HE.out.1 hp) (by simp [N7])⟩, HB.out⟩
  have C7 : Hid (pf = 0 ∧ pc = 0 ∧ pm = 0) := by simp at c7; exact ⟨c7.1, c7.2.1, c7.2.2⟩
  go_wp2_with fail
  refine Calls.mono (H8.out _) ?_
  rintro e y9 ⟨rfl, hb⟩
  replace HX : Hid (AtR y9 w.heap.size k f q m vk vx vb vs la ll lc ru nu wa pf pc pm ca cn cc aa an ac) := HX.out.below hb
  replace HB : Hid (Below w.heap.size w y9) := bel2 HB.out hb
  clear hb
  clear x2 x3 x4 x5 x6 x7 x8 x9 x10 x11 x12 x13 x14 x15 x16
  obtain ⟨x0, x1, x2, x3, x4, x5, x6, x7, x8, x9, x10, x11, x12, x13, x14, x15, x16⟩ := HX.out
  clear x0 x1
  have w8 : wrap64 ((cn : Int) + (an : Int)) = ((cn + an : Nat) : Int) := by have := HZ.out; unfold wrap64; omega
  have w9 : IntKind.i64.wrap ((cn : Int) + (an : Int)) = ((cn + an : Nat) : Int) := by have := HZ.out; rw [IntKind.wrap_i64]; omega
  by_cases c8 : cn + an = 0
  · have d8 : (((cn + an : Nat) : Int) == 0) = true := by rw [c8]; rfl
    go_wp2_with fail
    go_ret
    have k1 : cn = 0 := by omega
    have k2 : an = 0 := by omega
    exact ⟨⟨true, by first | rfl | simp_all, fun _ => HE.out.2 (by simp [k1, k2, c1, c2, C3.out, C4.out, C6.out, C7.out]), fun _ => rfl⟩, HB.out⟩
  · have d8 : (((cn + an : Nat) : Int) == 0) = false := by rw [beq_eq_false_iff_ne]; omega
    have N8 : ¬ (cn = 0 ∧ an = 0) := fun h => c8 (by omega)
    go_wp2_with fail
    go_ret
    exact ⟨⟨false, by first | rfl | simp_all, nofun, fun hp => absurd (HE.out.1 hp) (by simp [N8])⟩, HB.out⟩
set_option maxHeartbeats 2000000 in
theorem em_305 (n : Nat) (tv : Tv) (k : Int) (f q m : ByteArray) (vk vx vb : Int) (vs : ByteArray) (la : Option Addr) (ll lc : Nat) (ru nu wa pf : Int) (pc : Nat) (pm : Int) (ca : Option Addr) (cn cc : Nat) (aa : Option Addr) (an ac : Nat) (w : World) (hv : Is w (n + 1) (.agg #[.int .i64 vk, .int .i64 vx, .int .u64 vb, .string vs, .slice la ll lc]) tv) (hs0 : cn + an ≤ 1000) (hF : fld k = 305) : Calls Tryd.prog 20 #[.agg #[.int .i64 k, .string f, .string q, .string m, .int .i64 vk, .int .i64 vx, .int .u64 vb, .string vs, .slice la ll lc, .int .i64 ru, .int .i64 nu, .int .i64 wa, .int .i64 pf, .int .u64 (pc : Int), .int .i64 pm, .slice ca cn cc, .slice aa an ac]] w (FitP (EmR false false false true true false false true tv q m ru nu wa pf pc pm cn an) w) := by
  have HE : Hid ((EmR false false false true true false false true tv q m ru nu wa pf pc pm cn an) ↔ (q.toList.isEmpty = true ∧ m.toList.isEmpty = true ∧ tv = zE ∧ wa = 0 ∧ (pf = 0 ∧ pc = 0 ∧ pm = 0))) := by rw [Hid]; simp [EmR]
  generalize (EmR false false false true true false false true tv q m ru nu wa pf pc pm cn an) = PP at HE ⊢
  have HZ : Hid (cn + an ≤ 1000) := hs0
  have H1 : Hid (∀ W, Calls Tryd.prog 23 #[.int .i64 k, .int .i64 2] W fun e w' => e = .returned (.bool false) ∧ Below W.heap.size W w') := fun W => (show hs k 1 = false by unfold hs; rw [hF]; decide) ▸ has_1 k W
  have H2 : Hid (∀ W, Calls Tryd.prog 23 #[.int .i64 k, .int .i64 4] W fun e w' => e = .returned (.bool false) ∧ Below W.heap.size W w') := fun W => (show hs k 2 = false by unfold hs; rw [hF]; decide) ▸ has_2 k W
  have H3 : Hid (∀ W, Calls Tryd.prog 23 #[.int .i64 k, .int .i64 8] W fun e w' => e = .returned (.bool false) ∧ Below W.heap.size W w') := fun W => (show hs k 3 = false by unfold hs; rw [hF]; decide) ▸ has_3 k W
  have H4 : Hid (∀ W, Calls Tryd.prog 23 #[.int .i64 k, .int .i64 16] W fun e w' => e = .returned (.bool true) ∧ Below W.heap.size W w') := fun W => (show hs k 4 = true by unfold hs; rw [hF]; decide) ▸ has_4 k W
  have H5 : Hid (∀ W, Calls Tryd.prog 23 #[.int .i64 k, .int .i64 32] W fun e w' => e = .returned (.bool true) ∧ Below W.heap.size W w') := fun W => (show hs k 5 = true by unfold hs; rw [hF]; decide) ▸ has_5 k W
  have H6 : Hid (∀ W, Calls Tryd.prog 23 #[.int .i64 k, .int .i64 64] W fun e w' => e = .returned (.bool false) ∧ Below W.heap.size W w') := fun W => (show hs k 6 = false by unfold hs; rw [hF]; decide) ▸ has_6 k W
  have H7 : Hid (∀ W, Calls Tryd.prog 23 #[.int .i64 k, .int .i64 128] W fun e w' => e = .returned (.bool false) ∧ Below W.heap.size W w') := fun W => (show hs k 7 = false by unfold hs; rw [hF]; decide) ▸ has_7 k W
  have H8 : Hid (∀ W, Calls Tryd.prog 23 #[.int .i64 k, .int .i64 256] W fun e w' => e = .returned (.bool true) ∧ Below W.heap.size W w') := fun W => (show hs k 8 = true by unfold hs; rw [hF]; decide) ▸ has_8 k W
  have SC : Hid (∀ W, Below w.heap.size w W → _) := fun W hB => rsame_calls (n + 1) (.agg #[.int .i64 vk, .int .i64 vx, .int .u64 vb, .string vs, .slice la ll lc]) tv (.agg #[.int .i64 0, .int .i64 0, .int .u64 0, .string ⟨#[]⟩, .slice none 0 0]) zE W (hv.below hB) (zE_is W n)
  clear hv hF hs0
  have HB : Hid (Below w.heap.size w (w.alloc (.cells #[.int .i64 k, .string f, .string q, .string m, .int .i64 vk, .int .i64 vx, .int .u64 vb, .string vs, .slice la ll lc, .int .i64 ru, .int .i64 nu, .int .i64 wa, .int .i64 pf, .int .u64 (pc : Int), .int .i64 pm, .slice ca cn cc, .slice aa an ac] 31))) := bel1 _ _
  have HX : Hid (AtR (w.alloc (.cells #[.int .i64 k, .string f, .string q, .string m, .int .i64 vk, .int .i64 vx, .int .u64 vb, .string vs, .slice la ll lc, .int .i64 ru, .int .i64 nu, .int .i64 wa, .int .i64 pf, .int .u64 (pc : Int), .int .i64 pm, .slice ca cn cc, .slice aa an ac] 31)) w.heap.size k f q m vk vx vb vs la ll lc ru nu wa pf pc pm ca cn cc aa an ac) := AtR.box w k f q m vk vx vb vs la ll lc ru nu wa pf pc pm ca cn cc aa an ac
  generalize hW0 : w.alloc (.cells #[.int .i64 k, .string f, .string q, .string m, .int .i64 vk, .int .i64 vx, .int .u64 vb, .string vs, .slice la ll lc, .int .i64 ru, .int .i64 nu, .int .i64 wa, .int .i64 pf, .int .u64 (pc : Int), .int .i64 pm, .slice ca cn cc, .slice aa an ac] 31) = W1 at HB HX
  have H0 : Hid (w.alloc (.cells #[.int .i64 k, .string f, .string q, .string m, .int .i64 vk, .int .i64 vx, .int .u64 vb, .string vs, .slice la ll lc, .int .i64 ru, .int .i64 nu, .int .i64 wa, .int .i64 pf, .int .u64 (pc : Int), .int .i64 pm, .slice ca cn cc, .slice aa an ac] 31) = W1) := hW0
  clear hW0
  go_enter Tryd.func20, Tryd.ntmps20
  go_upto_region 1 with fail
  rw [H0.out]
  clear H0
  obtain ⟨x0, x1, x2, x3, x4, x5, x6, x7, x8, x9, x10, x11, x12, x13, x14, x15, x16⟩ := HX.out
  clear x1
  go_upto_region 2 with fail
  clear x0
  go_wp2_with fail
  refine Calls.mono (H1.out _) ?_
  rintro e y1 ⟨rfl, hb⟩
  replace HX : Hid (AtR y1 w.heap.size k f q m vk vx vb vs la ll lc ru nu wa pf pc pm ca cn cc aa an ac) := HX.out.below hb
  replace HB : Hid (Below w.heap.size w y1) := bel2 HB.out hb
  clear hb
  clear x2 x3 x4 x5 x6 x7 x8 x9 x10 x11 x12 x13 x14 x15 x16
  obtain ⟨x0, x1, x2, x3, x4, x5, x6, x7, x8, x9, x10, x11, x12, x13, x14, x15, x16⟩ := HX.out
  clear x0 x1
  cases c1 : q.toList.isEmpty
  · go_wp2_with fail
    go_ret
    exact ⟨⟨false, rfl, nofun, fun hp => absurd (HE.out.1 hp) (by simp [c1])⟩, HB.out⟩
  go_wp2_with fail
  refine Calls.mono (H2.out _) ?_
  rintro e y2 ⟨rfl, hb⟩
  replace HX : Hid (AtR y2 w.heap.size k f q m vk vx vb vs la ll lc ru nu wa pf pc pm ca cn cc aa an ac) := HX.out.below hb
  replace HB : Hid (Below w.heap.size w y2) := bel2 HB.out hb
  clear hb
  clear x2 x3 x4 x5 x6 x7 x8 x9 x10 x11 x12 x13 x14 x15 x16
  obtain ⟨x0, x1, x2, x3, x4, x5, x6, x7, x8, x9, x10, x11, x12, x13, x14, x15, x16⟩ := HX.out
  clear x0 x1
  cases c2 : m.toList.isEmpty
  · go_wp2_with fail
    go_ret
    exact ⟨⟨false, rfl, nofun, fun hp => absurd (HE.out.1 hp) (by simp [c2])⟩, HB.out⟩
  go_wp2_with fail
  refine Calls.mono (H3.out _) ?_
  rintro e y3 ⟨rfl, hb⟩
  replace HX : Hid (AtR y3 w.heap.size k f q m vk vx vb vs la ll lc ru nu wa pf pc pm ca cn cc aa an ac) := HX.out.below hb
  replace HB : Hid (Below w.heap.size w y3) := bel2 HB.out hb
  clear hb
  clear x2 x3 x4 x5 x6 x7 x8 x9 x10 x11 x12 x13 x14 x15 x16
  obtain ⟨x0, x1, x2, x3, x4, x5, x6, x7, x8, x9, x10, x11, x12, x13, x14, x15, x16⟩ := HX.out
  clear x0 x1
  go_wp2_with fail
  refine Calls.mono (SC.out _ HB.out) ?_
  rintro e y4 ⟨⟨r3, rfl, e3⟩, hb⟩
  replace HX : Hid (AtR y4 w.heap.size k f q m vk vx vb vs la ll lc ru nu wa pf pc pm ca cn cc aa an ac) := HX.out.below hb
  replace HB : Hid (Below w.heap.size w y4) := bel2 HB.out hb
  have E3 : Hid (r3 = true ↔ tv = zE) := e3
  clear hb e3
  clear x2 x3 x4 x5 x6 x7 x8 x9 x10 x11 x12 x13 x14 x15 x16
  obtain ⟨x0, x1, x2, x3, x4, x5, x6, x7, x8, x9, x10, x11, x12, x13, x14, x15, x16⟩ := HX.out
  clear x0 x1
  cases r3
  · have N3 : ¬ tv = zE := fun h => by cases E3.out.2 h
    go_wp2_with fail
    go_ret
    exact ⟨⟨false, rfl, nofun, fun hp => absurd (HE.out.1 hp) (by simp [N3])⟩, HB.out⟩
  have C3 : Hid (tv = zE) := E3.out.1 rfl
  go_wp2_with fail
  refine Calls.mono (H4.out _) ?_
  rintro e y5 ⟨rfl, hb⟩
  replace HX : Hid (AtR y5 w.heap.size k f q m vk vx vb vs la ll lc ru nu wa pf pc pm ca cn cc aa an ac) := HX.out.below hb
  replace HB : Hid (Below w.heap.size w y5) := bel2 HB.out hb
  clear hb
  clear x2 x3 x4 x5 x6 x7 x8 x9 x10 x11 x12 x13 x14 x15 x16
  obtain ⟨x0, x1, x2, x3, x4, x5, x6, x7, x8, x9, x10, x11, x12, x13, x14, x15, x16⟩ := HX.out
  clear x0 x1
  go_wp2_with fail
  refine Calls.mono (H5.out _) ?_
  rintro e y6 ⟨rfl, hb⟩
  replace HX : Hid (AtR y6 w.heap.size k f q m vk vx vb vs la ll lc ru nu wa pf pc pm ca cn cc aa an ac) := HX.out.below hb
  replace HB : Hid (Below w.heap.size w y6) := bel2 HB.out hb
  clear hb
  clear x2 x3 x4 x5 x6 x7 x8 x9 x10 x11 x12 x13 x14 x15 x16
  obtain ⟨x0, x1, x2, x3, x4, x5, x6, x7, x8, x9, x10, x11, x12, x13, x14, x15, x16⟩ := HX.out
  clear x0 x1
  go_wp2_with fail
  refine Calls.mono (H6.out _) ?_
  rintro e y7 ⟨rfl, hb⟩
  replace HX : Hid (AtR y7 w.heap.size k f q m vk vx vb vs la ll lc ru nu wa pf pc pm ca cn cc aa an ac) := HX.out.below hb
  replace HB : Hid (Below w.heap.size w y7) := bel2 HB.out hb
  clear hb
  clear x2 x3 x4 x5 x6 x7 x8 x9 x10 x11 x12 x13 x14 x15 x16
  obtain ⟨x0, x1, x2, x3, x4, x5, x6, x7, x8, x9, x10, x11, x12, x13, x14, x15, x16⟩ := HX.out
  clear x0 x1
  by_cases c6 : wa = 0
  rotate_left
  · have d6 : (wa != 0) = true := by simpa using c6
    go_wp2_with fail
    go_ret
    exact ⟨⟨false, rfl, nofun, fun hp => absurd (HE.out.1 hp) (by simp [c6])⟩, HB.out⟩
  have d6 : (wa != 0) = false := by simpa using c6
  have C6 : Hid (wa = 0) := c6
  clear c6
  go_wp2_with fail
  refine Calls.mono (H7.out _) ?_
  rintro e y8 ⟨rfl, hb⟩
  replace HX : Hid (AtR y8 w.heap.size k f q m vk vx vb vs la ll lc ru nu wa pf pc pm ca cn cc aa an ac) := HX.out.below hb
  replace HB : Hid (Below w.heap.size w y8) := bel2 HB.out hb
  clear hb
  clear x2 x3 x4 x5 x6 x7 x8 x9 x10 x11 x12 x13 x14 x15 x16
  obtain ⟨x0, x1, x2, x3, x4, x5, x6, x7, x8, x9, x10, x11, x12, x13, x14, x15, x16⟩ := HX.out
  clear x0 x1
  cases c7 : (!decide (pf = 0) || (!decide (pc = 0) || !decide (pm = 0)))
  rotate_left
  · have N7 : ¬ (pf = 0 ∧ pc = 0 ∧ pm = 0) := fun h => by simp [h.1, h.2.1, h.2.2] at c7
    go_wp2_with fail
    go_ret
    exact ⟨⟨false, rfl, nofun, fun hp => absurd (HE.out.1 hp) (by simp [N7])⟩, HB.out⟩
  have C7 : Hid (pf = 0 ∧ pc = 0 ∧ pm = 0) := by simp at c7; exact ⟨c7.1, c7.2.1, c7.2.2⟩
  go_wp2_with fail
  refine Calls.mono (H8.out _) ?_
  rintro e y9 ⟨rfl, hb⟩
  replace HX : Hid (AtR y9 w.heap.size k f q m vk vx vb vs la ll lc ru nu wa pf pc pm ca cn cc aa an ac) := HX.out.below hb
  replace HB : Hid (Below w.heap.size w y9) := bel2 HB.out hb
  clear hb
  clear x2 x3 x4 x5 x6 x7 x8 x9 x10 x11 x12 x13 x14 x15 x16
  obtain ⟨x0, x1, x2, x3, x4, x5, x6, x7, x8, x9, x10, x11, x12, x13, x14, x15, x16⟩ := HX.out
  clear x0 x1
  go_wp2_with fail
  go_ret
  exact ⟨⟨true, rfl, fun _ => HE.out.2 (by simp [c1, c2, C3.out, C6.out, C7.out]), fun _ => rfl⟩, HB.out⟩
set_option maxHeartbeats 2000000 in
theorem em_53 (n : Nat) (tv : Tv) (k : Int) (f q m : ByteArray) (vk vx vb : Int) (vs : ByteArray) (la : Option Addr) (ll lc : Nat) (ru nu wa pf : Int) (pc : Nat) (pm : Int) (ca : Option Addr) (cn cc : Nat) (aa : Option Addr) (an ac : Nat) (w : World) (hv : Is w (n + 1) (.agg #[.int .i64 vk, .int .i64 vx, .int .u64 vb, .string vs, .slice la ll lc]) tv) (hs0 : cn + an ≤ 1000) (hF : fld k = 53) : Calls Tryd.prog 20 #[.agg #[.int .i64 k, .string f, .string q, .string m, .int .i64 vk, .int .i64 vx, .int .u64 vb, .string vs, .slice la ll lc, .int .i64 ru, .int .i64 nu, .int .i64 wa, .int .i64 pf, .int .u64 (pc : Int), .int .i64 pm, .slice ca cn cc, .slice aa an ac]] w (FitP (EmR false true false true true false false false tv q m ru nu wa pf pc pm cn an) w) := by
  have HE : Hid ((EmR false true false true true false false false tv q m ru nu wa pf pc pm cn an) ↔ (q.toList.isEmpty = true ∧ tv = zE ∧ wa = 0 ∧ (pf = 0 ∧ pc = 0 ∧ pm = 0) ∧ (cn = 0 ∧ an = 0))) := by rw [Hid]; simp [EmR]
  generalize (EmR false true false true true false false false tv q m ru nu wa pf pc pm cn an) = PP at HE ⊢
  have HZ : Hid (cn + an ≤ 1000) := hs0
  have H1 : Hid (∀ W, Calls Tryd.prog 23 #[.int .i64 k, .int .i64 2] W fun e w' => e = .returned (.bool false) ∧ Below W.heap.size W w') := fun W => (show hs k 1 = false by unfold hs; rw [hF]; decide) ▸ has_1 k W
  have H2 : Hid (∀ W, Calls Tryd.prog 23 #[.int .i64 k, .int .i64 4] W fun e w' => e = .returned (.bool true) ∧ Below W.heap.size W w') := fun W => (show hs k 2 = true by unfold hs; rw [hF]; decide) ▸ has_2 k W
  have H3 : Hid (∀ W, Calls Tryd.prog 23 #[.int .i64 k, .int .i64 8] W fun e w' => e = .returned (.bool false) ∧ Below W.heap.size W w') := fun W => (show hs k 3 = false by unfold hs; rw [hF]; decide) ▸ has_3 k W
  have H4 : Hid (∀ W, Calls Tryd.prog 23 #[.int .i64 k, .int .i64 16] W fun e w' => e = .returned (.bool true) ∧ Below W.heap.size W w') := fun W => (show hs k 4 = true by unfold hs; rw [hF]; decide) ▸ has_4 k W
  have H5 : Hid (∀ W, Calls Tryd.prog 23 #[.int .i64 k, .int .i64 32] W fun e w' => e = .returned (.bool true) ∧ Below W.heap.size W w') := fun W => (show hs k 5 = true by unfold hs; rw [hF]; decide) ▸ has_5 k W
  have H6 : Hid (∀ W, Calls Tryd.prog 23 #[.int .i64 k, .int .i64 64] W fun e w' => e = .returned (.bool false) ∧ Below W.heap.size W w') := fun W => (show hs k 6 = false by unfold hs; rw [hF]; decide) ▸ has_6 k W
  have H7 : Hid (∀ W, Calls Tryd.prog 23 #[.int .i64 k, .int .i64 128] W fun e w' => e = .returned (.bool false) ∧ Below W.heap.size W w') := fun W => (show hs k 7 = false by unfold hs; rw [hF]; decide) ▸ has_7 k W
  have H8 : Hid (∀ W, Calls Tryd.prog 23 #[.int .i64 k, .int .i64 256] W fun e w' => e = .returned (.bool false) ∧ Below W.heap.size W w') := fun W => (show hs k 8 = false by unfold hs; rw [hF]; decide) ▸ has_8 k W
  have SC : Hid (∀ W, Below w.heap.size w W → _) := fun W hB => rsame_calls (n + 1) (.agg #[.int .i64 vk, .int .i64 vx, .int .u64 vb, .string vs, .slice la ll lc]) tv (.agg #[.int .i64 0, .int .i64 0, .int .u64 0, .string ⟨#[]⟩, .slice none 0 0]) zE W (hv.below hB) (zE_is W n)
  clear hv hF hs0
  have HB : Hid (Below w.heap.size w (w.alloc (.cells #[.int .i64 k, .string f, .string q, .string m, .int .i64 vk, .int .i64 vx, .int .u64 vb, .string vs, .slice la ll lc, .int .i64 ru, .int .i64 nu, .int .i64 wa, .int .i64 pf, .int .u64 (pc : Int), .int .i64 pm, .slice ca cn cc, .slice aa an ac] 31))) := bel1 _ _
  have HX : Hid (AtR (w.alloc (.cells #[.int .i64 k, .string f, .string q, .string m, .int .i64 vk, .int .i64 vx, .int .u64 vb, .string vs, .slice la ll lc, .int .i64 ru, .int .i64 nu, .int .i64 wa, .int .i64 pf, .int .u64 (pc : Int), .int .i64 pm, .slice ca cn cc, .slice aa an ac] 31)) w.heap.size k f q m vk vx vb vs la ll lc ru nu wa pf pc pm ca cn cc aa an ac) := AtR.box w k f q m vk vx vb vs la ll lc ru nu wa pf pc pm ca cn cc aa an ac
  generalize hW0 : w.alloc (.cells #[.int .i64 k, .string f, .string q, .string m, .int .i64 vk, .int .i64 vx, .int .u64 vb, .string vs, .slice la ll lc, .int .i64 ru, .int .i64 nu, .int .i64 wa, .int .i64 pf, .int .u64 (pc : Int), .int .i64 pm, .slice ca cn cc, .slice aa an ac] 31) = W1 at HB HX
  have H0 : Hid (w.alloc (.cells #[.int .i64 k, .string f, .string q, .string m, .int .i64 vk, .int .i64 vx, .int .u64 vb, .string vs, .slice la ll lc, .int .i64 ru, .int .i64 nu, .int .i64 wa, .int .i64 pf, .int .u64 (pc : Int), .int .i64 pm, .slice ca cn cc, .slice aa an ac] 31) = W1) := hW0
  clear hW0
  go_enter Tryd.func20, Tryd.ntmps20
  go_upto_region 1 with fail
  rw [H0.out]
  clear H0
  obtain ⟨x0, x1, x2, x3, x4, x5, x6, x7, x8, x9, x10, x11, x12, x13, x14, x15, x16⟩ := HX.out
  clear x1
  go_upto_region 2 with fail
  clear x0
  go_wp2_with fail
  refine Calls.mono (H1.out _) ?_
  rintro e y1 ⟨rfl, hb⟩
  replace HX : Hid (AtR y1 w.heap.size k f q m vk vx vb vs la ll lc ru nu wa pf pc pm ca cn cc aa an ac) := HX.out.below hb
  replace HB : Hid (Below w.heap.size w y1) := bel2 HB.out hb
  clear hb
  clear x2 x3 x4 x5 x6 x7 x8 x9 x10 x11 x12 x13 x14 x15 x16
  obtain ⟨x0, x1, x2, x3, x4, x5, x6, x7, x8, x9, x10, x11, x12, x13, x14, x15, x16⟩ := HX.out
  clear x0 x1
  cases c1 : q.toList.isEmpty
  · go_wp2_with fail
    go_ret
    exact ⟨⟨false, rfl, nofun, fun hp => absurd (HE.out.1 hp) (by simp [c1])⟩, HB.out⟩
  go_wp2_with fail
  refine Calls.mono (H2.out _) ?_
  rintro e y2 ⟨rfl, hb⟩
  replace HX : Hid (AtR y2 w.heap.size k f q m vk vx vb vs la ll lc ru nu wa pf pc pm ca cn cc aa an ac) := HX.out.below hb
  replace HB : Hid (Below w.heap.size w y2) := bel2 HB.out hb
  clear hb
  clear x2 x3 x4 x5 x6 x7 x8 x9 x10 x11 x12 x13 x14 x15 x16
  obtain ⟨x0, x1, x2, x3, x4, x5, x6, x7, x8, x9, x10, x11, x12, x13, x14, x15, x16⟩ := HX.out
  clear x0 x1
  go_wp2_with fail
  refine Calls.mono (H3.out _) ?_
  rintro e y3 ⟨rfl, hb⟩
  replace HX : Hid (AtR y3 w.heap.size k f q m vk vx vb vs la ll lc ru nu wa pf pc pm ca cn cc aa an ac) := HX.out.below hb
  replace HB : Hid (Below w.heap.size w y3) := bel2 HB.out hb
  clear hb
  clear x2 x3 x4 x5 x6 x7 x8 x9 x10 x11 x12 x13 x14 x15 x16
  obtain ⟨x0, x1, x2, x3, x4, x5, x6, x7, x8, x9, x10, x11, x12, x13, x14, x15, x16⟩ := HX.out
  clear x0 x1
  go_wp2_with fail
  refine Calls.mono (SC.out _ HB.out) ?_
  rintro e y4 ⟨⟨r3, rfl, e3⟩, hb⟩
  replace HX : Hid (AtR y4 w.heap.size k f q m vk vx vb vs la ll lc ru nu wa pf pc pm ca cn cc aa an ac) := HX.out.below hb
  replace HB : Hid (Below w.heap.size w y4) := bel2 HB.out hb
  have E3 : Hid (r3 = true ↔ tv = zE) := e3
  clear hb e3
  clear x2 x3 x4 x5 x6 x7 x8 x9 x10 x11 x12 x13 x14 x15 x16
  obtain ⟨x0, x1, x2, x3, x4, x5, x6, x7, x8, x9, x10, x11, x12, x13, x14, x15, x16⟩ := HX.out
  clear x0 x1
  cases r3
  · have N3 : ¬ tv = zE := fun h => by cases E3.out.2 h
    go_wp2_with fail
    go_ret
    exact ⟨⟨false, rfl, nofun, fun hp => absurd (HE.out.1 hp) (by simp [N3])⟩, HB.out⟩
  have C3 : Hid (tv = zE) := E3.out.1 rfl
  go_wp2_with fail
  refine Calls.mono (H4.out _) ?_
  rintro e y5 ⟨rfl, hb⟩
  replace HX : Hid (AtR y5 w.heap.size k f q m vk vx vb vs la ll lc ru nu wa pf pc pm ca cn cc aa an ac) := HX.out.below hb
  replace HB : Hid (Below w.heap.size w y5) := bel2 HB.out hb
  clear hb
  clear x2 x3 x4 x5 x6 x7 x8 x9 x10 x11 x12 x13 x14 x15 x16
  obtain ⟨x0, x1, x2, x3, x4, x5, x6, x7, x8, x9, x10, x11, x12, x13, x14, x15, x16⟩ := HX.out
  clear x0 x1
  go_wp2_with fail
  refine Calls.mono (H5.out _) ?_
  rintro e y6 ⟨rfl, hb⟩
  replace HX : Hid (AtR y6 w.heap.size k f q m vk vx vb vs la ll lc ru nu wa pf pc pm ca cn cc aa an ac) := HX.out.below hb
  replace HB : Hid (Below w.heap.size w y6) := bel2 HB.out hb
  clear hb
  clear x2 x3 x4 x5 x6 x7 x8 x9 x10 x11 x12 x13 x14 x15 x16
  obtain ⟨x0, x1, x2, x3, x4, x5, x6, x7, x8, x9, x10, x11, x12, x13, x14, x15, x16⟩ := HX.out
  clear x0 x1
  go_wp2_with fail
  refine Calls.mono (H6.out _) ?_
  rintro e y7 ⟨rfl, hb⟩
  replace HX : Hid (AtR y7 w.heap.size k f q m vk vx vb vs la ll lc ru nu wa pf pc pm ca cn cc aa an ac) := HX.out.below hb
  replace HB : Hid (Below w.heap.size w y7) := bel2 HB.out hb
  clear hb
  clear x2 x3 x4 x5 x6 x7 x8 x9 x10 x11 x12 x13 x14 x15 x16
  obtain ⟨x0, x1, x2, x3, x4, x5, x6, x7, x8, x9, x10, x11, x12, x13, x14, x15, x16⟩ := HX.out
  clear x0 x1
  by_cases c6 : wa = 0
  rotate_left
  · have d6 : (wa != 0) = true := by simpa using c6
    go_wp2_with fail
    go_ret
    exact ⟨⟨false, rfl, nofun, fun hp => absurd (HE.out.1 hp) (by simp [c6])⟩, HB.out⟩
  have d6 : (wa != 0) = false := by simpa using c6
  have C6 : Hid (wa = 0) := c6
  clear c6
  go_wp2_with fail
  refine Calls.mono (H7.out _) ?_
  rintro e y8 ⟨rfl, hb⟩
  replace HX : Hid (AtR y8 w.heap.size k f q m vk vx vb vs la ll lc ru nu wa pf pc pm ca cn cc aa an ac) := HX.out.below hb
  replace HB : Hid (Below w.heap.size w y8) := bel2 HB.out hb
  clear hb
  clear x2 x3 x4 x5 x6 x7 x8 x9 x10 x11 x12 x13 x14 x15 x16
  obtain ⟨x0, x1, x2, x3, x4, x5, x6, x7, x8, x9, x10, x11, x12, x13, x14, x15, x16⟩ := HX.out
  clear x0 x1
  cases c7 : (!decide (pf = 0) || (!decide (pc = 0) || !decide (pm = 0)))
  rotate_left
  · have N7 : ¬ (pf = 0 ∧ pc = 0 ∧ pm = 0) := fun h => by simp [h.1, h.2.1, h.2.2] at c7
    go_wp2_with fail
    go_ret
    exact ⟨⟨false, rfl, nofun, fun hp => absurd (HE.out.1 hp) (by simp [N7])⟩, HB.out⟩
  have C7 : Hid (pf = 0 ∧ pc = 0 ∧ pm = 0) := by simp at c7; exact ⟨c7.1, c7.2.1, c7.2.2⟩
  go_wp2_with fail
  refine Calls.mono (H8.out _) ?_
  rintro e y9 ⟨rfl, hb⟩
  replace HX : Hid (AtR y9 w.heap.size k f q m vk vx vb vs la ll lc ru nu wa pf pc pm ca cn cc aa an ac) := HX.out.below hb
  replace HB : Hid (Below w.heap.size w y9) := bel2 HB.out hb
  clear hb
  clear x2 x3 x4 x5 x6 x7 x8 x9 x10 x11 x12 x13 x14 x15 x16
  obtain ⟨x0, x1, x2, x3, x4, x5, x6, x7, x8, x9, x10, x11, x12, x13, x14, x15, x16⟩ := HX.out
  clear x0 x1
  have w8 : wrap64 ((cn : Int) + (an : Int)) = ((cn + an : Nat) : Int) := by have := HZ.out; unfold wrap64; omega
  have w9 : IntKind.i64.wrap ((cn : Int) + (an : Int)) = ((cn + an : Nat) : Int) := by have := HZ.out; rw [IntKind.wrap_i64]; omega
  by_cases c8 : cn + an = 0
  · have d8 : (((cn + an : Nat) : Int) == 0) = true := by rw [c8]; rfl
    go_wp2_with fail
    go_ret
    have k1 : cn = 0 := by omega
    have k2 : an = 0 := by omega
    exact ⟨⟨true, by first | rfl | simp_all, fun _ => HE.out.2 (by simp [k1, k2, c1, C3.out, C6.out, C7.out]), fun _ => rfl⟩, HB.out⟩
  · have d8 : (((cn + an : Nat) : Int) == 0) = false := by rw [beq_eq_false_iff_ne]; omega
    have N8 : ¬ (cn = 0 ∧ an = 0) := fun h => c8 (by omega)
    go_wp2_with fail
    go_ret
    exact ⟨⟨false, by first | rfl | simp_all, nofun, fun hp => absurd (HE.out.1 hp) (by simp [N8])⟩, HB.out⟩
theorem rempty_calls (n : Nat) (tv : Tv) (k : Int) (f q m : ByteArray) (vk vx vb : Int) (vs : ByteArray) (la : Option Addr) (ll lc : Nat) (ru nu wa pf : Int) (pc : Nat) (pm : Int) (ca : Option Addr) (cn cc : Nat) (aa : Option Addr) (an ac : Nat) (w : World) (hv : Is w (n + 1) (.agg #[.int .i64 vk, .int .i64 vx, .int .u64 vb, .string vs, .slice la ll lc]) tv) (hs0 : cn + an ≤ 1000) (hF : fld k ≠ 0) : Calls Tryd.prog 20 #[.agg #[.int .i64 k, .string f, .string q, .string m, .int .i64 vk, .int .i64 vx, .int .u64 vb, .string vs, .slice la ll lc, .int .i64 ru, .int .i64 nu, .int .i64 wa, .int .i64 pf, .int .u64 (pc : Int), .int .i64 pm, .slice ca cn cc, .slice aa an ac]] w (FitP (EmR (hs k 1) (hs k 2) (hs k 3) (hs k 4) (hs k 5) (hs k 6) (hs k 7) (hs k 8) tv q m ru nu wa pf pc pm cn an) w) := by
  rcases fld_set k with h | h | h | h | h | h | h | h | h | h | h | h
  · exact absurd h hF
  · have e := em_175 n tv k f q m vk vx vb vs la ll lc ru nu wa pf pc pm ca cn cc aa an ac w hv hs0 h
    simp only [hs, h]
    exact e
  · have e := em_15 n tv k f q m vk vx vb vs la ll lc ru nu wa pf pc pm ca cn cc aa an ac w hv hs0 h
    simp only [hs, h]
    exact e
  · have e := em_77 n tv k f q m vk vx vb vs la ll lc ru nu wa pf pc pm ca cn cc aa an ac w hv hs0 h
    simp only [hs, h]
    exact e
  · have e := em_107 n tv k f q m vk vx vb vs la ll lc ru nu wa pf pc pm ca cn cc aa an ac w hv hs0 h
    simp only [hs, h]
    exact e
  · have e := em_3 n tv k f q m vk vx vb vs la ll lc ru nu wa pf pc pm ca cn cc aa an ac w hv hs0 h
    simp only [hs, h]
    exact e
  · have e := em_7 n tv k f q m vk vx vb vs la ll lc ru nu wa pf pc pm ca cn cc aa an ac w hv hs0 h
    simp only [hs, h]
    exact e
  · have e := em_35 n tv k f q m vk vx vb vs la ll lc ru nu wa pf pc pm ca cn cc aa an ac w hv hs0 h
    simp only [hs, h]
    exact e
  · have e := em_1 n tv k f q m vk vx vb vs la ll lc ru nu wa pf pc pm ca cn cc aa an ac w hv hs0 h
    simp only [hs, h]
    exact e
  · have e := em_33 n tv k f q m vk vx vb vs la ll lc ru nu wa pf pc pm ca cn cc aa an ac w hv hs0 h
    simp only [hs, h]
    exact e
  · have e := em_305 n tv k f q m vk vx vb vs la ll lc ru nu wa pf pc pm ca cn cc aa an ac w hv hs0 h
    simp only [hs, h]
    exact e
  · have e := em_53 n tv k f q m vk vx vb vs la ll lc ru nu wa pf pc pm ca cn cc aa an ac w hv hs0 h
    simp only [hs, h]
    exact e
end Go.Proofs.YtddigndamimmpaaDoor
