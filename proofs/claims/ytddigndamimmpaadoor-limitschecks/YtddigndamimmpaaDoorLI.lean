/- The reference's num, named, empty. -/
import Derived.Test.YtddigndamimmpaaDoorLG
import Derived.Test.YtddigndamimmpaaDoorCB
import Derived.Test.YtddigndamimmpaaDoorLF
namespace Go.Proofs.YtddigndamimmpaaDoor
open Go.ChangeShapes Go.WideShapes Go.ChangeAt Go.RowKit
attribute [local go_sem] iteB
theorem rn_1 (k : Int) (f q m : ByteArray) (vk vx vb : Int) (vs : ByteArray) (la : Option Addr) (ll lc : Nat) (ru nu wa pf : Int) (pc : Nat) (pm : Int) (ca : Option Addr) (cn cc : Nat) (aa : Option Addr) (an ac : Nat) (w : World) (hk : k = 1) : Calls Tryd.prog 22 #[.agg #[.int .i64 k, .string f, .string q, .string m, .int .i64 vk, .int .i64 vx, .int .u64 vb, .string vs, .slice la ll lc, .int .i64 ru, .int .i64 nu, .int .i64 wa, .int .i64 pf, .int .u64 (pc : Int), .int .i64 pm, .slice ca cn cc, .slice aa an ac]] w fun e w' => e = .returned (.bool (wi nu 0 1073741824)) ∧ Below w.heap.size w w' := by
  have HE : Hid (wi nu 0 1073741824 = (decide (0 ≤ nu) && decide (nu ≤ 1073741824))) := rfl
  generalize wi nu 0 1073741824 = bb at HE ⊢
  have HK : Hid (k = 1) := hk
  clear hk
  have HB : Hid (Below w.heap.size w (w.alloc (.cells #[.int .i64 k, .string f, .string q, .string m, .int .i64 vk, .int .i64 vx, .int .u64 vb, .string vs, .slice la ll lc, .int .i64 ru, .int .i64 nu, .int .i64 wa, .int .i64 pf, .int .u64 (pc : Int), .int .i64 pm, .slice ca cn cc, .slice aa an ac] 31))) := bel1 _ _
  have HX : Hid (AtR (w.alloc (.cells #[.int .i64 k, .string f, .string q, .string m, .int .i64 vk, .int .i64 vx, .int .u64 vb, .string vs, .slice la ll lc, .int .i64 ru, .int .i64 nu, .int .i64 wa, .int .i64 pf, .int .u64 (pc : Int), .int .i64 pm, .slice ca cn cc, .slice aa an ac] 31)) w.heap.size k f q m vk vx vb vs la ll lc ru nu wa pf pc pm ca cn cc aa an ac) := AtR.box w k f q m vk vx vb vs la ll lc ru nu wa pf pc pm ca cn cc aa an ac
  generalize hW0 : w.alloc (.cells #[.int .i64 k, .string f, .string q, .string m, .int .i64 vk, .int .i64 vx, .int .u64 vb, .string vs, .slice la ll lc, .int .i64 ru, .int .i64 nu, .int .i64 wa, .int .i64 pf, .int .u64 (pc : Int), .int .i64 pm, .slice ca cn cc, .slice aa an ac] 31) = W1 at HB HX
  have H0 : Hid (w.alloc (.cells #[.int .i64 k, .string f, .string q, .string m, .int .i64 vk, .int .i64 vx, .int .u64 vb, .string vs, .slice la ll lc, .int .i64 ru, .int .i64 nu, .int .i64 wa, .int .i64 pf, .int .u64 (pc : Int), .int .i64 pm, .slice ca cn cc, .slice aa an ac] 31) = W1) := hW0
  clear hW0
  go_enter Tryd.func22, Tryd.ntmps22
  go_upto_region 1 with fail
  rw [H0.out]
  clear H0
  obtain ⟨x0, x1, x2, x3, x4, x5, x6, x7, x8, x9, x10, x11, x12, x13, x14, x15, x16⟩ := HX.out
  clear x1 x2 x3 x4 x5 x6 x7 x8 x9 x11 x12 x13 x14 x15 x16
  have hk := HK.out
  subst hk
  by_cases h : 0 ≤ nu
  · go_wp2_with fail
    go_ret
    exact ⟨by rw [HE.out]; simp [h], HB.out⟩
  · go_wp2_with fail
    go_ret
    exact ⟨by rw [HE.out]; simp; omega, HB.out⟩
theorem rn_2 (k : Int) (f q m : ByteArray) (vk vx vb : Int) (vs : ByteArray) (la : Option Addr) (ll lc : Nat) (ru nu wa pf : Int) (pc : Nat) (pm : Int) (ca : Option Addr) (cn cc : Nat) (aa : Option Addr) (an ac : Nat) (w : World) (hk : k = 2) : Calls Tryd.prog 22 #[.agg #[.int .i64 k, .string f, .string q, .string m, .int .i64 vk, .int .i64 vx, .int .u64 vb, .string vs, .slice la ll lc, .int .i64 ru, .int .i64 nu, .int .i64 wa, .int .i64 pf, .int .u64 (pc : Int), .int .i64 pm, .slice ca cn cc, .slice aa an ac]] w fun e w' => e = .returned (.bool (wi nu 0 0)) ∧ Below w.heap.size w w' := by
  have HE : Hid (wi nu 0 0 = (decide (0 ≤ nu) && decide (nu ≤ 0))) := rfl
  generalize wi nu 0 0 = bb at HE ⊢
  have HK : Hid (k = 2) := hk
  clear hk
  have HB : Hid (Below w.heap.size w (w.alloc (.cells #[.int .i64 k, .string f, .string q, .string m, .int .i64 vk, .int .i64 vx, .int .u64 vb, .string vs, .slice la ll lc, .int .i64 ru, .int .i64 nu, .int .i64 wa, .int .i64 pf, .int .u64 (pc : Int), .int .i64 pm, .slice ca cn cc, .slice aa an ac] 31))) := bel1 _ _
  have HX : Hid (AtR (w.alloc (.cells #[.int .i64 k, .string f, .string q, .string m, .int .i64 vk, .int .i64 vx, .int .u64 vb, .string vs, .slice la ll lc, .int .i64 ru, .int .i64 nu, .int .i64 wa, .int .i64 pf, .int .u64 (pc : Int), .int .i64 pm, .slice ca cn cc, .slice aa an ac] 31)) w.heap.size k f q m vk vx vb vs la ll lc ru nu wa pf pc pm ca cn cc aa an ac) := AtR.box w k f q m vk vx vb vs la ll lc ru nu wa pf pc pm ca cn cc aa an ac
  generalize hW0 : w.alloc (.cells #[.int .i64 k, .string f, .string q, .string m, .int .i64 vk, .int .i64 vx, .int .u64 vb, .string vs, .slice la ll lc, .int .i64 ru, .int .i64 nu, .int .i64 wa, .int .i64 pf, .int .u64 (pc : Int), .int .i64 pm, .slice ca cn cc, .slice aa an ac] 31) = W1 at HB HX
  have H0 : Hid (w.alloc (.cells #[.int .i64 k, .string f, .string q, .string m, .int .i64 vk, .int .i64 vx, .int .u64 vb, .string vs, .slice la ll lc, .int .i64 ru, .int .i64 nu, .int .i64 wa, .int .i64 pf, .int .u64 (pc : Int), .int .i64 pm, .slice ca cn cc, .slice aa an ac] 31) = W1) := hW0
  clear hW0
  go_enter Tryd.func22, Tryd.ntmps22
  go_upto_region 1 with fail
  rw [H0.out]
  clear H0
  obtain ⟨x0, x1, x2, x3, x4, x5, x6, x7, x8, x9, x10, x11, x12, x13, x14, x15, x16⟩ := HX.out
  clear x1 x2 x3 x4 x5 x6 x7 x8 x9 x11 x12 x13 x14 x15 x16
  have hk := HK.out
  subst hk
  by_cases h : 0 ≤ nu
  · go_wp2_with fail
    go_ret
    exact ⟨by rw [HE.out]; simp [h], HB.out⟩
  · go_wp2_with fail
    go_ret
    exact ⟨by rw [HE.out]; simp; omega, HB.out⟩
theorem rn_3 (k : Int) (f q m : ByteArray) (vk vx vb : Int) (vs : ByteArray) (la : Option Addr) (ll lc : Nat) (ru nu wa pf : Int) (pc : Nat) (pm : Int) (ca : Option Addr) (cn cc : Nat) (aa : Option Addr) (an ac : Nat) (w : World) (hk : k = 3) : Calls Tryd.prog 22 #[.agg #[.int .i64 k, .string f, .string q, .string m, .int .i64 vk, .int .i64 vx, .int .u64 vb, .string vs, .slice la ll lc, .int .i64 ru, .int .i64 nu, .int .i64 wa, .int .i64 pf, .int .u64 (pc : Int), .int .i64 pm, .slice ca cn cc, .slice aa an ac]] w fun e w' => e = .returned (.bool (wi nu 0 1073741824)) ∧ Below w.heap.size w w' := by
  have HE : Hid (wi nu 0 1073741824 = (decide (0 ≤ nu) && decide (nu ≤ 1073741824))) := rfl
  generalize wi nu 0 1073741824 = bb at HE ⊢
  have HK : Hid (k = 3) := hk
  clear hk
  have HB : Hid (Below w.heap.size w (w.alloc (.cells #[.int .i64 k, .string f, .string q, .string m, .int .i64 vk, .int .i64 vx, .int .u64 vb, .string vs, .slice la ll lc, .int .i64 ru, .int .i64 nu, .int .i64 wa, .int .i64 pf, .int .u64 (pc : Int), .int .i64 pm, .slice ca cn cc, .slice aa an ac] 31))) := bel1 _ _
  have HX : Hid (AtR (w.alloc (.cells #[.int .i64 k, .string f, .string q, .string m, .int .i64 vk, .int .i64 vx, .int .u64 vb, .string vs, .slice la ll lc, .int .i64 ru, .int .i64 nu, .int .i64 wa, .int .i64 pf, .int .u64 (pc : Int), .int .i64 pm, .slice ca cn cc, .slice aa an ac] 31)) w.heap.size k f q m vk vx vb vs la ll lc ru nu wa pf pc pm ca cn cc aa an ac) := AtR.box w k f q m vk vx vb vs la ll lc ru nu wa pf pc pm ca cn cc aa an ac
  generalize hW0 : w.alloc (.cells #[.int .i64 k, .string f, .string q, .string m, .int .i64 vk, .int .i64 vx, .int .u64 vb, .string vs, .slice la ll lc, .int .i64 ru, .int .i64 nu, .int .i64 wa, .int .i64 pf, .int .u64 (pc : Int), .int .i64 pm, .slice ca cn cc, .slice aa an ac] 31) = W1 at HB HX
  have H0 : Hid (w.alloc (.cells #[.int .i64 k, .string f, .string q, .string m, .int .i64 vk, .int .i64 vx, .int .u64 vb, .string vs, .slice la ll lc, .int .i64 ru, .int .i64 nu, .int .i64 wa, .int .i64 pf, .int .u64 (pc : Int), .int .i64 pm, .slice ca cn cc, .slice aa an ac] 31) = W1) := hW0
  clear hW0
  go_enter Tryd.func22, Tryd.ntmps22
  go_upto_region 1 with fail
  rw [H0.out]
  clear H0
  obtain ⟨x0, x1, x2, x3, x4, x5, x6, x7, x8, x9, x10, x11, x12, x13, x14, x15, x16⟩ := HX.out
  clear x1 x2 x3 x4 x5 x6 x7 x8 x9 x11 x12 x13 x14 x15 x16
  have hk := HK.out
  subst hk
  by_cases h : 0 ≤ nu
  · go_wp2_with fail
    go_ret
    exact ⟨by rw [HE.out]; simp [h], HB.out⟩
  · go_wp2_with fail
    go_ret
    exact ⟨by rw [HE.out]; simp; omega, HB.out⟩
theorem rn_4 (k : Int) (f q m : ByteArray) (vk vx vb : Int) (vs : ByteArray) (la : Option Addr) (ll lc : Nat) (ru nu wa pf : Int) (pc : Nat) (pm : Int) (ca : Option Addr) (cn cc : Nat) (aa : Option Addr) (an ac : Nat) (w : World) (hk : k = 4) : Calls Tryd.prog 22 #[.agg #[.int .i64 k, .string f, .string q, .string m, .int .i64 vk, .int .i64 vx, .int .u64 vb, .string vs, .slice la ll lc, .int .i64 ru, .int .i64 nu, .int .i64 wa, .int .i64 pf, .int .u64 (pc : Int), .int .i64 pm, .slice ca cn cc, .slice aa an ac]] w fun e w' => e = .returned (.bool (wi nu 0 0)) ∧ Below w.heap.size w w' := by
  have HE : Hid (wi nu 0 0 = (decide (0 ≤ nu) && decide (nu ≤ 0))) := rfl
  generalize wi nu 0 0 = bb at HE ⊢
  have HK : Hid (k = 4) := hk
  clear hk
  have HB : Hid (Below w.heap.size w (w.alloc (.cells #[.int .i64 k, .string f, .string q, .string m, .int .i64 vk, .int .i64 vx, .int .u64 vb, .string vs, .slice la ll lc, .int .i64 ru, .int .i64 nu, .int .i64 wa, .int .i64 pf, .int .u64 (pc : Int), .int .i64 pm, .slice ca cn cc, .slice aa an ac] 31))) := bel1 _ _
  have HX : Hid (AtR (w.alloc (.cells #[.int .i64 k, .string f, .string q, .string m, .int .i64 vk, .int .i64 vx, .int .u64 vb, .string vs, .slice la ll lc, .int .i64 ru, .int .i64 nu, .int .i64 wa, .int .i64 pf, .int .u64 (pc : Int), .int .i64 pm, .slice ca cn cc, .slice aa an ac] 31)) w.heap.size k f q m vk vx vb vs la ll lc ru nu wa pf pc pm ca cn cc aa an ac) := AtR.box w k f q m vk vx vb vs la ll lc ru nu wa pf pc pm ca cn cc aa an ac
  generalize hW0 : w.alloc (.cells #[.int .i64 k, .string f, .string q, .string m, .int .i64 vk, .int .i64 vx, .int .u64 vb, .string vs, .slice la ll lc, .int .i64 ru, .int .i64 nu, .int .i64 wa, .int .i64 pf, .int .u64 (pc : Int), .int .i64 pm, .slice ca cn cc, .slice aa an ac] 31) = W1 at HB HX
  have H0 : Hid (w.alloc (.cells #[.int .i64 k, .string f, .string q, .string m, .int .i64 vk, .int .i64 vx, .int .u64 vb, .string vs, .slice la ll lc, .int .i64 ru, .int .i64 nu, .int .i64 wa, .int .i64 pf, .int .u64 (pc : Int), .int .i64 pm, .slice ca cn cc, .slice aa an ac] 31) = W1) := hW0
  clear hW0
  go_enter Tryd.func22, Tryd.ntmps22
  go_upto_region 1 with fail
  rw [H0.out]
  clear H0
  obtain ⟨x0, x1, x2, x3, x4, x5, x6, x7, x8, x9, x10, x11, x12, x13, x14, x15, x16⟩ := HX.out
  clear x1 x2 x3 x4 x5 x6 x7 x8 x9 x11 x12 x13 x14 x15 x16
  have hk := HK.out
  subst hk
  by_cases h : 0 ≤ nu
  · go_wp2_with fail
    go_ret
    exact ⟨by rw [HE.out]; simp [h], HB.out⟩
  · go_wp2_with fail
    go_ret
    exact ⟨by rw [HE.out]; simp; omega, HB.out⟩
theorem rn_5 (k : Int) (f q m : ByteArray) (vk vx vb : Int) (vs : ByteArray) (la : Option Addr) (ll lc : Nat) (ru nu wa pf : Int) (pc : Nat) (pm : Int) (ca : Option Addr) (cn cc : Nat) (aa : Option Addr) (an ac : Nat) (w : World) (hk : k = 5) : Calls Tryd.prog 22 #[.agg #[.int .i64 k, .string f, .string q, .string m, .int .i64 vk, .int .i64 vx, .int .u64 vb, .string vs, .slice la ll lc, .int .i64 ru, .int .i64 nu, .int .i64 wa, .int .i64 pf, .int .u64 (pc : Int), .int .i64 pm, .slice ca cn cc, .slice aa an ac]] w fun e w' => e = .returned (.bool (wi nu 1 2)) ∧ Below w.heap.size w w' := by
  have HE : Hid (wi nu 1 2 = (decide (1 ≤ nu) && decide (nu ≤ 2))) := rfl
  generalize wi nu 1 2 = bb at HE ⊢
  have HK : Hid (k = 5) := hk
  clear hk
  have HB : Hid (Below w.heap.size w (w.alloc (.cells #[.int .i64 k, .string f, .string q, .string m, .int .i64 vk, .int .i64 vx, .int .u64 vb, .string vs, .slice la ll lc, .int .i64 ru, .int .i64 nu, .int .i64 wa, .int .i64 pf, .int .u64 (pc : Int), .int .i64 pm, .slice ca cn cc, .slice aa an ac] 31))) := bel1 _ _
  have HX : Hid (AtR (w.alloc (.cells #[.int .i64 k, .string f, .string q, .string m, .int .i64 vk, .int .i64 vx, .int .u64 vb, .string vs, .slice la ll lc, .int .i64 ru, .int .i64 nu, .int .i64 wa, .int .i64 pf, .int .u64 (pc : Int), .int .i64 pm, .slice ca cn cc, .slice aa an ac] 31)) w.heap.size k f q m vk vx vb vs la ll lc ru nu wa pf pc pm ca cn cc aa an ac) := AtR.box w k f q m vk vx vb vs la ll lc ru nu wa pf pc pm ca cn cc aa an ac
  generalize hW0 : w.alloc (.cells #[.int .i64 k, .string f, .string q, .string m, .int .i64 vk, .int .i64 vx, .int .u64 vb, .string vs, .slice la ll lc, .int .i64 ru, .int .i64 nu, .int .i64 wa, .int .i64 pf, .int .u64 (pc : Int), .int .i64 pm, .slice ca cn cc, .slice aa an ac] 31) = W1 at HB HX
  have H0 : Hid (w.alloc (.cells #[.int .i64 k, .string f, .string q, .string m, .int .i64 vk, .int .i64 vx, .int .u64 vb, .string vs, .slice la ll lc, .int .i64 ru, .int .i64 nu, .int .i64 wa, .int .i64 pf, .int .u64 (pc : Int), .int .i64 pm, .slice ca cn cc, .slice aa an ac] 31) = W1) := hW0
  clear hW0
  go_enter Tryd.func22, Tryd.ntmps22
  go_upto_region 1 with fail
  rw [H0.out]
  clear H0
  obtain ⟨x0, x1, x2, x3, x4, x5, x6, x7, x8, x9, x10, x11, x12, x13, x14, x15, x16⟩ := HX.out
  clear x1 x2 x3 x4 x5 x6 x7 x8 x9 x11 x12 x13 x14 x15 x16
  have hk := HK.out
  subst hk
  by_cases h : 1 ≤ nu
  · go_wp2_with fail
    go_ret
    exact ⟨by rw [HE.out]; simp [h], HB.out⟩
  · go_wp2_with fail
    go_ret
    exact ⟨by rw [HE.out]; simp; omega, HB.out⟩
theorem rn_6 (k : Int) (f q m : ByteArray) (vk vx vb : Int) (vs : ByteArray) (la : Option Addr) (ll lc : Nat) (ru nu wa pf : Int) (pc : Nat) (pm : Int) (ca : Option Addr) (cn cc : Nat) (aa : Option Addr) (an ac : Nat) (w : World) (hk : k = 6) : Calls Tryd.prog 22 #[.agg #[.int .i64 k, .string f, .string q, .string m, .int .i64 vk, .int .i64 vx, .int .u64 vb, .string vs, .slice la ll lc, .int .i64 ru, .int .i64 nu, .int .i64 wa, .int .i64 pf, .int .u64 (pc : Int), .int .i64 pm, .slice ca cn cc, .slice aa an ac]] w fun e w' => e = .returned (.bool (wi nu 0 0)) ∧ Below w.heap.size w w' := by
  have HE : Hid (wi nu 0 0 = (decide (0 ≤ nu) && decide (nu ≤ 0))) := rfl
  generalize wi nu 0 0 = bb at HE ⊢
  have HK : Hid (k = 6) := hk
  clear hk
  have HB : Hid (Below w.heap.size w (w.alloc (.cells #[.int .i64 k, .string f, .string q, .string m, .int .i64 vk, .int .i64 vx, .int .u64 vb, .string vs, .slice la ll lc, .int .i64 ru, .int .i64 nu, .int .i64 wa, .int .i64 pf, .int .u64 (pc : Int), .int .i64 pm, .slice ca cn cc, .slice aa an ac] 31))) := bel1 _ _
  have HX : Hid (AtR (w.alloc (.cells #[.int .i64 k, .string f, .string q, .string m, .int .i64 vk, .int .i64 vx, .int .u64 vb, .string vs, .slice la ll lc, .int .i64 ru, .int .i64 nu, .int .i64 wa, .int .i64 pf, .int .u64 (pc : Int), .int .i64 pm, .slice ca cn cc, .slice aa an ac] 31)) w.heap.size k f q m vk vx vb vs la ll lc ru nu wa pf pc pm ca cn cc aa an ac) := AtR.box w k f q m vk vx vb vs la ll lc ru nu wa pf pc pm ca cn cc aa an ac
  generalize hW0 : w.alloc (.cells #[.int .i64 k, .string f, .string q, .string m, .int .i64 vk, .int .i64 vx, .int .u64 vb, .string vs, .slice la ll lc, .int .i64 ru, .int .i64 nu, .int .i64 wa, .int .i64 pf, .int .u64 (pc : Int), .int .i64 pm, .slice ca cn cc, .slice aa an ac] 31) = W1 at HB HX
  have H0 : Hid (w.alloc (.cells #[.int .i64 k, .string f, .string q, .string m, .int .i64 vk, .int .i64 vx, .int .u64 vb, .string vs, .slice la ll lc, .int .i64 ru, .int .i64 nu, .int .i64 wa, .int .i64 pf, .int .u64 (pc : Int), .int .i64 pm, .slice ca cn cc, .slice aa an ac] 31) = W1) := hW0
  clear hW0
  go_enter Tryd.func22, Tryd.ntmps22
  go_upto_region 1 with fail
  rw [H0.out]
  clear H0
  obtain ⟨x0, x1, x2, x3, x4, x5, x6, x7, x8, x9, x10, x11, x12, x13, x14, x15, x16⟩ := HX.out
  clear x1 x2 x3 x4 x5 x6 x7 x8 x9 x11 x12 x13 x14 x15 x16
  have hk := HK.out
  subst hk
  by_cases h : 0 ≤ nu
  · go_wp2_with fail
    go_ret
    exact ⟨by rw [HE.out]; simp [h], HB.out⟩
  · go_wp2_with fail
    go_ret
    exact ⟨by rw [HE.out]; simp; omega, HB.out⟩
theorem rn_7 (k : Int) (f q m : ByteArray) (vk vx vb : Int) (vs : ByteArray) (la : Option Addr) (ll lc : Nat) (ru nu wa pf : Int) (pc : Nat) (pm : Int) (ca : Option Addr) (cn cc : Nat) (aa : Option Addr) (an ac : Nat) (w : World) (hk : k = 7) : Calls Tryd.prog 22 #[.agg #[.int .i64 k, .string f, .string q, .string m, .int .i64 vk, .int .i64 vx, .int .u64 vb, .string vs, .slice la ll lc, .int .i64 ru, .int .i64 nu, .int .i64 wa, .int .i64 pf, .int .u64 (pc : Int), .int .i64 pm, .slice ca cn cc, .slice aa an ac]] w fun e w' => e = .returned (.bool (wi nu 0 0)) ∧ Below w.heap.size w w' := by
  have HE : Hid (wi nu 0 0 = (decide (0 ≤ nu) && decide (nu ≤ 0))) := rfl
  generalize wi nu 0 0 = bb at HE ⊢
  have HK : Hid (k = 7) := hk
  clear hk
  have HB : Hid (Below w.heap.size w (w.alloc (.cells #[.int .i64 k, .string f, .string q, .string m, .int .i64 vk, .int .i64 vx, .int .u64 vb, .string vs, .slice la ll lc, .int .i64 ru, .int .i64 nu, .int .i64 wa, .int .i64 pf, .int .u64 (pc : Int), .int .i64 pm, .slice ca cn cc, .slice aa an ac] 31))) := bel1 _ _
  have HX : Hid (AtR (w.alloc (.cells #[.int .i64 k, .string f, .string q, .string m, .int .i64 vk, .int .i64 vx, .int .u64 vb, .string vs, .slice la ll lc, .int .i64 ru, .int .i64 nu, .int .i64 wa, .int .i64 pf, .int .u64 (pc : Int), .int .i64 pm, .slice ca cn cc, .slice aa an ac] 31)) w.heap.size k f q m vk vx vb vs la ll lc ru nu wa pf pc pm ca cn cc aa an ac) := AtR.box w k f q m vk vx vb vs la ll lc ru nu wa pf pc pm ca cn cc aa an ac
  generalize hW0 : w.alloc (.cells #[.int .i64 k, .string f, .string q, .string m, .int .i64 vk, .int .i64 vx, .int .u64 vb, .string vs, .slice la ll lc, .int .i64 ru, .int .i64 nu, .int .i64 wa, .int .i64 pf, .int .u64 (pc : Int), .int .i64 pm, .slice ca cn cc, .slice aa an ac] 31) = W1 at HB HX
  have H0 : Hid (w.alloc (.cells #[.int .i64 k, .string f, .string q, .string m, .int .i64 vk, .int .i64 vx, .int .u64 vb, .string vs, .slice la ll lc, .int .i64 ru, .int .i64 nu, .int .i64 wa, .int .i64 pf, .int .u64 (pc : Int), .int .i64 pm, .slice ca cn cc, .slice aa an ac] 31) = W1) := hW0
  clear hW0
  go_enter Tryd.func22, Tryd.ntmps22
  go_upto_region 1 with fail
  rw [H0.out]
  clear H0
  obtain ⟨x0, x1, x2, x3, x4, x5, x6, x7, x8, x9, x10, x11, x12, x13, x14, x15, x16⟩ := HX.out
  clear x1 x2 x3 x4 x5 x6 x7 x8 x9 x11 x12 x13 x14 x15 x16
  have hk := HK.out
  subst hk
  by_cases h : 0 ≤ nu
  · go_wp2_with fail
    go_ret
    exact ⟨by rw [HE.out]; simp [h], HB.out⟩
  · go_wp2_with fail
    go_ret
    exact ⟨by rw [HE.out]; simp; omega, HB.out⟩
theorem rn_8 (k : Int) (f q m : ByteArray) (vk vx vb : Int) (vs : ByteArray) (la : Option Addr) (ll lc : Nat) (ru nu wa pf : Int) (pc : Nat) (pm : Int) (ca : Option Addr) (cn cc : Nat) (aa : Option Addr) (an ac : Nat) (w : World) (hk : k = 8) : Calls Tryd.prog 22 #[.agg #[.int .i64 k, .string f, .string q, .string m, .int .i64 vk, .int .i64 vx, .int .u64 vb, .string vs, .slice la ll lc, .int .i64 ru, .int .i64 nu, .int .i64 wa, .int .i64 pf, .int .u64 (pc : Int), .int .i64 pm, .slice ca cn cc, .slice aa an ac]] w fun e w' => e = .returned (.bool (wi nu 1 120)) ∧ Below w.heap.size w w' := by
  have HE : Hid (wi nu 1 120 = (decide (1 ≤ nu) && decide (nu ≤ 120))) := rfl
  generalize wi nu 1 120 = bb at HE ⊢
  have HK : Hid (k = 8) := hk
  clear hk
  have HB : Hid (Below w.heap.size w (w.alloc (.cells #[.int .i64 k, .string f, .string q, .string m, .int .i64 vk, .int .i64 vx, .int .u64 vb, .string vs, .slice la ll lc, .int .i64 ru, .int .i64 nu, .int .i64 wa, .int .i64 pf, .int .u64 (pc : Int), .int .i64 pm, .slice ca cn cc, .slice aa an ac] 31))) := bel1 _ _
  have HX : Hid (AtR (w.alloc (.cells #[.int .i64 k, .string f, .string q, .string m, .int .i64 vk, .int .i64 vx, .int .u64 vb, .string vs, .slice la ll lc, .int .i64 ru, .int .i64 nu, .int .i64 wa, .int .i64 pf, .int .u64 (pc : Int), .int .i64 pm, .slice ca cn cc, .slice aa an ac] 31)) w.heap.size k f q m vk vx vb vs la ll lc ru nu wa pf pc pm ca cn cc aa an ac) := AtR.box w k f q m vk vx vb vs la ll lc ru nu wa pf pc pm ca cn cc aa an ac
  generalize hW0 : w.alloc (.cells #[.int .i64 k, .string f, .string q, .string m, .int .i64 vk, .int .i64 vx, .int .u64 vb, .string vs, .slice la ll lc, .int .i64 ru, .int .i64 nu, .int .i64 wa, .int .i64 pf, .int .u64 (pc : Int), .int .i64 pm, .slice ca cn cc, .slice aa an ac] 31) = W1 at HB HX
  have H0 : Hid (w.alloc (.cells #[.int .i64 k, .string f, .string q, .string m, .int .i64 vk, .int .i64 vx, .int .u64 vb, .string vs, .slice la ll lc, .int .i64 ru, .int .i64 nu, .int .i64 wa, .int .i64 pf, .int .u64 (pc : Int), .int .i64 pm, .slice ca cn cc, .slice aa an ac] 31) = W1) := hW0
  clear hW0
  go_enter Tryd.func22, Tryd.ntmps22
  go_upto_region 1 with fail
  rw [H0.out]
  clear H0
  obtain ⟨x0, x1, x2, x3, x4, x5, x6, x7, x8, x9, x10, x11, x12, x13, x14, x15, x16⟩ := HX.out
  clear x1 x2 x3 x4 x5 x6 x7 x8 x9 x11 x12 x13 x14 x15 x16
  have hk := HK.out
  subst hk
  by_cases h : 1 ≤ nu
  · go_wp2_with fail
    go_ret
    exact ⟨by rw [HE.out]; simp [h], HB.out⟩
  · go_wp2_with fail
    go_ret
    exact ⟨by rw [HE.out]; simp; omega, HB.out⟩
theorem rn_9 (k : Int) (f q m : ByteArray) (vk vx vb : Int) (vs : ByteArray) (la : Option Addr) (ll lc : Nat) (ru nu wa pf : Int) (pc : Nat) (pm : Int) (ca : Option Addr) (cn cc : Nat) (aa : Option Addr) (an ac : Nat) (w : World) (hk : k = 9) : Calls Tryd.prog 22 #[.agg #[.int .i64 k, .string f, .string q, .string m, .int .i64 vk, .int .i64 vx, .int .u64 vb, .string vs, .slice la ll lc, .int .i64 ru, .int .i64 nu, .int .i64 wa, .int .i64 pf, .int .u64 (pc : Int), .int .i64 pm, .slice ca cn cc, .slice aa an ac]] w fun e w' => e = .returned (.bool (wi nu 0 0)) ∧ Below w.heap.size w w' := by
  have HE : Hid (wi nu 0 0 = (decide (0 ≤ nu) && decide (nu ≤ 0))) := rfl
  generalize wi nu 0 0 = bb at HE ⊢
  have HK : Hid (k = 9) := hk
  clear hk
  have HB : Hid (Below w.heap.size w (w.alloc (.cells #[.int .i64 k, .string f, .string q, .string m, .int .i64 vk, .int .i64 vx, .int .u64 vb, .string vs, .slice la ll lc, .int .i64 ru, .int .i64 nu, .int .i64 wa, .int .i64 pf, .int .u64 (pc : Int), .int .i64 pm, .slice ca cn cc, .slice aa an ac] 31))) := bel1 _ _
  have HX : Hid (AtR (w.alloc (.cells #[.int .i64 k, .string f, .string q, .string m, .int .i64 vk, .int .i64 vx, .int .u64 vb, .string vs, .slice la ll lc, .int .i64 ru, .int .i64 nu, .int .i64 wa, .int .i64 pf, .int .u64 (pc : Int), .int .i64 pm, .slice ca cn cc, .slice aa an ac] 31)) w.heap.size k f q m vk vx vb vs la ll lc ru nu wa pf pc pm ca cn cc aa an ac) := AtR.box w k f q m vk vx vb vs la ll lc ru nu wa pf pc pm ca cn cc aa an ac
  generalize hW0 : w.alloc (.cells #[.int .i64 k, .string f, .string q, .string m, .int .i64 vk, .int .i64 vx, .int .u64 vb, .string vs, .slice la ll lc, .int .i64 ru, .int .i64 nu, .int .i64 wa, .int .i64 pf, .int .u64 (pc : Int), .int .i64 pm, .slice ca cn cc, .slice aa an ac] 31) = W1 at HB HX
  have H0 : Hid (w.alloc (.cells #[.int .i64 k, .string f, .string q, .string m, .int .i64 vk, .int .i64 vx, .int .u64 vb, .string vs, .slice la ll lc, .int .i64 ru, .int .i64 nu, .int .i64 wa, .int .i64 pf, .int .u64 (pc : Int), .int .i64 pm, .slice ca cn cc, .slice aa an ac] 31) = W1) := hW0
  clear hW0
  go_enter Tryd.func22, Tryd.ntmps22
  go_upto_region 1 with fail
  rw [H0.out]
  clear H0
  obtain ⟨x0, x1, x2, x3, x4, x5, x6, x7, x8, x9, x10, x11, x12, x13, x14, x15, x16⟩ := HX.out
  clear x1 x2 x3 x4 x5 x6 x7 x8 x9 x11 x12 x13 x14 x15 x16
  have hk := HK.out
  subst hk
  by_cases h : 0 ≤ nu
  · go_wp2_with fail
    go_ret
    exact ⟨by rw [HE.out]; simp [h], HB.out⟩
  · go_wp2_with fail
    go_ret
    exact ⟨by rw [HE.out]; simp; omega, HB.out⟩
theorem rn_10 (k : Int) (f q m : ByteArray) (vk vx vb : Int) (vs : ByteArray) (la : Option Addr) (ll lc : Nat) (ru nu wa pf : Int) (pc : Nat) (pm : Int) (ca : Option Addr) (cn cc : Nat) (aa : Option Addr) (an ac : Nat) (w : World) (hk : k = 10) : Calls Tryd.prog 22 #[.agg #[.int .i64 k, .string f, .string q, .string m, .int .i64 vk, .int .i64 vx, .int .u64 vb, .string vs, .slice la ll lc, .int .i64 ru, .int .i64 nu, .int .i64 wa, .int .i64 pf, .int .u64 (pc : Int), .int .i64 pm, .slice ca cn cc, .slice aa an ac]] w fun e w' => e = .returned (.bool (wi nu 1 1073741824)) ∧ Below w.heap.size w w' := by
  have HE : Hid (wi nu 1 1073741824 = (decide (1 ≤ nu) && decide (nu ≤ 1073741824))) := rfl
  generalize wi nu 1 1073741824 = bb at HE ⊢
  have HK : Hid (k = 10) := hk
  clear hk
  have HB : Hid (Below w.heap.size w (w.alloc (.cells #[.int .i64 k, .string f, .string q, .string m, .int .i64 vk, .int .i64 vx, .int .u64 vb, .string vs, .slice la ll lc, .int .i64 ru, .int .i64 nu, .int .i64 wa, .int .i64 pf, .int .u64 (pc : Int), .int .i64 pm, .slice ca cn cc, .slice aa an ac] 31))) := bel1 _ _
  have HX : Hid (AtR (w.alloc (.cells #[.int .i64 k, .string f, .string q, .string m, .int .i64 vk, .int .i64 vx, .int .u64 vb, .string vs, .slice la ll lc, .int .i64 ru, .int .i64 nu, .int .i64 wa, .int .i64 pf, .int .u64 (pc : Int), .int .i64 pm, .slice ca cn cc, .slice aa an ac] 31)) w.heap.size k f q m vk vx vb vs la ll lc ru nu wa pf pc pm ca cn cc aa an ac) := AtR.box w k f q m vk vx vb vs la ll lc ru nu wa pf pc pm ca cn cc aa an ac
  generalize hW0 : w.alloc (.cells #[.int .i64 k, .string f, .string q, .string m, .int .i64 vk, .int .i64 vx, .int .u64 vb, .string vs, .slice la ll lc, .int .i64 ru, .int .i64 nu, .int .i64 wa, .int .i64 pf, .int .u64 (pc : Int), .int .i64 pm, .slice ca cn cc, .slice aa an ac] 31) = W1 at HB HX
  have H0 : Hid (w.alloc (.cells #[.int .i64 k, .string f, .string q, .string m, .int .i64 vk, .int .i64 vx, .int .u64 vb, .string vs, .slice la ll lc, .int .i64 ru, .int .i64 nu, .int .i64 wa, .int .i64 pf, .int .u64 (pc : Int), .int .i64 pm, .slice ca cn cc, .slice aa an ac] 31) = W1) := hW0
  clear hW0
  go_enter Tryd.func22, Tryd.ntmps22
  go_upto_region 1 with fail
  rw [H0.out]
  clear H0
  obtain ⟨x0, x1, x2, x3, x4, x5, x6, x7, x8, x9, x10, x11, x12, x13, x14, x15, x16⟩ := HX.out
  clear x1 x2 x3 x4 x5 x6 x7 x8 x9 x11 x12 x13 x14 x15 x16
  have hk := HK.out
  subst hk
  by_cases h : 1 ≤ nu
  · go_wp2_with fail
    go_ret
    exact ⟨by rw [HE.out]; simp [h], HB.out⟩
  · go_wp2_with fail
    go_ret
    exact ⟨by rw [HE.out]; simp; omega, HB.out⟩
theorem rn_11 (k : Int) (f q m : ByteArray) (vk vx vb : Int) (vs : ByteArray) (la : Option Addr) (ll lc : Nat) (ru nu wa pf : Int) (pc : Nat) (pm : Int) (ca : Option Addr) (cn cc : Nat) (aa : Option Addr) (an ac : Nat) (w : World) (hk : k = 11) : Calls Tryd.prog 22 #[.agg #[.int .i64 k, .string f, .string q, .string m, .int .i64 vk, .int .i64 vx, .int .u64 vb, .string vs, .slice la ll lc, .int .i64 ru, .int .i64 nu, .int .i64 wa, .int .i64 pf, .int .u64 (pc : Int), .int .i64 pm, .slice ca cn cc, .slice aa an ac]] w fun e w' => e = .returned (.bool (wi nu 0 120)) ∧ Below w.heap.size w w' := by
  have HE : Hid (wi nu 0 120 = (decide (0 ≤ nu) && decide (nu ≤ 120))) := rfl
  generalize wi nu 0 120 = bb at HE ⊢
  have HK : Hid (k = 11) := hk
  clear hk
  have HB : Hid (Below w.heap.size w (w.alloc (.cells #[.int .i64 k, .string f, .string q, .string m, .int .i64 vk, .int .i64 vx, .int .u64 vb, .string vs, .slice la ll lc, .int .i64 ru, .int .i64 nu, .int .i64 wa, .int .i64 pf, .int .u64 (pc : Int), .int .i64 pm, .slice ca cn cc, .slice aa an ac] 31))) := bel1 _ _
  have HX : Hid (AtR (w.alloc (.cells #[.int .i64 k, .string f, .string q, .string m, .int .i64 vk, .int .i64 vx, .int .u64 vb, .string vs, .slice la ll lc, .int .i64 ru, .int .i64 nu, .int .i64 wa, .int .i64 pf, .int .u64 (pc : Int), .int .i64 pm, .slice ca cn cc, .slice aa an ac] 31)) w.heap.size k f q m vk vx vb vs la ll lc ru nu wa pf pc pm ca cn cc aa an ac) := AtR.box w k f q m vk vx vb vs la ll lc ru nu wa pf pc pm ca cn cc aa an ac
  generalize hW0 : w.alloc (.cells #[.int .i64 k, .string f, .string q, .string m, .int .i64 vk, .int .i64 vx, .int .u64 vb, .string vs, .slice la ll lc, .int .i64 ru, .int .i64 nu, .int .i64 wa, .int .i64 pf, .int .u64 (pc : Int), .int .i64 pm, .slice ca cn cc, .slice aa an ac] 31) = W1 at HB HX
  have H0 : Hid (w.alloc (.cells #[.int .i64 k, .string f, .string q, .string m, .int .i64 vk, .int .i64 vx, .int .u64 vb, .string vs, .slice la ll lc, .int .i64 ru, .int .i64 nu, .int .i64 wa, .int .i64 pf, .int .u64 (pc : Int), .int .i64 pm, .slice ca cn cc, .slice aa an ac] 31) = W1) := hW0
  clear hW0
  go_enter Tryd.func22, Tryd.ntmps22
  go_upto_region 1 with fail
  rw [H0.out]
  clear H0
  obtain ⟨x0, x1, x2, x3, x4, x5, x6, x7, x8, x9, x10, x11, x12, x13, x14, x15, x16⟩ := HX.out
  clear x1 x2 x3 x4 x5 x6 x7 x8 x9 x11 x12 x13 x14 x15 x16
  have hk := HK.out
  subst hk
  by_cases h : 0 ≤ nu
  · go_wp2_with fail
    go_ret
    exact ⟨by rw [HE.out]; simp [h], HB.out⟩
  · go_wp2_with fail
    go_ret
    exact ⟨by rw [HE.out]; simp; omega, HB.out⟩
theorem rn_12 (k : Int) (f q m : ByteArray) (vk vx vb : Int) (vs : ByteArray) (la : Option Addr) (ll lc : Nat) (ru nu wa pf : Int) (pc : Nat) (pm : Int) (ca : Option Addr) (cn cc : Nat) (aa : Option Addr) (an ac : Nat) (w : World) (hk : k = 12) : Calls Tryd.prog 22 #[.agg #[.int .i64 k, .string f, .string q, .string m, .int .i64 vk, .int .i64 vx, .int .u64 vb, .string vs, .slice la ll lc, .int .i64 ru, .int .i64 nu, .int .i64 wa, .int .i64 pf, .int .u64 (pc : Int), .int .i64 pm, .slice ca cn cc, .slice aa an ac]] w fun e w' => e = .returned (.bool (wi nu 1 120)) ∧ Below w.heap.size w w' := by
  have HE : Hid (wi nu 1 120 = (decide (1 ≤ nu) && decide (nu ≤ 120))) := rfl
  generalize wi nu 1 120 = bb at HE ⊢
  have HK : Hid (k = 12) := hk
  clear hk
  have HB : Hid (Below w.heap.size w (w.alloc (.cells #[.int .i64 k, .string f, .string q, .string m, .int .i64 vk, .int .i64 vx, .int .u64 vb, .string vs, .slice la ll lc, .int .i64 ru, .int .i64 nu, .int .i64 wa, .int .i64 pf, .int .u64 (pc : Int), .int .i64 pm, .slice ca cn cc, .slice aa an ac] 31))) := bel1 _ _
  have HX : Hid (AtR (w.alloc (.cells #[.int .i64 k, .string f, .string q, .string m, .int .i64 vk, .int .i64 vx, .int .u64 vb, .string vs, .slice la ll lc, .int .i64 ru, .int .i64 nu, .int .i64 wa, .int .i64 pf, .int .u64 (pc : Int), .int .i64 pm, .slice ca cn cc, .slice aa an ac] 31)) w.heap.size k f q m vk vx vb vs la ll lc ru nu wa pf pc pm ca cn cc aa an ac) := AtR.box w k f q m vk vx vb vs la ll lc ru nu wa pf pc pm ca cn cc aa an ac
  generalize hW0 : w.alloc (.cells #[.int .i64 k, .string f, .string q, .string m, .int .i64 vk, .int .i64 vx, .int .u64 vb, .string vs, .slice la ll lc, .int .i64 ru, .int .i64 nu, .int .i64 wa, .int .i64 pf, .int .u64 (pc : Int), .int .i64 pm, .slice ca cn cc, .slice aa an ac] 31) = W1 at HB HX
  have H0 : Hid (w.alloc (.cells #[.int .i64 k, .string f, .string q, .string m, .int .i64 vk, .int .i64 vx, .int .u64 vb, .string vs, .slice la ll lc, .int .i64 ru, .int .i64 nu, .int .i64 wa, .int .i64 pf, .int .u64 (pc : Int), .int .i64 pm, .slice ca cn cc, .slice aa an ac] 31) = W1) := hW0
  clear hW0
  go_enter Tryd.func22, Tryd.ntmps22
  go_upto_region 1 with fail
  rw [H0.out]
  clear H0
  obtain ⟨x0, x1, x2, x3, x4, x5, x6, x7, x8, x9, x10, x11, x12, x13, x14, x15, x16⟩ := HX.out
  clear x1 x2 x3 x4 x5 x6 x7 x8 x9 x11 x12 x13 x14 x15 x16
  have hk := HK.out
  subst hk
  by_cases h : 1 ≤ nu
  · go_wp2_with fail
    go_ret
    exact ⟨by rw [HE.out]; simp [h], HB.out⟩
  · go_wp2_with fail
    go_ret
    exact ⟨by rw [HE.out]; simp; omega, HB.out⟩
theorem rn_13 (k : Int) (f q m : ByteArray) (vk vx vb : Int) (vs : ByteArray) (la : Option Addr) (ll lc : Nat) (ru nu wa pf : Int) (pc : Nat) (pm : Int) (ca : Option Addr) (cn cc : Nat) (aa : Option Addr) (an ac : Nat) (w : World) (hk : k = 13) : Calls Tryd.prog 22 #[.agg #[.int .i64 k, .string f, .string q, .string m, .int .i64 vk, .int .i64 vx, .int .u64 vb, .string vs, .slice la ll lc, .int .i64 ru, .int .i64 nu, .int .i64 wa, .int .i64 pf, .int .u64 (pc : Int), .int .i64 pm, .slice ca cn cc, .slice aa an ac]] w fun e w' => e = .returned (.bool (wi nu 0 0)) ∧ Below w.heap.size w w' := by
  have HE : Hid (wi nu 0 0 = (decide (0 ≤ nu) && decide (nu ≤ 0))) := rfl
  generalize wi nu 0 0 = bb at HE ⊢
  have HK : Hid (k = 13) := hk
  clear hk
  have HB : Hid (Below w.heap.size w (w.alloc (.cells #[.int .i64 k, .string f, .string q, .string m, .int .i64 vk, .int .i64 vx, .int .u64 vb, .string vs, .slice la ll lc, .int .i64 ru, .int .i64 nu, .int .i64 wa, .int .i64 pf, .int .u64 (pc : Int), .int .i64 pm, .slice ca cn cc, .slice aa an ac] 31))) := bel1 _ _
  have HX : Hid (AtR (w.alloc (.cells #[.int .i64 k, .string f, .string q, .string m, .int .i64 vk, .int .i64 vx, .int .u64 vb, .string vs, .slice la ll lc, .int .i64 ru, .int .i64 nu, .int .i64 wa, .int .i64 pf, .int .u64 (pc : Int), .int .i64 pm, .slice ca cn cc, .slice aa an ac] 31)) w.heap.size k f q m vk vx vb vs la ll lc ru nu wa pf pc pm ca cn cc aa an ac) := AtR.box w k f q m vk vx vb vs la ll lc ru nu wa pf pc pm ca cn cc aa an ac
  generalize hW0 : w.alloc (.cells #[.int .i64 k, .string f, .string q, .string m, .int .i64 vk, .int .i64 vx, .int .u64 vb, .string vs, .slice la ll lc, .int .i64 ru, .int .i64 nu, .int .i64 wa, .int .i64 pf, .int .u64 (pc : Int), .int .i64 pm, .slice ca cn cc, .slice aa an ac] 31) = W1 at HB HX
  have H0 : Hid (w.alloc (.cells #[.int .i64 k, .string f, .string q, .string m, .int .i64 vk, .int .i64 vx, .int .u64 vb, .string vs, .slice la ll lc, .int .i64 ru, .int .i64 nu, .int .i64 wa, .int .i64 pf, .int .u64 (pc : Int), .int .i64 pm, .slice ca cn cc, .slice aa an ac] 31) = W1) := hW0
  clear hW0
  go_enter Tryd.func22, Tryd.ntmps22
  go_upto_region 1 with fail
  rw [H0.out]
  clear H0
  obtain ⟨x0, x1, x2, x3, x4, x5, x6, x7, x8, x9, x10, x11, x12, x13, x14, x15, x16⟩ := HX.out
  clear x1 x2 x3 x4 x5 x6 x7 x8 x9 x11 x12 x13 x14 x15 x16
  have hk := HK.out
  subst hk
  by_cases h : 0 ≤ nu
  · go_wp2_with fail
    go_ret
    exact ⟨by rw [HE.out]; simp [h], HB.out⟩
  · go_wp2_with fail
    go_ret
    exact ⟨by rw [HE.out]; simp; omega, HB.out⟩
theorem rnum_calls (k : Int) (f q m : ByteArray) (vk vx vb : Int) (vs : ByteArray) (la : Option Addr) (ll lc : Nat) (ru nu wa pf : Int) (pc : Nat) (pm : Int) (ca : Option Addr) (cn cc : Nat) (aa : Option Addr) (an ac : Nat) (w : World) (hk : 1 ≤ k ∧ k ≤ 13) : Calls Tryd.prog 22 #[.agg #[.int .i64 k, .string f, .string q, .string m, .int .i64 vk, .int .i64 vx, .int .u64 vb, .string vs, .slice la ll lc, .int .i64 ru, .int .i64 nu, .int .i64 wa, .int .i64 pf, .int .u64 (pc : Int), .int .i64 pm, .slice ca cn cc, .slice aa an ac]] w fun e w' => e = .returned (.bool (wi nu (nb2.getD k.toNat (0, 0)).1 (nb2.getD k.toNat (0, 0)).2)) ∧ Below w.heap.size w w' := by
  have : k = 1 ∨ k = 2 ∨ k = 3 ∨ k = 4 ∨ k = 5 ∨ k = 6 ∨ k = 7 ∨ k = 8 ∨ k = 9 ∨ k = 10 ∨ k = 11 ∨ k = 12 ∨ k = 13 := by omega
  rcases this with h | h | h | h | h | h | h | h | h | h | h | h | h
  · have e := rn_1 k f q m vk vx vb vs la ll lc ru nu wa pf pc pm ca cn cc aa an ac w h
    rw [h] at e ⊢
    exact e
  · have e := rn_2 k f q m vk vx vb vs la ll lc ru nu wa pf pc pm ca cn cc aa an ac w h
    rw [h] at e ⊢
    exact e
  · have e := rn_3 k f q m vk vx vb vs la ll lc ru nu wa pf pc pm ca cn cc aa an ac w h
    rw [h] at e ⊢
    exact e
  · have e := rn_4 k f q m vk vx vb vs la ll lc ru nu wa pf pc pm ca cn cc aa an ac w h
    rw [h] at e ⊢
    exact e
  · have e := rn_5 k f q m vk vx vb vs la ll lc ru nu wa pf pc pm ca cn cc aa an ac w h
    rw [h] at e ⊢
    exact e
  · have e := rn_6 k f q m vk vx vb vs la ll lc ru nu wa pf pc pm ca cn cc aa an ac w h
    rw [h] at e ⊢
    exact e
  · have e := rn_7 k f q m vk vx vb vs la ll lc ru nu wa pf pc pm ca cn cc aa an ac w h
    rw [h] at e ⊢
    exact e
  · have e := rn_8 k f q m vk vx vb vs la ll lc ru nu wa pf pc pm ca cn cc aa an ac w h
    rw [h] at e ⊢
    exact e
  · have e := rn_9 k f q m vk vx vb vs la ll lc ru nu wa pf pc pm ca cn cc aa an ac w h
    rw [h] at e ⊢
    exact e
  · have e := rn_10 k f q m vk vx vb vs la ll lc ru nu wa pf pc pm ca cn cc aa an ac w h
    rw [h] at e ⊢
    exact e
  · have e := rn_11 k f q m vk vx vb vs la ll lc ru nu wa pf pc pm ca cn cc aa an ac w h
    rw [h] at e ⊢
    exact e
  · have e := rn_12 k f q m vk vx vb vs la ll lc ru nu wa pf pc pm ca cn cc aa an ac w h
    rw [h] at e ⊢
    exact e
  · have e := rn_13 k f q m vk vx vb vs la ll lc ru nu wa pf pc pm ca cn cc aa an ac w h
    rw [h] at e ⊢
    exact e
set_option maxHeartbeats 1000000 in
theorem nd_f (n : Nat) (tv : Tv) (k : Int) (f q m : ByteArray) (vk vx vb : Int) (vs : ByteArray) (la : Option Addr) (ll lc : Nat) (ru nu wa pf : Int) (pc : Nat) (pm : Int) (ca : Option Addr) (cn cc : Nat) (aa : Option Addr) (an ac : Nat) (w : World) (_hv : Is w (n + 1) (.agg #[.int .i64 vk, .int .i64 vx, .int .u64 vb, .string vs, .slice la ll lc]) tv) (hf : nmB f = false) : Calls Tryd.prog 21 #[.agg #[.int .i64 k, .string f, .string q, .string m, .int .i64 vk, .int .i64 vx, .int .u64 vb, .string vs, .slice la ll lc, .int .i64 ru, .int .i64 nu, .int .i64 wa, .int .i64 pf, .int .u64 (pc : Int), .int .i64 pm, .slice ca cn cc, .slice aa an ac]] w fun e w' => e = .returned (.bool false) ∧ Below w.heap.size w w' := by
  have NF : Hid (∀ W, Calls Tryd.prog 36 #[.string f] W fun e w' => e = .returned (.bool false) ∧ w' = W) := fun W => hf ▸ rname_calls f W
  clear hf
  clear _hv
  have HB : Hid (Below w.heap.size w (w.alloc (.cells #[.int .i64 k, .string f, .string q, .string m, .int .i64 vk, .int .i64 vx, .int .u64 vb, .string vs, .slice la ll lc, .int .i64 ru, .int .i64 nu, .int .i64 wa, .int .i64 pf, .int .u64 (pc : Int), .int .i64 pm, .slice ca cn cc, .slice aa an ac] 31))) := bel1 _ _
  have HX : Hid (AtR (w.alloc (.cells #[.int .i64 k, .string f, .string q, .string m, .int .i64 vk, .int .i64 vx, .int .u64 vb, .string vs, .slice la ll lc, .int .i64 ru, .int .i64 nu, .int .i64 wa, .int .i64 pf, .int .u64 (pc : Int), .int .i64 pm, .slice ca cn cc, .slice aa an ac] 31)) w.heap.size k f q m vk vx vb vs la ll lc ru nu wa pf pc pm ca cn cc aa an ac) := AtR.box w k f q m vk vx vb vs la ll lc ru nu wa pf pc pm ca cn cc aa an ac
  generalize hW0 : w.alloc (.cells #[.int .i64 k, .string f, .string q, .string m, .int .i64 vk, .int .i64 vx, .int .u64 vb, .string vs, .slice la ll lc, .int .i64 ru, .int .i64 nu, .int .i64 wa, .int .i64 pf, .int .u64 (pc : Int), .int .i64 pm, .slice ca cn cc, .slice aa an ac] 31) = W1 at HB HX
  have H0 : Hid (w.alloc (.cells #[.int .i64 k, .string f, .string q, .string m, .int .i64 vk, .int .i64 vx, .int .u64 vb, .string vs, .slice la ll lc, .int .i64 ru, .int .i64 nu, .int .i64 wa, .int .i64 pf, .int .u64 (pc : Int), .int .i64 pm, .slice ca cn cc, .slice aa an ac] 31) = W1) := hW0
  clear hW0
  go_enter Tryd.func21, Tryd.ntmps21
  go_upto_region 1 with fail
  rw [H0.out]
  clear H0
  obtain ⟨x0, x1, x2, x3, x4, x5, x6, x7, x8, x9, x10, x11, x12, x13, x14, x15, x16⟩ := HX.out
  clear x9 x10 x11 x12 x13 x14 x15 x16
  go_upto_region 2 with fail
  clear x0
  go_wp2_with fail
  refine Calls.mono (NF.out _) ?_
  rintro e wn ⟨rfl, e1⟩
  have e2 := e1.symm
  subst e2
  clear e1
  go_wp2_with fail
  go_ret
  exact ⟨rfl, HB.out⟩
set_option maxHeartbeats 1000000 in
theorem nd_q (n : Nat) (tv : Tv) (k : Int) (f q m : ByteArray) (vk vx vb : Int) (vs : ByteArray) (la : Option Addr) (ll lc : Nat) (ru nu wa pf : Int) (pc : Nat) (pm : Int) (ca : Option Addr) (cn cc : Nat) (aa : Option Addr) (an ac : Nat) (w : World) (_hv : Is w (n + 1) (.agg #[.int .i64 vk, .int .i64 vx, .int .u64 vb, .string vs, .slice la ll lc]) tv) (hf : nmB f = true) (h1 : hs k 1 = true) (hq : nmB q = false) : Calls Tryd.prog 21 #[.agg #[.int .i64 k, .string f, .string q, .string m, .int .i64 vk, .int .i64 vx, .int .u64 vb, .string vs, .slice la ll lc, .int .i64 ru, .int .i64 nu, .int .i64 wa, .int .i64 pf, .int .u64 (pc : Int), .int .i64 pm, .slice ca cn cc, .slice aa an ac]] w fun e w' => e = .returned (.bool false) ∧ Below w.heap.size w w' := by
  have NF : Hid (∀ W, Calls Tryd.prog 36 #[.string f] W fun e w' => e = .returned (.bool true) ∧ w' = W) := fun W => hf ▸ rname_calls f W
  clear hf
  have H1 : Hid (∀ W, Calls Tryd.prog 23 #[.int .i64 k, .int .i64 2] W fun e w' => e = .returned (.bool true) ∧ Below W.heap.size W w') := fun W => h1 ▸ has_1 k W
  clear h1
  have NQ : Hid (∀ W, Calls Tryd.prog 36 #[.string q] W fun e w' => e = .returned (.bool false) ∧ w' = W) := fun W => hq ▸ rname_calls q W
  clear hq
  clear _hv
  have HB : Hid (Below w.heap.size w (w.alloc (.cells #[.int .i64 k, .string f, .string q, .string m, .int .i64 vk, .int .i64 vx, .int .u64 vb, .string vs, .slice la ll lc, .int .i64 ru, .int .i64 nu, .int .i64 wa, .int .i64 pf, .int .u64 (pc : Int), .int .i64 pm, .slice ca cn cc, .slice aa an ac] 31))) := bel1 _ _
  have HX : Hid (AtR (w.alloc (.cells #[.int .i64 k, .string f, .string q, .string m, .int .i64 vk, .int .i64 vx, .int .u64 vb, .string vs, .slice la ll lc, .int .i64 ru, .int .i64 nu, .int .i64 wa, .int .i64 pf, .int .u64 (pc : Int), .int .i64 pm, .slice ca cn cc, .slice aa an ac] 31)) w.heap.size k f q m vk vx vb vs la ll lc ru nu wa pf pc pm ca cn cc aa an ac) := AtR.box w k f q m vk vx vb vs la ll lc ru nu wa pf pc pm ca cn cc aa an ac
  generalize hW0 : w.alloc (.cells #[.int .i64 k, .string f, .string q, .string m, .int .i64 vk, .int .i64 vx, .int .u64 vb, .string vs, .slice la ll lc, .int .i64 ru, .int .i64 nu, .int .i64 wa, .int .i64 pf, .int .u64 (pc : Int), .int .i64 pm, .slice ca cn cc, .slice aa an ac] 31) = W1 at HB HX
  have H0 : Hid (w.alloc (.cells #[.int .i64 k, .string f, .string q, .string m, .int .i64 vk, .int .i64 vx, .int .u64 vb, .string vs, .slice la ll lc, .int .i64 ru, .int .i64 nu, .int .i64 wa, .int .i64 pf, .int .u64 (pc : Int), .int .i64 pm, .slice ca cn cc, .slice aa an ac] 31) = W1) := hW0
  clear hW0
  go_enter Tryd.func21, Tryd.ntmps21
  go_upto_region 1 with fail
  rw [H0.out]
  clear H0
  obtain ⟨x0, x1, x2, x3, x4, x5, x6, x7, x8, x9, x10, x11, x12, x13, x14, x15, x16⟩ := HX.out
  clear x9 x10 x11 x12 x13 x14 x15 x16
  go_upto_region 2 with fail
  clear x0
  go_wp2_with fail
  refine Calls.mono (NF.out _) ?_
  rintro e wn ⟨rfl, e1⟩
  have e2 := e1.symm
  subst e2
  clear e1
  go_wp2_with fail
  refine Calls.mono (H1.out _) ?_
  rintro e y1 ⟨rfl, hb⟩
  replace HX : Hid (AtR y1 w.heap.size k f q m vk vx vb vs la ll lc ru nu wa pf pc pm ca cn cc aa an ac) := HX.out.below hb
  replace HB : Hid (Below w.heap.size w y1) := bel2 HB.out hb
  clear hb
  clear x1 x2 x3 x4 x5 x6 x7 x8
  obtain ⟨x0, x1, x2, x3, x4, x5, x6, x7, x8, x9, x10, x11, x12, x13, x14, x15, x16⟩ := HX.out
  clear x0 x9 x10 x11 x12 x13 x14 x15 x16
  go_wp2_with fail
  refine Calls.mono (NQ.out _) ?_
  rintro e wn ⟨rfl, e1⟩
  have e2 := e1.symm
  subst e2
  clear e1
  go_wp2_with fail
  go_ret
  exact ⟨rfl, HB.out⟩
set_option maxHeartbeats 1000000 in
theorem nd_v0 (n : Nat) (tv : Tv) (k : Int) (f q m : ByteArray) (vk vx vb : Int) (vs : ByteArray) (la : Option Addr) (ll lc : Nat) (ru nu wa pf : Int) (pc : Nat) (pm : Int) (ca : Option Addr) (cn cc : Nat) (aa : Option Addr) (an ac : Nat) (w : World) (hv : Is w (n + 1) (.agg #[.int .i64 vk, .int .i64 vx, .int .u64 vb, .string vs, .slice la ll lc]) tv) (hf : nmB f = true) (h1 : hs k 1 = false) (hm : ¬ May (n + 1) tv) : Calls Tryd.prog 21 #[.agg #[.int .i64 k, .string f, .string q, .string m, .int .i64 vk, .int .i64 vx, .int .u64 vb, .string vs, .slice la ll lc, .int .i64 ru, .int .i64 nu, .int .i64 wa, .int .i64 pf, .int .u64 (pc : Int), .int .i64 pm, .slice ca cn cc, .slice aa an ac]] w fun e w' => e = .returned (.bool false) ∧ Below w.heap.size w w' := by
  have NF : Hid (∀ W, Calls Tryd.prog 36 #[.string f] W fun e w' => e = .returned (.bool true) ∧ w' = W) := fun W => hf ▸ rname_calls f W
  clear hf
  have H1 : Hid (∀ W, Calls Tryd.prog 23 #[.int .i64 k, .int .i64 2] W fun e w' => e = .returned (.bool false) ∧ Below W.heap.size W w') := fun W => h1 ▸ has_1 k W
  clear h1
  have VC : Hid (∀ W, Below w.heap.size w W → _) := fun W hB => rcheck_calls (n + 1) (.agg #[.int .i64 vk, .int .i64 vx, .int .u64 vb, .string vs, .slice la ll lc]) tv W (hv.below hB)
  clear hv
  have HB : Hid (Below w.heap.size w (w.alloc (.cells #[.int .i64 k, .string f, .string q, .string m, .int .i64 vk, .int .i64 vx, .int .u64 vb, .string vs, .slice la ll lc, .int .i64 ru, .int .i64 nu, .int .i64 wa, .int .i64 pf, .int .u64 (pc : Int), .int .i64 pm, .slice ca cn cc, .slice aa an ac] 31))) := bel1 _ _
  have HX : Hid (AtR (w.alloc (.cells #[.int .i64 k, .string f, .string q, .string m, .int .i64 vk, .int .i64 vx, .int .u64 vb, .string vs, .slice la ll lc, .int .i64 ru, .int .i64 nu, .int .i64 wa, .int .i64 pf, .int .u64 (pc : Int), .int .i64 pm, .slice ca cn cc, .slice aa an ac] 31)) w.heap.size k f q m vk vx vb vs la ll lc ru nu wa pf pc pm ca cn cc aa an ac) := AtR.box w k f q m vk vx vb vs la ll lc ru nu wa pf pc pm ca cn cc aa an ac
  generalize hW0 : w.alloc (.cells #[.int .i64 k, .string f, .string q, .string m, .int .i64 vk, .int .i64 vx, .int .u64 vb, .string vs, .slice la ll lc, .int .i64 ru, .int .i64 nu, .int .i64 wa, .int .i64 pf, .int .u64 (pc : Int), .int .i64 pm, .slice ca cn cc, .slice aa an ac] 31) = W1 at HB HX
  have H0 : Hid (w.alloc (.cells #[.int .i64 k, .string f, .string q, .string m, .int .i64 vk, .int .i64 vx, .int .u64 vb, .string vs, .slice la ll lc, .int .i64 ru, .int .i64 nu, .int .i64 wa, .int .i64 pf, .int .u64 (pc : Int), .int .i64 pm, .slice ca cn cc, .slice aa an ac] 31) = W1) := hW0
  clear hW0
  go_enter Tryd.func21, Tryd.ntmps21
  go_upto_region 1 with fail
  rw [H0.out]
  clear H0
  obtain ⟨x0, x1, x2, x3, x4, x5, x6, x7, x8, x9, x10, x11, x12, x13, x14, x15, x16⟩ := HX.out
  clear x9 x10 x11 x12 x13 x14 x15 x16
  go_upto_region 2 with fail
  clear x0
  go_wp2_with fail
  refine Calls.mono (NF.out _) ?_
  rintro e wn ⟨rfl, e1⟩
  have e2 := e1.symm
  subst e2
  clear e1
  go_wp2_with fail
  refine Calls.mono (H1.out _) ?_
  rintro e y1 ⟨rfl, hb⟩
  replace HX : Hid (AtR y1 w.heap.size k f q m vk vx vb vs la ll lc ru nu wa pf pc pm ca cn cc aa an ac) := HX.out.below hb
  replace HB : Hid (Below w.heap.size w y1) := bel2 HB.out hb
  clear hb
  clear x1 x2 x3 x4 x5 x6 x7 x8
  obtain ⟨x0, x1, x2, x3, x4, x5, x6, x7, x8, x9, x10, x11, x12, x13, x14, x15, x16⟩ := HX.out
  clear x0 x9 x10 x11 x12 x13 x14 x15 x16
  go_wp2_with fail
  refine Calls.mono (VC.out _ HB.out) ?_
  rintro e y2 ⟨⟨r, rfl, r1, r2⟩, hb⟩
  replace HX : Hid (AtR y2 w.heap.size k f q m vk vx vb vs la ll lc ru nu wa pf pc pm ca cn cc aa an ac) := HX.out.below hb
  replace HB : Hid (Below w.heap.size w y2) := bel2 HB.out hb
  clear hb
  clear x1 x2 x3 x4 x5 x6 x7 x8
  obtain ⟨x0, x1, x2, x3, x4, x5, x6, x7, x8, x9, x10, x11, x12, x13, x14, x15, x16⟩ := HX.out
  clear x0 x9 x10 x11 x12 x13 x14 x15 x16
  obtain rfl := r2 hm
  clear r1 r2 hm
  go_wp2_with fail
  go_ret
  exact ⟨rfl, HB.out⟩
set_option maxHeartbeats 1000000 in
theorem nd_70 (n : Nat) (tv : Tv) (k : Int) (f q m : ByteArray) (vk vx vb : Int) (vs : ByteArray) (la : Option Addr) (ll lc : Nat) (ru nu wa pf : Int) (pc : Nat) (pm : Int) (ca : Option Addr) (cn cc : Nat) (aa : Option Addr) (an ac : Nat) (w : World) (hv : Is w (n + 1) (.agg #[.int .i64 vk, .int .i64 vx, .int .u64 vb, .string vs, .slice la ll lc]) tv) (hf : nmB f = true) (h1 : hs k 1 = false) (hm : May (n + 1) tv) (k7 : k = 7) : Calls Tryd.prog 21 #[.agg #[.int .i64 k, .string f, .string q, .string m, .int .i64 vk, .int .i64 vx, .int .u64 vb, .string vs, .slice la ll lc, .int .i64 ru, .int .i64 nu, .int .i64 wa, .int .i64 pf, .int .u64 (pc : Int), .int .i64 pm, .slice ca cn cc, .slice aa an ac]] w fun e w' => e = .returned (.bool (decide (m.size ≤ 200))) ∧ Below w.heap.size w w' := by
  have NF : Hid (∀ W, Calls Tryd.prog 36 #[.string f] W fun e w' => e = .returned (.bool true) ∧ w' = W) := fun W => hf ▸ rname_calls f W
  clear hf
  have H1 : Hid (∀ W, Calls Tryd.prog 23 #[.int .i64 k, .int .i64 2] W fun e w' => e = .returned (.bool false) ∧ Below W.heap.size W w') := fun W => h1 ▸ has_1 k W
  clear h1
  have VC : Hid (∀ W, Below w.heap.size w W → _) := fun W hB => rcheck_calls (n + 1) (.agg #[.int .i64 vk, .int .i64 vx, .int .u64 vb, .string vs, .slice la ll lc]) tv W (hv.below hB)
  clear hv
  have TM : Hid (∀ W, _) := fun W => rtext_calls m W
  subst k7
  have HB : Hid (Below w.heap.size w (w.alloc (.cells #[.int .i64 7, .string f, .string q, .string m, .int .i64 vk, .int .i64 vx, .int .u64 vb, .string vs, .slice la ll lc, .int .i64 ru, .int .i64 nu, .int .i64 wa, .int .i64 pf, .int .u64 (pc : Int), .int .i64 pm, .slice ca cn cc, .slice aa an ac] 31))) := bel1 _ _
  have HX : Hid (AtR (w.alloc (.cells #[.int .i64 7, .string f, .string q, .string m, .int .i64 vk, .int .i64 vx, .int .u64 vb, .string vs, .slice la ll lc, .int .i64 ru, .int .i64 nu, .int .i64 wa, .int .i64 pf, .int .u64 (pc : Int), .int .i64 pm, .slice ca cn cc, .slice aa an ac] 31)) w.heap.size 7 f q m vk vx vb vs la ll lc ru nu wa pf pc pm ca cn cc aa an ac) := AtR.box w 7 f q m vk vx vb vs la ll lc ru nu wa pf pc pm ca cn cc aa an ac
  generalize hW0 : w.alloc (.cells #[.int .i64 7, .string f, .string q, .string m, .int .i64 vk, .int .i64 vx, .int .u64 vb, .string vs, .slice la ll lc, .int .i64 ru, .int .i64 nu, .int .i64 wa, .int .i64 pf, .int .u64 (pc : Int), .int .i64 pm, .slice ca cn cc, .slice aa an ac] 31) = W1 at HB HX
  have H0 : Hid (w.alloc (.cells #[.int .i64 7, .string f, .string q, .string m, .int .i64 vk, .int .i64 vx, .int .u64 vb, .string vs, .slice la ll lc, .int .i64 ru, .int .i64 nu, .int .i64 wa, .int .i64 pf, .int .u64 (pc : Int), .int .i64 pm, .slice ca cn cc, .slice aa an ac] 31) = W1) := hW0
  clear hW0
  go_enter Tryd.func21, Tryd.ntmps21
  go_upto_region 1 with fail
  rw [H0.out]
  clear H0
  obtain ⟨x0, x1, x2, x3, x4, x5, x6, x7, x8, x9, x10, x11, x12, x13, x14, x15, x16⟩ := HX.out
  clear x9 x10 x11 x12 x13 x14 x15 x16
  go_upto_region 2 with fail
  clear x0
  go_wp2_with fail
  refine Calls.mono (NF.out _) ?_
  rintro e wn ⟨rfl, e1⟩
  have e2 := e1.symm
  subst e2
  clear e1
  go_wp2_with fail
  refine Calls.mono (H1.out _) ?_
  rintro e y1 ⟨rfl, hb⟩
  replace HX : Hid (AtR y1 w.heap.size 7 f q m vk vx vb vs la ll lc ru nu wa pf pc pm ca cn cc aa an ac) := HX.out.below hb
  replace HB : Hid (Below w.heap.size w y1) := bel2 HB.out hb
  clear hb
  clear x1 x2 x3 x4 x5 x6 x7 x8
  obtain ⟨x0, x1, x2, x3, x4, x5, x6, x7, x8, x9, x10, x11, x12, x13, x14, x15, x16⟩ := HX.out
  clear x0 x9 x10 x11 x12 x13 x14 x15 x16
  go_wp2_with fail
  refine Calls.mono (VC.out _ HB.out) ?_
  rintro e y2 ⟨⟨r, rfl, r1, r2⟩, hb⟩
  replace HX : Hid (AtR y2 w.heap.size 7 f q m vk vx vb vs la ll lc ru nu wa pf pc pm ca cn cc aa an ac) := HX.out.below hb
  replace HB : Hid (Below w.heap.size w y2) := bel2 HB.out hb
  clear hb
  clear x1 x2 x3 x4 x5 x6 x7 x8
  obtain ⟨x0, x1, x2, x3, x4, x5, x6, x7, x8, x9, x10, x11, x12, x13, x14, x15, x16⟩ := HX.out
  clear x0 x9 x10 x11 x12 x13 x14 x15 x16
  obtain rfl := r1 hm
  clear r1 r2 hm
  go_wp2_with fail
  refine Calls.mono (TM.out _) ?_
  rintro e wn ⟨rfl, e1⟩
  have e2 := e1.symm
  subst e2
  clear e1
  go_wp2_with fail
  go_ret
  exact ⟨rfl, HB.out⟩
set_option maxHeartbeats 1000000 in
theorem nd_120 (n : Nat) (tv : Tv) (k : Int) (f q m : ByteArray) (vk vx vb : Int) (vs : ByteArray) (la : Option Addr) (ll lc : Nat) (ru nu wa pf : Int) (pc : Nat) (pm : Int) (ca : Option Addr) (cn cc : Nat) (aa : Option Addr) (an ac : Nat) (w : World) (hv : Is w (n + 1) (.agg #[.int .i64 vk, .int .i64 vx, .int .u64 vb, .string vs, .slice la ll lc]) tv) (hf : nmB f = true) (h1 : hs k 1 = false) (hm : May (n + 1) tv) (k12 : k = 12) : Calls Tryd.prog 21 #[.agg #[.int .i64 k, .string f, .string q, .string m, .int .i64 vk, .int .i64 vx, .int .u64 vb, .string vs, .slice la ll lc, .int .i64 ru, .int .i64 nu, .int .i64 wa, .int .i64 pf, .int .u64 (pc : Int), .int .i64 pm, .slice ca cn cc, .slice aa an ac]] w fun e w' => e = .returned (.bool (decide (m.size ≤ 200))) ∧ Below w.heap.size w w' := by
  have NF : Hid (∀ W, Calls Tryd.prog 36 #[.string f] W fun e w' => e = .returned (.bool true) ∧ w' = W) := fun W => hf ▸ rname_calls f W
  clear hf
  have H1 : Hid (∀ W, Calls Tryd.prog 23 #[.int .i64 k, .int .i64 2] W fun e w' => e = .returned (.bool false) ∧ Below W.heap.size W w') := fun W => h1 ▸ has_1 k W
  clear h1
  have VC : Hid (∀ W, Below w.heap.size w W → _) := fun W hB => rcheck_calls (n + 1) (.agg #[.int .i64 vk, .int .i64 vx, .int .u64 vb, .string vs, .slice la ll lc]) tv W (hv.below hB)
  clear hv
  have TM : Hid (∀ W, _) := fun W => rtext_calls m W
  subst k12
  have HB : Hid (Below w.heap.size w (w.alloc (.cells #[.int .i64 12, .string f, .string q, .string m, .int .i64 vk, .int .i64 vx, .int .u64 vb, .string vs, .slice la ll lc, .int .i64 ru, .int .i64 nu, .int .i64 wa, .int .i64 pf, .int .u64 (pc : Int), .int .i64 pm, .slice ca cn cc, .slice aa an ac] 31))) := bel1 _ _
  have HX : Hid (AtR (w.alloc (.cells #[.int .i64 12, .string f, .string q, .string m, .int .i64 vk, .int .i64 vx, .int .u64 vb, .string vs, .slice la ll lc, .int .i64 ru, .int .i64 nu, .int .i64 wa, .int .i64 pf, .int .u64 (pc : Int), .int .i64 pm, .slice ca cn cc, .slice aa an ac] 31)) w.heap.size 12 f q m vk vx vb vs la ll lc ru nu wa pf pc pm ca cn cc aa an ac) := AtR.box w 12 f q m vk vx vb vs la ll lc ru nu wa pf pc pm ca cn cc aa an ac
  generalize hW0 : w.alloc (.cells #[.int .i64 12, .string f, .string q, .string m, .int .i64 vk, .int .i64 vx, .int .u64 vb, .string vs, .slice la ll lc, .int .i64 ru, .int .i64 nu, .int .i64 wa, .int .i64 pf, .int .u64 (pc : Int), .int .i64 pm, .slice ca cn cc, .slice aa an ac] 31) = W1 at HB HX
  have H0 : Hid (w.alloc (.cells #[.int .i64 12, .string f, .string q, .string m, .int .i64 vk, .int .i64 vx, .int .u64 vb, .string vs, .slice la ll lc, .int .i64 ru, .int .i64 nu, .int .i64 wa, .int .i64 pf, .int .u64 (pc : Int), .int .i64 pm, .slice ca cn cc, .slice aa an ac] 31) = W1) := hW0
  clear hW0
  go_enter Tryd.func21, Tryd.ntmps21
  go_upto_region 1 with fail
  rw [H0.out]
  clear H0
  obtain ⟨x0, x1, x2, x3, x4, x5, x6, x7, x8, x9, x10, x11, x12, x13, x14, x15, x16⟩ := HX.out
  clear x9 x10 x11 x12 x13 x14 x15 x16
  go_upto_region 2 with fail
  clear x0
  go_wp2_with fail
  refine Calls.mono (NF.out _) ?_
  rintro e wn ⟨rfl, e1⟩
  have e2 := e1.symm
  subst e2
  clear e1
  go_wp2_with fail
  refine Calls.mono (H1.out _) ?_
  rintro e y1 ⟨rfl, hb⟩
  replace HX : Hid (AtR y1 w.heap.size 12 f q m vk vx vb vs la ll lc ru nu wa pf pc pm ca cn cc aa an ac) := HX.out.below hb
  replace HB : Hid (Below w.heap.size w y1) := bel2 HB.out hb
  clear hb
  clear x1 x2 x3 x4 x5 x6 x7 x8
  obtain ⟨x0, x1, x2, x3, x4, x5, x6, x7, x8, x9, x10, x11, x12, x13, x14, x15, x16⟩ := HX.out
  clear x0 x9 x10 x11 x12 x13 x14 x15 x16
  go_wp2_with fail
  refine Calls.mono (VC.out _ HB.out) ?_
  rintro e y2 ⟨⟨r, rfl, r1, r2⟩, hb⟩
  replace HX : Hid (AtR y2 w.heap.size 12 f q m vk vx vb vs la ll lc ru nu wa pf pc pm ca cn cc aa an ac) := HX.out.below hb
  replace HB : Hid (Below w.heap.size w y2) := bel2 HB.out hb
  clear hb
  clear x1 x2 x3 x4 x5 x6 x7 x8
  obtain ⟨x0, x1, x2, x3, x4, x5, x6, x7, x8, x9, x10, x11, x12, x13, x14, x15, x16⟩ := HX.out
  clear x0 x9 x10 x11 x12 x13 x14 x15 x16
  obtain rfl := r1 hm
  clear r1 r2 hm
  go_wp2_with fail
  refine Calls.mono (TM.out _) ?_
  rintro e wn ⟨rfl, e1⟩
  have e2 := e1.symm
  subst e2
  clear e1
  go_wp2_with fail
  go_ret
  exact ⟨rfl, HB.out⟩
set_option maxHeartbeats 1000000 in
theorem nd_o00 (n : Nat) (tv : Tv) (k : Int) (f q m : ByteArray) (vk vx vb : Int) (vs : ByteArray) (la : Option Addr) (ll lc : Nat) (ru nu wa pf : Int) (pc : Nat) (pm : Int) (ca : Option Addr) (cn cc : Nat) (aa : Option Addr) (an ac : Nat) (w : World) (hv : Is w (n + 1) (.agg #[.int .i64 vk, .int .i64 vx, .int .u64 vb, .string vs, .slice la ll lc]) tv) (hf : nmB f = true) (h1 : hs k 1 = false) (hm : May (n + 1) tv) (k7 : (k == 7) = false) (k12 : (k == 12) = false) (h2 : hs k 2 = false) : Calls Tryd.prog 21 #[.agg #[.int .i64 k, .string f, .string q, .string m, .int .i64 vk, .int .i64 vx, .int .u64 vb, .string vs, .slice la ll lc, .int .i64 ru, .int .i64 nu, .int .i64 wa, .int .i64 pf, .int .u64 (pc : Int), .int .i64 pm, .slice ca cn cc, .slice aa an ac]] w fun e w' => e = .returned (.bool true) ∧ Below w.heap.size w w' := by
  have NF : Hid (∀ W, Calls Tryd.prog 36 #[.string f] W fun e w' => e = .returned (.bool true) ∧ w' = W) := fun W => hf ▸ rname_calls f W
  clear hf
  have H1 : Hid (∀ W, Calls Tryd.prog 23 #[.int .i64 k, .int .i64 2] W fun e w' => e = .returned (.bool false) ∧ Below W.heap.size W w') := fun W => h1 ▸ has_1 k W
  clear h1
  have VC : Hid (∀ W, Below w.heap.size w W → _) := fun W hB => rcheck_calls (n + 1) (.agg #[.int .i64 vk, .int .i64 vx, .int .u64 vb, .string vs, .slice la ll lc]) tv W (hv.below hB)
  clear hv
  have H2 : Hid (∀ W, Calls Tryd.prog 23 #[.int .i64 k, .int .i64 4] W fun e w' => e = .returned (.bool false) ∧ Below W.heap.size W w') := fun W => h2 ▸ has_2 k W
  clear h2
  have HB : Hid (Below w.heap.size w (w.alloc (.cells #[.int .i64 k, .string f, .string q, .string m, .int .i64 vk, .int .i64 vx, .int .u64 vb, .string vs, .slice la ll lc, .int .i64 ru, .int .i64 nu, .int .i64 wa, .int .i64 pf, .int .u64 (pc : Int), .int .i64 pm, .slice ca cn cc, .slice aa an ac] 31))) := bel1 _ _
  have HX : Hid (AtR (w.alloc (.cells #[.int .i64 k, .string f, .string q, .string m, .int .i64 vk, .int .i64 vx, .int .u64 vb, .string vs, .slice la ll lc, .int .i64 ru, .int .i64 nu, .int .i64 wa, .int .i64 pf, .int .u64 (pc : Int), .int .i64 pm, .slice ca cn cc, .slice aa an ac] 31)) w.heap.size k f q m vk vx vb vs la ll lc ru nu wa pf pc pm ca cn cc aa an ac) := AtR.box w k f q m vk vx vb vs la ll lc ru nu wa pf pc pm ca cn cc aa an ac
  generalize hW0 : w.alloc (.cells #[.int .i64 k, .string f, .string q, .string m, .int .i64 vk, .int .i64 vx, .int .u64 vb, .string vs, .slice la ll lc, .int .i64 ru, .int .i64 nu, .int .i64 wa, .int .i64 pf, .int .u64 (pc : Int), .int .i64 pm, .slice ca cn cc, .slice aa an ac] 31) = W1 at HB HX
  have H0 : Hid (w.alloc (.cells #[.int .i64 k, .string f, .string q, .string m, .int .i64 vk, .int .i64 vx, .int .u64 vb, .string vs, .slice la ll lc, .int .i64 ru, .int .i64 nu, .int .i64 wa, .int .i64 pf, .int .u64 (pc : Int), .int .i64 pm, .slice ca cn cc, .slice aa an ac] 31) = W1) := hW0
  clear hW0
  go_enter Tryd.func21, Tryd.ntmps21
  go_upto_region 1 with fail
  rw [H0.out]
  clear H0
  obtain ⟨x0, x1, x2, x3, x4, x5, x6, x7, x8, x9, x10, x11, x12, x13, x14, x15, x16⟩ := HX.out
  clear x9 x10 x11 x12 x13 x14 x15 x16
  go_upto_region 2 with fail
  clear x0
  go_wp2_with fail
  refine Calls.mono (NF.out _) ?_
  rintro e wn ⟨rfl, e1⟩
  have e2 := e1.symm
  subst e2
  clear e1
  go_wp2_with fail
  refine Calls.mono (H1.out _) ?_
  rintro e y1 ⟨rfl, hb⟩
  replace HX : Hid (AtR y1 w.heap.size k f q m vk vx vb vs la ll lc ru nu wa pf pc pm ca cn cc aa an ac) := HX.out.below hb
  replace HB : Hid (Below w.heap.size w y1) := bel2 HB.out hb
  clear hb
  clear x1 x2 x3 x4 x5 x6 x7 x8
  obtain ⟨x0, x1, x2, x3, x4, x5, x6, x7, x8, x9, x10, x11, x12, x13, x14, x15, x16⟩ := HX.out
  clear x0 x9 x10 x11 x12 x13 x14 x15 x16
  go_wp2_with fail
  refine Calls.mono (VC.out _ HB.out) ?_
  rintro e y2 ⟨⟨r, rfl, r1, r2⟩, hb⟩
  replace HX : Hid (AtR y2 w.heap.size k f q m vk vx vb vs la ll lc ru nu wa pf pc pm ca cn cc aa an ac) := HX.out.below hb
  replace HB : Hid (Below w.heap.size w y2) := bel2 HB.out hb
  clear hb
  clear x1 x2 x3 x4 x5 x6 x7 x8
  obtain ⟨x0, x1, x2, x3, x4, x5, x6, x7, x8, x9, x10, x11, x12, x13, x14, x15, x16⟩ := HX.out
  clear x0 x9 x10 x11 x12 x13 x14 x15 x16
  obtain rfl := r1 hm
  clear r1 r2 hm
  go_wp2_with fail
  refine Calls.mono (H2.out _) ?_
  rintro e y3 ⟨rfl, hb⟩
  replace HX : Hid (AtR y3 w.heap.size k f q m vk vx vb vs la ll lc ru nu wa pf pc pm ca cn cc aa an ac) := HX.out.below hb
  replace HB : Hid (Below w.heap.size w y3) := bel2 HB.out hb
  clear hb
  clear x1 x2 x3 x4 x5 x6 x7 x8
  obtain ⟨x0, x1, x2, x3, x4, x5, x6, x7, x8, x9, x10, x11, x12, x13, x14, x15, x16⟩ := HX.out
  clear x0 x9 x10 x11 x12 x13 x14 x15 x16
  go_wp2_with fail
  go_ret
  exact ⟨rfl, HB.out⟩
set_option maxHeartbeats 1000000 in
theorem nd_o01 (n : Nat) (tv : Tv) (k : Int) (f q m : ByteArray) (vk vx vb : Int) (vs : ByteArray) (la : Option Addr) (ll lc : Nat) (ru nu wa pf : Int) (pc : Nat) (pm : Int) (ca : Option Addr) (cn cc : Nat) (aa : Option Addr) (an ac : Nat) (w : World) (hv : Is w (n + 1) (.agg #[.int .i64 vk, .int .i64 vx, .int .u64 vb, .string vs, .slice la ll lc]) tv) (hf : nmB f = true) (h1 : hs k 1 = false) (hm : May (n + 1) tv) (k7 : (k == 7) = false) (k12 : (k == 12) = false) (h2 : hs k 2 = true) : Calls Tryd.prog 21 #[.agg #[.int .i64 k, .string f, .string q, .string m, .int .i64 vk, .int .i64 vx, .int .u64 vb, .string vs, .slice la ll lc, .int .i64 ru, .int .i64 nu, .int .i64 wa, .int .i64 pf, .int .u64 (pc : Int), .int .i64 pm, .slice ca cn cc, .slice aa an ac]] w fun e w' => e = .returned (.bool (nmB m)) ∧ Below w.heap.size w w' := by
  have NF : Hid (∀ W, Calls Tryd.prog 36 #[.string f] W fun e w' => e = .returned (.bool true) ∧ w' = W) := fun W => hf ▸ rname_calls f W
  clear hf
  have H1 : Hid (∀ W, Calls Tryd.prog 23 #[.int .i64 k, .int .i64 2] W fun e w' => e = .returned (.bool false) ∧ Below W.heap.size W w') := fun W => h1 ▸ has_1 k W
  clear h1
  have VC : Hid (∀ W, Below w.heap.size w W → _) := fun W hB => rcheck_calls (n + 1) (.agg #[.int .i64 vk, .int .i64 vx, .int .u64 vb, .string vs, .slice la ll lc]) tv W (hv.below hB)
  clear hv
  have H2 : Hid (∀ W, Calls Tryd.prog 23 #[.int .i64 k, .int .i64 4] W fun e w' => e = .returned (.bool true) ∧ Below W.heap.size W w') := fun W => h2 ▸ has_2 k W
  clear h2
  have NM : Hid (∀ W, _) := fun W => rname_calls m W
  have HB : Hid (Below w.heap.size w (w.alloc (.cells #[.int .i64 k, .string f, .string q, .string m, .int .i64 vk, .int .i64 vx, .int .u64 vb, .string vs, .slice la ll lc, .int .i64 ru, .int .i64 nu, .int .i64 wa, .int .i64 pf, .int .u64 (pc : Int), .int .i64 pm, .slice ca cn cc, .slice aa an ac] 31))) := bel1 _ _
  have HX : Hid (AtR (w.alloc (.cells #[.int .i64 k, .string f, .string q, .string m, .int .i64 vk, .int .i64 vx, .int .u64 vb, .string vs, .slice la ll lc, .int .i64 ru, .int .i64 nu, .int .i64 wa, .int .i64 pf, .int .u64 (pc : Int), .int .i64 pm, .slice ca cn cc, .slice aa an ac] 31)) w.heap.size k f q m vk vx vb vs la ll lc ru nu wa pf pc pm ca cn cc aa an ac) := AtR.box w k f q m vk vx vb vs la ll lc ru nu wa pf pc pm ca cn cc aa an ac
  generalize hW0 : w.alloc (.cells #[.int .i64 k, .string f, .string q, .string m, .int .i64 vk, .int .i64 vx, .int .u64 vb, .string vs, .slice la ll lc, .int .i64 ru, .int .i64 nu, .int .i64 wa, .int .i64 pf, .int .u64 (pc : Int), .int .i64 pm, .slice ca cn cc, .slice aa an ac] 31) = W1 at HB HX
  have H0 : Hid (w.alloc (.cells #[.int .i64 k, .string f, .string q, .string m, .int .i64 vk, .int .i64 vx, .int .u64 vb, .string vs, .slice la ll lc, .int .i64 ru, .int .i64 nu, .int .i64 wa, .int .i64 pf, .int .u64 (pc : Int), .int .i64 pm, .slice ca cn cc, .slice aa an ac] 31) = W1) := hW0
  clear hW0
  go_enter Tryd.func21, Tryd.ntmps21
  go_upto_region 1 with fail
  rw [H0.out]
  clear H0
  obtain ⟨x0, x1, x2, x3, x4, x5, x6, x7, x8, x9, x10, x11, x12, x13, x14, x15, x16⟩ := HX.out
  clear x9 x10 x11 x12 x13 x14 x15 x16
  go_upto_region 2 with fail
  clear x0
  go_wp2_with fail
  refine Calls.mono (NF.out _) ?_
  rintro e wn ⟨rfl, e1⟩
  have e2 := e1.symm
  subst e2
  clear e1
  go_wp2_with fail
  refine Calls.mono (H1.out _) ?_
  rintro e y1 ⟨rfl, hb⟩
  replace HX : Hid (AtR y1 w.heap.size k f q m vk vx vb vs la ll lc ru nu wa pf pc pm ca cn cc aa an ac) := HX.out.below hb
  replace HB : Hid (Below w.heap.size w y1) := bel2 HB.out hb
  clear hb
  clear x1 x2 x3 x4 x5 x6 x7 x8
  obtain ⟨x0, x1, x2, x3, x4, x5, x6, x7, x8, x9, x10, x11, x12, x13, x14, x15, x16⟩ := HX.out
  clear x0 x9 x10 x11 x12 x13 x14 x15 x16
  go_wp2_with fail
  refine Calls.mono (VC.out _ HB.out) ?_
  rintro e y2 ⟨⟨r, rfl, r1, r2⟩, hb⟩
  replace HX : Hid (AtR y2 w.heap.size k f q m vk vx vb vs la ll lc ru nu wa pf pc pm ca cn cc aa an ac) := HX.out.below hb
  replace HB : Hid (Below w.heap.size w y2) := bel2 HB.out hb
  clear hb
  clear x1 x2 x3 x4 x5 x6 x7 x8
  obtain ⟨x0, x1, x2, x3, x4, x5, x6, x7, x8, x9, x10, x11, x12, x13, x14, x15, x16⟩ := HX.out
  clear x0 x9 x10 x11 x12 x13 x14 x15 x16
  obtain rfl := r1 hm
  clear r1 r2 hm
  go_wp2_with fail
  refine Calls.mono (H2.out _) ?_
  rintro e y3 ⟨rfl, hb⟩
  replace HX : Hid (AtR y3 w.heap.size k f q m vk vx vb vs la ll lc ru nu wa pf pc pm ca cn cc aa an ac) := HX.out.below hb
  replace HB : Hid (Below w.heap.size w y3) := bel2 HB.out hb
  clear hb
  clear x1 x2 x3 x4 x5 x6 x7 x8
  obtain ⟨x0, x1, x2, x3, x4, x5, x6, x7, x8, x9, x10, x11, x12, x13, x14, x15, x16⟩ := HX.out
  clear x0 x9 x10 x11 x12 x13 x14 x15 x16
  go_wp2_with fail
  refine Calls.mono (NM.out _) ?_
  rintro e wn ⟨rfl, e1⟩
  have e2 := e1.symm
  subst e2
  clear e1
  go_wp2_with fail
  go_ret
  exact ⟨rfl, HB.out⟩
set_option maxHeartbeats 1000000 in
theorem nd_v1 (n : Nat) (tv : Tv) (k : Int) (f q m : ByteArray) (vk vx vb : Int) (vs : ByteArray) (la : Option Addr) (ll lc : Nat) (ru nu wa pf : Int) (pc : Nat) (pm : Int) (ca : Option Addr) (cn cc : Nat) (aa : Option Addr) (an ac : Nat) (w : World) (hv : Is w (n + 1) (.agg #[.int .i64 vk, .int .i64 vx, .int .u64 vb, .string vs, .slice la ll lc]) tv) (hf : nmB f = true) (h1 : hs k 1 = true) (hq : nmB q = true) (hm : ¬ May (n + 1) tv) : Calls Tryd.prog 21 #[.agg #[.int .i64 k, .string f, .string q, .string m, .int .i64 vk, .int .i64 vx, .int .u64 vb, .string vs, .slice la ll lc, .int .i64 ru, .int .i64 nu, .int .i64 wa, .int .i64 pf, .int .u64 (pc : Int), .int .i64 pm, .slice ca cn cc, .slice aa an ac]] w fun e w' => e = .returned (.bool false) ∧ Below w.heap.size w w' := by
  have NF : Hid (∀ W, Calls Tryd.prog 36 #[.string f] W fun e w' => e = .returned (.bool true) ∧ w' = W) := fun W => hf ▸ rname_calls f W
  clear hf
  have H1 : Hid (∀ W, Calls Tryd.prog 23 #[.int .i64 k, .int .i64 2] W fun e w' => e = .returned (.bool true) ∧ Below W.heap.size W w') := fun W => h1 ▸ has_1 k W
  clear h1
  have NQ : Hid (∀ W, Calls Tryd.prog 36 #[.string q] W fun e w' => e = .returned (.bool true) ∧ w' = W) := fun W => hq ▸ rname_calls q W
  clear hq
  have VC : Hid (∀ W, Below w.heap.size w W → _) := fun W hB => rcheck_calls (n + 1) (.agg #[.int .i64 vk, .int .i64 vx, .int .u64 vb, .string vs, .slice la ll lc]) tv W (hv.below hB)
  clear hv
  have HB : Hid (Below w.heap.size w (w.alloc (.cells #[.int .i64 k, .string f, .string q, .string m, .int .i64 vk, .int .i64 vx, .int .u64 vb, .string vs, .slice la ll lc, .int .i64 ru, .int .i64 nu, .int .i64 wa, .int .i64 pf, .int .u64 (pc : Int), .int .i64 pm, .slice ca cn cc, .slice aa an ac] 31))) := bel1 _ _
  have HX : Hid (AtR (w.alloc (.cells #[.int .i64 k, .string f, .string q, .string m, .int .i64 vk, .int .i64 vx, .int .u64 vb, .string vs, .slice la ll lc, .int .i64 ru, .int .i64 nu, .int .i64 wa, .int .i64 pf, .int .u64 (pc : Int), .int .i64 pm, .slice ca cn cc, .slice aa an ac] 31)) w.heap.size k f q m vk vx vb vs la ll lc ru nu wa pf pc pm ca cn cc aa an ac) := AtR.box w k f q m vk vx vb vs la ll lc ru nu wa pf pc pm ca cn cc aa an ac
  generalize hW0 : w.alloc (.cells #[.int .i64 k, .string f, .string q, .string m, .int .i64 vk, .int .i64 vx, .int .u64 vb, .string vs, .slice la ll lc, .int .i64 ru, .int .i64 nu, .int .i64 wa, .int .i64 pf, .int .u64 (pc : Int), .int .i64 pm, .slice ca cn cc, .slice aa an ac] 31) = W1 at HB HX
  have H0 : Hid (w.alloc (.cells #[.int .i64 k, .string f, .string q, .string m, .int .i64 vk, .int .i64 vx, .int .u64 vb, .string vs, .slice la ll lc, .int .i64 ru, .int .i64 nu, .int .i64 wa, .int .i64 pf, .int .u64 (pc : Int), .int .i64 pm, .slice ca cn cc, .slice aa an ac] 31) = W1) := hW0
  clear hW0
  go_enter Tryd.func21, Tryd.ntmps21
  go_upto_region 1 with fail
  rw [H0.out]
  clear H0
  obtain ⟨x0, x1, x2, x3, x4, x5, x6, x7, x8, x9, x10, x11, x12, x13, x14, x15, x16⟩ := HX.out
  clear x9 x10 x11 x12 x13 x14 x15 x16
  go_upto_region 2 with fail
  clear x0
  go_wp2_with fail
  refine Calls.mono (NF.out _) ?_
  rintro e wn ⟨rfl, e1⟩
  have e2 := e1.symm
  subst e2
  clear e1
  go_wp2_with fail
  refine Calls.mono (H1.out _) ?_
  rintro e y1 ⟨rfl, hb⟩
  replace HX : Hid (AtR y1 w.heap.size k f q m vk vx vb vs la ll lc ru nu wa pf pc pm ca cn cc aa an ac) := HX.out.below hb
  replace HB : Hid (Below w.heap.size w y1) := bel2 HB.out hb
  clear hb
  clear x1 x2 x3 x4 x5 x6 x7 x8
  obtain ⟨x0, x1, x2, x3, x4, x5, x6, x7, x8, x9, x10, x11, x12, x13, x14, x15, x16⟩ := HX.out
  clear x0 x9 x10 x11 x12 x13 x14 x15 x16
  go_wp2_with fail
  refine Calls.mono (NQ.out _) ?_
  rintro e wn ⟨rfl, e1⟩
  have e2 := e1.symm
  subst e2
  clear e1
  go_wp2_with fail
  refine Calls.mono (VC.out _ HB.out) ?_
  rintro e y2 ⟨⟨r, rfl, r1, r2⟩, hb⟩
  replace HX : Hid (AtR y2 w.heap.size k f q m vk vx vb vs la ll lc ru nu wa pf pc pm ca cn cc aa an ac) := HX.out.below hb
  replace HB : Hid (Below w.heap.size w y2) := bel2 HB.out hb
  clear hb
  clear x1 x2 x3 x4 x5 x6 x7 x8
  obtain ⟨x0, x1, x2, x3, x4, x5, x6, x7, x8, x9, x10, x11, x12, x13, x14, x15, x16⟩ := HX.out
  clear x0 x9 x10 x11 x12 x13 x14 x15 x16
  obtain rfl := r2 hm
  clear r1 r2 hm
  go_wp2_with fail
  go_ret
  exact ⟨rfl, HB.out⟩
set_option maxHeartbeats 1000000 in
theorem nd_71 (n : Nat) (tv : Tv) (k : Int) (f q m : ByteArray) (vk vx vb : Int) (vs : ByteArray) (la : Option Addr) (ll lc : Nat) (ru nu wa pf : Int) (pc : Nat) (pm : Int) (ca : Option Addr) (cn cc : Nat) (aa : Option Addr) (an ac : Nat) (w : World) (hv : Is w (n + 1) (.agg #[.int .i64 vk, .int .i64 vx, .int .u64 vb, .string vs, .slice la ll lc]) tv) (hf : nmB f = true) (h1 : hs k 1 = true) (hq : nmB q = true) (hm : May (n + 1) tv) (k7 : k = 7) : Calls Tryd.prog 21 #[.agg #[.int .i64 k, .string f, .string q, .string m, .int .i64 vk, .int .i64 vx, .int .u64 vb, .string vs, .slice la ll lc, .int .i64 ru, .int .i64 nu, .int .i64 wa, .int .i64 pf, .int .u64 (pc : Int), .int .i64 pm, .slice ca cn cc, .slice aa an ac]] w fun e w' => e = .returned (.bool (decide (m.size ≤ 200))) ∧ Below w.heap.size w w' := by
  have NF : Hid (∀ W, Calls Tryd.prog 36 #[.string f] W fun e w' => e = .returned (.bool true) ∧ w' = W) := fun W => hf ▸ rname_calls f W
  clear hf
  have H1 : Hid (∀ W, Calls Tryd.prog 23 #[.int .i64 k, .int .i64 2] W fun e w' => e = .returned (.bool true) ∧ Below W.heap.size W w') := fun W => h1 ▸ has_1 k W
  clear h1
  have NQ : Hid (∀ W, Calls Tryd.prog 36 #[.string q] W fun e w' => e = .returned (.bool true) ∧ w' = W) := fun W => hq ▸ rname_calls q W
  clear hq
  have VC : Hid (∀ W, Below w.heap.size w W → _) := fun W hB => rcheck_calls (n + 1) (.agg #[.int .i64 vk, .int .i64 vx, .int .u64 vb, .string vs, .slice la ll lc]) tv W (hv.below hB)
  clear hv
  have TM : Hid (∀ W, _) := fun W => rtext_calls m W
  subst k7
  have HB : Hid (Below w.heap.size w (w.alloc (.cells #[.int .i64 7, .string f, .string q, .string m, .int .i64 vk, .int .i64 vx, .int .u64 vb, .string vs, .slice la ll lc, .int .i64 ru, .int .i64 nu, .int .i64 wa, .int .i64 pf, .int .u64 (pc : Int), .int .i64 pm, .slice ca cn cc, .slice aa an ac] 31))) := bel1 _ _
  have HX : Hid (AtR (w.alloc (.cells #[.int .i64 7, .string f, .string q, .string m, .int .i64 vk, .int .i64 vx, .int .u64 vb, .string vs, .slice la ll lc, .int .i64 ru, .int .i64 nu, .int .i64 wa, .int .i64 pf, .int .u64 (pc : Int), .int .i64 pm, .slice ca cn cc, .slice aa an ac] 31)) w.heap.size 7 f q m vk vx vb vs la ll lc ru nu wa pf pc pm ca cn cc aa an ac) := AtR.box w 7 f q m vk vx vb vs la ll lc ru nu wa pf pc pm ca cn cc aa an ac
  generalize hW0 : w.alloc (.cells #[.int .i64 7, .string f, .string q, .string m, .int .i64 vk, .int .i64 vx, .int .u64 vb, .string vs, .slice la ll lc, .int .i64 ru, .int .i64 nu, .int .i64 wa, .int .i64 pf, .int .u64 (pc : Int), .int .i64 pm, .slice ca cn cc, .slice aa an ac] 31) = W1 at HB HX
  have H0 : Hid (w.alloc (.cells #[.int .i64 7, .string f, .string q, .string m, .int .i64 vk, .int .i64 vx, .int .u64 vb, .string vs, .slice la ll lc, .int .i64 ru, .int .i64 nu, .int .i64 wa, .int .i64 pf, .int .u64 (pc : Int), .int .i64 pm, .slice ca cn cc, .slice aa an ac] 31) = W1) := hW0
  clear hW0
  go_enter Tryd.func21, Tryd.ntmps21
  go_upto_region 1 with fail
  rw [H0.out]
  clear H0
  obtain ⟨x0, x1, x2, x3, x4, x5, x6, x7, x8, x9, x10, x11, x12, x13, x14, x15, x16⟩ := HX.out
  clear x9 x10 x11 x12 x13 x14 x15 x16
  go_upto_region 2 with fail
  clear x0
  go_wp2_with fail
  refine Calls.mono (NF.out _) ?_
  rintro e wn ⟨rfl, e1⟩
  have e2 := e1.symm
  subst e2
  clear e1
  go_wp2_with fail
  refine Calls.mono (H1.out _) ?_
  rintro e y1 ⟨rfl, hb⟩
  replace HX : Hid (AtR y1 w.heap.size 7 f q m vk vx vb vs la ll lc ru nu wa pf pc pm ca cn cc aa an ac) := HX.out.below hb
  replace HB : Hid (Below w.heap.size w y1) := bel2 HB.out hb
  clear hb
  clear x1 x2 x3 x4 x5 x6 x7 x8
  obtain ⟨x0, x1, x2, x3, x4, x5, x6, x7, x8, x9, x10, x11, x12, x13, x14, x15, x16⟩ := HX.out
  clear x0 x9 x10 x11 x12 x13 x14 x15 x16
  go_wp2_with fail
  refine Calls.mono (NQ.out _) ?_
  rintro e wn ⟨rfl, e1⟩
  have e2 := e1.symm
  subst e2
  clear e1
  go_wp2_with fail
  refine Calls.mono (VC.out _ HB.out) ?_
  rintro e y2 ⟨⟨r, rfl, r1, r2⟩, hb⟩
  replace HX : Hid (AtR y2 w.heap.size 7 f q m vk vx vb vs la ll lc ru nu wa pf pc pm ca cn cc aa an ac) := HX.out.below hb
  replace HB : Hid (Below w.heap.size w y2) := bel2 HB.out hb
  clear hb
  clear x1 x2 x3 x4 x5 x6 x7 x8
  obtain ⟨x0, x1, x2, x3, x4, x5, x6, x7, x8, x9, x10, x11, x12, x13, x14, x15, x16⟩ := HX.out
  clear x0 x9 x10 x11 x12 x13 x14 x15 x16
  obtain rfl := r1 hm
  clear r1 r2 hm
  go_wp2_with fail
  refine Calls.mono (TM.out _) ?_
  rintro e wn ⟨rfl, e1⟩
  have e2 := e1.symm
  subst e2
  clear e1
  go_wp2_with fail
  go_ret
  exact ⟨rfl, HB.out⟩
set_option maxHeartbeats 1000000 in
theorem nd_121 (n : Nat) (tv : Tv) (k : Int) (f q m : ByteArray) (vk vx vb : Int) (vs : ByteArray) (la : Option Addr) (ll lc : Nat) (ru nu wa pf : Int) (pc : Nat) (pm : Int) (ca : Option Addr) (cn cc : Nat) (aa : Option Addr) (an ac : Nat) (w : World) (hv : Is w (n + 1) (.agg #[.int .i64 vk, .int .i64 vx, .int .u64 vb, .string vs, .slice la ll lc]) tv) (hf : nmB f = true) (h1 : hs k 1 = true) (hq : nmB q = true) (hm : May (n + 1) tv) (k12 : k = 12) : Calls Tryd.prog 21 #[.agg #[.int .i64 k, .string f, .string q, .string m, .int .i64 vk, .int .i64 vx, .int .u64 vb, .string vs, .slice la ll lc, .int .i64 ru, .int .i64 nu, .int .i64 wa, .int .i64 pf, .int .u64 (pc : Int), .int .i64 pm, .slice ca cn cc, .slice aa an ac]] w fun e w' => e = .returned (.bool (decide (m.size ≤ 200))) ∧ Below w.heap.size w w' := by
  have NF : Hid (∀ W, Calls Tryd.prog 36 #[.string f] W fun e w' => e = .returned (.bool true) ∧ w' = W) := fun W => hf ▸ rname_calls f W
  clear hf
  have H1 : Hid (∀ W, Calls Tryd.prog 23 #[.int .i64 k, .int .i64 2] W fun e w' => e = .returned (.bool true) ∧ Below W.heap.size W w') := fun W => h1 ▸ has_1 k W
  clear h1
  have NQ : Hid (∀ W, Calls Tryd.prog 36 #[.string q] W fun e w' => e = .returned (.bool true) ∧ w' = W) := fun W => hq ▸ rname_calls q W
  clear hq
  have VC : Hid (∀ W, Below w.heap.size w W → _) := fun W hB => rcheck_calls (n + 1) (.agg #[.int .i64 vk, .int .i64 vx, .int .u64 vb, .string vs, .slice la ll lc]) tv W (hv.below hB)
  clear hv
  have TM : Hid (∀ W, _) := fun W => rtext_calls m W
  subst k12
  have HB : Hid (Below w.heap.size w (w.alloc (.cells #[.int .i64 12, .string f, .string q, .string m, .int .i64 vk, .int .i64 vx, .int .u64 vb, .string vs, .slice la ll lc, .int .i64 ru, .int .i64 nu, .int .i64 wa, .int .i64 pf, .int .u64 (pc : Int), .int .i64 pm, .slice ca cn cc, .slice aa an ac] 31))) := bel1 _ _
  have HX : Hid (AtR (w.alloc (.cells #[.int .i64 12, .string f, .string q, .string m, .int .i64 vk, .int .i64 vx, .int .u64 vb, .string vs, .slice la ll lc, .int .i64 ru, .int .i64 nu, .int .i64 wa, .int .i64 pf, .int .u64 (pc : Int), .int .i64 pm, .slice ca cn cc, .slice aa an ac] 31)) w.heap.size 12 f q m vk vx vb vs la ll lc ru nu wa pf pc pm ca cn cc aa an ac) := AtR.box w 12 f q m vk vx vb vs la ll lc ru nu wa pf pc pm ca cn cc aa an ac
  generalize hW0 : w.alloc (.cells #[.int .i64 12, .string f, .string q, .string m, .int .i64 vk, .int .i64 vx, .int .u64 vb, .string vs, .slice la ll lc, .int .i64 ru, .int .i64 nu, .int .i64 wa, .int .i64 pf, .int .u64 (pc : Int), .int .i64 pm, .slice ca cn cc, .slice aa an ac] 31) = W1 at HB HX
  have H0 : Hid (w.alloc (.cells #[.int .i64 12, .string f, .string q, .string m, .int .i64 vk, .int .i64 vx, .int .u64 vb, .string vs, .slice la ll lc, .int .i64 ru, .int .i64 nu, .int .i64 wa, .int .i64 pf, .int .u64 (pc : Int), .int .i64 pm, .slice ca cn cc, .slice aa an ac] 31) = W1) := hW0
  clear hW0
  go_enter Tryd.func21, Tryd.ntmps21
  go_upto_region 1 with fail
  rw [H0.out]
  clear H0
  obtain ⟨x0, x1, x2, x3, x4, x5, x6, x7, x8, x9, x10, x11, x12, x13, x14, x15, x16⟩ := HX.out
  clear x9 x10 x11 x12 x13 x14 x15 x16
  go_upto_region 2 with fail
  clear x0
  go_wp2_with fail
  refine Calls.mono (NF.out _) ?_
  rintro e wn ⟨rfl, e1⟩
  have e2 := e1.symm
  subst e2
  clear e1
  go_wp2_with fail
  refine Calls.mono (H1.out _) ?_
  rintro e y1 ⟨rfl, hb⟩
  replace HX : Hid (AtR y1 w.heap.size 12 f q m vk vx vb vs la ll lc ru nu wa pf pc pm ca cn cc aa an ac) := HX.out.below hb
  replace HB : Hid (Below w.heap.size w y1) := bel2 HB.out hb
  clear hb
  clear x1 x2 x3 x4 x5 x6 x7 x8
  obtain ⟨x0, x1, x2, x3, x4, x5, x6, x7, x8, x9, x10, x11, x12, x13, x14, x15, x16⟩ := HX.out
  clear x0 x9 x10 x11 x12 x13 x14 x15 x16
  go_wp2_with fail
  refine Calls.mono (NQ.out _) ?_
  rintro e wn ⟨rfl, e1⟩
  have e2 := e1.symm
  subst e2
  clear e1
  go_wp2_with fail
  refine Calls.mono (VC.out _ HB.out) ?_
  rintro e y2 ⟨⟨r, rfl, r1, r2⟩, hb⟩
  replace HX : Hid (AtR y2 w.heap.size 12 f q m vk vx vb vs la ll lc ru nu wa pf pc pm ca cn cc aa an ac) := HX.out.below hb
  replace HB : Hid (Below w.heap.size w y2) := bel2 HB.out hb
  clear hb
  clear x1 x2 x3 x4 x5 x6 x7 x8
  obtain ⟨x0, x1, x2, x3, x4, x5, x6, x7, x8, x9, x10, x11, x12, x13, x14, x15, x16⟩ := HX.out
  clear x0 x9 x10 x11 x12 x13 x14 x15 x16
  obtain rfl := r1 hm
  clear r1 r2 hm
  go_wp2_with fail
  refine Calls.mono (TM.out _) ?_
  rintro e wn ⟨rfl, e1⟩
  have e2 := e1.symm
  subst e2
  clear e1
  go_wp2_with fail
  go_ret
  exact ⟨rfl, HB.out⟩
set_option maxHeartbeats 1000000 in
theorem nd_o10 (n : Nat) (tv : Tv) (k : Int) (f q m : ByteArray) (vk vx vb : Int) (vs : ByteArray) (la : Option Addr) (ll lc : Nat) (ru nu wa pf : Int) (pc : Nat) (pm : Int) (ca : Option Addr) (cn cc : Nat) (aa : Option Addr) (an ac : Nat) (w : World) (hv : Is w (n + 1) (.agg #[.int .i64 vk, .int .i64 vx, .int .u64 vb, .string vs, .slice la ll lc]) tv) (hf : nmB f = true) (h1 : hs k 1 = true) (hq : nmB q = true) (hm : May (n + 1) tv) (k7 : (k == 7) = false) (k12 : (k == 12) = false) (h2 : hs k 2 = false) : Calls Tryd.prog 21 #[.agg #[.int .i64 k, .string f, .string q, .string m, .int .i64 vk, .int .i64 vx, .int .u64 vb, .string vs, .slice la ll lc, .int .i64 ru, .int .i64 nu, .int .i64 wa, .int .i64 pf, .int .u64 (pc : Int), .int .i64 pm, .slice ca cn cc, .slice aa an ac]] w fun e w' => e = .returned (.bool true) ∧ Below w.heap.size w w' := by
  have NF : Hid (∀ W, Calls Tryd.prog 36 #[.string f] W fun e w' => e = .returned (.bool true) ∧ w' = W) := fun W => hf ▸ rname_calls f W
  clear hf
  have H1 : Hid (∀ W, Calls Tryd.prog 23 #[.int .i64 k, .int .i64 2] W fun e w' => e = .returned (.bool true) ∧ Below W.heap.size W w') := fun W => h1 ▸ has_1 k W
  clear h1
  have NQ : Hid (∀ W, Calls Tryd.prog 36 #[.string q] W fun e w' => e = .returned (.bool true) ∧ w' = W) := fun W => hq ▸ rname_calls q W
  clear hq
  have VC : Hid (∀ W, Below w.heap.size w W → _) := fun W hB => rcheck_calls (n + 1) (.agg #[.int .i64 vk, .int .i64 vx, .int .u64 vb, .string vs, .slice la ll lc]) tv W (hv.below hB)
  clear hv
  have H2 : Hid (∀ W, Calls Tryd.prog 23 #[.int .i64 k, .int .i64 4] W fun e w' => e = .returned (.bool false) ∧ Below W.heap.size W w') := fun W => h2 ▸ has_2 k W
  clear h2
  have HB : Hid (Below w.heap.size w (w.alloc (.cells #[.int .i64 k, .string f, .string q, .string m, .int .i64 vk, .int .i64 vx, .int .u64 vb, .string vs, .slice la ll lc, .int .i64 ru, .int .i64 nu, .int .i64 wa, .int .i64 pf, .int .u64 (pc : Int), .int .i64 pm, .slice ca cn cc, .slice aa an ac] 31))) := bel1 _ _
  have HX : Hid (AtR (w.alloc (.cells #[.int .i64 k, .string f, .string q, .string m, .int .i64 vk, .int .i64 vx, .int .u64 vb, .string vs, .slice la ll lc, .int .i64 ru, .int .i64 nu, .int .i64 wa, .int .i64 pf, .int .u64 (pc : Int), .int .i64 pm, .slice ca cn cc, .slice aa an ac] 31)) w.heap.size k f q m vk vx vb vs la ll lc ru nu wa pf pc pm ca cn cc aa an ac) := AtR.box w k f q m vk vx vb vs la ll lc ru nu wa pf pc pm ca cn cc aa an ac
  generalize hW0 : w.alloc (.cells #[.int .i64 k, .string f, .string q, .string m, .int .i64 vk, .int .i64 vx, .int .u64 vb, .string vs, .slice la ll lc, .int .i64 ru, .int .i64 nu, .int .i64 wa, .int .i64 pf, .int .u64 (pc : Int), .int .i64 pm, .slice ca cn cc, .slice aa an ac] 31) = W1 at HB HX
  have H0 : Hid (w.alloc (.cells #[.int .i64 k, .string f, .string q, .string m, .int .i64 vk, .int .i64 vx, .int .u64 vb, .string vs, .slice la ll lc, .int .i64 ru, .int .i64 nu, .int .i64 wa, .int .i64 pf, .int .u64 (pc : Int), .int .i64 pm, .slice ca cn cc, .slice aa an ac] 31) = W1) := hW0
  clear hW0
  go_enter Tryd.func21, Tryd.ntmps21
  go_upto_region 1 with fail
  rw [H0.out]
  clear H0
  obtain ⟨x0, x1, x2, x3, x4, x5, x6, x7, x8, x9, x10, x11, x12, x13, x14, x15, x16⟩ := HX.out
  clear x9 x10 x11 x12 x13 x14 x15 x16
  go_upto_region 2 with fail
  clear x0
  go_wp2_with fail
  refine Calls.mono (NF.out _) ?_
  rintro e wn ⟨rfl, e1⟩
  have e2 := e1.symm
  subst e2
  clear e1
  go_wp2_with fail
  refine Calls.mono (H1.out _) ?_
  rintro e y1 ⟨rfl, hb⟩
  replace HX : Hid (AtR y1 w.heap.size k f q m vk vx vb vs la ll lc ru nu wa pf pc pm ca cn cc aa an ac) := HX.out.below hb
  replace HB : Hid (Below w.heap.size w y1) := bel2 HB.out hb
  clear hb
  clear x1 x2 x3 x4 x5 x6 x7 x8
  obtain ⟨x0, x1, x2, x3, x4, x5, x6, x7, x8, x9, x10, x11, x12, x13, x14, x15, x16⟩ := HX.out
  clear x0 x9 x10 x11 x12 x13 x14 x15 x16
  go_wp2_with fail
  refine Calls.mono (NQ.out _) ?_
  rintro e wn ⟨rfl, e1⟩
  have e2 := e1.symm
  subst e2
  clear e1
  go_wp2_with fail
  refine Calls.mono (VC.out _ HB.out) ?_
  rintro e y2 ⟨⟨r, rfl, r1, r2⟩, hb⟩
  replace HX : Hid (AtR y2 w.heap.size k f q m vk vx vb vs la ll lc ru nu wa pf pc pm ca cn cc aa an ac) := HX.out.below hb
  replace HB : Hid (Below w.heap.size w y2) := bel2 HB.out hb
  clear hb
  clear x1 x2 x3 x4 x5 x6 x7 x8
  obtain ⟨x0, x1, x2, x3, x4, x5, x6, x7, x8, x9, x10, x11, x12, x13, x14, x15, x16⟩ := HX.out
  clear x0 x9 x10 x11 x12 x13 x14 x15 x16
  obtain rfl := r1 hm
  clear r1 r2 hm
  go_wp2_with fail
  refine Calls.mono (H2.out _) ?_
  rintro e y3 ⟨rfl, hb⟩
  replace HX : Hid (AtR y3 w.heap.size k f q m vk vx vb vs la ll lc ru nu wa pf pc pm ca cn cc aa an ac) := HX.out.below hb
  replace HB : Hid (Below w.heap.size w y3) := bel2 HB.out hb
  clear hb
  clear x1 x2 x3 x4 x5 x6 x7 x8
  obtain ⟨x0, x1, x2, x3, x4, x5, x6, x7, x8, x9, x10, x11, x12, x13, x14, x15, x16⟩ := HX.out
  clear x0 x9 x10 x11 x12 x13 x14 x15 x16
  go_wp2_with fail
  go_ret
  exact ⟨rfl, HB.out⟩
set_option maxHeartbeats 1000000 in
theorem nd_o11 (n : Nat) (tv : Tv) (k : Int) (f q m : ByteArray) (vk vx vb : Int) (vs : ByteArray) (la : Option Addr) (ll lc : Nat) (ru nu wa pf : Int) (pc : Nat) (pm : Int) (ca : Option Addr) (cn cc : Nat) (aa : Option Addr) (an ac : Nat) (w : World) (hv : Is w (n + 1) (.agg #[.int .i64 vk, .int .i64 vx, .int .u64 vb, .string vs, .slice la ll lc]) tv) (hf : nmB f = true) (h1 : hs k 1 = true) (hq : nmB q = true) (hm : May (n + 1) tv) (k7 : (k == 7) = false) (k12 : (k == 12) = false) (h2 : hs k 2 = true) : Calls Tryd.prog 21 #[.agg #[.int .i64 k, .string f, .string q, .string m, .int .i64 vk, .int .i64 vx, .int .u64 vb, .string vs, .slice la ll lc, .int .i64 ru, .int .i64 nu, .int .i64 wa, .int .i64 pf, .int .u64 (pc : Int), .int .i64 pm, .slice ca cn cc, .slice aa an ac]] w fun e w' => e = .returned (.bool (nmB m)) ∧ Below w.heap.size w w' := by
  have NF : Hid (∀ W, Calls Tryd.prog 36 #[.string f] W fun e w' => e = .returned (.bool true) ∧ w' = W) := fun W => hf ▸ rname_calls f W
  clear hf
  have H1 : Hid (∀ W, Calls Tryd.prog 23 #[.int .i64 k, .int .i64 2] W fun e w' => e = .returned (.bool true) ∧ Below W.heap.size W w') := fun W => h1 ▸ has_1 k W
  clear h1
  have NQ : Hid (∀ W, Calls Tryd.prog 36 #[.string q] W fun e w' => e = .returned (.bool true) ∧ w' = W) := fun W => hq ▸ rname_calls q W
  clear hq
  have VC : Hid (∀ W, Below w.heap.size w W → _) := fun W hB => rcheck_calls (n + 1) (.agg #[.int .i64 vk, .int .i64 vx, .int .u64 vb, .string vs, .slice la ll lc]) tv W (hv.below hB)
  clear hv
  have H2 : Hid (∀ W, Calls Tryd.prog 23 #[.int .i64 k, .int .i64 4] W fun e w' => e = .returned (.bool true) ∧ Below W.heap.size W w') := fun W => h2 ▸ has_2 k W
  clear h2
  have NM : Hid (∀ W, _) := fun W => rname_calls m W
  have HB : Hid (Below w.heap.size w (w.alloc (.cells #[.int .i64 k, .string f, .string q, .string m, .int .i64 vk, .int .i64 vx, .int .u64 vb, .string vs, .slice la ll lc, .int .i64 ru, .int .i64 nu, .int .i64 wa, .int .i64 pf, .int .u64 (pc : Int), .int .i64 pm, .slice ca cn cc, .slice aa an ac] 31))) := bel1 _ _
  have HX : Hid (AtR (w.alloc (.cells #[.int .i64 k, .string f, .string q, .string m, .int .i64 vk, .int .i64 vx, .int .u64 vb, .string vs, .slice la ll lc, .int .i64 ru, .int .i64 nu, .int .i64 wa, .int .i64 pf, .int .u64 (pc : Int), .int .i64 pm, .slice ca cn cc, .slice aa an ac] 31)) w.heap.size k f q m vk vx vb vs la ll lc ru nu wa pf pc pm ca cn cc aa an ac) := AtR.box w k f q m vk vx vb vs la ll lc ru nu wa pf pc pm ca cn cc aa an ac
  generalize hW0 : w.alloc (.cells #[.int .i64 k, .string f, .string q, .string m, .int .i64 vk, .int .i64 vx, .int .u64 vb, .string vs, .slice la ll lc, .int .i64 ru, .int .i64 nu, .int .i64 wa, .int .i64 pf, .int .u64 (pc : Int), .int .i64 pm, .slice ca cn cc, .slice aa an ac] 31) = W1 at HB HX
  have H0 : Hid (w.alloc (.cells #[.int .i64 k, .string f, .string q, .string m, .int .i64 vk, .int .i64 vx, .int .u64 vb, .string vs, .slice la ll lc, .int .i64 ru, .int .i64 nu, .int .i64 wa, .int .i64 pf, .int .u64 (pc : Int), .int .i64 pm, .slice ca cn cc, .slice aa an ac] 31) = W1) := hW0
  clear hW0
  go_enter Tryd.func21, Tryd.ntmps21
  go_upto_region 1 with fail
  rw [H0.out]
  clear H0
  obtain ⟨x0, x1, x2, x3, x4, x5, x6, x7, x8, x9, x10, x11, x12, x13, x14, x15, x16⟩ := HX.out
  clear x9 x10 x11 x12 x13 x14 x15 x16
  go_upto_region 2 with fail
  clear x0
  go_wp2_with fail
  refine Calls.mono (NF.out _) ?_
  rintro e wn ⟨rfl, e1⟩
  have e2 := e1.symm
  subst e2
  clear e1
  go_wp2_with fail
  refine Calls.mono (H1.out _) ?_
  rintro e y1 ⟨rfl, hb⟩
  replace HX : Hid (AtR y1 w.heap.size k f q m vk vx vb vs la ll lc ru nu wa pf pc pm ca cn cc aa an ac) := HX.out.below hb
  replace HB : Hid (Below w.heap.size w y1) := bel2 HB.out hb
  clear hb
  clear x1 x2 x3 x4 x5 x6 x7 x8
  obtain ⟨x0, x1, x2, x3, x4, x5, x6, x7, x8, x9, x10, x11, x12, x13, x14, x15, x16⟩ := HX.out
  clear x0 x9 x10 x11 x12 x13 x14 x15 x16
  go_wp2_with fail
  refine Calls.mono (NQ.out _) ?_
  rintro e wn ⟨rfl, e1⟩
  have e2 := e1.symm
  subst e2
  clear e1
  go_wp2_with fail
  refine Calls.mono (VC.out _ HB.out) ?_
  rintro e y2 ⟨⟨r, rfl, r1, r2⟩, hb⟩
  replace HX : Hid (AtR y2 w.heap.size k f q m vk vx vb vs la ll lc ru nu wa pf pc pm ca cn cc aa an ac) := HX.out.below hb
  replace HB : Hid (Below w.heap.size w y2) := bel2 HB.out hb
  clear hb
  clear x1 x2 x3 x4 x5 x6 x7 x8
  obtain ⟨x0, x1, x2, x3, x4, x5, x6, x7, x8, x9, x10, x11, x12, x13, x14, x15, x16⟩ := HX.out
  clear x0 x9 x10 x11 x12 x13 x14 x15 x16
  obtain rfl := r1 hm
  clear r1 r2 hm
  go_wp2_with fail
  refine Calls.mono (H2.out _) ?_
  rintro e y3 ⟨rfl, hb⟩
  replace HX : Hid (AtR y3 w.heap.size k f q m vk vx vb vs la ll lc ru nu wa pf pc pm ca cn cc aa an ac) := HX.out.below hb
  replace HB : Hid (Below w.heap.size w y3) := bel2 HB.out hb
  clear hb
  clear x1 x2 x3 x4 x5 x6 x7 x8
  obtain ⟨x0, x1, x2, x3, x4, x5, x6, x7, x8, x9, x10, x11, x12, x13, x14, x15, x16⟩ := HX.out
  clear x0 x9 x10 x11 x12 x13 x14 x15 x16
  go_wp2_with fail
  refine Calls.mono (NM.out _) ?_
  rintro e wn ⟨rfl, e1⟩
  have e2 := e1.symm
  subst e2
  clear e1
  go_wp2_with fail
  go_ret
  exact ⟨rfl, HB.out⟩
/-- What the reference's named says. -/
def NmR (n : Nat) (tv : Tv) (k : Int) (f q m : ByteArray) : Prop := nmB f = true ∧ (hs k 1 = true → nmB q = true) ∧ May (n + 1) tv ∧ (if k = 7 ∨ k = 12 then m.size ≤ 200 else hs k 2 = true → nmB m = true)
theorem rnamed_calls (n : Nat) (tv : Tv) (k : Int) (f q m : ByteArray) (vk vx vb : Int) (vs : ByteArray) (la : Option Addr) (ll lc : Nat) (ru nu wa pf : Int) (pc : Nat) (pm : Int) (ca : Option Addr) (cn cc : Nat) (aa : Option Addr) (an ac : Nat) (w : World) (hv : Is w (n + 1) (.agg #[.int .i64 vk, .int .i64 vx, .int .u64 vb, .string vs, .slice la ll lc]) tv) : Calls Tryd.prog 21 #[.agg #[.int .i64 k, .string f, .string q, .string m, .int .i64 vk, .int .i64 vx, .int .u64 vb, .string vs, .slice la ll lc, .int .i64 ru, .int .i64 nu, .int .i64 wa, .int .i64 pf, .int .u64 (pc : Int), .int .i64 pm, .slice ca cn cc, .slice aa an ac]] w (FitP (NmR n tv k f q m) w) := by
  have fin : ∀ (b : Bool), (b = true ↔ NmR n tv k f q m) → (Calls Tryd.prog 21 #[.agg #[.int .i64 k, .string f, .string q, .string m, .int .i64 vk, .int .i64 vx, .int .u64 vb, .string vs, .slice la ll lc, .int .i64 ru, .int .i64 nu, .int .i64 wa, .int .i64 pf, .int .u64 (pc : Int), .int .i64 pm, .slice ca cn cc, .slice aa an ac]] w fun e w' => e = .returned (.bool b) ∧ Below w.heap.size w w') → Calls Tryd.prog 21 #[.agg #[.int .i64 k, .string f, .string q, .string m, .int .i64 vk, .int .i64 vx, .int .u64 vb, .string vs, .slice la ll lc, .int .i64 ru, .int .i64 nu, .int .i64 wa, .int .i64 pf, .int .u64 (pc : Int), .int .i64 pm, .slice ca cn cc, .slice aa an ac]] w (FitP (NmR n tv k f q m) w) := fun b hb h => h.mono fun e w' hh => ⟨⟨b, hh.1, hb⟩, hh.2⟩
  cases hf : nmB f
  · exact fin false (by unfold NmR; simp [hf]) (nd_f n tv k f q m vk vx vb vs la ll lc ru nu wa pf pc pm ca cn cc aa an ac w hv hf)
  by_cases hm : May (n + 1) tv
  · cases h1 : hs k 1
    · by_cases k7 : k = 7
      · exact fin _ (by unfold NmR; rw [if_pos (.inl k7)]; simp [hf, h1, hm]) (nd_70 n tv k f q m vk vx vb vs la ll lc ru nu wa pf pc pm ca cn cc aa an ac w hv hf h1 hm k7)
      by_cases k12 : k = 12
      · exact fin _ (by unfold NmR; rw [if_pos (.inr k12)]; simp [hf, h1, hm]) (nd_120 n tv k f q m vk vx vb vs la ll lc ru nu wa pf pc pm ca cn cc aa an ac w hv hf h1 hm k12)
      cases h2 : hs k 2
      · exact fin true (by unfold NmR; rw [if_neg (fun h => h.elim k7 k12)]; simp [hf, h1, hm, h2]) (nd_o00 n tv k f q m vk vx vb vs la ll lc ru nu wa pf pc pm ca cn cc aa an ac w hv hf h1 hm (by simpa using k7) (by simpa using k12) h2)
      · exact fin _ (by unfold NmR; rw [if_neg (fun h => h.elim k7 k12)]; simp [hf, h1, hm, h2]) (nd_o01 n tv k f q m vk vx vb vs la ll lc ru nu wa pf pc pm ca cn cc aa an ac w hv hf h1 hm (by simpa using k7) (by simpa using k12) h2)
    · cases hq : nmB q
      · exact fin false (by unfold NmR; simp [hf, h1, hq]) (nd_q n tv k f q m vk vx vb vs la ll lc ru nu wa pf pc pm ca cn cc aa an ac w hv hf h1 hq)
      · by_cases k7 : k = 7
        · exact fin _ (by unfold NmR; rw [if_pos (.inl k7)]; simp [hf, h1, hq, hm]) (nd_71 n tv k f q m vk vx vb vs la ll lc ru nu wa pf pc pm ca cn cc aa an ac w hv hf h1 hq hm k7)
        by_cases k12 : k = 12
        · exact fin _ (by unfold NmR; rw [if_pos (.inr k12)]; simp [hf, h1, hq, hm]) (nd_121 n tv k f q m vk vx vb vs la ll lc ru nu wa pf pc pm ca cn cc aa an ac w hv hf h1 hq hm k12)
        cases h2 : hs k 2
        · exact fin true (by unfold NmR; rw [if_neg (fun h => h.elim k7 k12)]; simp [hf, h1, hq, hm, h2]) (nd_o10 n tv k f q m vk vx vb vs la ll lc ru nu wa pf pc pm ca cn cc aa an ac w hv hf h1 hq hm (by simpa using k7) (by simpa using k12) h2)
        · exact fin _ (by unfold NmR; rw [if_neg (fun h => h.elim k7 k12)]; simp [hf, h1, hq, hm, h2]) (nd_o11 n tv k f q m vk vx vb vs la ll lc ru nu wa pf pc pm ca cn cc aa an ac w hv hf h1 hq hm (by simpa using k7) (by simpa using k12) h2)
  · cases h1 : hs k 1
    · exact fin false (by unfold NmR; simp [hm]) (nd_v0 n tv k f q m vk vx vb vs la ll lc ru nu wa pf pc pm ca cn cc aa an ac w hv hf h1 hm)
    · cases hq : nmB q
      · exact fin false (by unfold NmR; simp [hf, h1, hq]) (nd_q n tv k f q m vk vx vb vs la ll lc ru nu wa pf pc pm ca cn cc aa an ac w hv hf h1 hq)
      · exact fin false (by unfold NmR; simp [hm]) (nd_v1 n tv k f q m vk vx vb vs la ll lc ru nu wa pf pc pm ca cn cc aa an ac w hv hf h1 hq hm)
end Go.Proofs.YtddigndamimmpaaDoor
