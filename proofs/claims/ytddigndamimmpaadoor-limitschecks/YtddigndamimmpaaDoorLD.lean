/- limits: textsFit, numbersFit. -/
import Derived.Test.YtddigndamimmpaaDoorLC
namespace Go.Proofs.YtddigndamimmpaaDoor
open Go.ChangeShapes Go.WideShapes Go.ChangeAt Go.RowKit
def txt (h1 h2 : Bool) (k : Int) (f q m : ByteArray) : Bool := nmB f && (!h1 || nmB q) && (if h2 then (if k == 7 || k == 12 then decide (m.size ≤ 200) else nmB m) else true)
set_option maxHeartbeats 1000000 in
theorem tx_f (k : Int) (f q m : ByteArray) (vk vx vb : Int) (vs : ByteArray) (la : Option Addr) (ll lc : Nat) (ru nu wa pf : Int) (pc : Nat) (pm : Int) (ca : Option Addr) (cn cc : Nat) (aa : Option Addr) (an ac : Nat) (hx : Int) (hf : nmB f = false) (w : World) : Calls Tryd.prog 14 #[.agg #[.int .i64 k, .string f, .string q, .string m, .int .i64 vk, .int .i64 vx, .int .u64 vb, .string vs, .slice la ll lc, .int .i64 ru, .int .i64 nu, .int .i64 wa, .int .i64 pf, .int .u64 (pc : Int), .int .i64 pm, .slice ca cn cc, .slice aa an ac, .int .i64 hx]] w fun e w' => e = .returned (.bool false) ∧ Below w.heap.size w w' := by
  have HB : Hid (Below w.heap.size w (w.alloc (.cells #[.int .i64 k, .string f, .string q, .string m, .int .i64 vk, .int .i64 vx, .int .u64 vb, .string vs, .slice la ll lc, .int .i64 ru, .int .i64 nu, .int .i64 wa, .int .i64 pf, .int .u64 (pc : Int), .int .i64 pm, .slice ca cn cc, .slice aa an ac, .int .i64 hx] 42))) := bel1 _ _
  have HX : Hid (AtQ (w.alloc (.cells #[.int .i64 k, .string f, .string q, .string m, .int .i64 vk, .int .i64 vx, .int .u64 vb, .string vs, .slice la ll lc, .int .i64 ru, .int .i64 nu, .int .i64 wa, .int .i64 pf, .int .u64 (pc : Int), .int .i64 pm, .slice ca cn cc, .slice aa an ac, .int .i64 hx] 42)) w.heap.size k f q m vk vx vb vs la ll lc ru nu wa pf pc pm ca cn cc aa an ac hx) := AtQ.box w k f q m vk vx vb vs la ll lc ru nu wa pf pc pm ca cn cc aa an ac hx
  have NF : Hid (∀ W, Calls Tryd.prog 28 #[.string f] W fun e w' => e = .returned (.bool false) ∧ w' = W) := fun W => hf ▸ name_calls f W
  clear hf
  obtain ⟨x0, x1, x2, x3, x4, x5, x6, x7, x8, x9, x10, x11, x12, x13, x14, x15, x16, x17⟩ := HX.out
  go_enter Tryd.func14, Tryd.ntmps14
  go_wp2_with fail
  refine Calls.mono (NF.out _) ?_
  rintro e w1 ⟨rfl, rfl⟩
  go_wp2_with fail
  go_ret
  exact ⟨rfl, HB.out⟩
set_option maxHeartbeats 1000000 in
theorem tx_q (k : Int) (f q m : ByteArray) (vk vx vb : Int) (vs : ByteArray) (la : Option Addr) (ll lc : Nat) (ru nu wa pf : Int) (pc : Nat) (pm : Int) (ca : Option Addr) (cn cc : Nat) (aa : Option Addr) (an ac : Nat) (hx : Int) (hf : nmB f = true) (A1 : bits BinOp.and IntKind.i64 hx 2 = 2) (hq : nmB q = false) (w : World) : Calls Tryd.prog 14 #[.agg #[.int .i64 k, .string f, .string q, .string m, .int .i64 vk, .int .i64 vx, .int .u64 vb, .string vs, .slice la ll lc, .int .i64 ru, .int .i64 nu, .int .i64 wa, .int .i64 pf, .int .u64 (pc : Int), .int .i64 pm, .slice ca cn cc, .slice aa an ac, .int .i64 hx]] w fun e w' => e = .returned (.bool false) ∧ Below w.heap.size w w' := by
  have HB : Hid (Below w.heap.size w (w.alloc (.cells #[.int .i64 k, .string f, .string q, .string m, .int .i64 vk, .int .i64 vx, .int .u64 vb, .string vs, .slice la ll lc, .int .i64 ru, .int .i64 nu, .int .i64 wa, .int .i64 pf, .int .u64 (pc : Int), .int .i64 pm, .slice ca cn cc, .slice aa an ac, .int .i64 hx] 42))) := bel1 _ _
  have HX : Hid (AtQ (w.alloc (.cells #[.int .i64 k, .string f, .string q, .string m, .int .i64 vk, .int .i64 vx, .int .u64 vb, .string vs, .slice la ll lc, .int .i64 ru, .int .i64 nu, .int .i64 wa, .int .i64 pf, .int .u64 (pc : Int), .int .i64 pm, .slice ca cn cc, .slice aa an ac, .int .i64 hx] 42)) w.heap.size k f q m vk vx vb vs la ll lc ru nu wa pf pc pm ca cn cc aa an ac hx) := AtQ.box w k f q m vk vx vb vs la ll lc ru nu wa pf pc pm ca cn cc aa an ac hx
  have NF : Hid (∀ W, Calls Tryd.prog 28 #[.string f] W fun e w' => e = .returned (.bool true) ∧ w' = W) := fun W => hf ▸ name_calls f W
  clear hf
  have NQ : Hid (∀ W, Calls Tryd.prog 28 #[.string q] W fun e w' => e = .returned (.bool false) ∧ w' = W) := fun W => hq ▸ name_calls q W
  clear hq
  obtain ⟨x0, x1, x2, x3, x4, x5, x6, x7, x8, x9, x10, x11, x12, x13, x14, x15, x16, x17⟩ := HX.out
  go_enter Tryd.func14, Tryd.ntmps14
  go_wp2_with fail
  refine Calls.mono (NF.out _) ?_
  rintro e w1 ⟨rfl, rfl⟩
  go_wp2_with fail
  refine Calls.mono (NQ.out _) ?_
  rintro e w1 ⟨rfl, rfl⟩
  go_wp2_with fail
  go_ret
  exact ⟨rfl, HB.out⟩
set_option maxHeartbeats 1000000 in
theorem tx_n0 (k : Int) (f q m : ByteArray) (vk vx vb : Int) (vs : ByteArray) (la : Option Addr) (ll lc : Nat) (ru nu wa pf : Int) (pc : Nat) (pm : Int) (ca : Option Addr) (cn cc : Nat) (aa : Option Addr) (an ac : Nat) (hx : Int) (hf : nmB f = true) (A1 : bits BinOp.and IntKind.i64 hx 2 = 0) (A2 : bits BinOp.and IntKind.i64 hx 4 = 0) (w : World) : Calls Tryd.prog 14 #[.agg #[.int .i64 k, .string f, .string q, .string m, .int .i64 vk, .int .i64 vx, .int .u64 vb, .string vs, .slice la ll lc, .int .i64 ru, .int .i64 nu, .int .i64 wa, .int .i64 pf, .int .u64 (pc : Int), .int .i64 pm, .slice ca cn cc, .slice aa an ac, .int .i64 hx]] w fun e w' => e = .returned (.bool true) ∧ Below w.heap.size w w' := by
  have HB : Hid (Below w.heap.size w (w.alloc (.cells #[.int .i64 k, .string f, .string q, .string m, .int .i64 vk, .int .i64 vx, .int .u64 vb, .string vs, .slice la ll lc, .int .i64 ru, .int .i64 nu, .int .i64 wa, .int .i64 pf, .int .u64 (pc : Int), .int .i64 pm, .slice ca cn cc, .slice aa an ac, .int .i64 hx] 42))) := bel1 _ _
  have HX : Hid (AtQ (w.alloc (.cells #[.int .i64 k, .string f, .string q, .string m, .int .i64 vk, .int .i64 vx, .int .u64 vb, .string vs, .slice la ll lc, .int .i64 ru, .int .i64 nu, .int .i64 wa, .int .i64 pf, .int .u64 (pc : Int), .int .i64 pm, .slice ca cn cc, .slice aa an ac, .int .i64 hx] 42)) w.heap.size k f q m vk vx vb vs la ll lc ru nu wa pf pc pm ca cn cc aa an ac hx) := AtQ.box w k f q m vk vx vb vs la ll lc ru nu wa pf pc pm ca cn cc aa an ac hx
  have NF : Hid (∀ W, Calls Tryd.prog 28 #[.string f] W fun e w' => e = .returned (.bool true) ∧ w' = W) := fun W => hf ▸ name_calls f W
  clear hf
  obtain ⟨x0, x1, x2, x3, x4, x5, x6, x7, x8, x9, x10, x11, x12, x13, x14, x15, x16, x17⟩ := HX.out
  go_enter Tryd.func14, Tryd.ntmps14
  go_wp2_with fail
  refine Calls.mono (NF.out _) ?_
  rintro e w1 ⟨rfl, rfl⟩
  go_wp2_with fail
  go_ret
  exact ⟨rfl, HB.out⟩
set_option maxHeartbeats 1000000 in
theorem tx_70 (k : Int) (f q m : ByteArray) (vk vx vb : Int) (vs : ByteArray) (la : Option Addr) (ll lc : Nat) (ru nu wa pf : Int) (pc : Nat) (pm : Int) (ca : Option Addr) (cn cc : Nat) (aa : Option Addr) (an ac : Nat) (hx : Int) (hf : nmB f = true) (A1 : bits BinOp.and IntKind.i64 hx 2 = 0) (A2 : bits BinOp.and IntKind.i64 hx 4 = 4) (k7 : k = 7) (w : World) : Calls Tryd.prog 14 #[.agg #[.int .i64 k, .string f, .string q, .string m, .int .i64 vk, .int .i64 vx, .int .u64 vb, .string vs, .slice la ll lc, .int .i64 ru, .int .i64 nu, .int .i64 wa, .int .i64 pf, .int .u64 (pc : Int), .int .i64 pm, .slice ca cn cc, .slice aa an ac, .int .i64 hx]] w fun e w' => e = .returned (.bool (decide (m.size ≤ 200))) ∧ Below w.heap.size w w' := by
  have HB : Hid (Below w.heap.size w (w.alloc (.cells #[.int .i64 k, .string f, .string q, .string m, .int .i64 vk, .int .i64 vx, .int .u64 vb, .string vs, .slice la ll lc, .int .i64 ru, .int .i64 nu, .int .i64 wa, .int .i64 pf, .int .u64 (pc : Int), .int .i64 pm, .slice ca cn cc, .slice aa an ac, .int .i64 hx] 42))) := bel1 _ _
  have HX : Hid (AtQ (w.alloc (.cells #[.int .i64 k, .string f, .string q, .string m, .int .i64 vk, .int .i64 vx, .int .u64 vb, .string vs, .slice la ll lc, .int .i64 ru, .int .i64 nu, .int .i64 wa, .int .i64 pf, .int .u64 (pc : Int), .int .i64 pm, .slice ca cn cc, .slice aa an ac, .int .i64 hx] 42)) w.heap.size k f q m vk vx vb vs la ll lc ru nu wa pf pc pm ca cn cc aa an ac hx) := AtQ.box w k f q m vk vx vb vs la ll lc ru nu wa pf pc pm ca cn cc aa an ac hx
  have NF : Hid (∀ W, Calls Tryd.prog 28 #[.string f] W fun e w' => e = .returned (.bool true) ∧ w' = W) := fun W => hf ▸ name_calls f W
  clear hf
  have TM : Hid (∀ W, _) := fun W => text40_calls m W
  subst k7
  obtain ⟨x0, x1, x2, x3, x4, x5, x6, x7, x8, x9, x10, x11, x12, x13, x14, x15, x16, x17⟩ := HX.out
  go_enter Tryd.func14, Tryd.ntmps14
  go_wp2_with fail
  refine Calls.mono (NF.out _) ?_
  rintro e w1 ⟨rfl, rfl⟩
  go_wp2_with fail
  refine Calls.mono (TM.out _) ?_
  rintro e w1 ⟨rfl, rfl⟩
  go_wp2_with fail
  go_ret
  exact ⟨rfl, HB.out⟩
set_option maxHeartbeats 1000000 in
theorem tx_120 (k : Int) (f q m : ByteArray) (vk vx vb : Int) (vs : ByteArray) (la : Option Addr) (ll lc : Nat) (ru nu wa pf : Int) (pc : Nat) (pm : Int) (ca : Option Addr) (cn cc : Nat) (aa : Option Addr) (an ac : Nat) (hx : Int) (hf : nmB f = true) (A1 : bits BinOp.and IntKind.i64 hx 2 = 0) (A2 : bits BinOp.and IntKind.i64 hx 4 = 4) (k12 : k = 12) (w : World) : Calls Tryd.prog 14 #[.agg #[.int .i64 k, .string f, .string q, .string m, .int .i64 vk, .int .i64 vx, .int .u64 vb, .string vs, .slice la ll lc, .int .i64 ru, .int .i64 nu, .int .i64 wa, .int .i64 pf, .int .u64 (pc : Int), .int .i64 pm, .slice ca cn cc, .slice aa an ac, .int .i64 hx]] w fun e w' => e = .returned (.bool (decide (m.size ≤ 200))) ∧ Below w.heap.size w w' := by
  have HB : Hid (Below w.heap.size w (w.alloc (.cells #[.int .i64 k, .string f, .string q, .string m, .int .i64 vk, .int .i64 vx, .int .u64 vb, .string vs, .slice la ll lc, .int .i64 ru, .int .i64 nu, .int .i64 wa, .int .i64 pf, .int .u64 (pc : Int), .int .i64 pm, .slice ca cn cc, .slice aa an ac, .int .i64 hx] 42))) := bel1 _ _
  have HX : Hid (AtQ (w.alloc (.cells #[.int .i64 k, .string f, .string q, .string m, .int .i64 vk, .int .i64 vx, .int .u64 vb, .string vs, .slice la ll lc, .int .i64 ru, .int .i64 nu, .int .i64 wa, .int .i64 pf, .int .u64 (pc : Int), .int .i64 pm, .slice ca cn cc, .slice aa an ac, .int .i64 hx] 42)) w.heap.size k f q m vk vx vb vs la ll lc ru nu wa pf pc pm ca cn cc aa an ac hx) := AtQ.box w k f q m vk vx vb vs la ll lc ru nu wa pf pc pm ca cn cc aa an ac hx
  have NF : Hid (∀ W, Calls Tryd.prog 28 #[.string f] W fun e w' => e = .returned (.bool true) ∧ w' = W) := fun W => hf ▸ name_calls f W
  clear hf
  have TM : Hid (∀ W, _) := fun W => text40_calls m W
  subst k12
  obtain ⟨x0, x1, x2, x3, x4, x5, x6, x7, x8, x9, x10, x11, x12, x13, x14, x15, x16, x17⟩ := HX.out
  go_enter Tryd.func14, Tryd.ntmps14
  go_wp2_with fail
  refine Calls.mono (NF.out _) ?_
  rintro e w1 ⟨rfl, rfl⟩
  go_wp2_with fail
  refine Calls.mono (TM.out _) ?_
  rintro e w1 ⟨rfl, rfl⟩
  go_wp2_with fail
  go_ret
  exact ⟨rfl, HB.out⟩
set_option maxHeartbeats 1000000 in
theorem tx_o0 (k : Int) (f q m : ByteArray) (vk vx vb : Int) (vs : ByteArray) (la : Option Addr) (ll lc : Nat) (ru nu wa pf : Int) (pc : Nat) (pm : Int) (ca : Option Addr) (cn cc : Nat) (aa : Option Addr) (an ac : Nat) (hx : Int) (hf : nmB f = true) (A1 : bits BinOp.and IntKind.i64 hx 2 = 0) (A2 : bits BinOp.and IntKind.i64 hx 4 = 4) (k7 : (k == 7) = false) (k12 : (k == 12) = false) (w : World) : Calls Tryd.prog 14 #[.agg #[.int .i64 k, .string f, .string q, .string m, .int .i64 vk, .int .i64 vx, .int .u64 vb, .string vs, .slice la ll lc, .int .i64 ru, .int .i64 nu, .int .i64 wa, .int .i64 pf, .int .u64 (pc : Int), .int .i64 pm, .slice ca cn cc, .slice aa an ac, .int .i64 hx]] w fun e w' => e = .returned (.bool (nmB m)) ∧ Below w.heap.size w w' := by
  have HB : Hid (Below w.heap.size w (w.alloc (.cells #[.int .i64 k, .string f, .string q, .string m, .int .i64 vk, .int .i64 vx, .int .u64 vb, .string vs, .slice la ll lc, .int .i64 ru, .int .i64 nu, .int .i64 wa, .int .i64 pf, .int .u64 (pc : Int), .int .i64 pm, .slice ca cn cc, .slice aa an ac, .int .i64 hx] 42))) := bel1 _ _
  have HX : Hid (AtQ (w.alloc (.cells #[.int .i64 k, .string f, .string q, .string m, .int .i64 vk, .int .i64 vx, .int .u64 vb, .string vs, .slice la ll lc, .int .i64 ru, .int .i64 nu, .int .i64 wa, .int .i64 pf, .int .u64 (pc : Int), .int .i64 pm, .slice ca cn cc, .slice aa an ac, .int .i64 hx] 42)) w.heap.size k f q m vk vx vb vs la ll lc ru nu wa pf pc pm ca cn cc aa an ac hx) := AtQ.box w k f q m vk vx vb vs la ll lc ru nu wa pf pc pm ca cn cc aa an ac hx
  have NF : Hid (∀ W, Calls Tryd.prog 28 #[.string f] W fun e w' => e = .returned (.bool true) ∧ w' = W) := fun W => hf ▸ name_calls f W
  clear hf
  have NM : Hid (∀ W, _) := fun W => name_calls m W
  obtain ⟨x0, x1, x2, x3, x4, x5, x6, x7, x8, x9, x10, x11, x12, x13, x14, x15, x16, x17⟩ := HX.out
  go_enter Tryd.func14, Tryd.ntmps14
  go_wp2_with fail
  refine Calls.mono (NF.out _) ?_
  rintro e w1 ⟨rfl, rfl⟩
  go_wp2_with fail
  refine Calls.mono (NM.out _) ?_
  rintro e w1 ⟨rfl, rfl⟩
  go_wp2_with fail
  go_ret
  exact ⟨rfl, HB.out⟩
set_option maxHeartbeats 1000000 in
theorem tx_n1 (k : Int) (f q m : ByteArray) (vk vx vb : Int) (vs : ByteArray) (la : Option Addr) (ll lc : Nat) (ru nu wa pf : Int) (pc : Nat) (pm : Int) (ca : Option Addr) (cn cc : Nat) (aa : Option Addr) (an ac : Nat) (hx : Int) (hf : nmB f = true) (A1 : bits BinOp.and IntKind.i64 hx 2 = 2) (hq : nmB q = true) (A2 : bits BinOp.and IntKind.i64 hx 4 = 0) (w : World) : Calls Tryd.prog 14 #[.agg #[.int .i64 k, .string f, .string q, .string m, .int .i64 vk, .int .i64 vx, .int .u64 vb, .string vs, .slice la ll lc, .int .i64 ru, .int .i64 nu, .int .i64 wa, .int .i64 pf, .int .u64 (pc : Int), .int .i64 pm, .slice ca cn cc, .slice aa an ac, .int .i64 hx]] w fun e w' => e = .returned (.bool true) ∧ Below w.heap.size w w' := by
  have HB : Hid (Below w.heap.size w (w.alloc (.cells #[.int .i64 k, .string f, .string q, .string m, .int .i64 vk, .int .i64 vx, .int .u64 vb, .string vs, .slice la ll lc, .int .i64 ru, .int .i64 nu, .int .i64 wa, .int .i64 pf, .int .u64 (pc : Int), .int .i64 pm, .slice ca cn cc, .slice aa an ac, .int .i64 hx] 42))) := bel1 _ _
  have HX : Hid (AtQ (w.alloc (.cells #[.int .i64 k, .string f, .string q, .string m, .int .i64 vk, .int .i64 vx, .int .u64 vb, .string vs, .slice la ll lc, .int .i64 ru, .int .i64 nu, .int .i64 wa, .int .i64 pf, .int .u64 (pc : Int), .int .i64 pm, .slice ca cn cc, .slice aa an ac, .int .i64 hx] 42)) w.heap.size k f q m vk vx vb vs la ll lc ru nu wa pf pc pm ca cn cc aa an ac hx) := AtQ.box w k f q m vk vx vb vs la ll lc ru nu wa pf pc pm ca cn cc aa an ac hx
  have NF : Hid (∀ W, Calls Tryd.prog 28 #[.string f] W fun e w' => e = .returned (.bool true) ∧ w' = W) := fun W => hf ▸ name_calls f W
  clear hf
  have NQ : Hid (∀ W, Calls Tryd.prog 28 #[.string q] W fun e w' => e = .returned (.bool true) ∧ w' = W) := fun W => hq ▸ name_calls q W
  clear hq
  obtain ⟨x0, x1, x2, x3, x4, x5, x6, x7, x8, x9, x10, x11, x12, x13, x14, x15, x16, x17⟩ := HX.out
  go_enter Tryd.func14, Tryd.ntmps14
  go_wp2_with fail
  refine Calls.mono (NF.out _) ?_
  rintro e w1 ⟨rfl, rfl⟩
  go_wp2_with fail
  refine Calls.mono (NQ.out _) ?_
  rintro e w1 ⟨rfl, rfl⟩
  go_wp2_with fail
  go_ret
  exact ⟨rfl, HB.out⟩
set_option maxHeartbeats 1000000 in
theorem tx_71 (k : Int) (f q m : ByteArray) (vk vx vb : Int) (vs : ByteArray) (la : Option Addr) (ll lc : Nat) (ru nu wa pf : Int) (pc : Nat) (pm : Int) (ca : Option Addr) (cn cc : Nat) (aa : Option Addr) (an ac : Nat) (hx : Int) (hf : nmB f = true) (A1 : bits BinOp.and IntKind.i64 hx 2 = 2) (hq : nmB q = true) (A2 : bits BinOp.and IntKind.i64 hx 4 = 4) (k7 : k = 7) (w : World) : Calls Tryd.prog 14 #[.agg #[.int .i64 k, .string f, .string q, .string m, .int .i64 vk, .int .i64 vx, .int .u64 vb, .string vs, .slice la ll lc, .int .i64 ru, .int .i64 nu, .int .i64 wa, .int .i64 pf, .int .u64 (pc : Int), .int .i64 pm, .slice ca cn cc, .slice aa an ac, .int .i64 hx]] w fun e w' => e = .returned (.bool (decide (m.size ≤ 200))) ∧ Below w.heap.size w w' := by
  have HB : Hid (Below w.heap.size w (w.alloc (.cells #[.int .i64 k, .string f, .string q, .string m, .int .i64 vk, .int .i64 vx, .int .u64 vb, .string vs, .slice la ll lc, .int .i64 ru, .int .i64 nu, .int .i64 wa, .int .i64 pf, .int .u64 (pc : Int), .int .i64 pm, .slice ca cn cc, .slice aa an ac, .int .i64 hx] 42))) := bel1 _ _
  have HX : Hid (AtQ (w.alloc (.cells #[.int .i64 k, .string f, .string q, .string m, .int .i64 vk, .int .i64 vx, .int .u64 vb, .string vs, .slice la ll lc, .int .i64 ru, .int .i64 nu, .int .i64 wa, .int .i64 pf, .int .u64 (pc : Int), .int .i64 pm, .slice ca cn cc, .slice aa an ac, .int .i64 hx] 42)) w.heap.size k f q m vk vx vb vs la ll lc ru nu wa pf pc pm ca cn cc aa an ac hx) := AtQ.box w k f q m vk vx vb vs la ll lc ru nu wa pf pc pm ca cn cc aa an ac hx
  have NF : Hid (∀ W, Calls Tryd.prog 28 #[.string f] W fun e w' => e = .returned (.bool true) ∧ w' = W) := fun W => hf ▸ name_calls f W
  clear hf
  have NQ : Hid (∀ W, Calls Tryd.prog 28 #[.string q] W fun e w' => e = .returned (.bool true) ∧ w' = W) := fun W => hq ▸ name_calls q W
  clear hq
  have TM : Hid (∀ W, _) := fun W => text40_calls m W
  subst k7
  obtain ⟨x0, x1, x2, x3, x4, x5, x6, x7, x8, x9, x10, x11, x12, x13, x14, x15, x16, x17⟩ := HX.out
  go_enter Tryd.func14, Tryd.ntmps14
  go_wp2_with fail
  refine Calls.mono (NF.out _) ?_
  rintro e w1 ⟨rfl, rfl⟩
  go_wp2_with fail
  refine Calls.mono (NQ.out _) ?_
  rintro e w1 ⟨rfl, rfl⟩
  go_wp2_with fail
  refine Calls.mono (TM.out _) ?_
  rintro e w1 ⟨rfl, rfl⟩
  go_wp2_with fail
  go_ret
  exact ⟨rfl, HB.out⟩
set_option maxHeartbeats 1000000 in
theorem tx_121 (k : Int) (f q m : ByteArray) (vk vx vb : Int) (vs : ByteArray) (la : Option Addr) (ll lc : Nat) (ru nu wa pf : Int) (pc : Nat) (pm : Int) (ca : Option Addr) (cn cc : Nat) (aa : Option Addr) (an ac : Nat) (hx : Int) (hf : nmB f = true) (A1 : bits BinOp.and IntKind.i64 hx 2 = 2) (hq : nmB q = true) (A2 : bits BinOp.and IntKind.i64 hx 4 = 4) (k12 : k = 12) (w : World) : Calls Tryd.prog 14 #[.agg #[.int .i64 k, .string f, .string q, .string m, .int .i64 vk, .int .i64 vx, .int .u64 vb, .string vs, .slice la ll lc, .int .i64 ru, .int .i64 nu, .int .i64 wa, .int .i64 pf, .int .u64 (pc : Int), .int .i64 pm, .slice ca cn cc, .slice aa an ac, .int .i64 hx]] w fun e w' => e = .returned (.bool (decide (m.size ≤ 200))) ∧ Below w.heap.size w w' := by
  have HB : Hid (Below w.heap.size w (w.alloc (.cells #[.int .i64 k, .string f, .string q, .string m, .int .i64 vk, .int .i64 vx, .int .u64 vb, .string vs, .slice la ll lc, .int .i64 ru, .int .i64 nu, .int .i64 wa, .int .i64 pf, .int .u64 (pc : Int), .int .i64 pm, .slice ca cn cc, .slice aa an ac, .int .i64 hx] 42))) := bel1 _ _
  have HX : Hid (AtQ (w.alloc (.cells #[.int .i64 k, .string f, .string q, .string m, .int .i64 vk, .int .i64 vx, .int .u64 vb, .string vs, .slice la ll lc, .int .i64 ru, .int .i64 nu, .int .i64 wa, .int .i64 pf, .int .u64 (pc : Int), .int .i64 pm, .slice ca cn cc, .slice aa an ac, .int .i64 hx] 42)) w.heap.size k f q m vk vx vb vs la ll lc ru nu wa pf pc pm ca cn cc aa an ac hx) := AtQ.box w k f q m vk vx vb vs la ll lc ru nu wa pf pc pm ca cn cc aa an ac hx
  have NF : Hid (∀ W, Calls Tryd.prog 28 #[.string f] W fun e w' => e = .returned (.bool true) ∧ w' = W) := fun W => hf ▸ name_calls f W
  clear hf
  have NQ : Hid (∀ W, Calls Tryd.prog 28 #[.string q] W fun e w' => e = .returned (.bool true) ∧ w' = W) := fun W => hq ▸ name_calls q W
  clear hq
  have TM : Hid (∀ W, _) := fun W => text40_calls m W
  subst k12
  obtain ⟨x0, x1, x2, x3, x4, x5, x6, x7, x8, x9, x10, x11, x12, x13, x14, x15, x16, x17⟩ := HX.out
  go_enter Tryd.func14, Tryd.ntmps14
  go_wp2_with fail
  refine Calls.mono (NF.out _) ?_
  rintro e w1 ⟨rfl, rfl⟩
  go_wp2_with fail
  refine Calls.mono (NQ.out _) ?_
  rintro e w1 ⟨rfl, rfl⟩
  go_wp2_with fail
  refine Calls.mono (TM.out _) ?_
  rintro e w1 ⟨rfl, rfl⟩
  go_wp2_with fail
  go_ret
  exact ⟨rfl, HB.out⟩
set_option maxHeartbeats 1000000 in
theorem tx_o1 (k : Int) (f q m : ByteArray) (vk vx vb : Int) (vs : ByteArray) (la : Option Addr) (ll lc : Nat) (ru nu wa pf : Int) (pc : Nat) (pm : Int) (ca : Option Addr) (cn cc : Nat) (aa : Option Addr) (an ac : Nat) (hx : Int) (hf : nmB f = true) (A1 : bits BinOp.and IntKind.i64 hx 2 = 2) (hq : nmB q = true) (A2 : bits BinOp.and IntKind.i64 hx 4 = 4) (k7 : (k == 7) = false) (k12 : (k == 12) = false) (w : World) : Calls Tryd.prog 14 #[.agg #[.int .i64 k, .string f, .string q, .string m, .int .i64 vk, .int .i64 vx, .int .u64 vb, .string vs, .slice la ll lc, .int .i64 ru, .int .i64 nu, .int .i64 wa, .int .i64 pf, .int .u64 (pc : Int), .int .i64 pm, .slice ca cn cc, .slice aa an ac, .int .i64 hx]] w fun e w' => e = .returned (.bool (nmB m)) ∧ Below w.heap.size w w' := by
  have HB : Hid (Below w.heap.size w (w.alloc (.cells #[.int .i64 k, .string f, .string q, .string m, .int .i64 vk, .int .i64 vx, .int .u64 vb, .string vs, .slice la ll lc, .int .i64 ru, .int .i64 nu, .int .i64 wa, .int .i64 pf, .int .u64 (pc : Int), .int .i64 pm, .slice ca cn cc, .slice aa an ac, .int .i64 hx] 42))) := bel1 _ _
  have HX : Hid (AtQ (w.alloc (.cells #[.int .i64 k, .string f, .string q, .string m, .int .i64 vk, .int .i64 vx, .int .u64 vb, .string vs, .slice la ll lc, .int .i64 ru, .int .i64 nu, .int .i64 wa, .int .i64 pf, .int .u64 (pc : Int), .int .i64 pm, .slice ca cn cc, .slice aa an ac, .int .i64 hx] 42)) w.heap.size k f q m vk vx vb vs la ll lc ru nu wa pf pc pm ca cn cc aa an ac hx) := AtQ.box w k f q m vk vx vb vs la ll lc ru nu wa pf pc pm ca cn cc aa an ac hx
  have NF : Hid (∀ W, Calls Tryd.prog 28 #[.string f] W fun e w' => e = .returned (.bool true) ∧ w' = W) := fun W => hf ▸ name_calls f W
  clear hf
  have NQ : Hid (∀ W, Calls Tryd.prog 28 #[.string q] W fun e w' => e = .returned (.bool true) ∧ w' = W) := fun W => hq ▸ name_calls q W
  clear hq
  have NM : Hid (∀ W, _) := fun W => name_calls m W
  obtain ⟨x0, x1, x2, x3, x4, x5, x6, x7, x8, x9, x10, x11, x12, x13, x14, x15, x16, x17⟩ := HX.out
  go_enter Tryd.func14, Tryd.ntmps14
  go_wp2_with fail
  refine Calls.mono (NF.out _) ?_
  rintro e w1 ⟨rfl, rfl⟩
  go_wp2_with fail
  refine Calls.mono (NQ.out _) ?_
  rintro e w1 ⟨rfl, rfl⟩
  go_wp2_with fail
  refine Calls.mono (NM.out _) ?_
  rintro e w1 ⟨rfl, rfl⟩
  go_wp2_with fail
  go_ret
  exact ⟨rfl, HB.out⟩
theorem textsFit_calls (h1 h2 : Bool) (k : Int) (f q m : ByteArray) (vk vx vb : Int) (vs : ByteArray) (la : Option Addr) (ll lc : Nat) (ru nu wa pf : Int) (pc : Nat) (pm : Int) (ca : Option Addr) (cn cc : Nat) (aa : Option Addr) (an ac : Nat) (hx : Int) (A1 : bits BinOp.and IntKind.i64 hx 2 = if h1 then 2 else 0) (A2 : bits BinOp.and IntKind.i64 hx 4 = if h2 then 4 else 0) (w : World) : Calls Tryd.prog 14 #[.agg #[.int .i64 k, .string f, .string q, .string m, .int .i64 vk, .int .i64 vx, .int .u64 vb, .string vs, .slice la ll lc, .int .i64 ru, .int .i64 nu, .int .i64 wa, .int .i64 pf, .int .u64 (pc : Int), .int .i64 pm, .slice ca cn cc, .slice aa an ac, .int .i64 hx]] w fun e w' => e = .returned (.bool (txt h1 h2 k f q m)) ∧ Below w.heap.size w w' := by
  unfold txt
  cases hf : nmB f
  · simpa using tx_f k f q m vk vx vb vs la ll lc ru nu wa pf pc pm ca cn cc aa an ac hx hf w
  cases h1
  · cases h2
    · simpa using tx_n0 k f q m vk vx vb vs la ll lc ru nu wa pf pc pm ca cn cc aa an ac hx hf A1 A2 w
    · by_cases k7 : k = 7
      · simpa [k7] using tx_70 k f q m vk vx vb vs la ll lc ru nu wa pf pc pm ca cn cc aa an ac hx hf A1 A2 k7 w
      by_cases k12 : k = 12
      · simpa [k12] using tx_120 k f q m vk vx vb vs la ll lc ru nu wa pf pc pm ca cn cc aa an ac hx hf A1 A2 k12 w
      · simpa [k7, k12] using tx_o0 k f q m vk vx vb vs la ll lc ru nu wa pf pc pm ca cn cc aa an ac hx hf A1 A2 (by simpa using k7) (by simpa using k12) w
  · cases hq : nmB q
    · simpa using tx_q k f q m vk vx vb vs la ll lc ru nu wa pf pc pm ca cn cc aa an ac hx hf A1 hq w
    cases h2
    · simpa using tx_n1 k f q m vk vx vb vs la ll lc ru nu wa pf pc pm ca cn cc aa an ac hx hf A1 hq A2 w
    · by_cases k7 : k = 7
      · simpa [k7] using tx_71 k f q m vk vx vb vs la ll lc ru nu wa pf pc pm ca cn cc aa an ac hx hf A1 hq A2 k7 w
      by_cases k12 : k = 12
      · simpa [k12] using tx_121 k f q m vk vx vb vs la ll lc ru nu wa pf pc pm ca cn cc aa an ac hx hf A1 hq A2 k12 w
      · simpa [k7, k12] using tx_o1 k f q m vk vx vb vs la ll lc ru nu wa pf pc pm ca cn cc aa an ac hx hf A1 hq A2 (by simpa using k7) (by simpa using k12) w
end Go.Proofs.YtddigndamimmpaaDoor
