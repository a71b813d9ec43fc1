/- limits: a request as it is asked, its box; hold, filled, textsFit. -/
import Derived.Test.YtddigndamimmpaaDoorLT
import Derived.Test.YtddigndamimmpaaDoorGA
import Derived.Deep.DeepCutAuto
import Derived.BigRegion
import Derived.Deep.RegionHeld3
namespace Go.Proofs.YtddigndamimmpaaDoor
open Go.ChangeShapes Go.WideShapes Go.ChangeAt Go.RowKit
/-- A request that is asked, with what its kind has, lies at B. -/
def AtQ (w : World) (B : Nat) (k : Int) (f q m : ByteArray) (vk vx vb : Int) (vs : ByteArray) (la : Option Addr) (ll lc : Nat) (ru nu wa pf : Int) (pc : Nat) (pm : Int) (ca : Option Addr) (cn cc : Nat) (aa : Option Addr) (an ac : Nat) (hx : Int) : Prop := w.cell? ⟨B, 0, none⟩ = some (.int .i64 k) ∧ w.cell? ⟨B, 1, none⟩ = some (.string f) ∧ w.cell? ⟨B, 2, none⟩ = some (.string q) ∧ w.cell? ⟨B, 3, none⟩ = some (.string m) ∧ w.cell? ⟨B, 4, none⟩ = some (.int .i64 vk) ∧ w.cell? ⟨B, 5, none⟩ = some (.int .i64 vx) ∧ w.cell? ⟨B, 6, none⟩ = some (.int .u64 vb) ∧ w.cell? ⟨B, 7, none⟩ = some (.string vs) ∧ w.cell? ⟨B, 8, none⟩ = some (.slice la ll lc) ∧ w.cell? ⟨B, 9, none⟩ = some (.int .i64 ru) ∧ w.cell? ⟨B, 10, none⟩ = some (.int .i64 nu) ∧ w.cell? ⟨B, 11, none⟩ = some (.int .i64 wa) ∧ w.cell? ⟨B, 12, none⟩ = some (.int .i64 pf) ∧ w.cell? ⟨B, 13, none⟩ = some (.int .u64 (pc : Int)) ∧ w.cell? ⟨B, 14, none⟩ = some (.int .i64 pm) ∧ w.cell? ⟨B, 15, none⟩ = some (.slice ca cn cc) ∧ w.cell? ⟨B, 16, none⟩ = some (.slice aa an ac) ∧ w.cell? ⟨B, 17, none⟩ = some (.int .i64 hx)
def AtR (w : World) (B : Nat) (k : Int) (f q m : ByteArray) (vk vx vb : Int) (vs : ByteArray) (la : Option Addr) (ll lc : Nat) (ru nu wa pf : Int) (pc : Nat) (pm : Int) (ca : Option Addr) (cn cc : Nat) (aa : Option Addr) (an ac : Nat) : Prop := w.cell? ⟨B, 0, none⟩ = some (.int .i64 k) ∧ w.cell? ⟨B, 1, none⟩ = some (.string f) ∧ w.cell? ⟨B, 2, none⟩ = some (.string q) ∧ w.cell? ⟨B, 3, none⟩ = some (.string m) ∧ w.cell? ⟨B, 4, none⟩ = some (.int .i64 vk) ∧ w.cell? ⟨B, 5, none⟩ = some (.int .i64 vx) ∧ w.cell? ⟨B, 6, none⟩ = some (.int .u64 vb) ∧ w.cell? ⟨B, 7, none⟩ = some (.string vs) ∧ w.cell? ⟨B, 8, none⟩ = some (.slice la ll lc) ∧ w.cell? ⟨B, 9, none⟩ = some (.int .i64 ru) ∧ w.cell? ⟨B, 10, none⟩ = some (.int .i64 nu) ∧ w.cell? ⟨B, 11, none⟩ = some (.int .i64 wa) ∧ w.cell? ⟨B, 12, none⟩ = some (.int .i64 pf) ∧ w.cell? ⟨B, 13, none⟩ = some (.int .u64 (pc : Int)) ∧ w.cell? ⟨B, 14, none⟩ = some (.int .i64 pm) ∧ w.cell? ⟨B, 15, none⟩ = some (.slice ca cn cc) ∧ w.cell? ⟨B, 16, none⟩ = some (.slice aa an ac)
theorem AtQ.below {w w' : World} {B : Nat} {k : Int} {f q m : ByteArray} {vk vx vb : Int} {vs : ByteArray} {la : Option Addr} {ll lc : Nat} {ru nu wa pf : Int} {pc : Nat} {pm : Int} {ca : Option Addr} {cn cc : Nat} {aa : Option Addr} {an ac : Nat} {hx : Int} (h : AtQ w B k f q m vk vx vb vs la ll lc ru nu wa pf pc pm ca cn cc aa an ac hx) (hb : Below w.heap.size w w') : AtQ w' B k f q m vk vx vb vs la ll lc ru nu wa pf pc pm ca cn cc aa an ac hx := by
  obtain ⟨x0, x1, x2, x3, x4, x5, x6, x7, x8, x9, x10, x11, x12, x13, x14, x15, x16, x17⟩ := h
  exact ⟨cellB x0 hb, cellB x1 hb, cellB x2 hb, cellB x3 hb, cellB x4 hb, cellB x5 hb, cellB x6 hb, cellB x7 hb, cellB x8 hb, cellB x9 hb, cellB x10 hb, cellB x11 hb, cellB x12 hb, cellB x13 hb, cellB x14 hb, cellB x15 hb, cellB x16 hb, cellB x17 hb⟩
theorem AtR.below {w w' : World} {B : Nat} {k : Int} {f q m : ByteArray} {vk vx vb : Int} {vs : ByteArray} {la : Option Addr} {ll lc : Nat} {ru nu wa pf : Int} {pc : Nat} {pm : Int} {ca : Option Addr} {cn cc : Nat} {aa : Option Addr} {an ac : Nat} (h : AtR w B k f q m vk vx vb vs la ll lc ru nu wa pf pc pm ca cn cc aa an ac) (hb : Below w.heap.size w w') : AtR w' B k f q m vk vx vb vs la ll lc ru nu wa pf pc pm ca cn cc aa an ac := by
  obtain ⟨x0, x1, x2, x3, x4, x5, x6, x7, x8, x9, x10, x11, x12, x13, x14, x15, x16⟩ := h
  exact ⟨cellB x0 hb, cellB x1 hb, cellB x2 hb, cellB x3 hb, cellB x4 hb, cellB x5 hb, cellB x6 hb, cellB x7 hb, cellB x8 hb, cellB x9 hb, cellB x10 hb, cellB x11 hb, cellB x12 hb, cellB x13 hb, cellB x14 hb, cellB x15 hb, cellB x16 hb⟩
theorem AtQ.box (w : World) (k : Int) (f q m : ByteArray) (vk vx vb : Int) (vs : ByteArray) (la : Option Addr) (ll lc : Nat) (ru nu wa pf : Int) (pc : Nat) (pm : Int) (ca : Option Addr) (cn cc : Nat) (aa : Option Addr) (an ac : Nat) (hx : Int) : AtQ (w.alloc (.cells #[.int .i64 k, .string f, .string q, .string m, .int .i64 vk, .int .i64 vx, .int .u64 vb, .string vs, .slice la ll lc, .int .i64 ru, .int .i64 nu, .int .i64 wa, .int .i64 pf, .int .u64 (pc : Int), .int .i64 pm, .slice ca cn cc, .slice aa an ac, .int .i64 hx] 42)) w.heap.size k f q m vk vx vb vs la ll lc ru nu wa pf pc pm ca cn cc aa an ac hx := by
  refine ⟨?_, ?_, ?_, ?_, ?_, ?_, ?_, ?_, ?_, ?_, ?_, ?_, ?_, ?_, ?_, ?_, ?_, ?_⟩ <;> go_simp
theorem AtR.box (w : World) (k : Int) (f q m : ByteArray) (vk vx vb : Int) (vs : ByteArray) (la : Option Addr) (ll lc : Nat) (ru nu wa pf : Int) (pc : Nat) (pm : Int) (ca : Option Addr) (cn cc : Nat) (aa : Option Addr) (an ac : Nat) : AtR (w.alloc (.cells #[.int .i64 k, .string f, .string q, .string m, .int .i64 vk, .int .i64 vx, .int .u64 vb, .string vs, .slice la ll lc, .int .i64 ru, .int .i64 nu, .int .i64 wa, .int .i64 pf, .int .u64 (pc : Int), .int .i64 pm, .slice ca cn cc, .slice aa an ac] 31)) w.heap.size k f q m vk vx vb vs la ll lc ru nu wa pf pc pm ca cn cc aa an ac := by
  refine ⟨?_, ?_, ?_, ?_, ?_, ?_, ?_, ?_, ?_, ?_, ?_, ?_, ?_, ?_, ?_, ?_, ?_⟩ <;> go_simp
theorem hold_calls (a b n : Int) (w : World) : Calls Tryd.prog 30 #[.agg #[.int .i64 a, .int .i64 b], .int .i64 n] w fun e w' => e = .returned (.bool (wi n a b)) ∧ Below w.heap.size w w' := by
  unfold wi
  by_cases h1 : a ≤ n
  · go_enter Tryd.func30, Tryd.ntmps30
    go_wp2
    go_ret
    exact ⟨by simp [h1], bel1 _ _⟩
  · go_enter Tryd.func30, Tryd.ntmps30
    go_wp2
    go_ret
    exact ⟨by simp; omega, bel1 _ _⟩
def bt2 (j : Nat) : Int := [2, 4, 8, 16, 32, 64, 128, 256].getD j 0
def flv (bb : Nat → Bool) : Nat → Int
  | 0 => 0
  | j + 1 => if bb j then bits BinOp.or IntKind.i64 (flv bb j) (bt2 j) else flv bb j
/-- Which fields are not zero. -/
def fbs (q m : ByteArray) (vk ru nu wa pf : Int) (pc : Nat) (pm : Int) (cn an : Nat) (j : Nat) : Bool :=
  [!(q.toList.isEmpty), !(m.toList.isEmpty), vk != 0, ru != 0, nu != 0, wa != 0, !(decide (pf = 0) && decide (pc = 0) && decide (pm = 0)), decide (0 < cn) || decide (0 < an)].getD j false
/-- Eight pairs in a row. -/
def Rb8 (w : World) (g : Nat) (bb : Nat → Bool) : Prop := ∀ j : Nat, j < 8 → w.cell? ⟨g, j * 2, none⟩ = some (.int .i64 (bt2 j)) ∧ w.cell? ⟨g, j * 2 + 1, none⟩ = some (.bool (bb j))
theorem row8 {w : World} {g : Nat} {b0 b1 b2 b3 b4 b5 b6 b7 : Bool} (hr : w.heap[g]? = some (.cells #[.int .i64 2, .bool b0, .int .i64 4, .bool b1, .int .i64 8, .bool b2, .int .i64 16, .bool b3, .int .i64 32, .bool b4, .int .i64 64, .bool b5, .int .i64 128, .bool b6, .int .i64 256, .bool b7] 55 (0, 0))) : Rb8 w g fun j => [b0, b1, b2, b3, b4, b5, b6, b7].getD j false := by
  intro j hj
  have : j = 0 ∨ j = 1 ∨ j = 2 ∨ j = 3 ∨ j = 4 ∨ j = 5 ∨ j = 6 ∨ j = 7 := by omega
  rcases this with rfl | rfl | rfl | rfl | rfl | rfl | rfl | rfl <;> simp [World.cell?, hr, bt2]
theorem heap2 (w : World) (o1 o2 : Obj) : ((w.alloc o1).alloc o2).drew.heap[w.heap.size + 1]? = some o2 := by
  have h := heap_alloc_new (w.alloc o1) o2
  have e : (w.alloc o1).heap.size = w.heap.size + 1 := by simp
  rw [e] at h
  exact h
theorem iteB (P : Prop) [Decidable P] (b : Bool) (w : World) : (if P then Result.ok (Next.value (Value.bool b)) w else Result.ok (Next.value (Value.bool true)) w) = Result.ok (Next.value (Value.bool (!(decide P) || b))) w := by
  by_cases h : P <;> simp [h]
attribute [local go_sem] iteB
set_option maxHeartbeats 4000000 in
set_option maxRecDepth 100000 in
theorem filled_calls (k : Int) (f q m : ByteArray) (vk vx vb : Int) (vs : ByteArray) (la : Option Addr) (ll lc : Nat) (ru nu wa pf : Int) (pc : Nat) (pm : Int) (ca : Option Addr) (cn cc : Nat) (aa : Option Addr) (an ac : Nat) (hx : Int) (w : World) : Calls Tryd.prog 13 #[.agg #[.int .i64 k, .string f, .string q, .string m, .int .i64 vk, .int .i64 vx, .int .u64 vb, .string vs, .slice la ll lc, .int .i64 ru, .int .i64 nu, .int .i64 wa, .int .i64 pf, .int .u64 (pc : Int), .int .i64 pm, .slice ca cn cc, .slice aa an ac, .int .i64 hx]] w fun e w' => e = .returned (.int .i64 (flv (fbs q m vk ru nu wa pf pc pm cn an) 8)) ∧ Below w.heap.size w w' := by
  have HB : Hid (Below w.heap.size w (w.alloc (.cells #[.int .i64 k, .string f, .string q, .string m, .int .i64 vk, .int .i64 vx, .int .u64 vb, .string vs, .slice la ll lc, .int .i64 ru, .int .i64 nu, .int .i64 wa, .int .i64 pf, .int .u64 (pc : Int), .int .i64 pm, .slice ca cn cc, .slice aa an ac, .int .i64 hx] 42))) := bel1 _ _
  have HX : Hid (AtQ (w.alloc (.cells #[.int .i64 k, .string f, .string q, .string m, .int .i64 vk, .int .i64 vx, .int .u64 vb, .string vs, .slice la ll lc, .int .i64 ru, .int .i64 nu, .int .i64 wa, .int .i64 pf, .int .u64 (pc : Int), .int .i64 pm, .slice ca cn cc, .slice aa an ac, .int .i64 hx] 42)) w.heap.size k f q m vk vx vb vs la ll lc ru nu wa pf pc pm ca cn cc aa an ac hx) := AtQ.box w k f q m vk vx vb vs la ll lc ru nu wa pf pc pm ca cn cc aa an ac hx
  generalize hE : fbs q m vk ru nu wa pf pc pm cn an = bb
  have HE : Hid (fbs q m vk ru nu wa pf pc pm cn an = bb) := hE
  clear hE
  go_enter Tryd.func13, Tryd.ntmps13
  go_upto_region 2 with fail
  go_cut [56, 57, 58] (fun x y z wx => x = .slice (some ⟨w.heap.size + 1, 0, none⟩) 8 8 ∧ y = .int .i64 8 ∧ z = .int .i64 0 ∧ Rb8 wx (w.heap.size + 1) bb ∧ Below w.heap.size w wx)
  case first =>
    by_cases h1 : 0 < cn
    · have e8 : Hid (fbs q m vk ru nu wa pf pc pm cn an = fun j => [!(q.toList.isEmpty), !(m.toList.isEmpty), vk != 0, ru != 0, nu != 0, wa != 0, (!decide (pf = 0) || (!decide (pc = 0) || !decide (pm = 0))), true].getD j false) := by rw [Hid]; funext j; simp [fbs, h1, Bool.or_assoc]
      obtain ⟨x0, x1, x2, x3, x4, x5, x6, x7, x8, x9, x10, x11, x12, x13, x14, x15, x16, x17⟩ := HX.out
      refine wp_region_held_drew (S := (fun w' => w'.cell? ⟨w.heap.size, 2, none⟩ = some (.string q) ∧ w'.cell? ⟨w.heap.size, 3, none⟩ = some (.string m) ∧ w'.cell? ⟨w.heap.size, 4, none⟩ = some (.int .i64 vk) ∧ w'.cell? ⟨w.heap.size, 9, none⟩ = some (.int .i64 ru) ∧ w'.cell? ⟨w.heap.size, 10, none⟩ = some (.int .i64 nu) ∧ w'.cell? ⟨w.heap.size, 11, none⟩ = some (.int .i64 wa) ∧ w'.cell? ⟨w.heap.size, 12, none⟩ = some (.int .i64 pf) ∧ w'.cell? ⟨w.heap.size, 13, none⟩ = some (.int .u64 (pc : Int)) ∧ w'.cell? ⟨w.heap.size, 14, none⟩ = some (.int .i64 pm) ∧ w'.cell? ⟨w.heap.size, 15, none⟩ = some (.slice ca cn cc) ∧ w'.cell? ⟨w.heap.size, 16, none⟩ = some (.slice aa an ac))) (by kernel_rfl) (by go_keep) (fun hHeld => ?_)
      change wpAnyH _ _ _ _ _ _ _ _ (World.drew _)
      refine wpAnyH_take (i := 0) (oi := { dst := some 6, op := Go.Op.fieldAddr 42 (Go.Operand.tmp 1) 0, type := 0, pos := "limits.go:96", after := #[], guard := none }) (v := ?_) rfl (by kernel_rfl) (by kernel_rfl) (by kernel_rfl) (fun _ _ _ h => h) (Or.inl ⟨by rfl, ?_⟩) hHeld ?_
      rotate_left 1
      · (intro w hSw; (try dsimp only at hSw); go_simp <;> with_reducible rfl)
      simp only [Act.put, List.setIfInBounds_toArray, List.set_cons_zero, List.set_cons_succ]
      refine wpAnyH_take (i := 1) (oi := { dst := some 7, op := Go.Op.fieldAddr 31 (Go.Operand.tmp 6) 2, type := 0, pos := "limits.go:96", after := #[{ on := 0, ground := Go.Ground.data }], guard := none }) (v := ?_) rfl (by kernel_rfl) (by kernel_rfl) (by kernel_rfl) (fun _ _ _ h => h) (Or.inl ⟨by rfl, ?_⟩) hHeld ?_
      rotate_left 1
      · (intro w hSw; (try dsimp only at hSw); go_simp <;> with_reducible rfl)
      simp only [Act.put, List.setIfInBounds_toArray, List.set_cons_zero, List.set_cons_succ]
      refine wpAnyH_take (i := 2) (oi := { dst := some 8, op := Go.Op.load 9 (Go.Operand.tmp 7), type := 9, pos := "limits.go:96", after := #[{ on := 1, ground := Go.Ground.data }], guard := none }) (v := ?_) rfl (by kernel_rfl) (by kernel_rfl) (by kernel_rfl) (fun _ _ _ h => h) (Or.inl ⟨by rfl, ?_⟩) hHeld ?_
      rotate_left 1
      · (intro w hSw; (try dsimp only at hSw); go_simp <;> with_reducible rfl)
      simp only [Act.put, List.setIfInBounds_toArray, List.set_cons_zero, List.set_cons_succ]
      refine wpAnyH_take (i := 3) (oi := { dst := some 9, op := Go.Op.binOp Go.BinOp.neq 9 (Go.Operand.tmp 8) (Go.Operand.const (Go.Value.string { data := #[] })) 9, type := 4, pos := "limits.go:96", after := #[{ on := 2, ground := Go.Ground.data }], guard := none }) (v := ?_) rfl (by kernel_rfl) (by kernel_rfl) (by kernel_rfl) (fun _ _ _ h => h) (Or.inl ⟨by rfl, ?_⟩) hHeld ?_
      rotate_left 1
      · (intro w hSw; (try dsimp only at hSw); go_simp <;> with_reducible rfl)
      simp only [Act.put, List.setIfInBounds_toArray, List.set_cons_zero, List.set_cons_succ]
      refine wpAnyH_take (i := 4) (oi := { dst := some 10, op := Go.Op.build 55 #[(0, Go.Operand.const (Go.Value.int Go.IntKind.i64 2)), (1, Go.Operand.tmp 9)], type := 55, pos := "limits.go:96", after := #[{ on := 3, ground := Go.Ground.data }], guard := none }) (v := ?_) rfl (by kernel_rfl) (by kernel_rfl) (by kernel_rfl) (fun _ _ _ h => h) (Or.inl ⟨by rfl, ?_⟩) hHeld ?_
      rotate_left 1
      · (intro w hSw; (try dsimp only at hSw); go_simp <;> with_reducible rfl)
      simp only [Act.put, List.setIfInBounds_toArray, List.set_cons_zero, List.set_cons_succ]
      refine wpAnyH_take (i := 5) (oi := { dst := some 11, op := Go.Op.fieldAddr 42 (Go.Operand.tmp 1) 0, type := 0, pos := "limits.go:96", after := #[], guard := none }) (v := ?_) rfl (by kernel_rfl) (by kernel_rfl) (by kernel_rfl) (fun _ _ _ h => h) (Or.inl ⟨by rfl, ?_⟩) hHeld ?_
      rotate_left 1
      · (intro w hSw; (try dsimp only at hSw); go_simp <;> with_reducible rfl)
      simp only [Act.put, List.setIfInBounds_toArray, List.set_cons_zero, List.set_cons_succ]
      refine wpAnyH_take (i := 6) (oi := { dst := some 12, op := Go.Op.fieldAddr 31 (Go.Operand.tmp 11) 3, type := 0, pos := "limits.go:96", after := #[{ on := 5, ground := Go.Ground.data }], guard := none }) (v := ?_) rfl (by kernel_rfl) (by kernel_rfl) (by kernel_rfl) (fun _ _ _ h => h) (Or.inl ⟨by rfl, ?_⟩) hHeld ?_
      rotate_left 1
      · (intro w hSw; (try dsimp only at hSw); go_simp <;> with_reducible rfl)
      simp only [Act.put, List.setIfInBounds_toArray, List.set_cons_zero, List.set_cons_succ]
      refine wpAnyH_take (i := 7) (oi := { dst := some 13, op := Go.Op.load 9 (Go.Operand.tmp 12), type := 9, pos := "limits.go:96", after := #[{ on := 6, ground := Go.Ground.data }], guard := none }) (v := ?_) rfl (by kernel_rfl) (by kernel_rfl) (by kernel_rfl) (fun _ _ _ h => h) (Or.inl ⟨by rfl, ?_⟩) hHeld ?_
      rotate_left 1
      · (intro w hSw; (try dsimp only at hSw); go_simp <;> with_reducible rfl)
      simp only [Act.put, List.setIfInBounds_toArray, List.set_cons_zero, List.set_cons_succ]
      refine wpAnyH_take (i := 8) (oi := { dst := some 14, op := Go.Op.binOp Go.BinOp.neq 9 (Go.Operand.tmp 13) (Go.Operand.const (Go.Value.string { data := #[] })) 9, type := 4, pos := "limits.go:96", after := #[{ on := 7, ground := Go.Ground.data }], guard := none }) (v := ?_) rfl (by kernel_rfl) (by kernel_rfl) (by kernel_rfl) (fun _ _ _ h => h) (Or.inl ⟨by rfl, ?_⟩) hHeld ?_
      rotate_left 1
      · (intro w hSw; (try dsimp only at hSw); go_simp <;> with_reducible rfl)
      simp only [Act.put, List.setIfInBounds_toArray, List.set_cons_zero, List.set_cons_succ]
      refine wpAnyH_take (i := 9) (oi := { dst := some 15, op := Go.Op.build 55 #[(0, Go.Operand.const (Go.Value.int Go.IntKind.i64 4)), (1, Go.Operand.tmp 14)], type := 55, pos := "limits.go:96", after := #[{ on := 8, ground := Go.Ground.data }], guard := none }) (v := ?_) rfl (by kernel_rfl) (by kernel_rfl) (by kernel_rfl) (fun _ _ _ h => h) (Or.inl ⟨by rfl, ?_⟩) hHeld ?_
      rotate_left 1
      · (intro w hSw; (try dsimp only at hSw); go_simp <;> with_reducible rfl)
      simp only [Act.put, List.setIfInBounds_toArray, List.set_cons_zero, List.set_cons_succ]
      refine wpAnyH_take (i := 10) (oi := { dst := some 16, op := Go.Op.fieldAddr 42 (Go.Operand.tmp 1) 0, type := 0, pos := "limits.go:96", after := #[], guard := none }) (v := ?_) rfl (by kernel_rfl) (by kernel_rfl) (by kernel_rfl) (fun _ _ _ h => h) (Or.inl ⟨by rfl, ?_⟩) hHeld ?_
      rotate_left 1
      · (intro w hSw; (try dsimp only at hSw); go_simp <;> with_reducible rfl)
      simp only [Act.put, List.setIfInBounds_toArray, List.set_cons_zero, List.set_cons_succ]
      refine wpAnyH_take (i := 11) (oi := { dst := some 17, op := Go.Op.fieldAddr 31 (Go.Operand.tmp 16) 4, type := 0, pos := "limits.go:96", after := #[{ on := 10, ground := Go.Ground.data }], guard := none }) (v := ?_) rfl (by kernel_rfl) (by kernel_rfl) (by kernel_rfl) (fun _ _ _ h => h) (Or.inl ⟨by rfl, ?_⟩) hHeld ?_
      rotate_left 1
      · (intro w hSw; (try dsimp only at hSw); go_simp <;> with_reducible rfl)
      simp only [Act.put, List.setIfInBounds_toArray, List.set_cons_zero, List.set_cons_succ]
      refine wpAnyH_take (i := 12) (oi := { dst := some 18, op := Go.Op.fieldAddr 25 (Go.Operand.tmp 17) 0, type := 0, pos := "limits.go:96", after := #[{ on := 11, ground := Go.Ground.data }], guard := none }) (v := ?_) rfl (by kernel_rfl) (by kernel_rfl) (by kernel_rfl) (fun _ _ _ h => h) (Or.inl ⟨by rfl, ?_⟩) hHeld ?_
      rotate_left 1
      · (intro w hSw; (try dsimp only at hSw); go_simp <;> with_reducible rfl)
      simp only [Act.put, List.setIfInBounds_toArray, List.set_cons_zero, List.set_cons_succ]
      refine wpAnyH_take (i := 13) (oi := { dst := some 19, op := Go.Op.load 3 (Go.Operand.tmp 18), type := 3, pos := "limits.go:96", after := #[{ on := 12, ground := Go.Ground.data }], guard := none }) (v := ?_) rfl (by kernel_rfl) (by kernel_rfl) (by kernel_rfl) (fun _ _ _ h => h) (Or.inl ⟨by rfl, ?_⟩) hHeld ?_
      rotate_left 1
      · (intro w hSw; (try dsimp only at hSw); go_simp <;> with_reducible rfl)
      simp only [Act.put, List.setIfInBounds_toArray, List.set_cons_zero, List.set_cons_succ]
      refine wpAnyH_take (i := 14) (oi := { dst := some 20, op := Go.Op.binOp Go.BinOp.neq 3 (Go.Operand.tmp 19) (Go.Operand.const (Go.Value.int Go.IntKind.i64 0)) 3, type := 4, pos := "limits.go:96", after := #[{ on := 13, ground := Go.Ground.data }], guard := none }) (v := ?_) rfl (by kernel_rfl) (by kernel_rfl) (by kernel_rfl) (fun _ _ _ h => h) (Or.inl ⟨by rfl, ?_⟩) hHeld ?_
      rotate_left 1
      · (intro w hSw; (try dsimp only at hSw); go_simp <;> with_reducible rfl)
      simp only [Act.put, List.setIfInBounds_toArray, List.set_cons_zero, List.set_cons_succ]
      refine wpAnyH_take (i := 15) (oi := { dst := some 21, op := Go.Op.build 55 #[(0, Go.Operand.const (Go.Value.int Go.IntKind.i64 8)), (1, Go.Operand.tmp 20)], type := 55, pos := "limits.go:96", after := #[{ on := 14, ground := Go.Ground.data }], guard := none }) (v := ?_) rfl (by kernel_rfl) (by kernel_rfl) (by kernel_rfl) (fun _ _ _ h => h) (Or.inl ⟨by rfl, ?_⟩) hHeld ?_
      rotate_left 1
      · (intro w hSw; (try dsimp only at hSw); go_simp <;> with_reducible rfl)
      simp only [Act.put, List.setIfInBounds_toArray, List.set_cons_zero, List.set_cons_succ]
      refine wpAnyH_take (i := 16) (oi := { dst := some 22, op := Go.Op.fieldAddr 42 (Go.Operand.tmp 1) 0, type := 0, pos := "limits.go:96", after := #[], guard := none }) (v := ?_) rfl (by kernel_rfl) (by kernel_rfl) (by kernel_rfl) (fun _ _ _ h => h) (Or.inl ⟨by rfl, ?_⟩) hHeld ?_
      rotate_left 1
      · (intro w hSw; (try dsimp only at hSw); go_simp <;> with_reducible rfl)
      simp only [Act.put, List.setIfInBounds_toArray, List.set_cons_zero, List.set_cons_succ]
      refine wpAnyH_take (i := 17) (oi := { dst := some 23, op := Go.Op.fieldAddr 31 (Go.Operand.tmp 22) 5, type := 0, pos := "limits.go:96", after := #[{ on := 16, ground := Go.Ground.data }], guard := none }) (v := ?_) rfl (by kernel_rfl) (by kernel_rfl) (by kernel_rfl) (fun _ _ _ h => h) (Or.inl ⟨by rfl, ?_⟩) hHeld ?_
      rotate_left 1
      · (intro w hSw; (try dsimp only at hSw); go_simp <;> with_reducible rfl)
      simp only [Act.put, List.setIfInBounds_toArray, List.set_cons_zero, List.set_cons_succ]
      refine wpAnyH_take (i := 18) (oi := { dst := some 24, op := Go.Op.load 3 (Go.Operand.tmp 23), type := 3, pos := "limits.go:96", after := #[{ on := 17, ground := Go.Ground.data }], guard := none }) (v := ?_) rfl (by kernel_rfl) (by kernel_rfl) (by kernel_rfl) (fun _ _ _ h => h) (Or.inl ⟨by rfl, ?_⟩) hHeld ?_
      rotate_left 1
      · (intro w hSw; (try dsimp only at hSw); go_simp <;> with_reducible rfl)
      simp only [Act.put, List.setIfInBounds_toArray, List.set_cons_zero, List.set_cons_succ]
      refine wpAnyH_take (i := 19) (oi := { dst := some 25, op := Go.Op.binOp Go.BinOp.neq 3 (Go.Operand.tmp 24) (Go.Operand.const (Go.Value.int Go.IntKind.i64 0)) 3, type := 4, pos := "limits.go:96", after := #[{ on := 18, ground := Go.Ground.data }], guard := none }) (v := ?_) rfl (by kernel_rfl) (by kernel_rfl) (by kernel_rfl) (fun _ _ _ h => h) (Or.inl ⟨by rfl, ?_⟩) hHeld ?_
      rotate_left 1
      · (intro w hSw; (try dsimp only at hSw); go_simp <;> with_reducible rfl)
      simp only [Act.put, List.setIfInBounds_toArray, List.set_cons_zero, List.set_cons_succ]
      refine wpAnyH_take (i := 20) (oi := { dst := some 26, op := Go.Op.build 55 #[(0, Go.Operand.const (Go.Value.int Go.IntKind.i64 16)), (1, Go.Operand.tmp 25)], type := 55, pos := "limits.go:96", after := #[{ on := 19, ground := Go.Ground.data }], guard := none }) (v := ?_) rfl (by kernel_rfl) (by kernel_rfl) (by kernel_rfl) (fun _ _ _ h => h) (Or.inl ⟨by rfl, ?_⟩) hHeld ?_
      rotate_left 1
      · (intro w hSw; (try dsimp only at hSw); go_simp <;> with_reducible rfl)
      simp only [Act.put, List.setIfInBounds_toArray, List.set_cons_zero, List.set_cons_succ]
      refine wpAnyH_take (i := 21) (oi := { dst := some 27, op := Go.Op.fieldAddr 42 (Go.Operand.tmp 1) 0, type := 0, pos := "limits.go:96", after := #[], guard := none }) (v := ?_) rfl (by kernel_rfl) (by kernel_rfl) (by kernel_rfl) (fun _ _ _ h => h) (Or.inl ⟨by rfl, ?_⟩) hHeld ?_
      rotate_left 1
      · (intro w hSw; (try dsimp only at hSw); go_simp <;> with_reducible rfl)
      simp only [Act.put, List.setIfInBounds_toArray, List.set_cons_zero, List.set_cons_succ]
      refine wpAnyH_take (i := 22) (oi := { dst := some 28, op := Go.Op.fieldAddr 31 (Go.Operand.tmp 27) 6, type := 0, pos := "limits.go:96", after := #[{ on := 21, ground := Go.Ground.data }], guard := none }) (v := ?_) rfl (by kernel_rfl) (by kernel_rfl) (by kernel_rfl) (fun _ _ _ h => h) (Or.inl ⟨by rfl, ?_⟩) hHeld ?_
      rotate_left 1
      · (intro w hSw; (try dsimp only at hSw); go_simp <;> with_reducible rfl)
      simp only [Act.put, List.setIfInBounds_toArray, List.set_cons_zero, List.set_cons_succ]
      refine wpAnyH_take (i := 23) (oi := { dst := some 29, op := Go.Op.load 3 (Go.Operand.tmp 28), type := 3, pos := "limits.go:96", after := #[{ on := 22, ground := Go.Ground.data }], guard := none }) (v := ?_) rfl (by kernel_rfl) (by kernel_rfl) (by kernel_rfl) (fun _ _ _ h => h) (Or.inl ⟨by rfl, ?_⟩) hHeld ?_
      rotate_left 1
      · (intro w hSw; (try dsimp only at hSw); go_simp <;> with_reducible rfl)
      simp only [Act.put, List.setIfInBounds_toArray, List.set_cons_zero, List.set_cons_succ]
      refine wpAnyH_take (i := 24) (oi := { dst := some 30, op := Go.Op.binOp Go.BinOp.neq 3 (Go.Operand.tmp 29) (Go.Operand.const (Go.Value.int Go.IntKind.i64 0)) 3, type := 4, pos := "limits.go:96", after := #[{ on := 23, ground := Go.Ground.data }], guard := none }) (v := ?_) rfl (by kernel_rfl) (by kernel_rfl) (by kernel_rfl) (fun _ _ _ h => h) (Or.inl ⟨by rfl, ?_⟩) hHeld ?_
      rotate_left 1
      · (intro w hSw; (try dsimp only at hSw); go_simp <;> with_reducible rfl)
      simp only [Act.put, List.setIfInBounds_toArray, List.set_cons_zero, List.set_cons_succ]
      refine wpAnyH_take (i := 25) (oi := { dst := some 31, op := Go.Op.build 55 #[(0, Go.Operand.const (Go.Value.int Go.IntKind.i64 32)), (1, Go.Operand.tmp 30)], type := 55, pos := "limits.go:96", after := #[{ on := 24, ground := Go.Ground.data }], guard := none }) (v := ?_) rfl (by kernel_rfl) (by kernel_rfl) (by kernel_rfl) (fun _ _ _ h => h) (Or.inl ⟨by rfl, ?_⟩) hHeld ?_
      rotate_left 1
      · (intro w hSw; (try dsimp only at hSw); go_simp <;> with_reducible rfl)
      simp only [Act.put, List.setIfInBounds_toArray, List.set_cons_zero, List.set_cons_succ]
      refine wpAnyH_take (i := 26) (oi := { dst := some 32, op := Go.Op.fieldAddr 42 (Go.Operand.tmp 1) 0, type := 0, pos := "limits.go:96", after := #[], guard := none }) (v := ?_) rfl (by kernel_rfl) (by kernel_rfl) (by kernel_rfl) (fun _ _ _ h => h) (Or.inl ⟨by rfl, ?_⟩) hHeld ?_
      rotate_left 1
      · (intro w hSw; (try dsimp only at hSw); go_simp <;> with_reducible rfl)
      simp only [Act.put, List.setIfInBounds_toArray, List.set_cons_zero, List.set_cons_succ]
      refine wpAnyH_take (i := 27) (oi := { dst := some 33, op := Go.Op.fieldAddr 31 (Go.Operand.tmp 32) 7, type := 0, pos := "limits.go:96", after := #[{ on := 26, ground := Go.Ground.data }], guard := none }) (v := ?_) rfl (by kernel_rfl) (by kernel_rfl) (by kernel_rfl) (fun _ _ _ h => h) (Or.inl ⟨by rfl, ?_⟩) hHeld ?_
      rotate_left 1
      · (intro w hSw; (try dsimp only at hSw); go_simp <;> with_reducible rfl)
      simp only [Act.put, List.setIfInBounds_toArray, List.set_cons_zero, List.set_cons_succ]
      refine wpAnyH_take (i := 28) (oi := { dst := some 34, op := Go.Op.load 3 (Go.Operand.tmp 33), type := 3, pos := "limits.go:96", after := #[{ on := 27, ground := Go.Ground.data }], guard := none }) (v := ?_) rfl (by kernel_rfl) (by kernel_rfl) (by kernel_rfl) (fun _ _ _ h => h) (Or.inl ⟨by rfl, ?_⟩) hHeld ?_
      rotate_left 1
      · (intro w hSw; (try dsimp only at hSw); go_simp <;> with_reducible rfl)
      simp only [Act.put, List.setIfInBounds_toArray, List.set_cons_zero, List.set_cons_succ]
      refine wpAnyH_take (i := 29) (oi := { dst := some 35, op := Go.Op.binOp Go.BinOp.neq 3 (Go.Operand.tmp 34) (Go.Operand.const (Go.Value.int Go.IntKind.i64 0)) 3, type := 4, pos := "limits.go:96", after := #[{ on := 28, ground := Go.Ground.data }], guard := none }) (v := ?_) rfl (by kernel_rfl) (by kernel_rfl) (by kernel_rfl) (fun _ _ _ h => h) (Or.inl ⟨by rfl, ?_⟩) hHeld ?_
      rotate_left 1
      · (intro w hSw; (try dsimp only at hSw); go_simp <;> with_reducible rfl)
      simp only [Act.put, List.setIfInBounds_toArray, List.set_cons_zero, List.set_cons_succ]
      refine wpAnyH_take (i := 30) (oi := { dst := some 36, op := Go.Op.build 55 #[(0, Go.Operand.const (Go.Value.int Go.IntKind.i64 64)), (1, Go.Operand.tmp 35)], type := 55, pos := "limits.go:96", after := #[{ on := 29, ground := Go.Ground.data }], guard := none }) (v := ?_) rfl (by kernel_rfl) (by kernel_rfl) (by kernel_rfl) (fun _ _ _ h => h) (Or.inl ⟨by rfl, ?_⟩) hHeld ?_
      rotate_left 1
      · (intro w hSw; (try dsimp only at hSw); go_simp <;> with_reducible rfl)
      simp only [Act.put, List.setIfInBounds_toArray, List.set_cons_zero, List.set_cons_succ]
      refine wpAnyH_take (i := 31) (oi := { dst := some 37, op := Go.Op.fieldAddr 42 (Go.Operand.tmp 1) 0, type := 0, pos := "limits.go:96", after := #[], guard := none }) (v := ?_) rfl (by kernel_rfl) (by kernel_rfl) (by kernel_rfl) (fun _ _ _ h => h) (Or.inl ⟨by rfl, ?_⟩) hHeld ?_
      rotate_left 1
      · (intro w hSw; (try dsimp only at hSw); go_simp <;> with_reducible rfl)
      simp only [Act.put, List.setIfInBounds_toArray, List.set_cons_zero, List.set_cons_succ]
      refine wpAnyH_take (i := 32) (oi := { dst := some 38, op := Go.Op.fieldAddr 31 (Go.Operand.tmp 37) 8, type := 0, pos := "limits.go:96", after := #[{ on := 31, ground := Go.Ground.data }], guard := none }) (v := ?_) rfl (by kernel_rfl) (by kernel_rfl) (by kernel_rfl) (fun _ _ _ h => h) (Or.inl ⟨by rfl, ?_⟩) hHeld ?_
      rotate_left 1
      · (intro w hSw; (try dsimp only at hSw); go_simp <;> with_reducible rfl)
      simp only [Act.put, List.setIfInBounds_toArray, List.set_cons_zero, List.set_cons_succ]
      refine wpAnyH_take (i := 33) (oi := { dst := some 39, op := Go.Op.load 27 (Go.Operand.tmp 38), type := 27, pos := "limits.go:96", after := #[{ on := 32, ground := Go.Ground.data }], guard := none }) (v := ?_) rfl (by kernel_rfl) (by kernel_rfl) (by kernel_rfl) (fun _ _ _ h => h) (Or.inl ⟨by rfl, ?_⟩) hHeld ?_
      rotate_left 1
      · (intro w hSw; (try dsimp only at hSw); go_simp <;> with_reducible rfl)
      simp only [Act.put, List.setIfInBounds_toArray, List.set_cons_zero, List.set_cons_succ]
      refine wpAnyH_take (i := 34) (oi := { dst := some 40, op := Go.Op.build 27 #[], type := 27, pos := "limits.go:96", after := #[], guard := none }) (v := ?_) rfl (by kernel_rfl) (by kernel_rfl) (by kernel_rfl) (fun _ _ _ h => h) (Or.inl ⟨by rfl, ?_⟩) hHeld ?_
      rotate_left 1
      · (intro w hSw; (try dsimp only at hSw); go_simp <;> with_reducible rfl)
      simp only [Act.put, List.setIfInBounds_toArray, List.set_cons_zero, List.set_cons_succ]
      refine wpAnyH_take (i := 35) (oi := { dst := some 41, op := Go.Op.binOp Go.BinOp.neq 27 (Go.Operand.tmp 39) (Go.Operand.tmp 40) 27, type := 4, pos := "limits.go:96", after := #[{ on := 33, ground := Go.Ground.data }, { on := 34, ground := Go.Ground.data }], guard := none }) (v := ?_) rfl (by kernel_rfl) (by kernel_rfl) (by kernel_rfl) (fun _ _ _ h => h) (Or.inl ⟨by rfl, ?_⟩) hHeld ?_
      rotate_left 1
      · (intro w hSw; (try dsimp only at hSw); go_simp <;> with_reducible rfl)
      simp only [Act.put, List.setIfInBounds_toArray, List.set_cons_zero, List.set_cons_succ]
      refine wpAnyH_take (i := 36) (oi := { dst := some 42, op := Go.Op.build 55 #[(0, Go.Operand.const (Go.Value.int Go.IntKind.i64 128)), (1, Go.Operand.tmp 41)], type := 55, pos := "limits.go:96", after := #[{ on := 35, ground := Go.Ground.data }], guard := none }) (v := ?_) rfl (by kernel_rfl) (by kernel_rfl) (by kernel_rfl) (fun _ _ _ h => h) (Or.inl ⟨by rfl, ?_⟩) hHeld ?_
      rotate_left 1
      · (intro w hSw; (try dsimp only at hSw); go_simp <;> with_reducible rfl)
      simp only [Act.put, List.setIfInBounds_toArray, List.set_cons_zero, List.set_cons_succ]
      refine wpAnyH_take (i := 37) (oi := { dst := some 43, op := Go.Op.fieldAddr 42 (Go.Operand.tmp 1) 0, type := 0, pos := "limits.go:96", after := #[], guard := none }) (v := ?_) rfl (by kernel_rfl) (by kernel_rfl) (by kernel_rfl) (fun _ _ _ h => h) (Or.inl ⟨by rfl, ?_⟩) hHeld ?_
      rotate_left 1
      · (intro w hSw; (try dsimp only at hSw); go_simp <;> with_reducible rfl)
      simp only [Act.put, List.setIfInBounds_toArray, List.set_cons_zero, List.set_cons_succ]
      refine wpAnyH_take (i := 38) (oi := { dst := some 44, op := Go.Op.fieldAddr 31 (Go.Operand.tmp 43) 9, type := 0, pos := "limits.go:96", after := #[{ on := 37, ground := Go.Ground.data }], guard := none }) (v := ?_) rfl (by kernel_rfl) (by kernel_rfl) (by kernel_rfl) (fun _ _ _ h => h) (Or.inl ⟨by rfl, ?_⟩) hHeld ?_
      rotate_left 1
      · (intro w hSw; (try dsimp only at hSw); go_simp <;> with_reducible rfl)
      simp only [Act.put, List.setIfInBounds_toArray, List.set_cons_zero, List.set_cons_succ]
      refine wpAnyH_take (i := 39) (oi := { dst := some 45, op := Go.Op.load 28 (Go.Operand.tmp 44), type := 28, pos := "limits.go:96", after := #[{ on := 38, ground := Go.Ground.data }], guard := none }) (v := ?_) rfl (by kernel_rfl) (by kernel_rfl) (by kernel_rfl) (fun _ _ _ h => h) (Or.inl ⟨by rfl, ?_⟩) hHeld ?_
      rotate_left 1
      · (intro w hSw; (try dsimp only at hSw); go_simp <;> with_reducible rfl)
      simp only [Act.put, List.setIfInBounds_toArray, List.set_cons_zero, List.set_cons_succ]
      refine wpAnyH_take (i := 40) (oi := { dst := some 46, op := Go.Op.call { callee := Go.Callee.builtin Go.Builtin.len, args := #[Go.Operand.tmp 45], argTypes := #[28] }, type := 3, pos := "limits.go:96", after := #[{ on := 39, ground := Go.Ground.data }], guard := none }) (v := ?_) rfl (by kernel_rfl) (by kernel_rfl) (by kernel_rfl) (fun _ _ _ h => h) (Or.inl ⟨by rfl, ?_⟩) hHeld ?_
      rotate_left 1
      · (intro w hSw; (try dsimp only at hSw); go_simp <;> with_reducible rfl)
      simp only [Act.put, List.setIfInBounds_toArray, List.set_cons_zero, List.set_cons_succ]
      refine wpAnyH_take (i := 41) (oi := { dst := some 47, op := Go.Op.binOp Go.BinOp.gtr 3 (Go.Operand.tmp 46) (Go.Operand.const (Go.Value.int Go.IntKind.i64 0)) 3, type := 4, pos := "limits.go:96", after := #[{ on := 40, ground := Go.Ground.data }], guard := none }) (v := ?_) rfl (by kernel_rfl) (by kernel_rfl) (by kernel_rfl) (fun _ _ _ h => h) (Or.inl ⟨by rfl, ?_⟩) hHeld ?_
      rotate_left 1
      · (intro w hSw; (try dsimp only at hSw); go_simp <;> with_reducible rfl)
      simp only [Act.put, List.setIfInBounds_toArray, List.set_cons_zero, List.set_cons_succ]
      refine wpAnyH_take (i := 42) (oi := { dst := some 48, op := Go.Op.move (Go.Operand.tmp 47), type := 4, pos := "limits.go:96", after := #[{ on := 41, ground := Go.Ground.data }], guard := none }) (v := ?_) rfl (by kernel_rfl) (by kernel_rfl) (by kernel_rfl) (fun _ _ _ h => h) (Or.inl ⟨by rfl, ?_⟩) hHeld ?_
      rotate_left 1
      · (intro w hSw; (try dsimp only at hSw); go_simp <;> with_reducible rfl)
      simp only [Act.put, List.setIfInBounds_toArray, List.set_cons_zero, List.set_cons_succ]
      refine wpAnyH_take (i := 43) (oi := { dst := some 49, op := Go.Op.fieldAddr 42 (Go.Operand.tmp 1) 0, type := 0, pos := "limits.go:96", after := #[{ on := 42, ground := Go.Ground.guard }], guard := some (42, false) }) (v := undef) rfl (by kernel_rfl) (by kernel_rfl) (by kernel_rfl) (fun _ _ _ h => h) (Or.inr ⟨by rfl, rfl⟩) hHeld ?_
      simp only [Act.put, List.setIfInBounds_toArray, List.set_cons_zero, List.set_cons_succ]
      refine wpAnyH_take (i := 44) (oi := { dst := some 50, op := Go.Op.fieldAddr 31 (Go.Operand.tmp 49) 10, type := 0, pos := "limits.go:96", after := #[{ on := 43, ground := Go.Ground.data }, { on := 42, ground := Go.Ground.guard }], guard := some (42, false) }) (v := undef) rfl (by kernel_rfl) (by kernel_rfl) (by kernel_rfl) (fun _ _ _ h => h) (Or.inr ⟨by rfl, rfl⟩) hHeld ?_
      simp only [Act.put, List.setIfInBounds_toArray, List.set_cons_zero, List.set_cons_succ]
      refine wpAnyH_take (i := 45) (oi := { dst := some 51, op := Go.Op.load 29 (Go.Operand.tmp 50), type := 29, pos := "limits.go:96", after := #[{ on := 44, ground := Go.Ground.data }, { on := 42, ground := Go.Ground.guard }], guard := some (42, false) }) (v := undef) rfl (by kernel_rfl) (by kernel_rfl) (by kernel_rfl) (fun _ _ _ h => h) (Or.inr ⟨by rfl, rfl⟩) hHeld ?_
      simp only [Act.put, List.setIfInBounds_toArray, List.set_cons_zero, List.set_cons_succ]
      refine wpAnyH_take (i := 46) (oi := { dst := some 52, op := Go.Op.call { callee := Go.Callee.builtin Go.Builtin.len, args := #[Go.Operand.tmp 51], argTypes := #[29] }, type := 3, pos := "limits.go:96", after := #[{ on := 45, ground := Go.Ground.data }, { on := 42, ground := Go.Ground.guard }], guard := some (42, false) }) (v := undef) rfl (by kernel_rfl) (by kernel_rfl) (by kernel_rfl) (fun _ _ _ h => h) (Or.inr ⟨by rfl, rfl⟩) hHeld ?_
      simp only [Act.put, List.setIfInBounds_toArray, List.set_cons_zero, List.set_cons_succ]
      refine wpAnyH_take (i := 47) (oi := { dst := some 53, op := Go.Op.binOp Go.BinOp.gtr 3 (Go.Operand.tmp 52) (Go.Operand.const (Go.Value.int Go.IntKind.i64 0)) 3, type := 4, pos := "limits.go:96", after := #[{ on := 46, ground := Go.Ground.data }, { on := 42, ground := Go.Ground.guard }], guard := some (42, false) }) (v := undef) rfl (by kernel_rfl) (by kernel_rfl) (by kernel_rfl) (fun _ _ _ h => h) (Or.inr ⟨by rfl, rfl⟩) hHeld ?_
      simp only [Act.put, List.setIfInBounds_toArray, List.set_cons_zero, List.set_cons_succ]
      refine wpAnyH_take (i := 48) (oi := { dst := some 54, op := Go.Op.pick (Go.Operand.tmp 48) (Go.Operand.const (Go.Value.bool true)) (Go.Operand.tmp 53), type := 4, pos := "limits.go:96", after := #[{ on := 42, ground := Go.Ground.data }, { on := 47, ground := Go.Ground.data }], guard := none }) (v := ?_) rfl (by kernel_rfl) (by kernel_rfl) (by kernel_rfl) (fun _ _ _ h => h) (Or.inl ⟨by rfl, ?_⟩) hHeld ?_
      rotate_left 1
      · (intro w hSw; (try dsimp only at hSw); go_simp <;> with_reducible rfl)
      simp only [Act.put, List.setIfInBounds_toArray, List.set_cons_zero, List.set_cons_succ]
      refine wpAnyH_take (i := 49) (oi := { dst := some 55, op := Go.Op.build 55 #[(0, Go.Operand.const (Go.Value.int Go.IntKind.i64 256)), (1, Go.Operand.tmp 54)], type := 55, pos := "limits.go:96", after := #[{ on := 48, ground := Go.Ground.data }], guard := none }) (v := ?_) rfl (by kernel_rfl) (by kernel_rfl) (by kernel_rfl) (fun _ _ _ h => h) (Or.inl ⟨by rfl, ?_⟩) hHeld ?_
      rotate_left 1
      · (intro w hSw; (try dsimp only at hSw); go_simp <;> with_reducible rfl)
      simp only [Act.put, List.setIfInBounds_toArray, List.set_cons_zero, List.set_cons_succ]
      refine wpAnyH_take (i := 52) (oi := { dst := some 58, op := Go.Op.move (Go.Operand.const (Go.Value.int Go.IntKind.i64 0)), type := 3, pos := "limits.go:96", after := #[], guard := none }) (v := ?_) rfl (by kernel_rfl) (by kernel_rfl) (by kernel_rfl) (fun _ _ _ h => h) (Or.inl ⟨by rfl, ?_⟩) hHeld ?_
      rotate_left 1
      · (intro w hSw; (try dsimp only at hSw); go_simp <;> with_reducible rfl)
      simp only [Act.put, List.setIfInBounds_toArray, List.set_cons_zero, List.set_cons_succ]
      refine wpAnyH_ready (rs := [50]) (by kernel_rfl) (by simp) ?_
      refine AllReadyH.cons (o := { dst := some 56, op := Go.Op.buildSlice 56 8 #[(0, Go.Operand.tmp 10), (1, Go.Operand.tmp 15), (2, Go.Operand.tmp 21), (3, Go.Operand.tmp 26), (4, Go.Operand.tmp 31), (5, Go.Operand.tmp 36), (6, Go.Operand.tmp 42), (7, Go.Operand.tmp 55)], type := 56, pos := "limits.go:96", after := #[{ on := 4, ground := Go.Ground.data }, { on := 9, ground := Go.Ground.data }, { on := 15, ground := Go.Ground.data }, { on := 20, ground := Go.Ground.data }, { on := 25, ground := Go.Ground.data }, { on := 30, ground := Go.Ground.data }, { on := 36, ground := Go.Ground.data }, { on := 49, ground := Go.Ground.data }], guard := none }) rfl (fun K hK => ?_) AllReadyH.nil
      go_simp
      refine hK.out _ _ (by obtain ⟨z0, z1, z2, z3, z4, z5, z6, z7, z8, z9, z10⟩ := hHeld; clear x0 x1 x2 x3 x4 x5 x6 x7 x8 x9 x10 x11 x12 x13 x14 x15 x16 x17; go_keep) (fun hHeld => ?_)
      clear hK K
      try simp only [Act.put, List.setIfInBounds_toArray, List.set_cons_zero, List.set_cons_succ]
      refine wpAnyH_take (i := 51) (oi := { dst := some 57, op := Go.Op.call { callee := Go.Callee.builtin Go.Builtin.len, args := #[Go.Operand.tmp 56], argTypes := #[56] }, type := 3, pos := "limits.go:96", after := #[{ on := 50, ground := Go.Ground.data }], guard := none }) (v := ?_) rfl (by kernel_rfl) (by kernel_rfl) (by kernel_rfl) (fun _ _ _ h => h) (Or.inl ⟨by rfl, ?_⟩) hHeld ?_
      rotate_left 1
      · (intro w hSw; (try dsimp only at hSw); go_simp <;> with_reducible rfl)
      simp only [Act.put, List.setIfInBounds_toArray, List.set_cons_zero, List.set_cons_succ]
      refine wpAnyH_done (by kernel_rfl) ?_ _
      go_wp2_with fail
      go_meet
      refine ⟨rfl, rfl, rfl, ?_, (belA HB.out _).drew⟩
      rw [← HE.out, e8.out]
      exact row8 (heap2 _ _ _)
    · have e8 : Hid (fbs q m vk ru nu wa pf pc pm cn an = fun j => [!(q.toList.isEmpty), !(m.toList.isEmpty), vk != 0, ru != 0, nu != 0, wa != 0, (!decide (pf = 0) || (!decide (pc = 0) || !decide (pm = 0))), decide (0 < an)].getD j false) := by rw [Hid]; funext j; simp [fbs, h1, Bool.or_assoc]
      obtain ⟨x0, x1, x2, x3, x4, x5, x6, x7, x8, x9, x10, x11, x12, x13, x14, x15, x16, x17⟩ := HX.out
      go_region_held3 (fun w' => w'.cell? ⟨w.heap.size, 2, none⟩ = some (.string q) ∧ w'.cell? ⟨w.heap.size, 3, none⟩ = some (.string m) ∧ w'.cell? ⟨w.heap.size, 4, none⟩ = some (.int .i64 vk) ∧ w'.cell? ⟨w.heap.size, 9, none⟩ = some (.int .i64 ru) ∧ w'.cell? ⟨w.heap.size, 10, none⟩ = some (.int .i64 nu) ∧ w'.cell? ⟨w.heap.size, 11, none⟩ = some (.int .i64 wa) ∧ w'.cell? ⟨w.heap.size, 12, none⟩ = some (.int .i64 pf) ∧ w'.cell? ⟨w.heap.size, 13, none⟩ = some (.int .u64 (pc : Int)) ∧ w'.cell? ⟨w.heap.size, 14, none⟩ = some (.int .i64 pm) ∧ w'.cell? ⟨w.heap.size, 15, none⟩ = some (.slice ca cn cc) ∧ w'.cell? ⟨w.heap.size, 16, none⟩ = some (.slice aa an ac)) (go_keep) (fail)
      go_wp2_with fail
      go_meet
      refine ⟨rfl, rfl, rfl, ?_, (belA HB.out _).drew⟩
      rw [← HE.out, e8.out]
      exact row8 (heap2 _ _ _)
  case rest =>
  obtain ⟨rfl, rfl, rfl, HR0, HB0⟩ := hcut
  have HR : Hid (Rb8 wc (w.heap.size + 1) bb) := HR0
  replace HB : Hid (Below w.heap.size w wc) := HB0
  clear HR0 HB0 HX
  go_wp2_with fail
  go_loopw [3, 5, 58] (fun s _ i wr => ∃ j : Nat, j ≤ 8 ∧ i = .int .i64 (j : Int) ∧ s = .int .i64 (flv bb j) ∧ Hid (Below wc.heap.size wc wr)) (fun _ _ i _ => 8 - (intOf i).toNat)
  case atStart => exact ⟨0, Nat.zero_le _, rfl, rfl, Below.refl _ _⟩
  case round =>
    obtain ⟨j, hj, rfl, rfl, HBr⟩ := hrel
    by_cases hlt : j < 8
    · obtain ⟨y0, y1⟩ := HR.out j hlt
      replace y0 := cellB y0 HBr.out
      replace y1 := cellB y1 HBr.out
      have HF : Hid (flv bb (j + 1) = if bb j then bits BinOp.or IntKind.i64 (flv bb j) (bt2 j) else flv bb j) := rfl
      have HW : Hid (wrap64 ((j : Int) + 1) = ((j + 1 : Nat) : Int)) := wr1 hlt (by omega)
      have hjl : (j : Int) < 8 := by omega
      generalize hfn : flv bb (j + 1) = fn at HF
      have HN : Hid (flv bb (j + 1) = fn) := hfn
      clear hfn
      generalize flv bb j = fo at HF
      generalize bt2 j = tj at HF y0
      cases hb : bb j with
      | true =>
        rw [hb] at y1 HF
        go_wp2_with fail
        refine ⟨⟨j + 1, hlt, rfl, ?_, belA HBr.out _⟩, meas hlt rfl⟩
        rw [HN.out, HF.out]
        rfl
      | false =>
        rw [hb] at y1 HF
        go_wp2_with fail
        refine ⟨⟨j + 1, hlt, rfl, ?_, belA HBr.out _⟩, meas hlt rfl⟩
        rw [HN.out, HF.out]
        rfl
    · obtain rfl : j = 8 := by omega
      go_wp2_with fail
      go_ret
      exact ⟨rfl, bel2 HB.out HBr.out⟩
end Go.Proofs.YtddigndamimmpaaDoor
