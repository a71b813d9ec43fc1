/- awake: the bytes of one event. -/
import Derived.Test.YtmmachcdoeopfaaDoorPE
import Derived.Test.YtmmachcdoeopfaaDoorRows
import Derived.WalkKit
import Derived.WalkLawsBesides
import Derived.WalkSpells
import Derived.ProofKit
import Derived.OpenShut
import Derived.Below
import Derived.Deep.LoopGhost
import Derived.Deep.RegionHeld3
import Derived.Laws.EntriesVeiled
namespace Go.Proofs.YtmmachcdoeopfaaDoor
open Go.ChangeShapes Go.WideShapes Go.ChangeAt Go.RowKit
theorem bel1 (w : World) (o : Obj) : Below w.heap.size w (w.alloc o) := (Below.refl _ w).alloc (Nat.le_refl _) o
theorem bel2 {w w1 w2 : World} (h : Below w.heap.size w w1) (k : Below w1.heap.size w1 w2) : Below w.heap.size w w2 := h.trans (k.mono h.size)
theorem cellB {w w' : World} {a : Addr} {v : Value} (h : w.cell? a = some v) (hb : Below w.heap.size w w') : w'.cell? a = some v := (hb.cell (World.block_lt_of_cell? w _ h)).trans h
theorem a1 : bits BinOp.and IntKind.i64 2 1 = 0 := by decide +kernel
theorem a2 : bits BinOp.and IntKind.i64 2 2 = 2 := by decide +kernel
theorem a4 : bits BinOp.and IntKind.i64 2 4 = 0 := by decide +kernel
theorem a8 : bits BinOp.and IntKind.i64 2 8 = 0 := by decide +kernel
theorem a12 : bits BinOp.and IntKind.i64 2 12 = 0 := by decide +kernel
theorem a16 : bits BinOp.and IntKind.i64 2 16 = 0 := by decide +kernel
theorem a32 : bits BinOp.and IntKind.i64 2 32 = 0 := by decide +kernel
theorem kind3 (w : World) : Calls Tryd.prog 9 #[.int .i64 3] w fun e w' => e = .returned (.bool true) ∧ w' = w := by
  go_enter Tryd.func9, Tryd.ntmps9
  go_wp2
  go_ret
  exact ⟨rfl, rfl⟩
theorem lim3 (w : World) : Calls Tryd.prog 27 #[.int .i64 3] w fun e w' => e = .returned (.tuple #[.int .i64 0, .int .i64 0]) ∧ w' = w := by
  go_enter Tryd.func27, Tryd.ntmps27
  go_wp2
  go_ret2
  exact ⟨rfl, rfl⟩
theorem parts3 (w : World) : Calls Tryd.prog 13 #[.int .i64 3] w fun e w' => e = .returned (.int .i64 2) ∧ w' = w := by
  go_enter Tryd.func13, Tryd.ntmps13
  go_wp2
  go_ret
  exact ⟨rfl, rfl⟩
theorem wi5 (w : World) : Calls Tryd.prog 28 #[.int .i64 5, .int .i64 0, .int .i64 1099511627776] w fun e w' => e = .returned (.bool true) ∧ w' = w := by
  go_enter Tryd.func28, Tryd.ntmps28
  go_wp2
  go_ret
  exact ⟨rfl, rfl⟩
theorem wi0 (w : World) : Calls Tryd.prog 28 #[.int .i64 0, .int .i64 0, .int .i64 0] w fun e w' => e = .returned (.bool true) ∧ w' = w := by
  go_enter Tryd.func28, Tryd.ntmps28
  go_wp2
  go_ret
  exact ⟨rfl, rfl⟩
theorem wi9 (w : World) : Calls Tryd.prog 28 #[.int .i64 9, .int .i64 0, .int .i64 2199023255552] w fun e w' => e = .returned (.bool true) ∧ w' = w := by
  go_enter Tryd.func28, Tryd.ntmps28
  go_wp2
  go_ret
  exact ⟨rfl, rfl⟩
set_option maxRecDepth 100000 in
theorem numbers3 (w : World) : Calls Tryd.prog 18 #[(.agg #[.int .i64 3, .int .i64 5, .int .i64 0, .int .i64 9, .string ⟨#[]⟩, .int .i64 0, .int .i64 0, .int .u64 0, .string ⟨#[]⟩, .slice none 0 0, .int .i64 0, .int .u64 0, .int .i64 0])] w fun e w' => e = .returned (.bool true) ∧ Below w.heap.size w w' := by
  have b2 := a2
  go_enter Tryd.func18, Tryd.ntmps18
  go_wp2_with fail
  refine (lim3 _).mono ?_
  rintro e w1 ⟨rfl, e1⟩
  have e2 := e1.symm
  subst e2
  clear e1
  go_wp2_with fail
  refine (parts3 _).mono ?_
  rintro e w1 ⟨rfl, e1⟩
  have e2 := e1.symm
  subst e2
  clear e1
  go_wp2_with fail
  refine (wi5 _).mono ?_
  rintro e w1 ⟨rfl, e1⟩
  have e2 := e1.symm
  subst e2
  clear e1
  go_wp2_with fail
  refine (wi0 _).mono ?_
  rintro e w1 ⟨rfl, e1⟩
  have e2 := e1.symm
  subst e2
  clear e1
  go_wp2_with fail
  refine (wi9 _).mono ?_
  rintro e w1 ⟨rfl, e1⟩
  have e2 := e1.symm
  subst e2
  clear e1
  go_wp2_with fail
  go_ret
  exact ⟨rfl, bel1 _ _⟩
set_option maxRecDepth 100000 in
theorem name3 (w : World) : Calls Tryd.prog 19 #[(.agg #[.int .i64 3, .int .i64 5, .int .i64 0, .int .i64 9, .string ⟨#[]⟩, .int .i64 0, .int .i64 0, .int .u64 0, .string ⟨#[]⟩, .slice none 0 0, .int .i64 0, .int .u64 0, .int .i64 0])] w fun e w' => e = .returned (.bool true) ∧ Below w.heap.size w w' := by
  have b4 := a4
  have b8 := a8
  go_enter Tryd.func19, Tryd.ntmps19
  go_wp2_with fail
  refine (parts3 _).mono ?_
  rintro e w1 ⟨rfl, e1⟩
  have e2 := e1.symm
  subst e2
  clear e1
  go_wp2_with fail
  go_ret
  exact ⟨rfl, bel1 _ _⟩
theorem eqf3 (w : World) : Calls Tryd.prog 41 #[.slice none 0 0, .slice none 0 0, .func (.func 32) #[] #[]] w fun e w' => e = .returned (.bool true) ∧ Below w.heap.size w w' := by
  go_enter Tryd.func41, Tryd.ntmps41
  go_wp2_with fail
  go_loopw [17] (fun i wr => i = .int .i64 0 ∧ Hid (Below w.heap.size w wr)) (fun _ _ => 0)
  case atStart => exact ⟨rfl, Below.refl _ _⟩
  case round =>
    obtain ⟨rfl, HB⟩ := hrel
    go_wp2_with fail
    go_ret
    exact ⟨rfl, HB.out⟩
set_option maxRecDepth 100000 in
theorem same3 (w : World) : Calls Tryd.prog 32 #[(.agg #[.int .i64 0, .int .i64 0, .int .u64 0, .string ⟨#[]⟩, .slice none 0 0]), (.agg #[.int .i64 0, .int .i64 0, .int .u64 0, .string ⟨#[]⟩, .slice none 0 0])] w fun e w' => e = .returned (.bool true) ∧ Below w.heap.size w w' := by
  go_enter Tryd.func32, Tryd.ntmps32
  go_wp2_with fail
  refine (eqf3 _).mono ?_
  rintro e w1 ⟨rfl, hb⟩
  have HB : Hid (Below w.heap.size w w1) := bel2 (bel2 (bel1 _ _) (bel1 _ _)) hb
  clear hb
  go_wp2_with fail
  go_ret
  exact ⟨rfl, HB.out⟩
set_option maxRecDepth 100000 in
theorem value3 (w : World) : Calls Tryd.prog 20 #[(.agg #[.int .i64 3, .int .i64 5, .int .i64 0, .int .i64 9, .string ⟨#[]⟩, .int .i64 0, .int .i64 0, .int .u64 0, .string ⟨#[]⟩, .slice none 0 0, .int .i64 0, .int .u64 0, .int .i64 0])] w fun e w' => e = .returned (.bool true) ∧ Below w.heap.size w w' := by
  have b16 := a16
  go_enter Tryd.func20, Tryd.ntmps20
  go_wp2_with fail
  refine (parts3 _).mono ?_
  rintro e w1 ⟨rfl, e1⟩
  have e2 := e1.symm
  subst e2
  clear e1
  go_wp2_with fail
  refine (same3 _).mono ?_
  rintro e w1 ⟨rfl, hb⟩
  have HB : Hid (Below w.heap.size w w1) := bel2 (bel1 _ _) hb
  clear hb
  go_wp2_with fail
  go_ret
  exact ⟨rfl, HB.out⟩
set_option maxRecDepth 100000 in
theorem policy3 (w : World) : Calls Tryd.prog 21 #[(.agg #[.int .i64 3, .int .i64 5, .int .i64 0, .int .i64 9, .string ⟨#[]⟩, .int .i64 0, .int .i64 0, .int .u64 0, .string ⟨#[]⟩, .slice none 0 0, .int .i64 0, .int .u64 0, .int .i64 0])] w fun e w' => e = .returned (.bool true) ∧ Below w.heap.size w w' := by
  have b32 := a32
  go_enter Tryd.func21, Tryd.ntmps21
  go_wp2_with fail
  refine (parts3 _).mono ?_
  rintro e w1 ⟨rfl, e1⟩
  have e2 := e1.symm
  subst e2
  clear e1
  go_wp2_with fail
  go_ret
  exact ⟨rfl, bel1 _ _⟩
def At3 (w : World) (B : Nat) : Prop := w.cell? ⟨B, 0, none⟩ = some (.int .i64 3) ∧ w.cell? ⟨B, 1, none⟩ = some (.int .i64 5) ∧ w.cell? ⟨B, 2, none⟩ = some (.int .i64 0) ∧ w.cell? ⟨B, 3, none⟩ = some (.int .i64 9) ∧ w.cell? ⟨B, 4, none⟩ = some (.string ⟨#[]⟩) ∧ w.cell? ⟨B, 5, none⟩ = some (.int .i64 0) ∧ w.cell? ⟨B, 6, none⟩ = some (.int .i64 0) ∧ w.cell? ⟨B, 7, none⟩ = some (.int .u64 0) ∧ w.cell? ⟨B, 8, none⟩ = some (.string ⟨#[]⟩) ∧ w.cell? ⟨B, 9, none⟩ = some (.slice none 0 0) ∧ w.cell? ⟨B, 10, none⟩ = some (.int .i64 0) ∧ w.cell? ⟨B, 11, none⟩ = some (.int .u64 0) ∧ w.cell? ⟨B, 12, none⟩ = some (.int .i64 0)
theorem At3.below {w w' : World} {B : Nat} (h : At3 w B) (hb : Below w.heap.size w w') : At3 w' B := by
  obtain ⟨h0, h1, h2, h3, h4, h5, h6, h7, h8, h9, h10, h11, h12⟩ := h
  exact ⟨cellB h0 hb, cellB h1 hb, cellB h2 hb, cellB h3 hb, cellB h4 hb, cellB h5 hb, cellB h6 hb, cellB h7 hb, cellB h8 hb, cellB h9 hb, cellB h10 hb, cellB h11 hb, cellB h12 hb⟩
theorem At3.box (w : World) : At3 (w.alloc (.cells #[.int .i64 3, .int .i64 5, .int .i64 0, .int .i64 9, .string ⟨#[]⟩, .int .i64 0, .int .i64 0, .int .u64 0, .string ⟨#[]⟩, .slice none 0 0, .int .i64 0, .int .u64 0, .int .i64 0] 38)) w.heap.size := by
  refine ⟨?_, ?_, ?_, ?_, ?_, ?_, ?_, ?_, ?_, ?_, ?_, ?_, ?_⟩ <;> simp
set_option maxHeartbeats 1000000 in
set_option maxRecDepth 100000 in
theorem check3 (w : World) : Calls Tryd.prog 12 #[(.agg #[.int .i64 3, .int .i64 5, .int .i64 0, .int .i64 9, .string ⟨#[]⟩, .int .i64 0, .int .i64 0, .int .u64 0, .string ⟨#[]⟩, .slice none 0 0, .int .i64 0, .int .u64 0, .int .i64 0])] w fun e w' => e = .returned (.int .i64 0) ∧ Below w.heap.size w w' := by
  have HX0 : Hid (At3 (w.alloc (.cells #[.int .i64 3, .int .i64 5, .int .i64 0, .int .i64 9, .string ⟨#[]⟩, .int .i64 0, .int .i64 0, .int .u64 0, .string ⟨#[]⟩, .slice none 0 0, .int .i64 0, .int .u64 0, .int .i64 0] 38)) w.heap.size) := At3.box w
  have HB0 : Hid (Below w.heap.size w (w.alloc (.cells #[.int .i64 3, .int .i64 5, .int .i64 0, .int .i64 9, .string ⟨#[]⟩, .int .i64 0, .int .i64 0, .int .u64 0, .string ⟨#[]⟩, .slice none 0 0, .int .i64 0, .int .u64 0, .int .i64 0] 38))) := bel1 _ _
  go_enter Tryd.func12, Tryd.ntmps12
  go_wp2_with fail
  refine (kind3 _).mono ?_
  rintro e w1 ⟨rfl, e1⟩
  subst e1
  obtain ⟨x0, x1, x2, x3, x4, x5, x6, x7, x8, x9, x10, x11, x12⟩ := HX0.out
  go_wp2_with fail
  refine (numbers3 _).mono ?_
  rintro e w1 ⟨rfl, hb⟩
  have HB1 : Hid (Below w.heap.size w w1) := bel2 HB0.out hb
  have HX1 : Hid (At3 w1 w.heap.size) := HX0.out.below hb
  clear hb x0 x1 x2 x3 x4 x5 x6 x7 x8 x9 x10 x11 x12
  obtain ⟨x0, x1, x2, x3, x4, x5, x6, x7, x8, x9, x10, x11, x12⟩ := HX1.out
  go_wp2_with fail
  refine (name3 _).mono ?_
  rintro e w2 ⟨rfl, hb⟩
  have HB2 : Hid (Below w.heap.size w w2) := bel2 HB1.out hb
  have HX2 : Hid (At3 w2 w.heap.size) := HX1.out.below hb
  clear hb x0 x1 x2 x3 x4 x5 x6 x7 x8 x9 x10 x11 x12
  obtain ⟨x0, x1, x2, x3, x4, x5, x6, x7, x8, x9, x10, x11, x12⟩ := HX2.out
  go_wp2_with fail
  refine (value3 _).mono ?_
  rintro e w3 ⟨rfl, hb⟩
  have HB3 : Hid (Below w.heap.size w w3) := bel2 HB2.out hb
  have HX3 : Hid (At3 w3 w.heap.size) := HX2.out.below hb
  clear hb x0 x1 x2 x3 x4 x5 x6 x7 x8 x9 x10 x11 x12
  obtain ⟨x0, x1, x2, x3, x4, x5, x6, x7, x8, x9, x10, x11, x12⟩ := HX3.out
  go_wp2_with fail
  refine (policy3 _).mono ?_
  rintro e w4 ⟨rfl, hb⟩
  have HB4 : Hid (Below w.heap.size w w4) := bel2 HB3.out hb
  have HX4 : Hid (At3 w4 w.heap.size) := HX3.out.below hb
  clear hb x0 x1 x2 x3 x4 x5 x6 x7 x8 x9 x10 x11 x12
  go_wp2_with fail
  go_ret
  exact ⟨rfl, HB4.out⟩
theorem holds_nil' (w : World) : Lib.HoldsBytes w (.slice none 0 0) [] := ⟨none, 0, rfl, fun _ => rfl, fun a ha => by cases ha⟩
theorem num_3 (w : World) : Calls Tryd.prog 14 #[.slice none 0 0, .int .i64 3] w (NB w [3]) := num_calls _ [] 3 (by decide) w (holds_nil' w) (by decide)
theorem num_5 (v : Value) (w : World) (h : Lib.HoldsBytes w v [3]) : Calls Tryd.prog 14 #[v, .int .i64 5] w (NB w [3, 5]) := num_calls v [3] 5 (by decide) w h (by decide)
theorem num_9 (v : Value) (w : World) (h : Lib.HoldsBytes w v [3, 5]) : Calls Tryd.prog 14 #[v, .int .i64 9] w (NB w [3, 5, 9]) := num_calls v [3, 5] 9 (by decide) w h (by decide)
set_option maxHeartbeats 1000000 in
set_option maxRecDepth 100000 in
theorem encode3 (w : World) : Calls Tryd.prog 10 #[(.agg #[.int .i64 3, .int .i64 5, .int .i64 0, .int .i64 9, .string ⟨#[]⟩, .int .i64 0, .int .i64 0, .int .u64 0, .string ⟨#[]⟩, .slice none 0 0, .int .i64 0, .int .u64 0, .int .i64 0])] w fun e w' => ∃ g, e = .returned (.tuple #[.slice (some ⟨g, 0, none⟩) 3 3, .int .i64 0]) ∧ Lib.HoldsBytes w' (.slice (some ⟨g, 0, none⟩) 3 3) [3, 5, 9] ∧ Below w.heap.size w w' := by
  have b1 := a1
  have b2 := a2
  have b12 := a12
  have b16 := a16
  have b32 := a32
  have HX0 : Hid (At3 (w.alloc (.cells #[.int .i64 3, .int .i64 5, .int .i64 0, .int .i64 9, .string ⟨#[]⟩, .int .i64 0, .int .i64 0, .int .u64 0, .string ⟨#[]⟩, .slice none 0 0, .int .i64 0, .int .u64 0, .int .i64 0] 38)) w.heap.size) := At3.box w
  have HB0 : Hid (Below w.heap.size w (w.alloc (.cells #[.int .i64 3, .int .i64 5, .int .i64 0, .int .i64 9, .string ⟨#[]⟩, .int .i64 0, .int .i64 0, .int .u64 0, .string ⟨#[]⟩, .slice none 0 0, .int .i64 0, .int .u64 0, .int .i64 0] 38))) := bel1 _ _
  go_enter Tryd.func10, Tryd.ntmps10
  obtain ⟨x0, x1, x2, x3, x4, x5, x6, x7, x8, x9, x10, x11, x12⟩ := HX0.out
  go_wp2_with fail
  refine (check3 _).mono ?_
  rintro e w1 ⟨rfl, hb⟩
  have HB1 : Hid (Below w.heap.size w w1) := bel2 HB0.out hb
  have HX1 : Hid (At3 w1 w.heap.size) := HX0.out.below hb
  clear hb x0 x1 x2 x3 x4 x5 x6 x7 x8 x9 x10 x11 x12
  obtain ⟨x0, x1, x2, x3, x4, x5, x6, x7, x8, x9, x10, x11, x12⟩ := HX1.out
  go_wp2_with fail
  refine (parts3 _).mono ?_
  rintro e w2 ⟨rfl, e1⟩
  have e2 := e1.symm
  subst e2
  clear e1
  go_wp2_with fail
  go_region_held3 (fun w' => w'.cell? ⟨w.heap.size, 0, none⟩ = some (.int .i64 3) ∧ w'.cell? ⟨w.heap.size, 1, none⟩ = some (.int .i64 5)) (go_keep) (first
    | (go_at_call_of 14 (Value.int IntKind.i64 3); refine (num_3 _).mono ?_; rintro e w3 ⟨g3, q3, rfl, h3, hb3⟩; have H3 : Hid (Lib.HoldsBytes w3 (.slice (some ⟨g3, 0, none⟩) 1 1) [3]) := h3; have B3 : Hid (Below w.heap.size w w3) := (by first | exact bel2 HB1.out hb3 | exact bel2 HB1.out.drew hb3); have HX3 : Hid (At3 w3 w.heap.size) := HX1.out.below (by first | exact hb3 | exact bel2 (Below.refl _ w1).drew hb3); obtain ⟨y0, y1, -⟩ := HX3.out; clear hb3 h3 q3)
    | (go_at_call_of 14 (Value.int IntKind.i64 5); refine (num_5 _ _ H3.out).mono ?_; rintro e w4 ⟨g4, q4, rfl, h4, hb4⟩; have H4 : Hid (Lib.HoldsBytes w4 (.slice (some ⟨g4, 0, none⟩) 2 2) [3, 5]) := h4; have B4 : Hid (Below w.heap.size w w4) := bel2 B3.out hb4; have HX4 : Hid (At3 w4 w.heap.size) := HX3.out.below hb4; obtain ⟨z0, z1, -⟩ := HX4.out; clear hb4 h4 q4))
  clear x0 x1 x2 x3 x4 x5 x6 x7 x8 x9 x10 x11 x12 y0 y1 z0 z1
  obtain ⟨x0, x1, x2, x3, x4, x5, x6, x7, x8, x9, x10, x11, x12⟩ := HX4.out
  go_wp2_with fail
  refine (num_9 _ _ H4.out).mono ?_
  rintro e w5 ⟨g5, q5, rfl, h5, hb5⟩
  have H5 : Hid (Lib.HoldsBytes w5 (.slice (some ⟨g5, 0, none⟩) 3 3) [3, 5, 9]) := h5
  have B5 : Hid (Below w.heap.size w w5) := bel2 B4.out hb5
  clear hb5 h5 q5 x0 x1 x2 x3 x4 x5 x6 x7 x8 x9 x10 x11 x12
  go_wp2_with fail
  go_ret2
  exact ⟨g5, rfl, H5.out, B5.out⟩
theorem awake_calls (w : World) : Calls Tryd.prog 8 #[] w fun e w' => e = .returned (.bool true) ∧ Below w.heap.size w w' := by
  have EC : Hid (∀ W, _) := fun W => encode3 W
  go_enter Tryd.func8, Tryd.ntmps8
  go_wp2_with fail
  refine (EC.out _).mono ?_
  rintro e w1 ⟨g1, rfl, h1, hb⟩
  have H1 : Hid (Lib.HoldsBytes w1 (.slice (some ⟨g1, 0, none⟩) 3 3) [3, 5, 9]) := h1
  have HB : Hid (Below w.heap.size w w1) := hb
  have P1 : Hid (Lib.HoldsBytes (w1.alloc (.cells #[.int .u8 3, .int .u8 5, .int .u8 9] 5)) (.slice (some ⟨w1.heap.size, 0, none⟩) 3 3) [3, 5, 9]) := holds_bval w1 [3, 5, 9]
  clear h1 hb
  go_wp2_with fail
  refine (equal_calls _ _ _ _ _ (holds_below H1.out (bel1 w1 _)) P1.out).mono ?_
  rintro e w2 ⟨rfl, rfl⟩
  go_wp2_with fail
  go_ret
  exact ⟨rfl, HB.out.alloc HB.out.size _⟩
end Go.Proofs.YtmmachcdoeopfaaDoor
