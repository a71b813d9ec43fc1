/- The walk of ScriptSame. -/
import Derived.Test.YtimiklekajelfaaSL
import Derived.Deep.MidRow
import Derived.Deep.WholeRow
namespace Go.Proofs.Ytimiklekajelfaa
open Go.ChangeShapes Go.WideShapes Go.ChangeAt Go.RowKit
theorem range_row {w : World} {g t : Nat} {cs : Array Value} (h : w.heap[g]? = some (.cells cs t (0, 0))) : w.rangeAt g 0 cs.toList := fun j v hj => by
  rw [Nat.zero_add]
  exact (cell_of_row w g j cs t (0, 0) h).trans (by simpa using hj)
theorem info28s (L : Array Value) (h : L.size = 5) : (Try.prog.info? 28).map (·.size) = some L.toList.length := by
  rw [Array.length_toList, h]
  kernel_rfl
set_option maxHeartbeats 4000000 in
set_option maxRecDepth 100000 in
theorem ssame_walk (L1 L2 : Array Value) (w : World) (h1 : L1.size = 5) (h2 : L2.size = 5) (r : Bool)
    (SA : ∀ W, Below w.heap.size w W → Calls Try.prog 18 #[.agg L1, .agg L2] W fun e w' => e = .returned (.bool r) ∧ Below W.heap.size W w')
    (SB : ∀ W, Below w.heap.size w W → Calls Try.prog 17 #[.agg L1, .agg L2] W fun e w' => e = .returned (.bool r) ∧ Below W.heap.size W w')
    (SC : ∀ W, Below w.heap.size w W → Calls Try.prog 18 #[.agg L1, .agg L1] W fun e w' => e = .returned (.bool true) ∧ Below W.heap.size W w') :
    Calls Try.prog 4 #[.agg L1, .agg L2] w fun e w' => e = .returned (.bool true) ∧ Below w.heap.size w w' := by
  have HSA : Hid (∀ W, _) := SA
  have HSB : Hid (∀ W, _) := SB
  have HSC : Hid (∀ W, _) := SC
  have HJ1 := info28s L1 h1
  have HJ2 := info28s L2 h2
  obtain ⟨W0, hW0⟩ : ∃ W0, W0 = (w.alloc (.cells L1 28)).alloc (.cells L2 28) := ⟨_, rfl⟩
  have HW0 : Hid (W0 = _) := hW0
  have r1 : W0.heap[w.heap.size]? = some (.cells L1 28 (0, 0)) := by rw [hW0]; exact ((bel1 (w.alloc (.cells L1 28)) _).block _ (by simp)).trans (heap_alloc_new w _)
  have r2 : W0.heap[w.heap.size + 1]? = some (.cells L2 28 (0, 0)) := by rw [hW0]; have := heap_alloc_new (w.alloc (.cells L1 28)) (.cells L2 28); simpa using this
  have B0 : Hid (Below w.heap.size w W0) := by rw [hW0]; exact bel2 (bel1 w _) (bel1 _ _)
  have HST : Hid (∀ W', Below W0.heap.size W0 W' → W'.rangeAt w.heap.size 0 L1.toList ∧ W'.rangeAt (w.heap.size + 1) 0 L2.toList) := fun W' hb => ⟨range_row ((hb.block _ (Array.getElem?_eq_some_iff.1 r1).1).trans r1), range_row ((hb.block _ (Array.getElem?_eq_some_iff.1 r2).1).trans r2)⟩
  clear SA SB SC hW0 r1 r2 h1 h2
  go_enter Try.func4, Try.ntmps4
  go_upto_region 1 with fail
  rw [← HW0.out]
  refine wp_region_held_drew (S := (fun w' => w'.rangeAt w.heap.size 0 L1.toList ∧ w'.rangeAt (w.heap.size + 1) 0 L2.toList)) (by kernel_rfl) (HST.out _ (Below.refl _ W0).drew) (fun hHeld => ?_)
  change wpAnyH _ _ _ _ _ _ _ _ (World.drew _)
  refine wpAnyH_take (i := 0) (oi := { dst := some 5, op := Go.Op.load 28 (Go.Operand.tmp 2), type := 28, pos := "law.go:40", after := #[], guard := none }) (v := _) rfl (by kernel_rfl) (by kernel_rfl) (by kernel_rfl) (fun _ _ _ h => h) (yieldsIf_load_mid (by rfl) 28 _ rfl (w.heap.size) 0 rfl L1.toList _ (fun w h => h.1) Try.underlying28 rfl HJ1) hHeld ?_
  simp only [Act.put, List.setIfInBounds_toArray, List.set_cons_zero, List.set_cons_succ]
  refine wpAnyH_take (i := 1) (oi := { dst := some 6, op := Go.Op.load 28 (Go.Operand.tmp 3), type := 28, pos := "law.go:40", after := #[], guard := none }) (v := _) rfl (by kernel_rfl) (by kernel_rfl) (by kernel_rfl) (fun _ _ _ h => h) (yieldsIf_load_mid (by rfl) 28 _ rfl (w.heap.size + 1) 0 rfl L2.toList _ (fun w h => h.2) Try.underlying28 rfl HJ2) hHeld ?_
  simp only [Act.put, List.setIfInBounds_toArray, List.set_cons_zero, List.set_cons_succ]
  refine wpAnyH_take (i := 3) (oi := { dst := some 8, op := Go.Op.load 28 (Go.Operand.tmp 2), type := 28, pos := "law.go:40", after := #[], guard := none }) (v := _) rfl (by kernel_rfl) (by kernel_rfl) (by kernel_rfl) (fun _ _ _ h => h) (yieldsIf_load_mid (by rfl) 28 _ rfl (w.heap.size) 0 rfl L1.toList _ (fun w h => h.1) Try.underlying28 rfl HJ1) hHeld ?_
  simp only [Act.put, List.setIfInBounds_toArray, List.set_cons_zero, List.set_cons_succ]
  refine wpAnyH_take (i := 4) (oi := { dst := some 9, op := Go.Op.load 28 (Go.Operand.tmp 3), type := 28, pos := "law.go:40", after := #[], guard := none }) (v := _) rfl (by kernel_rfl) (by kernel_rfl) (by kernel_rfl) (fun _ _ _ h => h) (yieldsIf_load_mid (by rfl) 28 _ rfl (w.heap.size + 1) 0 rfl L2.toList _ (fun w h => h.2) Try.underlying28 rfl HJ2) hHeld ?_
  simp only [Act.put, List.setIfInBounds_toArray, List.set_cons_zero, List.set_cons_succ]
  refine wpAnyH_ready (rs := [2]) (by kernel_rfl) (by simp) ?_
  refine AllReadyH.cons (o := { dst := some 7, op := Go.Op.call { callee := Go.Callee.value (Go.Operand.func 18), args := #[Go.Operand.tmp 5, Go.Operand.tmp 6], argTypes := #[28, 28] }, type := 4, pos := "law.go:40", after := #[{ on := 0, ground := Go.Ground.data }, { on := 1, ground := Go.Ground.data }], guard := none }) rfl (fun K hK => ?_) AllReadyH.nil
  go_simp
  refine (HSA.out _ B0.out.drew).mono ?_
  rintro e w1 ⟨rfl, hb⟩
  have ZB1 : Hid (Below W0.heap.size W0 w1) := bel2 ((Below.refl _ W0).drew) hb
  clear hb
  clear hHeld
  refine hK.out _ _ (HST.out _ ZB1.out) (fun hHeld => ?_)
  clear hK K
  refine wpAnyH_ready (rs := [5]) (by kernel_rfl) (by simp) ?_
  refine AllReadyH.cons (o := { dst := some 10, op := Go.Op.call { callee := Go.Callee.value (Go.Operand.func 17), args := #[Go.Operand.tmp 8, Go.Operand.tmp 9], argTypes := #[28, 28] }, type := 4, pos := "law.go:40", after := #[{ on := 3, ground := Go.Ground.data }, { on := 4, ground := Go.Ground.data }, { on := 2, ground := Go.Ground.chain }], guard := none }) rfl (fun K hK => ?_) AllReadyH.nil
  go_simp
  refine (HSB.out _ (bel2 B0.out ZB1.out)).mono ?_
  rintro e w2 ⟨rfl, hb⟩
  have ZB2 : Hid (Below W0.heap.size W0 w2) := bel2 ZB1.out hb
  clear hb
  clear hHeld
  refine hK.out _ _ (HST.out _ ZB2.out) (fun hHeld => ?_)
  clear hK K
  refine wpAnyH_take (i := 6) (oi := { dst := some 11, op := Go.Op.binOp Go.BinOp.eql 4 (Go.Operand.tmp 7) (Go.Operand.tmp 10) 4, type := 4, pos := "law.go:40", after := #[{ on := 2, ground := Go.Ground.data }, { on := 5, ground := Go.Ground.data }], guard := none }) (v := ?_) rfl (by kernel_rfl) (by kernel_rfl) (by kernel_rfl) (fun _ _ _ h => h) (Or.inl ⟨by rfl, ?_⟩) hHeld ?_
  rotate_left 1
  · (intro w hSw; (try dsimp only at hSw); go_simp <;> with_reducible rfl)
  simp only [Act.put, List.setIfInBounds_toArray, List.set_cons_zero, List.set_cons_succ]
  refine wpAnyH_take (i := 7) (oi := { dst := some 12, op := Go.Op.move (Go.Operand.tmp 11), type := 4, pos := "law.go:40", after := #[{ on := 6, ground := Go.Ground.data }, { on := 5, ground := Go.Ground.chain }], guard := none }) (v := ?_) rfl (by kernel_rfl) (by kernel_rfl) (by kernel_rfl) (fun _ _ _ h => h) (Or.inl ⟨by rfl, ?_⟩) hHeld ?_
  rotate_left 1
  · (intro w hSw; (try dsimp only at hSw); go_simp <;> with_reducible rfl)
  simp only [Act.put, List.setIfInBounds_toArray, List.set_cons_zero, List.set_cons_succ]
  refine wpAnyH_take (i := 8) (oi := { dst := some 13, op := Go.Op.load 28 (Go.Operand.tmp 2), type := 28, pos := "law.go:40", after := #[{ on := 7, ground := Go.Ground.guard }], guard := some (7, true) }) (v := _) rfl (by kernel_rfl) (by kernel_rfl) (by kernel_rfl) (fun _ _ _ h => h) (yieldsIf_load_mid (by rfl) 28 _ rfl (w.heap.size) 0 rfl L1.toList _ (fun w h => h.1) Try.underlying28 rfl HJ1) hHeld ?_
  simp only [Act.put, List.setIfInBounds_toArray, List.set_cons_zero, List.set_cons_succ]
  refine wpAnyH_take (i := 9) (oi := { dst := some 14, op := Go.Op.load 28 (Go.Operand.tmp 2), type := 28, pos := "law.go:40", after := #[{ on := 7, ground := Go.Ground.guard }], guard := some (7, true) }) (v := _) rfl (by kernel_rfl) (by kernel_rfl) (by kernel_rfl) (fun _ _ _ h => h) (yieldsIf_load_mid (by rfl) 28 _ rfl (w.heap.size) 0 rfl L1.toList _ (fun w h => h.1) Try.underlying28 rfl HJ1) hHeld ?_
  simp only [Act.put, List.setIfInBounds_toArray, List.set_cons_zero, List.set_cons_succ]
  refine wpAnyH_ready (rs := [10]) (by kernel_rfl) (by simp) ?_
  refine AllReadyH.cons (o := { dst := some 15, op := Go.Op.call { callee := Go.Callee.value (Go.Operand.func 18), args := #[Go.Operand.tmp 13, Go.Operand.tmp 14], argTypes := #[28, 28] }, type := 4, pos := "law.go:40", after := #[{ on := 8, ground := Go.Ground.data }, { on := 9, ground := Go.Ground.data }, { on := 7, ground := Go.Ground.chain }, { on := 7, ground := Go.Ground.guard }], guard := some (7, true) }) rfl (fun K hK => ?_) AllReadyH.nil
  go_simp
  refine (HSC.out _ (bel2 B0.out ZB2.out)).mono ?_
  rintro e w3 ⟨rfl, hb⟩
  have ZB3 : Hid (Below W0.heap.size W0 w3) := bel2 ZB2.out hb
  clear hb
  clear hHeld
  refine hK.out _ _ (HST.out _ ZB3.out) (fun hHeld => ?_)
  clear hK K
  refine wpAnyH_take (i := 11) (oi := { dst := some 16, op := Go.Op.pick (Go.Operand.tmp 12) (Go.Operand.tmp 15) (Go.Operand.const (Go.Value.bool false)), type := 4, pos := "law.go:40", after := #[{ on := 7, ground := Go.Ground.data }, { on := 10, ground := Go.Ground.data }], guard := none }) (v := ?_) rfl (by kernel_rfl) (by kernel_rfl) (by kernel_rfl) (fun _ _ _ h => h) (Or.inl ⟨by rfl, ?_⟩) hHeld ?_
  rotate_left 1
  · (intro w hSw; (try dsimp only at hSw); go_simp <;> with_reducible rfl)
  simp only [Act.put, List.setIfInBounds_toArray, List.set_cons_zero, List.set_cons_succ]
  refine wpAnyH_take (i := 12) (oi := { dst := some 17, op := Go.Op.move (Go.Operand.tmp 16), type := 4, pos := "law.go:40", after := #[{ on := 11, ground := Go.Ground.data }, { on := 10, ground := Go.Ground.chain }], guard := none }) (v := ?_) rfl (by kernel_rfl) (by kernel_rfl) (by kernel_rfl) (fun _ _ _ h => h) (Or.inl ⟨by rfl, ?_⟩) hHeld ?_
  rotate_left 1
  · (intro w hSw; (try dsimp only at hSw); go_simp <;> with_reducible rfl)
  simp only [Act.put, List.setIfInBounds_toArray, List.set_cons_zero, List.set_cons_succ]
  refine wpAnyH_ready (rs := [13]) (by kernel_rfl) (by simp) ?_
  refine AllReadyH.cons (o := { dst := some 18, op := Go.Op.call { callee := Go.Callee.value (Go.Operand.func 8), args := #[], argTypes := #[] }, type := 4, pos := "law.go:40", after := #[{ on := 12, ground := Go.Ground.chain }, { on := 12, ground := Go.Ground.guard }], guard := some (12, true) }) rfl (fun K hK => ?_) AllReadyH.nil
  go_simp
  refine (awake_calls _).mono ?_
  rintro e w4 ⟨rfl, hb⟩
  have ZB4 : Hid (Below W0.heap.size W0 w4) := bel2 ZB3.out hb
  clear hb
  clear hHeld
  refine hK.out _ _ (HST.out _ ZB4.out) (fun hHeld => ?_)
  clear hK K
  refine wpAnyH_take (i := 14) (oi := { dst := some 19, op := Go.Op.pick (Go.Operand.tmp 17) (Go.Operand.tmp 18) (Go.Operand.const (Go.Value.bool false)), type := 4, pos := "law.go:40", after := #[{ on := 12, ground := Go.Ground.data }, { on := 13, ground := Go.Ground.data }], guard := none }) (v := ?_) rfl (by kernel_rfl) (by kernel_rfl) (by kernel_rfl) (fun _ _ _ h => h) (Or.inl ⟨by rfl, ?_⟩) hHeld ?_
  rotate_left 1
  · (intro w hSw; (try dsimp only at hSw); go_simp <;> with_reducible rfl)
  simp only [Act.put, List.setIfInBounds_toArray, List.set_cons_zero, List.set_cons_succ]
  refine wpAnyH_take (i := 15) (oi := { dst := some 4, op := Go.Op.assign (Go.Operand.tmp 19), type := 4, pos := "law.go:40", after := #[{ on := 14, ground := Go.Ground.data }, { on := 13, ground := Go.Ground.chain }, { on := 0, ground := Go.Ground.phase }, { on := 1, ground := Go.Ground.phase }, { on := 2, ground := Go.Ground.phase }, { on := 3, ground := Go.Ground.phase }, { on := 4, ground := Go.Ground.phase }, { on := 5, ground := Go.Ground.phase }, { on := 6, ground := Go.Ground.phase }, { on := 7, ground := Go.Ground.phase }, { on := 8, ground := Go.Ground.phase }, { on := 9, ground := Go.Ground.phase }, { on := 10, ground := Go.Ground.phase }, { on := 11, ground := Go.Ground.phase }, { on := 12, ground := Go.Ground.phase }, { on := 13, ground := Go.Ground.phase }, { on := 14, ground := Go.Ground.phase }], guard := none }) (v := ?_) rfl (by kernel_rfl) (by kernel_rfl) (by kernel_rfl) (fun _ _ _ h => h) (Or.inl ⟨by rfl, ?_⟩) hHeld ?_
  rotate_left 1
  · (intro w hSw; (try dsimp only at hSw); go_simp <;> with_reducible rfl)
  simp only [Act.put, List.setIfInBounds_toArray, List.set_cons_zero, List.set_cons_succ]
  refine wpAnyH_done (by kernel_rfl) ?_ _
  go_wp2_with fail
  go_ret
  exact ⟨rfl, B0.out.trans (ZB4.out.mono B0.out.size)⟩
theorem ssame_calls (P P2 : Nat → Prop) (x y : Sp) (vb vk vb' vk' : Value) (w : World) (h : IsV P w vb vk x) (h2 : IsV P2 w vb' vk' y) :
    Calls Try.prog 4 #[.agg (rowS vb vk x), .agg (rowS vb' vk' y)] w fun e w' => e = .returned (.bool true) ∧ Below w.heap.size w w' :=
  ssame_walk _ _ w rfl rfl (sameB x y) (fun W hb => same_calls P P2 x y vb vk vb' vk' W (h.below hb) (h2.below hb)) (fun W hb => rsame_calls P P2 x y vb vk vb' vk' W (h.below hb) (h2.below hb))
    (fun W hb => by have := same_calls P P x x vb vk vb vk W (h.below hb) (h.below hb); rwa [sameB_refl] at this)
end Go.Proofs.Ytimiklekajelfaa
