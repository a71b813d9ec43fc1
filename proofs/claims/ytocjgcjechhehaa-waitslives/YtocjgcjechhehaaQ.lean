/- The contract of the reference's Same where the waits are the same. -/
import Derived.Test.YtocjgcjechhehaaP
namespace Go.Proofs.Ytocjgcjechhehaa
open Go.ChangeAt Go.ChangeShapes Go.Deep Go.RowKit Go.WideShapes
set_option maxHeartbeats 8000000 in
set_option maxRecDepth 100000 in
theorem wsame_calls (n : Nat) (ws : List Wt) (a a2 : Option Addr) (N c c2 : Nat) (hN : ws.length = N) (hl : N ≤ 1000) (w : World) (h : LsW w n a ws) (h2 : LsW w n a2 ws) :
    Calls Try.prog 10 #[.slice a N c, .slice a2 N c2] w fun e w' => e = .returned (.bool true) ∧ Below w.heap.size w w' := by
  have HH : Hid (LsW w n a ws) := h
  have HH2 : Hid (LsW w n a2 ws) := h2
  have HN : Hid (ws.length = N) := hN
  have HL : Hid (N ≤ 1000) := hl
  have hnn : ((N : Int) != (N : Int)) = false := by simp
  clear h h2 hN hl
  go_enter Try.func10, Try.ntmps10
  go_wp2_with fail
  go_loopw [5] (fun i wr => ∃ j : Nat, j ≤ N ∧ i = .int .i64 (j : Int) ∧ Hid (Below w.heap.size w wr)) (fun i _ => N - (intOf i).toNat)
  case atStart => exact ⟨0, Nat.zero_le _, rfl, Below.refl _ _⟩
  case round =>
    obtain ⟨j, hj, rfl, HB⟩ := hrel
    by_cases hlt : j < N
    · obtain ⟨x, hx⟩ : ∃ x, ws[j]? = some x := ⟨_, List.getElem?_eq_getElem (by rw [HN.out]; exact hlt)⟩
      obtain ⟨B, o, r, rfl, l1, i1⟩ := (HH.out.below HB.out) j x hx
      obtain ⟨B2, o2, r2, rfl, l2, i2⟩ := (HH2.out.below HB.out) j x hx
      obtain ⟨kA1, xA1, bA1, sA1, aA1, mA1, cA1, va0, va1, va2, va3, va4, IA1⟩ := i1.asked
      obtain ⟨kA2, xA2, bA2, sA2, aA2, mA2, cA2, vb0, vb1, vb2, vb3, vb4, IA2⟩ := i2.asked
      obtain ⟨kB1, xB1, bB1, sB1, aB1, mB1, cB1, vc0, vc1, vc2, vc3, vc4, IB1⟩ := i1.value
      obtain ⟨kB2, xB2, bB2, sB2, aB2, mB2, cB2, vd0, vd1, vd2, vd3, vd4, IB2⟩ := i2.value
      have V1A : Hid (r[6]? = some (.int .i64 kA1) ∧ r[6 + 1]? = some (.int .i64 xA1) ∧ r[6 + 2]? = some (.int .u64 bA1) ∧ r[6 + 3]? = some (.string sA1) ∧ r[6 + 4]? = some (.slice aA1 mA1 cA1)) := ⟨va0, va1, va2, va3, va4⟩
      have V2A : Hid (r2[6]? = some (.int .i64 kA2) ∧ r2[6 + 1]? = some (.int .i64 xA2) ∧ r2[6 + 2]? = some (.int .u64 bA2) ∧ r2[6 + 3]? = some (.string sA2) ∧ r2[6 + 4]? = some (.slice aA2 mA2 cA2)) := ⟨vb0, vb1, vb2, vb3, vb4⟩
      have V1B : Hid (r[11]? = some (.int .i64 kB1) ∧ r[11 + 1]? = some (.int .i64 xB1) ∧ r[11 + 2]? = some (.int .u64 bB1) ∧ r[11 + 3]? = some (.string sB1) ∧ r[11 + 4]? = some (.slice aB1 mB1 cB1)) := ⟨vc0, vc1, vc2, vc3, vc4⟩
      have V2B : Hid (r2[11]? = some (.int .i64 kB2) ∧ r2[11 + 1]? = some (.int .i64 xB2) ∧ r2[11 + 2]? = some (.int .u64 bB2) ∧ r2[11 + 3]? = some (.string sB2) ∧ r2[11 + 4]? = some (.slice aB2 mB2 cB2)) := ⟨vd0, vd1, vd2, vd3, vd4⟩
      have KA : Hid (∀ W, Below wr.heap.size wr W → Calls Try.prog 30 #[.agg #[.int .i64 kA1, .int .i64 xA1, .int .u64 bA1, .string sA1, .slice aA1 mA1 cA1], .agg #[.int .i64 kA2, .int .i64 xA2, .int .u64 bA2, .string sA2, .slice aA2 mA2 cA2]] W fun e w' => e = .returned (.bool true) ∧ Below W.heap.size W w') := fun W hW => (rsame_calls n _ x.asked _ x.asked W (IA1.below hW) (IA2.below hW)).mono fun e w' h => by
        obtain ⟨⟨b, rfl, hb⟩, h2⟩ := h
        exact ⟨by rw [hb.2 rfl], h2⟩
      have KV : Hid (∀ W, Below wr.heap.size wr W → Calls Try.prog 30 #[.agg #[.int .i64 kB1, .int .i64 xB1, .int .u64 bB1, .string sB1, .slice aB1 mB1 cB1], .agg #[.int .i64 kB2, .int .i64 xB2, .int .u64 bB2, .string sB2, .slice aB2 mB2 cB2]] W fun e w' => e = .returned (.bool true) ∧ Below W.heap.size W w') := fun W hW => (rsame_calls n _ x.value _ x.value W (IB1.below hW) (IB2.below hW)).mono fun e w' h => by
        obtain ⟨⟨b, rfl, hb⟩, h2⟩ := h
        exact ⟨by rw [hb.2 rfl], h2⟩
      have HI1 : Hid (IsW (Is wr n) r x) := i1
      have HI2 : Hid (IsW (Is wr n) r2 x) := i2
      have n1 := lies_range l1
      have n2 := lies_range l2
      have hi1 : (Try.prog.info? 29).map (·.size) = some r.toList.length := by rw [Array.length_toList]; exact info29s r i1.size
      have hi2 : (Try.prog.info? 29).map (·.size) = some r2.toList.length := by rw [Array.length_toList]; exact info29s r2 i2.size
      have hj1 := info29s r i1.size
      have hj2 := info29s r2 i2.size
      have ho1 : zW.size = r.size := i1.size.symm
      have ho2 : zW.size = r2.size := i2.size.symm
      have ha1 := all_one i1.one
      have ha2 := all_one i2.one
      have HKp : Hid (∀ W, Below wr.heap.size wr W → W.rangeAt B (o + j * 19) r.toList ∧ W.rangeAt B2 (o2 + j * 19) r2.toList) := fun W hW => ⟨lies_range (l1.below hW), lies_range (l2.below hW)⟩
      have HU1 : Hid (Below wr.heap.size wr (wr.drew.alloc (.cells zW 29))) := (Below.refl _ wr).drew.trans (bel1 wr.drew _)
      have HU2 : Hid (Below wr.heap.size wr ((wr.drew.alloc (.cells zW 29)).alloc (.cells zW 29))) := bel2 HU1.out (bel1 _ _)
      have HZ1 : Hid (((wr.drew.alloc (.cells zW 29)).alloc (.cells zW 29)).heap[wr.heap.size]? = some (.cells zW 29 (0, 0))) := heap_alloc2_old wr.drew _ _
      have HZ2 : Hid (((wr.drew.alloc (.cells zW 29)).alloc (.cells zW 29)).heap[wr.heap.size + 1]? = some (.cells zW 29 (0, 0))) := heap_alloc2_new wr.drew _ _
      have hjl : (j : Int) < (N : Int) := by omega
      have HW : Hid (wrap64 ((j : Int) + 1) = ((j + 1 : Nat) : Int)) := wr1 hlt (by have := HL.out; omega)
      clear l1 l2 i1 i2 va0 va1 va2 va3 va4 vb0 vb1 vb2 vb3 vb4 vc0 vc1 vc2 vc3 vc4 vd0 vd1 vd2 vd3 vd4 IA1 IA2 IB1 IB2 hx
      go_wp2_with fail
      refine wp_region_held_drew (S := (fun w' => w'.rangeAt B (o + j * 19) r.toList ∧ w'.rangeAt B2 (o2 + j * 19) r2.toList)) (by kernel_rfl) ⟨n1, n2⟩ (fun hHeld => ?_)
      change wpAnyH _ _ _ _ _ _ _ _ (World.drew _)
      refine wpAnyH_take (i := 0) (oi := { dst := some 19, op := Go.Op.move (Go.Operand.tmp 0), type := 22, pos := "ref.go:124", after := #[], guard := none }) (v := ?_) rfl (by kernel_rfl) (by kernel_rfl) (by kernel_rfl) (fun _ _ _ h => h) (Or.inl ⟨by rfl, ?_⟩) hHeld ?_
      rotate_left 1
      · (intro w hSw; (try dsimp only at hSw); go_simp <;> with_reducible rfl)
      simp only [Act.put, List.setIfInBounds_toArray, List.set_cons_zero, List.set_cons_succ]
      refine wpAnyH_take (i := 1) (oi := { dst := some 20, op := Go.Op.move (Go.Operand.tmp 5), type := 3, pos := "ref.go:124", after := #[], guard := none }) (v := ?_) rfl (by kernel_rfl) (by kernel_rfl) (by kernel_rfl) (fun _ _ _ h => h) (Or.inl ⟨by rfl, ?_⟩) hHeld ?_
      rotate_left 1
      · (intro w hSw; (try dsimp only at hSw); go_simp <;> with_reducible rfl)
      simp only [Act.put, List.setIfInBounds_toArray, List.set_cons_zero, List.set_cons_succ]
      refine wpAnyH_take (i := 2) (oi := { dst := some 21, op := Go.Op.indexAddr 22 (Go.Operand.tmp 19) (Go.Operand.tmp 20), type := 0, pos := "ref.go:124", after := #[{ on := 0, ground := Go.Ground.data }, { on := 1, ground := Go.Ground.data }], guard := none }) (v := ?_) rfl (by kernel_rfl) (by kernel_rfl) (by kernel_rfl) (fun _ _ _ h => h) (Or.inl ⟨by rfl, ?_⟩) hHeld ?_
      rotate_left 1
      · (intro w hSw; (try dsimp only at hSw); go_simp <;> with_reducible rfl)
      simp only [Act.put, List.setIfInBounds_toArray, List.set_cons_zero, List.set_cons_succ]
      refine wpAnyH_take (i := 3) (oi := { dst := some 22, op := Go.Op.load 29 (Go.Operand.tmp 21), type := 29, pos := "ref.go:124", after := #[{ on := 2, ground := Go.Ground.data }], guard := none }) (v := _) rfl (by kernel_rfl) (by kernel_rfl) (by kernel_rfl) (fun _ _ _ h => h) (yieldsIf_load_mid (by rfl) 29 _ rfl B (o + j * 19) rfl r.toList _ (fun w h => h.1) Try.underlying29 rfl hi1) hHeld ?_
      simp only [Act.put, List.setIfInBounds_toArray, List.set_cons_zero, List.set_cons_succ]
      refine wpAnyH_take (i := 4) (oi := { dst := some 23, op := Go.Op.move (Go.Operand.tmp 1), type := 22, pos := "ref.go:124", after := #[{ on := 10, ground := Go.Ground.gcOnly Go.Departure.lateStores }], guard := none }) (v := ?_) rfl (by kernel_rfl) (by kernel_rfl) (by kernel_rfl) (fun _ _ _ h => h) (Or.inl ⟨by rfl, ?_⟩) hHeld ?_
      rotate_left 1
      · (intro w hSw; (try dsimp only at hSw); go_simp <;> with_reducible rfl)
      simp only [Act.put, List.setIfInBounds_toArray, List.set_cons_zero, List.set_cons_succ]
      refine wpAnyH_take (i := 5) (oi := { dst := some 24, op := Go.Op.move (Go.Operand.tmp 5), type := 3, pos := "ref.go:124", after := #[{ on := 10, ground := Go.Ground.gcOnly Go.Departure.lateStores }], guard := none }) (v := ?_) rfl (by kernel_rfl) (by kernel_rfl) (by kernel_rfl) (fun _ _ _ h => h) (Or.inl ⟨by rfl, ?_⟩) hHeld ?_
      rotate_left 1
      · (intro w hSw; (try dsimp only at hSw); go_simp <;> with_reducible rfl)
      simp only [Act.put, List.setIfInBounds_toArray, List.set_cons_zero, List.set_cons_succ]
      refine wpAnyH_take (i := 6) (oi := { dst := some 25, op := Go.Op.indexAddr 22 (Go.Operand.tmp 23) (Go.Operand.tmp 24), type := 0, pos := "ref.go:124", after := #[{ on := 4, ground := Go.Ground.data }, { on := 5, ground := Go.Ground.data }, { on := 10, ground := Go.Ground.gcOnly Go.Departure.lateStores }], guard := none }) (v := ?_) rfl (by kernel_rfl) (by kernel_rfl) (by kernel_rfl) (fun _ _ _ h => h) (Or.inl ⟨by rfl, ?_⟩) hHeld ?_
      rotate_left 1
      · (intro w hSw; (try dsimp only at hSw); go_simp <;> with_reducible rfl)
      simp only [Act.put, List.setIfInBounds_toArray, List.set_cons_zero, List.set_cons_succ]
      refine wpAnyH_take (i := 7) (oi := { dst := some 26, op := Go.Op.load 29 (Go.Operand.tmp 25), type := 29, pos := "ref.go:124", after := #[{ on := 6, ground := Go.Ground.data }, { on := 10, ground := Go.Ground.gcOnly Go.Departure.lateStores }], guard := none }) (v := _) rfl (by kernel_rfl) (by kernel_rfl) (by kernel_rfl) (fun _ _ _ h => h) (yieldsIf_load_mid (by rfl) 29 _ rfl B2 (o2 + j * 19) rfl r2.toList _ (fun w h => h.2) Try.underlying29 rfl hi2) hHeld ?_
      simp only [Act.put, List.setIfInBounds_toArray, List.set_cons_zero, List.set_cons_succ]
      refine wpAnyH_ready (rs := [8, 9]) (by kernel_rfl) (by simp) ?_
      refine AllReadyH.cons (o := { dst := some 6, op := Go.Op.alloc 29, type := 0, pos := "ref.go:124", after := #[], guard := none }) rfl (fun K hK => ?_) (AllReadyH.cons (o := { dst := some 7, op := Go.Op.alloc 29, type := 0, pos := "ref.go:124", after := #[], guard := none }) rfl (fun K hK => ?_) AllReadyH.nil)
      · go_simp
        refine hK.out _ (wr.drew.alloc (.cells zW 29)) (HKp.out (wr.drew.alloc (.cells zW 29)) (HU1.out)) (fun hHeld => ?_)
        clear hK K
        refine wpAnyH_ready (rs := [9]) (by kernel_rfl) (by simp) ?_
        refine AllReadyH.cons (o := { dst := some 7, op := Go.Op.alloc 29, type := 0, pos := "ref.go:124", after := #[], guard := none }) rfl (fun K hK => ?_) AllReadyH.nil
        go_simp
        refine hK.out _ ((wr.drew.alloc (.cells zW 29)).alloc (.cells zW 29)) (HKp.out ((wr.drew.alloc (.cells zW 29)).alloc (.cells zW 29)) (HU2.out)) (fun hHeld => ?_)
        clear hK K
        generalize ((wr.drew.alloc (.cells zW 29)).alloc (.cells zW 29)) = W2 at HU2 HZ1 HZ2 ⊢
        refine wpAnyH_ready (rs := [10]) (by kernel_rfl) (by simp) ?_
        refine AllReadyH.cons (o := { dst := none, op := Go.Op.store 29 (Go.Operand.tmp 6) (Go.Operand.tmp 22), type := 0, pos := "ref.go:124", after := #[{ on := 8, ground := Go.Ground.data }, { on := 3, ground := Go.Ground.data }, { on := 0, ground := Go.Ground.phase }, { on := 1, ground := Go.Ground.phase }, { on := 2, ground := Go.Ground.phase }, { on := 3, ground := Go.Ground.phase }, { on := 4, ground := Go.Ground.textOnly Go.Departure.lateStores }, { on := 5, ground := Go.Ground.textOnly Go.Departure.lateStores }, { on := 6, ground := Go.Ground.textOnly Go.Departure.lateStores }, { on := 7, ground := Go.Ground.textOnly Go.Departure.lateStores }, { on := 8, ground := Go.Ground.phase }, { on := 9, ground := Go.Ground.phase }], guard := none }) rfl (fun K hK => ?_) AllReadyH.nil
        rw [if_pos (by rfl)]
        refine wp_store_row 29 _ _ rfl (wr.heap.size) r rfl rfl 29 zW HZ1.out hj1 ho1 ha1 ?_
        have HU3 : Hid (Below wr.heap.size wr (W2.setRow (wr.heap.size) r)) := below_setRow HU2.out (by omega) r
        have HZy : Hid ((W2.setRow (wr.heap.size) r).heap[wr.heap.size + 1]? = some (.cells zW 29 (0, 0))) := (setRow_other W2 _ _ r (by omega)).trans HZ2.out
        have HX1 : Hid ((W2.setRow (wr.heap.size) r).heap[wr.heap.size]? = some (.cells r 29 (0, 0))) := setRow_heap W2 _ zW r 29 (0, 0) HZ1.out
        refine hK.out _ _ (HKp.out _ HU3.out) (fun hHeld => ?_)
        clear hK K
        generalize W2.setRow (wr.heap.size) r = W3 at HU3 HZy HX1 ⊢
        simp only [Act.put]
        refine wpAnyH_ready (rs := [11]) (by kernel_rfl) (by simp) ?_
        refine AllReadyH.cons (o := { dst := none, op := Go.Op.store 29 (Go.Operand.tmp 7) (Go.Operand.tmp 26), type := 0, pos := "ref.go:124", after := #[{ on := 9, ground := Go.Ground.data }, { on := 7, ground := Go.Ground.data }, { on := 10, ground := Go.Ground.chain }, { on := 0, ground := Go.Ground.phase }, { on := 1, ground := Go.Ground.phase }, { on := 2, ground := Go.Ground.phase }, { on := 3, ground := Go.Ground.phase }, { on := 4, ground := Go.Ground.phase }, { on := 5, ground := Go.Ground.phase }, { on := 6, ground := Go.Ground.phase }, { on := 7, ground := Go.Ground.phase }, { on := 8, ground := Go.Ground.phase }, { on := 9, ground := Go.Ground.phase }, { on := 10, ground := Go.Ground.phase }], guard := none }) rfl (fun K hK => ?_) AllReadyH.nil
        rw [if_pos (by rfl)]
        refine wp_store_row 29 _ _ rfl (wr.heap.size + 1) r2 rfl rfl 29 zW HZy.out hj2 ho2 ha2 ?_
        have HU4 : Hid (Below wr.heap.size wr (W3.setRow (wr.heap.size + 1) r2)) := below_setRow HU3.out (by omega) r2
        have hx1 : (W3.setRow (wr.heap.size + 1) r2).heap[wr.heap.size]? = some (.cells r 29 (0, 0)) := (setRow_other W3 _ _ r2 (by omega)).trans HX1.out
        have hx2 : (W3.setRow (wr.heap.size + 1) r2).heap[wr.heap.size + 1]? = some (.cells r2 29 (0, 0)) := setRow_heap W3 _ zW r2 29 (0, 0) HZy.out
        refine hK.out _ _ (HKp.out _ HU4.out) (fun hHeld => ?_)
        clear hK K hHeld
        generalize W3.setRow (wr.heap.size + 1) r2 = W4 at HU4 hx1 hx2 ⊢
        simp only [Act.put]
        refine wpAnyH_done (by kernel_rfl) ?_ _
        have p0 : W4.cell? ⟨wr.heap.size, 0, none⟩ = some (.int .i64 x.op) := row_cell hx1 HI1.out.c0
        have p1 : W4.cell? ⟨wr.heap.size, 1, none⟩ = some (.int .i64 x.run) := row_cell hx1 HI1.out.c1
        have p2 : W4.cell? ⟨wr.heap.size, 2, none⟩ = some (.int .i64 x.seen) := row_cell hx1 HI1.out.c2
        have p3 : W4.cell? ⟨wr.heap.size, 3, none⟩ = some (.int .i64 x.upto) := row_cell hx1 HI1.out.c3
        have p4 : W4.cell? ⟨wr.heap.size, 4, none⟩ = some (.string x.flow) := row_cell hx1 HI1.out.c4
        have p5 : W4.cell? ⟨wr.heap.size, 5, none⟩ = some (.string x.name) := row_cell hx1 HI1.out.c5
        have p16 : W4.cell? ⟨wr.heap.size, 16, none⟩ = some (.bool x.query) := row_cell hx1 HI1.out.c16
        have p17 : W4.cell? ⟨wr.heap.size, 17, none⟩ = some (.bool x.over) := row_cell hx1 HI1.out.c17
        have p18 : W4.cell? ⟨wr.heap.size, 18, none⟩ = some (.int .i64 x.handed) := row_cell hx1 HI1.out.c18
        have p6 : W4.cell? ⟨wr.heap.size, 6, none⟩ = some (.int .i64 kA1) := row_cell hx1 V1A.out.1
        have p7 : W4.cell? ⟨wr.heap.size, 7, none⟩ = some (.int .i64 xA1) := row_cell hx1 V1A.out.2.1
        have p8 : W4.cell? ⟨wr.heap.size, 8, none⟩ = some (.int .u64 bA1) := row_cell hx1 V1A.out.2.2.1
        have p9 : W4.cell? ⟨wr.heap.size, 9, none⟩ = some (.string sA1) := row_cell hx1 V1A.out.2.2.2.1
        have p10 : W4.cell? ⟨wr.heap.size, 10, none⟩ = some (.slice aA1 mA1 cA1) := row_cell hx1 V1A.out.2.2.2.2
        have p11 : W4.cell? ⟨wr.heap.size, 11, none⟩ = some (.int .i64 kB1) := row_cell hx1 V1B.out.1
        have p12 : W4.cell? ⟨wr.heap.size, 12, none⟩ = some (.int .i64 xB1) := row_cell hx1 V1B.out.2.1
        have p13 : W4.cell? ⟨wr.heap.size, 13, none⟩ = some (.int .u64 bB1) := row_cell hx1 V1B.out.2.2.1
        have p14 : W4.cell? ⟨wr.heap.size, 14, none⟩ = some (.string sB1) := row_cell hx1 V1B.out.2.2.2.1
        have p15 : W4.cell? ⟨wr.heap.size, 15, none⟩ = some (.slice aB1 mB1 cB1) := row_cell hx1 V1B.out.2.2.2.2
        have q0 : W4.cell? ⟨wr.heap.size + 1, 0, none⟩ = some (.int .i64 x.op) := row_cell hx2 HI2.out.c0
        have q1 : W4.cell? ⟨wr.heap.size + 1, 1, none⟩ = some (.int .i64 x.run) := row_cell hx2 HI2.out.c1
        have q2 : W4.cell? ⟨wr.heap.size + 1, 2, none⟩ = some (.int .i64 x.seen) := row_cell hx2 HI2.out.c2
        have q3 : W4.cell? ⟨wr.heap.size + 1, 3, none⟩ = some (.int .i64 x.upto) := row_cell hx2 HI2.out.c3
        have q4 : W4.cell? ⟨wr.heap.size + 1, 4, none⟩ = some (.string x.flow) := row_cell hx2 HI2.out.c4
        have q5 : W4.cell? ⟨wr.heap.size + 1, 5, none⟩ = some (.string x.name) := row_cell hx2 HI2.out.c5
        have q16 : W4.cell? ⟨wr.heap.size + 1, 16, none⟩ = some (.bool x.query) := row_cell hx2 HI2.out.c16
        have q17 : W4.cell? ⟨wr.heap.size + 1, 17, none⟩ = some (.bool x.over) := row_cell hx2 HI2.out.c17
        have q18 : W4.cell? ⟨wr.heap.size + 1, 18, none⟩ = some (.int .i64 x.handed) := row_cell hx2 HI2.out.c18
        have q6 : W4.cell? ⟨wr.heap.size + 1, 6, none⟩ = some (.int .i64 kA2) := row_cell hx2 V2A.out.1
        have q7 : W4.cell? ⟨wr.heap.size + 1, 7, none⟩ = some (.int .i64 xA2) := row_cell hx2 V2A.out.2.1
        have q8 : W4.cell? ⟨wr.heap.size + 1, 8, none⟩ = some (.int .u64 bA2) := row_cell hx2 V2A.out.2.2.1
        have q9 : W4.cell? ⟨wr.heap.size + 1, 9, none⟩ = some (.string sA2) := row_cell hx2 V2A.out.2.2.2.1
        have q10 : W4.cell? ⟨wr.heap.size + 1, 10, none⟩ = some (.slice aA2 mA2 cA2) := row_cell hx2 V2A.out.2.2.2.2
        have q11 : W4.cell? ⟨wr.heap.size + 1, 11, none⟩ = some (.int .i64 kB2) := row_cell hx2 V2B.out.1
        have q12 : W4.cell? ⟨wr.heap.size + 1, 12, none⟩ = some (.int .i64 xB2) := row_cell hx2 V2B.out.2.1
        have q13 : W4.cell? ⟨wr.heap.size + 1, 13, none⟩ = some (.int .u64 bB2) := row_cell hx2 V2B.out.2.2.1
        have q14 : W4.cell? ⟨wr.heap.size + 1, 14, none⟩ = some (.string sB2) := row_cell hx2 V2B.out.2.2.2.1
        have q15 : W4.cell? ⟨wr.heap.size + 1, 15, none⟩ = some (.slice aB2 mB2 cB2) := row_cell hx2 V2B.out.2.2.2.2
        clear hx1 hx2 HX1 HZy HU3 HU2 HZ1 HZ2 HU1 hHeld
        obtain ⟨op, run, seen, upto, flow, name, asked, value, query, over, handed⟩ := x
        dsimp only at *
        go_wp2_with fail
        refine (KA.out _ ?_).mono ?_
        · first | exact HU4.out | exact bel2 HU4.out (bel1 _ _)
        rintro e w5 ⟨rfl, hb5⟩
        have HB5 : Hid (Below wr.heap.size wr w5) := bel2 HU4.out hb5
        have pz11 := cellW p11 hb5
        have pz12 := cellW p12 hb5
        have pz13 := cellW p13 hb5
        have pz14 := cellW p14 hb5
        have pz15 := cellW p15 hb5
        have qz11 := cellW q11 hb5
        have qz12 := cellW q12 hb5
        have qz13 := cellW q13 hb5
        have qz14 := cellW q14 hb5
        have qz15 := cellW q15 hb5
        clear hb5 KA p0 p1 p2 p3 p4 p5 p6 p7 p8 p9 p10 p11 p12 p13 p14 p15 p16 p17 p18 q0 q1 q2 q3 q4 q5 q6 q7 q8 q9 q10 q11 q12 q13 q14 q15 q16 q17 q18
        go_wp2_with fail
        refine (KV.out _ HB5.out).mono ?_
        rintro e w6 ⟨rfl, hb6⟩
        have HB6 : Hid (Below w.heap.size w w6) := bel2 HB.out (bel2 HB5.out hb6)
        clear hb6 KV pz11 pz12 pz13 pz14 pz15 qz11 qz12 qz13 qz14 qz15
        go_wp2_with fail
        exact ⟨⟨j + 1, hlt, by first | rw [HW.out] | exact congrArg _ (Int.natCast_succ j).symm, HB6⟩, by first | exact meas hlt HW.out | exact meas hlt (Int.natCast_succ j).symm⟩
      · go_simp
        refine hK.out _ (wr.drew.alloc (.cells zW 29)) (HKp.out (wr.drew.alloc (.cells zW 29)) (HU1.out)) (fun hHeld => ?_)
        clear hK K
        refine wpAnyH_ready (rs := [8]) (by kernel_rfl) (by simp) ?_
        refine AllReadyH.cons (o := { dst := some 6, op := Go.Op.alloc 29, type := 0, pos := "ref.go:124", after := #[], guard := none }) rfl (fun K hK => ?_) AllReadyH.nil
        go_simp
        refine hK.out _ ((wr.drew.alloc (.cells zW 29)).alloc (.cells zW 29)) (HKp.out ((wr.drew.alloc (.cells zW 29)).alloc (.cells zW 29)) (HU2.out)) (fun hHeld => ?_)
        clear hK K
        generalize ((wr.drew.alloc (.cells zW 29)).alloc (.cells zW 29)) = W2 at HU2 HZ1 HZ2 ⊢
        refine wpAnyH_ready (rs := [10]) (by kernel_rfl) (by simp) ?_
        refine AllReadyH.cons (o := { dst := none, op := Go.Op.store 29 (Go.Operand.tmp 6) (Go.Operand.tmp 22), type := 0, pos := "ref.go:124", after := #[{ on := 8, ground := Go.Ground.data }, { on := 3, ground := Go.Ground.data }, { on := 0, ground := Go.Ground.phase }, { on := 1, ground := Go.Ground.phase }, { on := 2, ground := Go.Ground.phase }, { on := 3, ground := Go.Ground.phase }, { on := 4, ground := Go.Ground.textOnly Go.Departure.lateStores }, { on := 5, ground := Go.Ground.textOnly Go.Departure.lateStores }, { on := 6, ground := Go.Ground.textOnly Go.Departure.lateStores }, { on := 7, ground := Go.Ground.textOnly Go.Departure.lateStores }, { on := 8, ground := Go.Ground.phase }, { on := 9, ground := Go.Ground.phase }], guard := none }) rfl (fun K hK => ?_) AllReadyH.nil
        rw [if_pos (by rfl)]
        refine wp_store_row 29 _ _ rfl (wr.heap.size + 1) r rfl rfl 29 zW HZ2.out hj1 ho1 ha1 ?_
        have HU3 : Hid (Below wr.heap.size wr (W2.setRow (wr.heap.size + 1) r)) := below_setRow HU2.out (by omega) r
        have HZy : Hid ((W2.setRow (wr.heap.size + 1) r).heap[wr.heap.size]? = some (.cells zW 29 (0, 0))) := (setRow_other W2 _ _ r (by omega)).trans HZ1.out
        have HX1 : Hid ((W2.setRow (wr.heap.size + 1) r).heap[wr.heap.size + 1]? = some (.cells r 29 (0, 0))) := setRow_heap W2 _ zW r 29 (0, 0) HZ2.out
        refine hK.out _ _ (HKp.out _ HU3.out) (fun hHeld => ?_)
        clear hK K
        generalize W2.setRow (wr.heap.size + 1) r = W3 at HU3 HZy HX1 ⊢
        simp only [Act.put]
        refine wpAnyH_ready (rs := [11]) (by kernel_rfl) (by simp) ?_
        refine AllReadyH.cons (o := { dst := none, op := Go.Op.store 29 (Go.Operand.tmp 7) (Go.Operand.tmp 26), type := 0, pos := "ref.go:124", after := #[{ on := 9, ground := Go.Ground.data }, { on := 7, ground := Go.Ground.data }, { on := 10, ground := Go.Ground.chain }, { on := 0, ground := Go.Ground.phase }, { on := 1, ground := Go.Ground.phase }, { on := 2, ground := Go.Ground.phase }, { on := 3, ground := Go.Ground.phase }, { on := 4, ground := Go.Ground.phase }, { on := 5, ground := Go.Ground.phase }, { on := 6, ground := Go.Ground.phase }, { on := 7, ground := Go.Ground.phase }, { on := 8, ground := Go.Ground.phase }, { on := 9, ground := Go.Ground.phase }, { on := 10, ground := Go.Ground.phase }], guard := none }) rfl (fun K hK => ?_) AllReadyH.nil
        rw [if_pos (by rfl)]
        refine wp_store_row 29 _ _ rfl (wr.heap.size) r2 rfl rfl 29 zW HZy.out hj2 ho2 ha2 ?_
        have HU4 : Hid (Below wr.heap.size wr (W3.setRow (wr.heap.size) r2)) := below_setRow HU3.out (by omega) r2
        have hx1 : (W3.setRow (wr.heap.size) r2).heap[wr.heap.size + 1]? = some (.cells r 29 (0, 0)) := (setRow_other W3 _ _ r2 (by omega)).trans HX1.out
        have hx2 : (W3.setRow (wr.heap.size) r2).heap[wr.heap.size]? = some (.cells r2 29 (0, 0)) := setRow_heap W3 _ zW r2 29 (0, 0) HZy.out
        refine hK.out _ _ (HKp.out _ HU4.out) (fun hHeld => ?_)
        clear hK K hHeld
        generalize W3.setRow (wr.heap.size) r2 = W4 at HU4 hx1 hx2 ⊢
        simp only [Act.put]
        refine wpAnyH_done (by kernel_rfl) ?_ _
        have p0 : W4.cell? ⟨wr.heap.size + 1, 0, none⟩ = some (.int .i64 x.op) := row_cell hx1 HI1.out.c0
        have p1 : W4.cell? ⟨wr.heap.size + 1, 1, none⟩ = some (.int .i64 x.run) := row_cell hx1 HI1.out.c1
        have p2 : W4.cell? ⟨wr.heap.size + 1, 2, none⟩ = some (.int .i64 x.seen) := row_cell hx1 HI1.out.c2
        have p3 : W4.cell? ⟨wr.heap.size + 1, 3, none⟩ = some (.int .i64 x.upto) := row_cell hx1 HI1.out.c3
        have p4 : W4.cell? ⟨wr.heap.size + 1, 4, none⟩ = some (.string x.flow) := row_cell hx1 HI1.out.c4
        have p5 : W4.cell? ⟨wr.heap.size + 1, 5, none⟩ = some (.string x.name) := row_cell hx1 HI1.out.c5
        have p16 : W4.cell? ⟨wr.heap.size + 1, 16, none⟩ = some (.bool x.query) := row_cell hx1 HI1.out.c16
        have p17 : W4.cell? ⟨wr.heap.size + 1, 17, none⟩ = some (.bool x.over) := row_cell hx1 HI1.out.c17
        have p18 : W4.cell? ⟨wr.heap.size + 1, 18, none⟩ = some (.int .i64 x.handed) := row_cell hx1 HI1.out.c18
        have p6 : W4.cell? ⟨wr.heap.size + 1, 6, none⟩ = some (.int .i64 kA1) := row_cell hx1 V1A.out.1
        have p7 : W4.cell? ⟨wr.heap.size + 1, 7, none⟩ = some (.int .i64 xA1) := row_cell hx1 V1A.out.2.1
        have p8 : W4.cell? ⟨wr.heap.size + 1, 8, none⟩ = some (.int .u64 bA1) := row_cell hx1 V1A.out.2.2.1
        have p9 : W4.cell? ⟨wr.heap.size + 1, 9, none⟩ = some (.string sA1) := row_cell hx1 V1A.out.2.2.2.1
        have p10 : W4.cell? ⟨wr.heap.size + 1, 10, none⟩ = some (.slice aA1 mA1 cA1) := row_cell hx1 V1A.out.2.2.2.2
        have p11 : W4.cell? ⟨wr.heap.size + 1, 11, none⟩ = some (.int .i64 kB1) := row_cell hx1 V1B.out.1
        have p12 : W4.cell? ⟨wr.heap.size + 1, 12, none⟩ = some (.int .i64 xB1) := row_cell hx1 V1B.out.2.1
        have p13 : W4.cell? ⟨wr.heap.size + 1, 13, none⟩ = some (.int .u64 bB1) := row_cell hx1 V1B.out.2.2.1
        have p14 : W4.cell? ⟨wr.heap.size + 1, 14, none⟩ = some (.string sB1) := row_cell hx1 V1B.out.2.2.2.1
        have p15 : W4.cell? ⟨wr.heap.size + 1, 15, none⟩ = some (.slice aB1 mB1 cB1) := row_cell hx1 V1B.out.2.2.2.2
        have q0 : W4.cell? ⟨wr.heap.size, 0, none⟩ = some (.int .i64 x.op) := row_cell hx2 HI2.out.c0
        have q1 : W4.cell? ⟨wr.heap.size, 1, none⟩ = some (.int .i64 x.run) := row_cell hx2 HI2.out.c1
        have q2 : W4.cell? ⟨wr.heap.size, 2, none⟩ = some (.int .i64 x.seen) := row_cell hx2 HI2.out.c2
        have q3 : W4.cell? ⟨wr.heap.size, 3, none⟩ = some (.int .i64 x.upto) := row_cell hx2 HI2.out.c3
        have q4 : W4.cell? ⟨wr.heap.size, 4, none⟩ = some (.string x.flow) := row_cell hx2 HI2.out.c4
        have q5 : W4.cell? ⟨wr.heap.size, 5, none⟩ = some (.string x.name) := row_cell hx2 HI2.out.c5
        have q16 : W4.cell? ⟨wr.heap.size, 16, none⟩ = some (.bool x.query) := row_cell hx2 HI2.out.c16
        have q17 : W4.cell? ⟨wr.heap.size, 17, none⟩ = some (.bool x.over) := row_cell hx2 HI2.out.c17
        have q18 : W4.cell? ⟨wr.heap.size, 18, none⟩ = some (.int .i64 x.handed) := row_cell hx2 HI2.out.c18
        have q6 : W4.cell? ⟨wr.heap.size, 6, none⟩ = some (.int .i64 kA2) := row_cell hx2 V2A.out.1
        have q7 : W4.cell? ⟨wr.heap.size, 7, none⟩ = some (.int .i64 xA2) := row_cell hx2 V2A.out.2.1
        have q8 : W4.cell? ⟨wr.heap.size, 8, none⟩ = some (.int .u64 bA2) := row_cell hx2 V2A.out.2.2.1
        have q9 : W4.cell? ⟨wr.heap.size, 9, none⟩ = some (.string sA2) := row_cell hx2 V2A.out.2.2.2.1
        have q10 : W4.cell? ⟨wr.heap.size, 10, none⟩ = some (.slice aA2 mA2 cA2) := row_cell hx2 V2A.out.2.2.2.2
        have q11 : W4.cell? ⟨wr.heap.size, 11, none⟩ = some (.int .i64 kB2) := row_cell hx2 V2B.out.1
        have q12 : W4.cell? ⟨wr.heap.size, 12, none⟩ = some (.int .i64 xB2) := row_cell hx2 V2B.out.2.1
        have q13 : W4.cell? ⟨wr.heap.size, 13, none⟩ = some (.int .u64 bB2) := row_cell hx2 V2B.out.2.2.1
        have q14 : W4.cell? ⟨wr.heap.size, 14, none⟩ = some (.string sB2) := row_cell hx2 V2B.out.2.2.2.1
        have q15 : W4.cell? ⟨wr.heap.size, 15, none⟩ = some (.slice aB2 mB2 cB2) := row_cell hx2 V2B.out.2.2.2.2
        clear hx1 hx2 HX1 HZy HU3 HU2 HZ1 HZ2 HU1 hHeld
        obtain ⟨op, run, seen, upto, flow, name, asked, value, query, over, handed⟩ := x
        dsimp only at *
        go_wp2_with fail
        refine (KA.out _ ?_).mono ?_
        · first | exact HU4.out | exact bel2 HU4.out (bel1 _ _)
        rintro e w5 ⟨rfl, hb5⟩
        have HB5 : Hid (Below wr.heap.size wr w5) := bel2 HU4.out hb5
        have pz11 := cellW p11 hb5
        have pz12 := cellW p12 hb5
        have pz13 := cellW p13 hb5
        have pz14 := cellW p14 hb5
        have pz15 := cellW p15 hb5
        have qz11 := cellW q11 hb5
        have qz12 := cellW q12 hb5
        have qz13 := cellW q13 hb5
        have qz14 := cellW q14 hb5
        have qz15 := cellW q15 hb5
        clear hb5 KA p0 p1 p2 p3 p4 p5 p6 p7 p8 p9 p10 p11 p12 p13 p14 p15 p16 p17 p18 q0 q1 q2 q3 q4 q5 q6 q7 q8 q9 q10 q11 q12 q13 q14 q15 q16 q17 q18
        go_wp2_with fail
        refine (KV.out _ HB5.out).mono ?_
        rintro e w6 ⟨rfl, hb6⟩
        have HB6 : Hid (Below w.heap.size w w6) := bel2 HB.out (bel2 HB5.out hb6)
        clear hb6 KV pz11 pz12 pz13 pz14 pz15 qz11 qz12 qz13 qz14 qz15
        go_wp2_with fail
        exact ⟨⟨j + 1, hlt, by first | rw [HW.out] | exact congrArg _ (Int.natCast_succ j).symm, HB6⟩, by first | exact meas hlt HW.out | exact meas hlt (Int.natCast_succ j).symm⟩
    · obtain rfl : j = N := by omega
      go_wp2_with fail
      go_ret
      exact ⟨rfl, HB.out⟩
end Go.Proofs.Ytocjgcjechhehaa
