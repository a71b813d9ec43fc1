/- The walk of WaitsLives. -/
import Derived.Test.YtocjgcjechhehaaLH
namespace Go.Proofs.Ytocjgcjechhehaa
open Go.ChangeAt Go.ChangeShapes Go.Deep Go.RowKit Go.WideShapes
def zD : Array Value := #[.int .i64 0, .int .i64 0, .int .i64 0, .int .i64 0, .string ⟨#[]⟩, .int .i64 0, .int .i64 0, .int .i64 0, .int .i64 0, .string ⟨#[]⟩, .string ⟨#[]⟩, .int .i64 0, .int .i64 0, .int .u64 0, .string ⟨#[]⟩, .slice none 0 0, .int .i64 0, .int .i64 0, .int .u64 0, .string ⟨#[]⟩, .slice none 0 0, .bool false, .bool false, .int .i64 0, .slice none 0 0, .slice none 0 0]
theorem IsD.one {W : World} {n : Nat} {cs : Array Value} {d : Dy} (h : IsD W n cs d) (j : Nat) (v : Value) (hv : cs[j]? = some v) : v.oneCell' = true := by
  have hj := (Array.getElem?_eq_some_iff.1 hv).1
  rw [h.size] at hj
  obtain ⟨us, h1, h2⟩ := h.wt
  obtain ⟨a, c, h3, _⟩ := h.az
  obtain ⟨a', c', h5, _⟩ := h.kz
  have : (5 ≤ j ∧ j < 24) ∨ j = 0 ∨ j = 1 ∨ j = 2 ∨ j = 3 ∨ j = 4 ∨ j = 24 ∨ j = 25 := by omega
  rcases this with ⟨g1, g2⟩ | rfl | rfl | rfl | rfl | rfl | rfl | rfl
  · obtain ⟨i, rfl⟩ : ∃ i, j = 5 + i := ⟨j - 5, by omega⟩
    obtain ⟨u, hu⟩ : ∃ u, us[i]? = some u := ⟨_, Array.getElem?_eq_getElem (by have := h2.size; omega)⟩
    rw [h1 i u hu] at hv
    cases hv
    exact h2.one i v hu
  · rw [h.c0] at hv; cases hv; rfl
  · rw [h.c1] at hv; cases hv; rfl
  · rw [h.c2] at hv; cases hv; rfl
  · rw [h.c3] at hv; cases hv; rfl
  · rw [h.c4] at hv; cases hv; rfl
  · rw [h3] at hv; cases hv; rfl
  · rw [h5] at hv; cases hv; rfl
set_option maxHeartbeats 8000000 in
set_option maxRecDepth 100000 in
theorem lives_walk (n : Nat) (a : Option Addr) (c N : Nat) (ws : List Wt) (hN : ws.length = N) (hc : N ≤ c) (hm : N ≤ 9223372036854775807) (da : Option Addr) (dc D : Nat) (ds : List Dy) (hD : ds.length = D) (hDm : D ≤ 9223372036854775807) (flow : ByteArray) (run op : Int) (w : World) (hR : LsW w (n + 1) a ws) (hs : ∀ y ∈ ws, SmX (n + 1) y) (hd : LsD w (n + 1) da ds) :
    Calls Try.prog 3 #[.slice a N c, .slice da D dc, .string flow, .int .i64 run, .int .i64 op] w fun e w' => e = .returned (.bool true) ∧ Below w.heap.size w w' := by
  obtain ⟨m, hm1⟩ : ∃ m : Nat, m = min N 40 := ⟨_, rfl⟩
  have HE : Hid ((if (40 : Int) < (N : Int) then (40 : Int) else (N : Int)) = (m : Int)) := by show _ = _; split <;> omega
  have HM : Hid ((ws.take 40).length = m ∧ m ≤ 40) := ⟨by rw [List.length_take]; omega, by omega⟩
  have hs2 : ∀ y ∈ ws.take 40, SmX (n + 1) y := fun y hy => hs y (List.mem_of_mem_take hy)
  have hR2 := hR.take 40
  generalize ws.take 40 = us at HM hs2 hR2
  have HU : Hid (LsW w (n + 1) a us ∧ ∀ y ∈ us, SmX (n + 1) y) := ⟨hR2, hs2⟩
  have HD : Hid (LsD w (n + 1) da ds) := hd
  have HDL : Hid (ds.length = D ∧ D ≤ 9223372036854775807) := ⟨hD, hDm⟩
  clear hR hs hN hm1 hs2 hR2 hd hD hDm
  go_enter Try.func3, Try.ntmps3
  go_upto_region 2 with fail
  rw [HE.out]
  simp only [Int.toNat_natCast]
  clear hc hm HE
  go_wp2_with fail
  go_loopw [11, 12, 29] (fun v1 v2 i wr => ∃ (j k : Nat) (xs : List Wt) (a1 : Option Addr) (c1 : Nat) (a2 : Option Addr) (c2 : Nat), j ≤ D ∧ i = .int .i64 (j : Int) ∧ v1 = .slice a1 k c1 ∧ v2 = .slice a2 k c2 ∧ Hid (xs.length = k ∧ k ≤ 40 + min j 20 ∧ ∀ y ∈ xs, SmX (n + 1) y) ∧ Hid (LsW wr (n + 1) a1 xs ∧ LsW wr (n + 1) a2 xs) ∧ Hid (Below w.heap.size w wr)) (fun _ _ i _ => D - (intOf i).toNat)
  case atStart => exact ⟨0, m, us, a, c, a, c, Nat.zero_le _, rfl, rfl, rfl, ⟨HM.out.1, by have := HM.out.2; omega, HU.out.2⟩, ⟨HU.out.1, HU.out.1⟩, Below.refl _ _⟩
  case round =>
    obtain ⟨j, k, xs, a1, c1, a2, c2, hj, rfl, rfl, rfl, HXS, HLL, HB⟩ := hrel
    by_cases hlt : j < D
    · obtain ⟨d, hdj⟩ : ∃ d, ds[j]? = some d := ⟨_, List.getElem?_eq_getElem (by rw [HDL.out.1]; exact hlt)⟩
      obtain ⟨B, o, cs, rfl, hli, hi⟩ := (HD.out.below HB.out) j d hdj
      have HI : Hid (IsD wr (n + 1) cs d) := hi
      have hrng := lies_range hli
      have hi33 : (Try.prog.info? 33).map (·.size) = some cs.toList.length := by rw [Array.length_toList]; exact info33s cs hi.size
      have hi33' := info33s cs hi.size
      have ho : zD.size = cs.size := hi.size.symm
      have h1 := all_one hi.one
      have hz : (wr.alloc (.cells zD 33)).heap[wr.heap.size]? = some (.cells zD 33 (0, 0)) := heap_alloc_new wr _
      have hjl : (j : Int) < (D : Int) := by omega
      have HW : Hid (wrap64 ((j : Int) + 1) = ((j + 1 : Nat) : Int)) := wr1 hlt (by have := HDL.out.2; omega)
      clear hdj hi hli
      go_upto_region 6 with (first
        | refine wpList_load_mid rfl 33 _ rfl B (o + j * 26) rfl cs.toList _ hrng Try.underlying33 rfl hi33 ?_
        | refine wpList_store_row rfl 33 _ _ rfl wr.heap.size cs rfl rfl 33 zD hz hi33' ho h1 ?_)
      rw [World.setRow_alloc_new]
      have HBa : Hid (Below wr.heap.size wr (wr.alloc (.cells cs 33))) := bel1 wr _
      have hrow : (wr.alloc (.cells cs 33)).heap[wr.heap.size]? = some (.cells cs 33 (0, 0)) := heap_alloc_new wr _
      generalize wr.alloc (.cells cs 33) = Wa at HBa hrow ⊢
      clear hz ho h1 hrng
      by_cases h20 : 20 ≤ j
      · have f0 : decide ((20 : Int) ≤ (j : Int)) = true := decide_eq_true (by omega)
        have f1 : (20 : Int) ≤ (j : Int) := by omega
        clear hrow hi33 hi33'
        have HBc : Hid (Below w.heap.size w Wa) := bel2 HB.out HBa.out
        have HLc : Hid (LsW Wa (n + 1) a1 xs ∧ LsW Wa (n + 1) a2 xs) := ⟨HLL.out.1.below HBa.out, HLL.out.2.below HBa.out⟩
        have HXc : Hid (xs.length = k ∧ k ≤ 40 + min (j + 1) 20 ∧ ∀ y ∈ xs, SmX (n + 1) y) := ⟨HXS.out.1, by have := HXS.out.2.1; omega, HXS.out.2.2⟩
        go_wp2_with fail
        exact ⟨⟨j + 1, k, xs, a1, c1, a2, c2, hlt, by first | rw [HW.out] | exact congrArg _ (Int.natCast_succ j).symm, rfl, rfl, HXc, HLc, HBc⟩, by first | exact meas hlt HW.out | exact meas hlt (Int.natCast_succ j).symm⟩
      · have f0 : decide ((20 : Int) ≤ (j : Int)) = false := decide_eq_false (by omega)
        have f1 : ¬ ((20 : Int) ≤ (j : Int)) := by omega
        have KF : Hid (Calls Try.prog 7 #[.agg cs] Wa (FwP d.az.length d.kz.length Wa)) := few_calls (n + 1) cs d Wa (HI.out.below HBa.out)
        have H20 : Hid (j < 20) := by show _ < _; omega
        clear h20
        go_wp2_with (refine wpList_load_rowG (by rfl) 33 _ rfl wr.heap.size rfl 33 cs (0, 0) _ hrow Try.underlying33 rfl hi33' ?_)
        refine KF.out.mono ?_
        rintro e u1 ⟨⟨b, rfl, hb⟩, hb1⟩
        have HBl : Hid (b = true → d.az.length ≤ 60 ∧ d.kz.length ≤ 60) := hb
        have HB1 : Hid (Below wr.heap.size wr u1) := bel2 HBa.out hb1
        have hrow1 : u1.heap[wr.heap.size]? = some (.cells cs 33 (0, 0)) := row_below hb1 hrow
        clear hb hb1 hrow KF hi33' f0 f1
        cases b with
        | false =>
          clear hrow1 hi33
          have HBc : Hid (Below w.heap.size w u1) := bel2 HB.out HB1.out
          have HLc : Hid (LsW u1 (n + 1) a1 xs ∧ LsW u1 (n + 1) a2 xs) := ⟨HLL.out.1.below HB1.out, HLL.out.2.below HB1.out⟩
          have HXc : Hid (xs.length = k ∧ k ≤ 40 + min (j + 1) 20 ∧ ∀ y ∈ xs, SmX (n + 1) y) := ⟨HXS.out.1, by have := HXS.out.2.1; omega, HXS.out.2.2⟩
          go_wp2_with fail
          exact ⟨⟨j + 1, k, xs, a1, c1, a2, c2, hlt, by first | rw [HW.out] | exact congrArg _ (Int.natCast_succ j).symm, rfl, rfl, HXc, HLc, HBc⟩, by first | exact meas hlt HW.out | exact meas hlt (Int.natCast_succ j).symm⟩
        | true =>
          have HS : Hid (∀ W, Below u1.heap.size u1 W → W.rangeAt wr.heap.size 0 cs.toList) := fun W hW => lies_range ((Lies.row hrow1).below hW)
          have KN : Hid (∀ W, Below u1.heap.size u1 W → Calls Try.prog 8 #[.agg cs, .slice a1 k c1] W (RetW (n + 1) W (onL d xs))) := fun W hW => on_calls (n + 1) cs d a1 c1 k xs HXS.out.1 (by have := HXS.out.2.1; omega) W (HI.out.below (bel2 HB1.out hW)) (HLL.out.1.below (bel2 HB1.out hW)) HXS.out.2.2 (HBl.out rfl)
          have KB : Hid (∀ W, Below u1.heap.size u1 W → Calls Try.prog 9 #[.agg cs, .slice a2 k c2] W (RetW (n + 1) W (onL d xs))) := fun W hW => by_calls (n + 1) cs d a2 c2 k xs HXS.out.1 (by have := HXS.out.2.1; omega) W (HI.out.below (bel2 HB1.out hW)) (HLL.out.2.below (bel2 HB1.out hW)) HXS.out.2.2 (HBl.out rfl)
          have HYL : Hid ((onL d xs).length ≤ 40 + min (j + 1) 20 ∧ ∀ y ∈ onL d xs, SmX (n + 1) y) := ⟨by have := onL_len d xs; have := HXS.out.1; have := HXS.out.2.1; have := H20.out; omega, onL_sm HI.out HXS.out.2.2⟩
          generalize onL d xs = ys at KN KB HYL
          generalize hky : ys.length = ky at HYL
          have HKY : Hid (ys.length = ky) := hky
          have hkl : ∀ W e W', RetW (n + 1) W ys e W' → ∃ a c, e = .returned (.slice a ky c) ∧ LsW W' (n + 1) a ys ∧ ys.length ≤ c ∧ c ≤ 9223372036854775807 ∧ Below W.heap.size W W' := fun W e W' h => by
            obtain ⟨a, c, h1, h2⟩ := h
            rw [hky] at h1
            exact ⟨a, c, h1, h2⟩
          have KN : Hid (∀ W, Below u1.heap.size u1 W → Calls Try.prog 8 #[.agg cs, .slice a1 k c1] W fun e W' => ∃ a c, e = .returned (.slice a ky c) ∧ LsW W' (n + 1) a ys ∧ ys.length ≤ c ∧ c ≤ 9223372036854775807 ∧ Below W.heap.size W W') := fun W hW => (KN.out W hW).mono (hkl W)
          have KB : Hid (∀ W, Below u1.heap.size u1 W → Calls Try.prog 9 #[.agg cs, .slice a2 k c2] W fun e W' => ∃ a c, e = .returned (.slice a ky c) ∧ LsW W' (n + 1) a ys ∧ ys.length ≤ c ∧ c ≤ 9223372036854775807 ∧ Below W.heap.size W W') := fun W hW => (KB.out W hW).mono (hkl W)
          generalize wr.heap.size = G at HS ⊢
          clear hky hkl hrow1
          go_wp2_with fail
          refine wp_region_held_drew (S := (fun w' => w'.rangeAt G 0 cs.toList)) (by kernel_rfl) (HS.out u1 (Below.refl _ _)) (fun hHeld => ?_)
          change wpAnyH _ _ _ _ _ _ _ _ (World.drew _)
          refine wpAnyH_take (i := 0) (oi := { dst := some 41, op := Go.Op.load 33 (Go.Operand.tmp 14), type := 33, pos := "law.go:73", after := #[], guard := none }) (v := _) rfl (by kernel_rfl) (by kernel_rfl) (by kernel_rfl) (fun _ _ _ h => h) (yieldsIf_load_mid (by rfl) 33 _ rfl G 0 rfl cs.toList _ (fun w h => h) Try.underlying33 rfl hi33) hHeld ?_
          simp only [Act.put, List.setIfInBounds_toArray, List.set_cons_zero, List.set_cons_succ]
          refine wpAnyH_take (i := 1) (oi := { dst := some 42, op := Go.Op.move (Go.Operand.tmp 11), type := 22, pos := "law.go:73", after := #[], guard := none }) (v := ?_) rfl (by kernel_rfl) (by kernel_rfl) (by kernel_rfl) (fun _ _ _ h => h) (Or.inl ⟨by rfl, ?_⟩) hHeld ?_
          rotate_left 1
          · (intro w hSw; (try dsimp only at hSw); go_simp <;> with_reducible rfl)
          simp only [Act.put, List.setIfInBounds_toArray, List.set_cons_zero, List.set_cons_succ]
          refine wpAnyH_take (i := 3) (oi := { dst := some 44, op := Go.Op.load 33 (Go.Operand.tmp 14), type := 33, pos := "law.go:73", after := #[], guard := none }) (v := _) rfl (by kernel_rfl) (by kernel_rfl) (by kernel_rfl) (fun _ _ _ h => h) (yieldsIf_load_mid (by rfl) 33 _ rfl G 0 rfl cs.toList _ (fun w h => h) Try.underlying33 rfl hi33) hHeld ?_
          simp only [Act.put, List.setIfInBounds_toArray, List.set_cons_zero, List.set_cons_succ]
          refine wpAnyH_take (i := 4) (oi := { dst := some 45, op := Go.Op.move (Go.Operand.tmp 12), type := 22, pos := "law.go:73", after := #[], guard := none }) (v := ?_) rfl (by kernel_rfl) (by kernel_rfl) (by kernel_rfl) (fun _ _ _ h => h) (Or.inl ⟨by rfl, ?_⟩) hHeld ?_
          rotate_left 1
          · (intro w hSw; (try dsimp only at hSw); go_simp <;> with_reducible rfl)
          simp only [Act.put, List.setIfInBounds_toArray, List.set_cons_zero, List.set_cons_succ]
          refine wpAnyH_ready (rs := [2]) (by kernel_rfl) (by simp) ?_
          refine AllReadyH.cons (o := { dst := some 43, op := Go.Op.call { callee := Go.Callee.value (Go.Operand.func 8), args := #[Go.Operand.tmp 41, Go.Operand.tmp 42], argTypes := #[33, 22] }, type := 22, pos := "law.go:73", after := #[{ on := 0, ground := Go.Ground.data }, { on := 1, ground := Go.Ground.data }], guard := none }) rfl (fun K hK => ?_) AllReadyH.nil
          go_simp
          refine (KN.out _ ((Below.refl _ u1).drew)).mono ?_
          rintro e u2 ⟨a3, c3, rfl, hl3, _, _, hb2⟩
          have HB2 : Hid (Below u1.heap.size u1 u2) := (Below.refl _ u1).drew.trans hb2
          have HL3 : Hid (LsW u2 (n + 1) a3 ys) := hl3
          clear hl3 hb2 hHeld
          refine hK.out _ _ (HS.out _ HB2.out) (fun hHeld => ?_)
          clear hK K
          refine wpAnyH_ready (rs := [5]) (by kernel_rfl) (by simp) ?_
          refine AllReadyH.cons (o := { dst := some 46, op := Go.Op.call { callee := Go.Callee.value (Go.Operand.func 9), args := #[Go.Operand.tmp 44, Go.Operand.tmp 45], argTypes := #[33, 22] }, type := 22, pos := "law.go:73", after := #[{ on := 3, ground := Go.Ground.data }, { on := 4, ground := Go.Ground.data }, { on := 2, ground := Go.Ground.chain }], guard := none }) rfl (fun K hK => ?_) AllReadyH.nil
          go_simp
          refine (KB.out _ HB2.out).mono ?_
          rintro e u3 ⟨a4, c4, rfl, hl4, _, _, hb3⟩
          have HB3 : Hid (Below u1.heap.size u1 u3) := bel2 HB2.out hb3
          have HL4 : Hid (LsW u3 (n + 1) a3 ys ∧ LsW u3 (n + 1) a4 ys) := ⟨HL3.out.below hb3, hl4⟩
          clear hl4 hb3 hHeld HL3
          refine hK.out _ _ (HS.out _ HB3.out) (fun hHeld => ?_)
          clear hK K
          refine wpAnyH_take (i := 6) (oi := { dst := some 11, op := Go.Op.assign (Go.Operand.tmp 43), type := 22, pos := "law.go:73", after := #[{ on := 2, ground := Go.Ground.data }, { on := 5, ground := Go.Ground.chain }, { on := 0, ground := Go.Ground.phase }, { on := 1, ground := Go.Ground.phase }, { on := 2, ground := Go.Ground.phase }, { on := 3, ground := Go.Ground.textOnly Go.Departure.lateStores }, { on := 4, ground := Go.Ground.textOnly Go.Departure.lateStores }, { on := 5, ground := Go.Ground.textOnly Go.Departure.lateStoresUnsure }], guard := none }) (v := ?_) rfl (by kernel_rfl) (by kernel_rfl) (by kernel_rfl) (fun _ _ _ h => h) (Or.inl ⟨by rfl, ?_⟩) hHeld ?_
          rotate_left 1
          · (intro w hSw; (try dsimp only at hSw); go_simp <;> with_reducible rfl)
          simp only [Act.put, List.setIfInBounds_toArray, List.set_cons_zero, List.set_cons_succ]
          refine wpAnyH_take (i := 7) (oi := { dst := some 12, op := Go.Op.assign (Go.Operand.tmp 46), type := 22, pos := "law.go:73", after := #[{ on := 5, ground := Go.Ground.data }, { on := 6, ground := Go.Ground.chain }, { on := 0, ground := Go.Ground.phase }, { on := 1, ground := Go.Ground.phase }, { on := 2, ground := Go.Ground.phase }, { on := 3, ground := Go.Ground.phase }, { on := 4, ground := Go.Ground.phase }, { on := 5, ground := Go.Ground.phase }, { on := 6, ground := Go.Ground.phase }], guard := none }) (v := ?_) rfl (by kernel_rfl) (by kernel_rfl) (by kernel_rfl) (fun _ _ _ h => h) (Or.inl ⟨by rfl, ?_⟩) hHeld ?_
          rotate_left 1
          · (intro w hSw; (try dsimp only at hSw); go_simp <;> with_reducible rfl)
          simp only [Act.put, List.setIfInBounds_toArray, List.set_cons_zero, List.set_cons_succ]
          refine wpAnyH_done (by kernel_rfl) ?_ _
          have KS : Hid (Calls Try.prog 10 #[.slice a3 ky c3, .slice a4 ky c4] u3 _) := wsame_calls (n + 1) ys a3 a4 ky c3 c4 HKY.out (by have := HYL.out.1; omega) u3 HL4.out.1 HL4.out.2
          go_wp2_with fail
          refine KS.out.mono ?_
          rintro e u4 ⟨rfl, hb4⟩
          have HLc : Hid (LsW u4 (n + 1) a3 ys ∧ LsW u4 (n + 1) a4 ys) := ⟨HL4.out.1.below hb4, HL4.out.2.below hb4⟩
          have HBc : Hid (Below w.heap.size w u4) := bel2 HB.out (bel2 HB1.out (bel2 HB3.out hb4))
          have HXc : Hid (ys.length = ky ∧ ky ≤ 40 + min (j + 1) 20 ∧ ∀ y ∈ ys, SmX (n + 1) y) := ⟨HKY.out, HYL.out⟩
          clear hb4 KS
          go_wp2_with fail
          exact ⟨⟨j + 1, ky, ys, a3, c3, a4, c4, hlt, by first | rw [HW.out] | exact congrArg _ (Int.natCast_succ j).symm, rfl, rfl, HXc, HLc, HBc⟩, by first | exact meas hlt HW.out | exact meas hlt (Int.natCast_succ j).symm⟩
    · obtain rfl : j = D := by omega
      have HK : Hid (xs.length = k ∧ k ≤ 60) := ⟨HXS.out.1, by have := HXS.out.2.1; omega⟩
      have HSX : Hid (∀ y ∈ xs, SmX (n + 1) y) := HXS.out.2.2
      have KF : Hid (Calls Try.prog 11 #[.slice a1 k c1, .int .i64 op] wr (FdP n wr (xs.find? fun x => decide (x.op = op)))) := find_calls n a1 c1 k xs HK.out.1 (by have := HK.out.2; omega) op wr HLL.out.1 HSX.out
      generalize hof : (xs.find? fun x => decide (x.op = op)) = of at KF
      have HOF : Hid ((xs.find? fun x => decide (x.op = op)) = of) := hof
      clear hof HXS
      go_wp2_with fail
      refine KF.out.mono ?_
      rintro e u1 ⟨⟨v1, rfl, hv1⟩, hb1⟩
      have HV1 : Hid (IsW (Is u1 (n + 1)) v1 (of.getD zX)) := hv1
      have hu1 := info29s v1 hv1.size
      have ho1 : zW.size = v1.size := hv1.size.symm
      have ha1 := all_one hv1.one
      have hz1 : (u1.alloc (.cells zW 29)).heap[u1.heap.size]? = some (.cells zW 29 (0, 0)) := heap_alloc_new u1 _
      have HB1 : Hid (Below wr.heap.size wr u1) := hb1
      clear hv1 hb1 KF
      go_upto_region 12 with (refine wpList_store_row rfl 29 _ _ rfl u1.heap.size v1 rfl rfl 29 zW hz1 hu1 ho1 ha1 ?_)
      rw [World.setRow_alloc_new]
      have HR1 : Hid ((u1.alloc (.cells v1 29)).heap[u1.heap.size]? = some (.cells v1 29 (0, 0))) := heap_alloc_new u1 _
      have HBa : Hid (Below wr.heap.size wr (u1.alloc (.cells v1 29))) := bel2 HB1.out (bel1 u1 _)
      have HVa : Hid (IsW (Is (u1.alloc (.cells v1 29)) (n + 1)) v1 (of.getD zX)) := HV1.out.map fun _ _ h => h.below (bel1 u1 _)
      generalize hg1 : u1.heap.size = g1 at HR1 ⊢
      generalize u1.alloc (.cells v1 29) = Wa at HR1 HBa HVa ⊢
      have KF2 : Hid (Calls Try.prog 12 #[.slice a2 k c2, .int .i64 op] Wa (FdP n Wa of)) := by
        have h := rfind_calls n a2 c2 k xs HK.out.1 (by have := HK.out.2; omega) op Wa (HLL.out.2.below HBa.out) HSX.out
        rw [HOF.out] at h
        exact h
      clear hz1 hu1 ho1 ha1 hg1 HV1 HB1
      go_wp2_with fail
      refine KF2.out.mono ?_
      rintro e u2 ⟨⟨v2, rfl, hv2⟩, hb2⟩
      have HV2 : Hid (IsW (Is u2 (n + 1)) v2 (of.getD zX)) := hv2
      have hu2 := info29s v2 hv2.size
      have ho2 : zW.size = v2.size := hv2.size.symm
      have ha2 := all_one hv2.one
      have hz2 : (u2.alloc (.cells zW 29)).heap[u2.heap.size]? = some (.cells zW 29 (0, 0)) := heap_alloc_new u2 _
      have HB2 : Hid (Below Wa.heap.size Wa u2) := hb2
      clear hv2 hb2 KF2
      go_upto_region 13 with (refine wpList_store_row rfl 29 _ _ rfl u2.heap.size v2 rfl rfl 29 zW hz2 hu2 ho2 ha2 ?_)
      rw [World.setRow_alloc_new]
      have HR2 : Hid ((u2.alloc (.cells v2 29)).heap[u2.heap.size]? = some (.cells v2 29 (0, 0))) := heap_alloc_new u2 _
      have HBb : Hid (Below Wa.heap.size Wa (u2.alloc (.cells v2 29))) := bel2 HB2.out (bel1 u2 _)
      have HVb : Hid (IsW (Is (u2.alloc (.cells v2 29)) (n + 1)) v2 (of.getD zX)) := HV2.out.map fun _ _ h => h.below (bel1 u2 _)
      generalize hg2 : u2.heap.size = g2 at HR2 ⊢
      generalize u2.alloc (.cells v2 29) = Wb at HR2 HBb HVb ⊢
      clear hz2 hu2 ho2 ha2 hg2 HV2 HB2
      have HBwb : Hid (Below wr.heap.size wr Wb) := bel2 HBa.out HBb.out
      have HLU : Hid ((xs.foldl (updF flow run) []).length ≤ 900 ∧ (xs.foldl (qryF flow run) []).length ≤ 900) := by
        have h1 := fold_len (updF_len flow run) xs []
        have h2 := fold_len (qryF_len flow run) xs []
        have := HK.out
        simp only [List.length_nil] at h1 h2
        exact ⟨by omega, by omega⟩
      have K14 : Hid (∀ W, Below Wb.heap.size Wb W → Calls Try.prog 14 #[.slice a1 k c1, .string flow, .int .i64 run] W (RetA (n + 1) W (xs.foldl (updF flow run) []))) := fun W hW => updates_calls (n + 1) a1 c1 k xs HK.out.1 (by have := HK.out.2; omega) flow run W (HLL.out.1.below (bel2 HBwb.out hW)) HSX.out
      have K15 : Hid (∀ W, Below Wb.heap.size Wb W → Calls Try.prog 15 #[.slice a2 k c2, .string flow, .int .i64 run] W (RetA (n + 1) W (xs.foldl (updF flow run) []))) := fun W hW => rupdates_calls (n + 1) a2 c2 k xs HK.out.1 (by have := HK.out.2; omega) flow run W (HLL.out.2.below (bel2 HBwb.out hW)) HSX.out
      have K16 : Hid (∀ W, Below Wb.heap.size Wb W → Calls Try.prog 16 #[.slice a1 k c1, .string flow, .int .i64 run] W (RetA (n + 1) W (xs.foldl (qryF flow run) []))) := fun W hW => queries_calls (n + 1) a1 c1 k xs HK.out.1 (by have := HK.out.2; omega) flow run W (HLL.out.1.below (bel2 HBwb.out hW)) HSX.out
      have K17 : Hid (∀ W, Below Wb.heap.size Wb W → Calls Try.prog 17 #[.slice a2 k c2, .string flow, .int .i64 run] W (RetA (n + 1) W (xs.foldl (qryF flow run) []))) := fun W hW => rqueries_calls (n + 1) a2 c2 k xs HK.out.1 (by have := HK.out.2; omega) flow run W (HLL.out.2.below (bel2 HBwb.out hW)) HSX.out
      generalize xs.foldl (updF flow run) [] = ul at K14 K15 HLU
      generalize xs.foldl (qryF flow run) [] = ql at K16 K17 HLU
      have KX14 : Hid (Calls Try.prog 14 _ Wb _) := K14.out Wb (Below.refl _ _)
      go_wp2_with fail
      refine KX14.out.mono ?_
      rintro e t1 ⟨b1, d1, rfl, hl1, hb1⟩
      have HT1 : Hid (Below Wb.heap.size Wb t1) := hb1
      have HLA1 : Hid (LsA t1 (n + 1) b1 ul) := hl1
      have KX15 : Hid (Calls Try.prog 15 _ t1 _) := K15.out t1 HT1.out
      generalize hul : ul.length = ku
      have HUL : Hid (ul.length = ku) := hul
      clear hl1 hb1 KX14 hul
      go_wp2_with fail
      refine KX15.out.mono ?_
      rintro e t2 ⟨b2, d2, rfl, hl2, hb2⟩
      rw [HUL.out]
      have HT2 : Hid (Below Wb.heap.size Wb t2) := bel2 HT1.out hb2
      have KX13 : Hid (Calls Try.prog 13 #[.slice b1 ku d1, .slice b2 ku d2] t2 _) := asame_calls (n + 1) ul b1 b2 ku d1 d2 HUL.out (by have := HLU.out.1; have := HUL.out; omega) t2 (HLA1.out.below hb2) hl2
      clear hl2 hb2 KX15 HLA1 HT1
      go_wp2_with fail
      refine KX13.out.mono ?_
      rintro e t3 ⟨rfl, hb3⟩
      have HT3 : Hid (Below Wb.heap.size Wb t3) := bel2 HT2.out hb3
      have KX16 : Hid (Calls Try.prog 16 _ t3 _) := K16.out t3 HT3.out
      clear hb3 KX13 HT2
      go_wp2_with fail
      refine KX16.out.mono ?_
      rintro e t4 ⟨b4, d4, rfl, hl4, hb4⟩
      have HT4 : Hid (Below Wb.heap.size Wb t4) := bel2 HT3.out hb4
      have HLA4 : Hid (LsA t4 (n + 1) b4 ql) := hl4
      have KX17 : Hid (Calls Try.prog 17 _ t4 _) := K17.out t4 HT4.out
      generalize hql : ql.length = kq
      have HQL : Hid (ql.length = kq) := hql
      clear hl4 hb4 KX16 hql HT3
      go_wp2_with fail
      refine KX17.out.mono ?_
      rintro e t5 ⟨b5, d5, rfl, hl5, hb5⟩
      rw [HQL.out]
      have HT5 : Hid (Below Wb.heap.size Wb t5) := bel2 HT4.out hb5
      have KX13b : Hid (Calls Try.prog 13 #[.slice b4 kq d4, .slice b5 kq d5] t5 _) := asame_calls (n + 1) ql b4 b5 kq d4 d5 HQL.out (by have := HLU.out.2; have := HQL.out; omega) t5 (HLA4.out.below hb5) hl5
      clear hl5 hb5 KX17 HLA4 HT4
      go_wp2_with fail
      refine KX13b.out.mono ?_
      rintro e t6 ⟨rfl, hb6⟩
      have HT6 : Hid (Below Wb.heap.size Wb t6) := bel2 HT5.out hb6
      clear hb6 KX13b HT5
      go_upto_region 14 with fail
      have hr1 : t6.heap[g1]? = some (.cells v1 29 (0, 0)) := row_below HT6.out (row_below HBb.out HR1.out)
      have hr2 : t6.heap[g2]? = some (.cells v2 29 (0, 0)) := row_below HT6.out HR2.out
      have HX1 : Hid (IsW (Is t6 (n + 1)) v1 (of.getD zX)) := HVa.out.map fun _ _ h => h.below (bel2 HBb.out HT6.out)
      have HX2 : Hid (IsW (Is t6 (n + 1)) v2 (of.getD zX)) := HVb.out.map fun _ _ h => h.below HT6.out
      have hs1 := slice1 v1 HX1.out.size t6
      have hr2b : (t6.alloc (.cells v1 29)).heap[g2]? = some (.cells v2 29 (0, 0)) := row_below (bel1 t6 _) hr2
      have hs2 := slice1 v2 HX2.out.size (t6.alloc (.cells v1 29))
      have hq1 := info29s v1 HX1.out.size
      have hq2 := info29s v2 HX2.out.size
      have KS : Hid (Calls Try.prog 10 #[.slice (some ⟨t6.heap.size, 0, none⟩) 1 1, .slice (some ⟨t6.heap.size + 1, 0, none⟩) 1 1] ((t6.alloc (.cells v1 29)).alloc (.cells v2 29)) fun e w' => e = .returned (.bool true) ∧ Below ((t6.alloc (.cells v1 29)).alloc (.cells v2 29)).heap.size ((t6.alloc (.cells v1 29)).alloc (.cells v2 29)) w') := by
        have hsz : (t6.alloc (.cells v1 29)).heap.size = t6.heap.size + 1 := by simp
        rw [← hsz]
        refine wsame_calls (n + 1) [of.getD zX] _ _ 1 1 1 rfl (by omega) _ ?_ ?_
        · exact (ls_one HX1.out).below (bel1 _ _)
        · exact ls_one (HX2.out.map fun _ _ h => h.below (bel1 _ _))
      have HB9 : Hid (Below w.heap.size w ((t6.alloc (.cells v1 29)).alloc (.cells v2 29))) := bel2 HB.out (bel2 HBwb.out (bel2 HT6.out (bel2 (bel1 _ _) (bel1 _ _))))
      generalize hob : of.isSome = ob
      clear K14 K15 K16 K17 hob
      go_wp2_with (first
        | refine wpList_load_rowG (by rfl) 29 _ rfl g1 rfl 29 v1 (0, 0) _ hr1 Try.underlying29 rfl hq1 ?_
        | refine wpList_slice_runG (by rfl) 22 _ rfl (.agg v1) rfl _ _ hs1 ?_
        | refine wpList_load_rowG (by rfl) 29 _ rfl g2 rfl 29 v2 (0, 0) _ hr2b Try.underlying29 rfl hq2 ?_
        | refine wpList_slice_runG (by rfl) 22 _ rfl (.agg v2) rfl _ _ hs2 ?_)
      refine KS.out.mono ?_
      rintro e t7 ⟨rfl, hb7⟩
      have HB10 : Hid (Below w.heap.size w t7) := bel2 HB9.out hb7
      have KZ : Hid (Calls Try.prog 18 #[] t7 _) := awake_calls t7
      have hbe : (ob == ob) = true := by simp
      clear hb7 KS hs1 hs2 hr1 hr2 hr2b hq1 hq2 HB9
      go_wp2_with fail
      refine KZ.out.mono ?_
      rintro e t8 ⟨rfl, hb8⟩
      have HB11 : Hid (Below w.heap.size w t8) := bel2 HB10.out hb8
      clear hb8
      go_wp2_with fail
      go_ret
      exact ⟨rfl, HB11.out⟩
theorem lives_all {W : World} {a da : Option Addr} {c dc n m : Nat} {l : List Wt} {ds : List Dy} (hc : l.length ≤ c ∧ l.length ≤ 9223372036854775807) (hl : LsW W (n + 1) a l) (hs : ∀ y ∈ l, SmX (n + 1) y) (hdc : ds.length ≤ dc ∧ ds.length ≤ 9223372036854775807) (hd : LsD W (m + 1) da ds) (flow : ByteArray) (run op : Int) :
    Calls Try.prog 3 #[.slice a l.length c, .slice da ds.length dc, .string flow, .int .i64 run, .int .i64 op] W fun e w' => e = .returned (.bool true) ∧ Below W.heap.size W w' :=
  lives_walk (n + m) a c l.length l rfl hc.1 hc.2 da dc ds.length ds rfl hdc.2 flow run op W (hl.up (by omega)) (fun y hy => (hs y hy).up (by omega)) (hd.up (by omega))
end Go.Proofs.Ytocjgcjechhehaa
