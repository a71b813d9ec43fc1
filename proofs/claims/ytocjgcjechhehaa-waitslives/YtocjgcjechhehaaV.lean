/- The walk of WaitsOver. -/
import Derived.Test.YtocjgcjechhehaaVB
import Derived.Test.YtocjgcjechhehaaT
namespace Go.Proofs.Ytocjgcjechhehaa
open Go.ChangeAt Go.ChangeShapes Go.Deep Go.RowKit Go.WideShapes
theorem step_slice_runG {P : Program} {ops : Array Oper} {o : Oper} {a : Act} {w : World} {K : Act → World → Prop} {Q : Exit → Act → World → Prop} {E : Prop}
    (hw : Region.wanted o (yielded ops a.tmps) = true) (t : TypeId) (x : Operand) (hop : o.op = .buildSlice t 1 #[(0, x)])
    (vx : Value) (hx : a.eval x = vx) {v' : Value} {w' : World} (hr : (Instr.buildSlice t 1 #[(0, vx)]).run P w = .ok v' w') (hK : K (a.put o.dst v') w') :
    if Region.wanted o (yielded ops a.tmps) = true then Oper.wp P o a w K Q else E := by
  rw [if_pos hw]
  unfold Oper.wp execOp
  simp only [hop]
  simp [hx, hr, Result.andThen]
  exact hK
theorem info33s (us : Array Value) (h : us.size = 26) : (Try.prog.info? 33).map (·.size) = some us.size := by
  rw [h]
  kernel_rfl
theorem opU_range (x : Int) : 0 ≤ opU x ∧ opU x ≤ 4 := by
  unfold opU
  have h0 : 0 ≤ IntKind.u64.wrap x := by unfold IntKind.wrap; simp only [IntKind.signed]; simp; omega
  rw [Int.tmod_eq_emod_of_nonneg h0]
  omega
theorem hnd_fx (s : Int) (flow : ByteArray) (run upto : Int) (x : Wt) : (hnd s flow run upto x).op = x.op ∧ (x.over = true → hnd s flow run upto x = x) := by
  unfold hnd hndT
  split
  · rename_i h
    refine ⟨rfl, fun ho => ?_⟩
    simp [opn, ho] at h
  · exact ⟨rfl, fun _ => rfl⟩
theorem ans_fx (s : Int) (az : List An) (x : Wt) : (ans s az x).op = x.op ∧ (x.over = true → ans s az x = x) := by
  unfold ans
  split
  · rename_i h
    refine ⟨?_, fun ho => ?_⟩
    · split <;> rfl
    · simp [ho] at h
  · exact ⟨rfl, fun _ => rfl⟩
theorem refu_fx (flow : ByteArray) (run : Int) (az : List Ak) (x : Wt) : (refu flow run az x).op = x.op ∧ (x.over = true → refu flow run az x = x) := by
  unfold refu
  split
  · rename_i h
    refine ⟨?_, fun ho => ?_⟩
    · split <;> rfl
    · simp [opn, ho] at h
  · exact ⟨rfl, fun _ => rfl⟩
theorem onL_fx (d : Dy) (us : List Wt) (h : 2 ≤ opU d.op) : (onL d us).length = us.length ∧ ∀ (j : Nat) x, us[j]? = some x → ∃ y, (onL d us)[j]? = some y ∧ y.op = x.op ∧ (x.over = true → y = x) := by
  have key : ∀ f : Wt → Wt, (∀ x, (f x).op = x.op ∧ (x.over = true → f x = x)) → (us.map f).length = us.length ∧ ∀ (j : Nat) x, us[j]? = some x → ∃ y, (us.map f)[j]? = some y ∧ y.op = x.op ∧ (x.over = true → y = x) := fun f hf =>
    ⟨List.length_map _, fun j x hx => ⟨f x, by rw [List.getElem?_map, hx]; rfl, hf x⟩⟩
  unfold onL
  rw [if_neg (by omega), if_neg (by omega)]
  split
  · exact key _ (hnd_fx _ _ _ _)
  · split
    · exact key _ (ans_fx _ _)
    · exact key _ (refu_fx _ _ _)
set_option maxHeartbeats 8000000 in
set_option maxRecDepth 100000 in
theorem over_walk (n : Nat) (a : Option Addr) (c N : Nat) (ws : List Wt) (hN : ws.length = N) (hc : N ≤ c) (hm : N ≤ 9223372036854775807) (ds : Array Value) (d : Dy) (w : World) (hR : LsW w n a ws) (hs : ∀ y ∈ ws, SmX n y) (hd : IsD w n ds d) :
    Calls Try.prog 4 #[.slice a N c, .agg ds] w fun e w' => e = .returned (.bool true) ∧ Below w.heap.size w w' := by
  obtain ⟨m, hm1⟩ : ∃ m : Nat, m = min N 40 := ⟨_, rfl⟩
  have HE : Hid ((if (40 : Int) < (N : Int) then (40 : Int) else (N : Int)) = (m : Int)) := by show _ = _; split <;> omega
  have HM : Hid ((ws.take 40).length = m ∧ m ≤ 40) := ⟨by rw [List.length_take]; omega, by omega⟩
  have hs2 : ∀ y ∈ ws.take 40, SmX n y := fun y hy => hs y (List.mem_of_mem_take hy)
  have hR2 := hR.take 40
  generalize ws.take 40 = us at HM hs2 hR2
  have HU : Hid (LsW w n a us) := hR2
  have HSM : Hid (∀ y ∈ us, SmX n y) := hs2
  have HD : Hid (IsD w n ds d) := hd
  have KW : Hid (∀ W, Calls Try.prog 18 #[] W fun e w' => e = .returned (.bool true) ∧ Below W.heap.size W w') := awake_calls
  have HB0 : Hid (Below w.heap.size w (w.alloc (.cells ds 33))) := bel1 w _
  have hrow : (w.alloc (.cells ds 33)).heap[w.heap.size]? = some (.cells ds 33 (0, 0)) := heap_alloc_new w _
  have e0 : (w.alloc (.cells ds 33)).cell? ⟨w.heap.size, 0, none⟩ = some (.int .i64 d.op) := row_cell hrow hd.c0
  have hi33 := info33s ds hd.size
  have HO : Hid (opU d.op = (IntKind.u64.wrap d.op).tmod 5) := rfl
  have HFx : Hid (2 ≤ opU d.op → (onL d us).length = us.length ∧ ∀ (j : Nat) x, us[j]? = some x → ∃ y, (onL d us)[j]? = some y ∧ y.op = x.op ∧ (x.over = true → y = x)) := onL_fx d us
  clear hR hs hN hm1 hs2 hR2 hd
  go_enter Try.func4, Try.ntmps4
  go_upto_region 2 with fail
  rw [HE.out]
  simp only [Int.toNat_natCast]
  clear hc hm HE
  generalize w.alloc (.cells ds 33) = W0 at HB0 hrow e0 ⊢
  go_upto_region 3 with fail
  rw [← HO.out]
  generalize opU d.op = u at HO HFx ⊢
  clear HO e0
  by_cases hu : u < 2
  · have KZ : Hid (Calls Try.prog 18 #[] W0 _) := KW.out W0
    have h2 : decide (u < 2) = true := by simpa using hu
    go_wp2_with fail
    refine KZ.out.mono ?_
    rintro e u2 ⟨rfl, hb2⟩
    have HB2 : Hid (Below w.heap.size w u2) := bel2 HB0.out hb2
    clear hb2
    go_wp2_with fail
    go_ret
    exact ⟨rfl, HB2.out⟩
  · have h2 : decide (u < 2) = false := by simpa using hu
    have HFu : Hid ((onL d us).length = us.length ∧ ∀ (j : Nat) x, us[j]? = some x → ∃ y, (onL d us)[j]? = some y ∧ y.op = x.op ∧ (x.over = true → y = x)) := HFx.out (by omega)
    have KF : Hid (Calls Try.prog 7 #[.agg ds] W0 (FwP d.az.length d.kz.length W0)) := few_calls n ds d W0 (HD.out.below HB0.out)
    clear HFx
    go_wp2_with (refine wpList_load_rowG (by rfl) 33 _ rfl w.heap.size rfl 33 ds (0, 0) _ hrow Try.underlying33 rfl hi33 ?_)
    refine KF.out.mono ?_
    rintro e u1 ⟨⟨b, rfl, hb⟩, hb1⟩
    have HBl : Hid (b = true → d.az.length ≤ 60 ∧ d.kz.length ≤ 60) := hb
    have HB1 : Hid (Below w.heap.size w u1) := bel2 HB0.out hb1
    have hrow1 : u1.heap[w.heap.size]? = some (.cells ds 33 (0, 0)) := row_below hb1 hrow
    clear hb hb1 hrow KF hu h2
    cases b with
    | false =>
      have KZ : Hid (Calls Try.prog 18 #[] u1 _) := KW.out u1
      go_wp2_with fail
      refine KZ.out.mono ?_
      rintro e u2 ⟨rfl, hb2⟩
      have HB2 : Hid (Below w.heap.size w u2) := bel2 HB1.out hb2
      clear hb2
      go_wp2_with fail
      go_ret
      exact ⟨rfl, HB2.out⟩
    | true =>
      have KN : Hid (Calls Try.prog 8 #[.agg ds, .slice a m c] u1 (RetW n u1 (onL d us))) := on_calls n ds d a c m us HM.out.1 (by have := HM.out.2; omega) u1 (HD.out.below HB1.out) (HU.out.below HB1.out) HSM.out (HBl.out rfl)
      go_wp2_with (refine wpList_load_row rfl 33 _ rfl w.heap.size rfl 33 ds (0, 0) _ hrow1 Try.underlying33 rfl hi33 ?_)
      refine KN.out.mono ?_
      rintro e u2 ⟨a1, c1, rfl, hl1, hc1, hd1, hb2⟩
      have hlen : (onL d us).length = m := HFu.out.1.trans HM.out.1
      have HL1 : Hid (LsW u2 n a1 (onL d us)) := hl1
      have HB2 : Hid (Below w.heap.size w u2) := bel2 HB1.out hb2
      rw [hlen] at hc1 ⊢
      have HC1 : Hid (m ≤ c1 ∧ c1 ≤ 9223372036854775807) := ⟨hc1, hd1⟩
      have HG : Hid (∀ (j : Nat) x, us[j]? = some x → ∃ y, (onL d us)[j]? = some y ∧ y.op = x.op ∧ (x.over = true → y = x)) := HFu.out.2
      generalize onL d us = ys at HL1 HG
      have hnn : ((m : Int) != (m : Int)) = false := by simp
      clear hl1 hb2 hlen KN hrow1 hi33 HFu hc1 hd1 HBl
      go_wp2_with fail
      go_loopw [36] (fun i wr => ∃ j : Nat, j ≤ m ∧ i = .int .i64 (j : Int) ∧ Hid (Below u2.heap.size u2 wr)) (fun i _ => m - (intOf i).toNat)
      case atStart => exact ⟨0, Nat.zero_le _, rfl, Below.refl _ _⟩
      case round =>
        obtain ⟨j, hj, rfl, HB⟩ := hrel
        by_cases hlt : j < m
        · obtain ⟨x, hx⟩ : ∃ x, us[j]? = some x := ⟨_, List.getElem?_eq_getElem (by rw [HM.out.1]; exact hlt)⟩
          obtain ⟨y, hy, hyo, hyv⟩ := HG.out j x hx
          have hHB := bel2 HB2.out HB.out
          obtain ⟨B, o, cs, rfl, hli, hi⟩ := (HU.out.below hHB) j x hx
          obtain ⟨B2, o2, r2, rfl, hl2, hi2⟩ := (HL1.out.below HB.out) j y hy
          have HBB : Hid (Below w.heap.size w wr) := hHB
          have hrng := lies_range hli
          have hi29 : (Try.prog.info? 29).map (·.size) = some cs.toList.length := by rw [Array.length_toList]; exact info29s cs hi.size
          have hi29' := info29s cs hi.size
          have ho : zW.size = cs.size := hi.size.symm
          have h1 := all_one hi.one
          have hz : (wr.alloc (.cells zW 29)).heap[wr.heap.size]? = some (.cells zW 29 (0, 0)) := heap_alloc_new wr _
          have hjl : (j : Int) < (m : Int) := by omega
          have HW : Hid (wrap64 ((j : Int) + 1) = ((j + 1 : Nat) : Int)) := wr1 hlt (by have := HM.out.2; omega)
          have HI : Hid (IsW (Is wr n) cs x) := hi
          have HY : Hid (wr.cell? ⟨B2, o2 + j * 19, none⟩ = some (.int .i64 x.op)) := by have h := hl2 0 _ hi2.c0; rw [hyo] at h; exact h
          have HYL : Hid (x.over = true → LsW wr n (some ⟨B2, o2 + j * 19, none⟩) [x]) := fun hxo i z hz => by
            match i, hz with
            | 0, hz =>
              cases hz
              exact ⟨B2, o2 + j * 19, r2, rfl, by rw [Nat.zero_mul, Nat.add_zero]; exact hl2, by rw [← hyv hxo]; exact hi2⟩
            | i + 1, hz => simp at hz
          have HCS : Hid (cs.size = 19) := hi.size
          clear hx hi hli hl2 hi2 hHB hy hyo hyv
          go_upto_region 11 with (first
            | refine wpList_load_mid rfl 29 _ rfl B (o + j * 19) rfl cs.toList _ hrng Try.underlying29 rfl hi29 ?_
            | refine wpList_store_row rfl 29 _ _ rfl wr.heap.size cs rfl rfl 29 zW hz hi29' ho h1 ?_)
          rw [World.setRow_alloc_new]
          have HBa : Hid (Below wr.heap.size wr (wr.alloc (.cells cs 29))) := bel1 wr _
          have hrowb : (wr.alloc (.cells cs 29)).heap[wr.heap.size]? = some (.cells cs 29 (0, 0)) := heap_alloc_new wr _
          have HRB : Hid ((wr.alloc (.cells cs 29)).heap[wr.heap.size]? = some (.cells cs 29 (0, 0))) := hrowb
          have HS : Hid (∀ W, Below (wr.alloc (.cells cs 29)).heap.size (wr.alloc (.cells cs 29)) W → W.cell? ⟨wr.heap.size, 17, none⟩ = some (.bool x.over) ∧ W.cell? ⟨wr.heap.size, 0, none⟩ = some (.int .i64 x.op) ∧ W.cell? ⟨B2, o2 + j * 19, none⟩ = some (.int .i64 x.op) ∧ W.rangeAt wr.heap.size 0 cs.toList) := fun W hW =>
            ⟨cellW (row_cell hrowb HI.out.c17) hW, cellW (row_cell hrowb HI.out.c0) hW, cellW HY.out (bel2 (bel1 wr _) hW), lies_range ((Lies.row hrowb).below hW)⟩
          have HBw : Hid (Below u2.heap.size u2 (wr.alloc (.cells cs 29))) := bel2 HB.out (bel1 wr _)
          generalize wr.alloc (.cells cs 29) = Wa at HBa HRB HS HBw ⊢
          generalize hG : wr.heap.size = G at HS HRB ⊢
          clear hG hrowb hz ho h1 hi29' hrng HY
          by_cases hxo : x.over = true
          · have HYX := HYL.out hxo
            rw [hxo] at HS
            have HB6 : Hid (Below Wa.heap.size Wa (Wa.drew.alloc (.cells cs 29))) := (Below.refl _ Wa).drew.trans (bel1 Wa.drew _)
            have hwi : IntKind.i64.wrap ((j : Int) + 1) = ((j + 1 : Nat) : Int) := by rw [IntKind.wrap_i64]; have := HM.out.2; omega
            have hja : (0 : Int) ≤ (j : Int) + 1 := by omega
            have hjb : (j : Int) + 1 ≤ (c1 : Int) := by have := HC1.out.1; omega
            have hcj : ¬ c1 = j := by have := HC1.out.1; omega
            have hjc : j + 1 ≤ c1 := by have := HC1.out.1; omega
            have KS : Hid (Calls Try.prog 10 #[.slice (some ⟨Wa.heap.size, 0, none⟩) 1 1, .slice (some ⟨B2, o2 + j * 19, none⟩) 1 (c1 - j)] (Wa.drew.alloc (.cells cs 29)) fun e w' => e = .returned (.bool true) ∧ Below (Wa.drew.alloc (.cells cs 29)).heap.size (Wa.drew.alloc (.cells cs 29)) w') :=
              wsame_calls n [x] _ _ 1 1 _ rfl (by omega) _ (ls_one (W := Wa.drew) (HI.out.map fun _ _ h => h.below (HBa.out.trans ((Below.refl _ Wa).drew.mono HBa.out.size)))) (HYX.below (HBa.out.trans (HB6.out.mono HBa.out.size)))
            refine wp_region_held_drew (S := (fun w' => w'.cell? ⟨G, 17, none⟩ = some (.bool true) ∧ w'.cell? ⟨G, 0, none⟩ = some (.int .i64 x.op) ∧ w'.cell? ⟨B2, o2 + j * 19, none⟩ = some (.int .i64 x.op) ∧ w'.rangeAt G 0 cs.toList)) (by kernel_rfl) (HS.out Wa (Below.refl _ _)) (fun hHeld => ?_)
            change wpAnyH _ _ _ _ _ _ _ _ (World.drew _)
            refine wpAnyH_take (i := 0) (oi := { dst := some 41, op := Go.Op.fieldAddr 29 (Go.Operand.tmp 8) 9, type := 0, pos := "law.go:95", after := #[], guard := none }) (v := ?_) rfl (by kernel_rfl) (by kernel_rfl) (by kernel_rfl) (fun _ _ _ h => h) (Or.inl ⟨by rfl, ?_⟩) hHeld ?_
            rotate_left 1
            · (intro w hSw; (try dsimp only at hSw); go_simp <;> with_reducible rfl)
            simp only [Act.put, List.setIfInBounds_toArray, List.set_cons_zero, List.set_cons_succ]
            refine wpAnyH_take (i := 1) (oi := { dst := some 42, op := Go.Op.load 4 (Go.Operand.tmp 41), type := 4, pos := "law.go:95", after := #[{ on := 0, ground := Go.Ground.data }], guard := none }) (v := ?_) rfl (by kernel_rfl) (by kernel_rfl) (by kernel_rfl) (fun _ _ _ h => h) (Or.inl ⟨by rfl, ?_⟩) hHeld ?_
            rotate_left 1
            · (intro w hSw; (try dsimp only at hSw); go_simp <;> with_reducible rfl)
            simp only [Act.put, List.setIfInBounds_toArray, List.set_cons_zero, List.set_cons_succ]
            refine wpAnyH_take (i := 2) (oi := { dst := some 43, op := Go.Op.move (Go.Operand.tmp 42), type := 4, pos := "law.go:95", after := #[{ on := 1, ground := Go.Ground.data }], guard := none }) (v := ?_) rfl (by kernel_rfl) (by kernel_rfl) (by kernel_rfl) (fun _ _ _ h => h) (Or.inl ⟨by rfl, ?_⟩) hHeld ?_
            rotate_left 1
            · (intro w hSw; (try dsimp only at hSw); go_simp <;> with_reducible rfl)
            simp only [Act.put, List.setIfInBounds_toArray, List.set_cons_zero, List.set_cons_succ]
            refine wpAnyH_take (i := 3) (oi := { dst := some 44, op := Go.Op.load 29 (Go.Operand.tmp 8), type := 29, pos := "law.go:95", after := #[{ on := 2, ground := Go.Ground.guard }], guard := some (2, true) }) (v := _) rfl (by kernel_rfl) (by kernel_rfl) (by kernel_rfl) (fun _ _ _ h => h) (yieldsIf_load_mid (by rfl) 29 _ rfl G 0 rfl cs.toList _ (fun w h => h.2.2.2) Try.underlying29 rfl hi29) hHeld ?_
            simp only [Act.put, List.setIfInBounds_toArray, List.set_cons_zero, List.set_cons_succ]
            refine wpAnyH_take (i := 5) (oi := { dst := some 46, op := Go.Op.move (Go.Operand.tmp 6), type := 22, pos := "law.go:95", after := #[{ on := 2, ground := Go.Ground.guard }], guard := some (2, true) }) (v := ?_) rfl (by kernel_rfl) (by kernel_rfl) (by kernel_rfl) (fun _ _ _ h => h) (Or.inl ⟨by rfl, ?_⟩) hHeld ?_
            rotate_left 1
            · (intro w hSw; (try dsimp only at hSw); go_simp <;> with_reducible rfl)
            simp only [Act.put, List.setIfInBounds_toArray, List.set_cons_zero, List.set_cons_succ]
            refine wpAnyH_take (i := 6) (oi := { dst := some 47, op := Go.Op.move (Go.Operand.tmp 7), type := 3, pos := "law.go:95", after := #[{ on := 2, ground := Go.Ground.guard }], guard := some (2, true) }) (v := ?_) rfl (by kernel_rfl) (by kernel_rfl) (by kernel_rfl) (fun _ _ _ h => h) (Or.inl ⟨by rfl, ?_⟩) hHeld ?_
            rotate_left 1
            · (intro w hSw; (try dsimp only at hSw); go_simp <;> with_reducible rfl)
            simp only [Act.put, List.setIfInBounds_toArray, List.set_cons_zero, List.set_cons_succ]
            refine wpAnyH_take (i := 7) (oi := { dst := some 48, op := Go.Op.move (Go.Operand.tmp 7), type := 3, pos := "law.go:95", after := #[{ on := 2, ground := Go.Ground.guard }], guard := some (2, true) }) (v := ?_) rfl (by kernel_rfl) (by kernel_rfl) (by kernel_rfl) (fun _ _ _ h => h) (Or.inl ⟨by rfl, ?_⟩) hHeld ?_
            rotate_left 1
            · (intro w hSw; (try dsimp only at hSw); go_simp <;> with_reducible rfl)
            simp only [Act.put, List.setIfInBounds_toArray, List.set_cons_zero, List.set_cons_succ]
            refine wpAnyH_take (i := 8) (oi := { dst := some 49, op := Go.Op.binOp Go.BinOp.add 3 (Go.Operand.tmp 48) (Go.Operand.const (Go.Value.int Go.IntKind.i64 1)) 3, type := 3, pos := "law.go:95", after := #[{ on := 7, ground := Go.Ground.data }, { on := 2, ground := Go.Ground.guard }], guard := some (2, true) }) (v := ?_) rfl (by kernel_rfl) (by kernel_rfl) (by kernel_rfl) (fun _ _ _ h => h) (Or.inl ⟨by rfl, ?_⟩) hHeld ?_
            rotate_left 1
            · (intro w hSw; (try dsimp only at hSw); go_simp <;> with_reducible rfl)
            simp only [Act.put, List.setIfInBounds_toArray, List.set_cons_zero, List.set_cons_succ]
            refine wpAnyH_take (i := 9) (oi := { dst := some 50, op := Go.Op.slice 22 (Go.Operand.tmp 46) (some (Go.Operand.tmp 47)) (some (Go.Operand.tmp 49)) none, type := 22, pos := "law.go:95", after := #[{ on := 5, ground := Go.Ground.data }, { on := 6, ground := Go.Ground.data }, { on := 8, ground := Go.Ground.data }, { on := 2, ground := Go.Ground.guard }], guard := some (2, true) }) (v := ?_) rfl (by kernel_rfl) (by kernel_rfl) (by kernel_rfl) (fun _ _ _ h => h) (Or.inl ⟨by rfl, ?_⟩) hHeld ?_
            rotate_left 1
            · (intro w hSw; (try dsimp only at hSw); go_simp <;> with_reducible rfl)
            simp only [Act.put, List.setIfInBounds_toArray, List.set_cons_zero, List.set_cons_succ]
            refine wpAnyH_ready (rs := [4]) (by kernel_rfl) (by simp) ?_
            refine AllReadyH.cons (o := { dst := some 45, op := Go.Op.buildSlice 22 1 #[(0, Go.Operand.tmp 44)], type := 22, pos := "law.go:95", after := #[{ on := 3, ground := Go.Ground.data }, { on := 2, ground := Go.Ground.guard }], guard := some (2, true) }) rfl (fun K hK => ?_) AllReadyH.nil
            refine step_slice_runG (by rfl) 22 _ rfl (.agg cs) rfl (slice1 cs HCS.out _) ?_
            refine hK.out _ _ (HS.out _ HB6.out) (fun hHeld => ?_)
            clear hK K
            simp only [Act.put, List.setIfInBounds_toArray, List.set_cons_zero, List.set_cons_succ]
            refine wpAnyH_ready (rs := [10]) (by kernel_rfl) (by simp) ?_
            refine AllReadyH.cons (o := { dst := some 51, op := Go.Op.call { callee := Go.Callee.value (Go.Operand.func 10), args := #[Go.Operand.tmp 45, Go.Operand.tmp 50], argTypes := #[22, 22] }, type := 4, pos := "law.go:95", after := #[{ on := 4, ground := Go.Ground.data }, { on := 9, ground := Go.Ground.data }, { on := 2, ground := Go.Ground.chain }, { on := 2, ground := Go.Ground.guard }], guard := some (2, true) }) rfl (fun K hK => ?_) AllReadyH.nil
            go_simp
            refine (KS.out).mono ?_
            rintro e w7 ⟨rfl, hb7⟩
            have HB7 : Hid (Below Wa.heap.size Wa w7) := bel2 HB6.out hb7
            clear hb7 hHeld
            refine hK.out _ _ (HS.out _ HB7.out) (fun hHeld => ?_)
            clear hK K
            refine wpAnyH_take (i := 11) (oi := { dst := some 52, op := Go.Op.unOp Go.UnOp.not 4 (Go.Operand.tmp 51), type := 4, pos := "law.go:95", after := #[{ on := 10, ground := Go.Ground.data }, { on := 2, ground := Go.Ground.guard }], guard := some (2, true) }) (v := ?_) rfl (by kernel_rfl) (by kernel_rfl) (by kernel_rfl) (fun _ _ _ h => h) (Or.inl ⟨by rfl, ?_⟩) hHeld ?_
            rotate_left 1
            · (intro w hSw; (try dsimp only at hSw); go_simp <;> with_reducible rfl)
            simp only [Act.put, List.setIfInBounds_toArray, List.set_cons_zero, List.set_cons_succ]
            refine wpAnyH_take (i := 12) (oi := { dst := some 53, op := Go.Op.pick (Go.Operand.tmp 43) (Go.Operand.tmp 52) (Go.Operand.const (Go.Value.bool false)), type := 4, pos := "law.go:95", after := #[{ on := 2, ground := Go.Ground.data }, { on := 11, ground := Go.Ground.data }], guard := none }) (v := ?_) rfl (by kernel_rfl) (by kernel_rfl) (by kernel_rfl) (fun _ _ _ h => h) (Or.inl ⟨by rfl, ?_⟩) hHeld ?_
            rotate_left 1
            · (intro w hSw; (try dsimp only at hSw); go_simp <;> with_reducible rfl)
            simp only [Act.put, List.setIfInBounds_toArray, List.set_cons_zero, List.set_cons_succ]
            refine wpAnyH_take (i := 13) (oi := { dst := some 54, op := Go.Op.move (Go.Operand.tmp 53), type := 4, pos := "law.go:95", after := #[{ on := 12, ground := Go.Ground.data }, { on := 10, ground := Go.Ground.chain }], guard := none }) (v := ?_) rfl (by kernel_rfl) (by kernel_rfl) (by kernel_rfl) (fun _ _ _ h => h) (Or.inl ⟨by rfl, ?_⟩) hHeld ?_
            rotate_left 1
            · (intro w hSw; (try dsimp only at hSw); go_simp <;> with_reducible rfl)
            simp only [Act.put, List.setIfInBounds_toArray, List.set_cons_zero, List.set_cons_succ]
            refine wpAnyH_take (i := 14) (oi := { dst := some 55, op := Go.Op.move (Go.Operand.tmp 6), type := 22, pos := "law.go:95", after := #[{ on := 13, ground := Go.Ground.guard }], guard := some (13, false) }) (v := ?_) rfl (by kernel_rfl) (by kernel_rfl) (by kernel_rfl) (fun _ _ _ h => h) (Or.inl ⟨by rfl, ?_⟩) hHeld ?_
            rotate_left 1
            · (intro w hSw; (try dsimp only at hSw); go_simp <;> with_reducible rfl)
            simp only [Act.put, List.setIfInBounds_toArray, List.set_cons_zero, List.set_cons_succ]
            refine wpAnyH_take (i := 15) (oi := { dst := some 56, op := Go.Op.move (Go.Operand.tmp 7), type := 3, pos := "law.go:95", after := #[{ on := 13, ground := Go.Ground.guard }], guard := some (13, false) }) (v := ?_) rfl (by kernel_rfl) (by kernel_rfl) (by kernel_rfl) (fun _ _ _ h => h) (Or.inl ⟨by rfl, ?_⟩) hHeld ?_
            rotate_left 1
            · (intro w hSw; (try dsimp only at hSw); go_simp <;> with_reducible rfl)
            simp only [Act.put, List.setIfInBounds_toArray, List.set_cons_zero, List.set_cons_succ]
            refine wpAnyH_take (i := 16) (oi := { dst := some 57, op := Go.Op.indexAddr 22 (Go.Operand.tmp 55) (Go.Operand.tmp 56), type := 0, pos := "law.go:95", after := #[{ on := 14, ground := Go.Ground.data }, { on := 15, ground := Go.Ground.data }, { on := 13, ground := Go.Ground.guard }], guard := some (13, false) }) (v := ?_) rfl (by kernel_rfl) (by kernel_rfl) (by kernel_rfl) (fun _ _ _ h => h) (Or.inl ⟨by rfl, ?_⟩) hHeld ?_
            rotate_left 1
            · (intro w hSw; (try dsimp only at hSw); go_simp <;> with_reducible rfl)
            simp only [Act.put, List.setIfInBounds_toArray, List.set_cons_zero, List.set_cons_succ]
            refine wpAnyH_take (i := 17) (oi := { dst := some 58, op := Go.Op.fieldAddr 29 (Go.Operand.tmp 57) 0, type := 0, pos := "law.go:95", after := #[{ on := 16, ground := Go.Ground.data }, { on := 13, ground := Go.Ground.guard }], guard := some (13, false) }) (v := ?_) rfl (by kernel_rfl) (by kernel_rfl) (by kernel_rfl) (fun _ _ _ h => h) (Or.inl ⟨by rfl, ?_⟩) hHeld ?_
            rotate_left 1
            · (intro w hSw; (try dsimp only at hSw); go_simp <;> with_reducible rfl)
            simp only [Act.put, List.setIfInBounds_toArray, List.set_cons_zero, List.set_cons_succ]
            refine wpAnyH_take (i := 18) (oi := { dst := some 59, op := Go.Op.load 3 (Go.Operand.tmp 58), type := 3, pos := "law.go:95", after := #[{ on := 17, ground := Go.Ground.data }, { on := 13, ground := Go.Ground.guard }], guard := some (13, false) }) (v := ?_) rfl (by kernel_rfl) (by kernel_rfl) (by kernel_rfl) (fun _ _ _ h => h) (Or.inl ⟨by rfl, ?_⟩) hHeld ?_
            rotate_left 1
            · (intro w hSw; (try dsimp only at hSw); go_simp <;> with_reducible rfl)
            simp only [Act.put, List.setIfInBounds_toArray, List.set_cons_zero, List.set_cons_succ]
            refine wpAnyH_take (i := 19) (oi := { dst := some 60, op := Go.Op.fieldAddr 29 (Go.Operand.tmp 8) 0, type := 0, pos := "law.go:95", after := #[{ on := 13, ground := Go.Ground.guard }], guard := some (13, false) }) (v := ?_) rfl (by kernel_rfl) (by kernel_rfl) (by kernel_rfl) (fun _ _ _ h => h) (Or.inl ⟨by rfl, ?_⟩) hHeld ?_
            rotate_left 1
            · (intro w hSw; (try dsimp only at hSw); go_simp <;> with_reducible rfl)
            simp only [Act.put, List.setIfInBounds_toArray, List.set_cons_zero, List.set_cons_succ]
            refine wpAnyH_take (i := 20) (oi := { dst := some 61, op := Go.Op.load 3 (Go.Operand.tmp 60), type := 3, pos := "law.go:95", after := #[{ on := 19, ground := Go.Ground.data }, { on := 13, ground := Go.Ground.guard }], guard := some (13, false) }) (v := ?_) rfl (by kernel_rfl) (by kernel_rfl) (by kernel_rfl) (fun _ _ _ h => h) (Or.inl ⟨by rfl, ?_⟩) hHeld ?_
            rotate_left 1
            · (intro w hSw; (try dsimp only at hSw); go_simp <;> with_reducible rfl)
            simp only [Act.put, List.setIfInBounds_toArray, List.set_cons_zero, List.set_cons_succ]
            refine wpAnyH_take (i := 21) (oi := { dst := some 62, op := Go.Op.binOp Go.BinOp.neq 3 (Go.Operand.tmp 59) (Go.Operand.tmp 61) 3, type := 4, pos := "law.go:95", after := #[{ on := 18, ground := Go.Ground.data }, { on := 20, ground := Go.Ground.data }, { on := 13, ground := Go.Ground.guard }], guard := some (13, false) }) (v := ?_) rfl (by kernel_rfl) (by kernel_rfl) (by kernel_rfl) (fun _ _ _ h => h) (Or.inl ⟨by rfl, ?_⟩) hHeld ?_
            rotate_left 1
            · (intro w hSw; (try dsimp only at hSw); go_simp <;> with_reducible rfl)
            simp only [Act.put, List.setIfInBounds_toArray, List.set_cons_zero, List.set_cons_succ]
            refine wpAnyH_take (i := 22) (oi := { dst := some 63, op := Go.Op.pick (Go.Operand.tmp 54) (Go.Operand.const (Go.Value.bool true)) (Go.Operand.tmp 62), type := 4, pos := "law.go:95", after := #[{ on := 13, ground := Go.Ground.data }, { on := 21, ground := Go.Ground.data }], guard := none }) (v := ?_) rfl (by kernel_rfl) (by kernel_rfl) (by kernel_rfl) (fun _ _ _ h => h) (Or.inl ⟨by rfl, ?_⟩) hHeld ?_
            rotate_left 1
            · (intro w hSw; (try dsimp only at hSw); go_simp <;> with_reducible rfl)
            simp only [Act.put, List.setIfInBounds_toArray, List.set_cons_zero, List.set_cons_succ]
            refine wpAnyH_done (by kernel_rfl) ?_ _
            go_wp2_with fail
            exact ⟨⟨j + 1, hlt, by first | rw [HW.out] | exact congrArg _ (Int.natCast_succ j).symm, bel2 HBw.out HB7.out⟩, by first | exact meas hlt HW.out | exact meas hlt (Int.natCast_succ j).symm⟩
          · have hxo' : x.over = false := by simpa using hxo
            rw [hxo'] at HS
            refine wp_region_held_drew (S := (fun w' => w'.cell? ⟨G, 17, none⟩ = some (.bool false) ∧ w'.cell? ⟨G, 0, none⟩ = some (.int .i64 x.op) ∧ w'.cell? ⟨B2, o2 + j * 19, none⟩ = some (.int .i64 x.op) ∧ w'.rangeAt G 0 cs.toList)) (by kernel_rfl) (HS.out Wa (Below.refl _ _)) (fun hHeld => ?_)
            change wpAnyH _ _ _ _ _ _ _ _ (World.drew _)
            refine wpAnyH_take (i := 0) (oi := { dst := some 41, op := Go.Op.fieldAddr 29 (Go.Operand.tmp 8) 9, type := 0, pos := "law.go:95", after := #[], guard := none }) (v := ?_) rfl (by kernel_rfl) (by kernel_rfl) (by kernel_rfl) (fun _ _ _ h => h) (Or.inl ⟨by rfl, ?_⟩) hHeld ?_
            rotate_left 1
            · (intro w hSw; (try dsimp only at hSw); go_simp <;> with_reducible rfl)
            simp only [Act.put, List.setIfInBounds_toArray, List.set_cons_zero, List.set_cons_succ]
            refine wpAnyH_take (i := 1) (oi := { dst := some 42, op := Go.Op.load 4 (Go.Operand.tmp 41), type := 4, pos := "law.go:95", after := #[{ on := 0, ground := Go.Ground.data }], guard := none }) (v := ?_) rfl (by kernel_rfl) (by kernel_rfl) (by kernel_rfl) (fun _ _ _ h => h) (Or.inl ⟨by rfl, ?_⟩) hHeld ?_
            rotate_left 1
            · (intro w hSw; (try dsimp only at hSw); go_simp <;> with_reducible rfl)
            simp only [Act.put, List.setIfInBounds_toArray, List.set_cons_zero, List.set_cons_succ]
            refine wpAnyH_take (i := 2) (oi := { dst := some 43, op := Go.Op.move (Go.Operand.tmp 42), type := 4, pos := "law.go:95", after := #[{ on := 1, ground := Go.Ground.data }], guard := none }) (v := ?_) rfl (by kernel_rfl) (by kernel_rfl) (by kernel_rfl) (fun _ _ _ h => h) (Or.inl ⟨by rfl, ?_⟩) hHeld ?_
            rotate_left 1
            · (intro w hSw; (try dsimp only at hSw); go_simp <;> with_reducible rfl)
            simp only [Act.put, List.setIfInBounds_toArray, List.set_cons_zero, List.set_cons_succ]
            refine wpAnyH_take (i := 3) (oi := { dst := some 44, op := Go.Op.load 29 (Go.Operand.tmp 8), type := 29, pos := "law.go:95", after := #[{ on := 2, ground := Go.Ground.guard }], guard := some (2, true) }) (v := undef) rfl (by kernel_rfl) (by kernel_rfl) (by kernel_rfl) (fun _ _ _ h => h) (Or.inr ⟨by rfl, rfl⟩) hHeld ?_
            simp only [Act.put, List.setIfInBounds_toArray, List.set_cons_zero, List.set_cons_succ]
            refine wpAnyH_take (i := 4) (oi := { dst := some 45, op := Go.Op.buildSlice 22 1 #[(0, Go.Operand.tmp 44)], type := 22, pos := "law.go:95", after := #[{ on := 3, ground := Go.Ground.data }, { on := 2, ground := Go.Ground.guard }], guard := some (2, true) }) (v := undef) rfl (by kernel_rfl) (by kernel_rfl) (by kernel_rfl) (fun _ _ _ h => h) (Or.inr ⟨by rfl, rfl⟩) hHeld ?_
            simp only [Act.put, List.setIfInBounds_toArray, List.set_cons_zero, List.set_cons_succ]
            refine wpAnyH_take (i := 5) (oi := { dst := some 46, op := Go.Op.move (Go.Operand.tmp 6), type := 22, pos := "law.go:95", after := #[{ on := 2, ground := Go.Ground.guard }], guard := some (2, true) }) (v := undef) rfl (by kernel_rfl) (by kernel_rfl) (by kernel_rfl) (fun _ _ _ h => h) (Or.inr ⟨by rfl, rfl⟩) hHeld ?_
            simp only [Act.put, List.setIfInBounds_toArray, List.set_cons_zero, List.set_cons_succ]
            refine wpAnyH_take (i := 6) (oi := { dst := some 47, op := Go.Op.move (Go.Operand.tmp 7), type := 3, pos := "law.go:95", after := #[{ on := 2, ground := Go.Ground.guard }], guard := some (2, true) }) (v := undef) rfl (by kernel_rfl) (by kernel_rfl) (by kernel_rfl) (fun _ _ _ h => h) (Or.inr ⟨by rfl, rfl⟩) hHeld ?_
            simp only [Act.put, List.setIfInBounds_toArray, List.set_cons_zero, List.set_cons_succ]
            refine wpAnyH_take (i := 7) (oi := { dst := some 48, op := Go.Op.move (Go.Operand.tmp 7), type := 3, pos := "law.go:95", after := #[{ on := 2, ground := Go.Ground.guard }], guard := some (2, true) }) (v := undef) rfl (by kernel_rfl) (by kernel_rfl) (by kernel_rfl) (fun _ _ _ h => h) (Or.inr ⟨by rfl, rfl⟩) hHeld ?_
            simp only [Act.put, List.setIfInBounds_toArray, List.set_cons_zero, List.set_cons_succ]
            refine wpAnyH_take (i := 8) (oi := { dst := some 49, op := Go.Op.binOp Go.BinOp.add 3 (Go.Operand.tmp 48) (Go.Operand.const (Go.Value.int Go.IntKind.i64 1)) 3, type := 3, pos := "law.go:95", after := #[{ on := 7, ground := Go.Ground.data }, { on := 2, ground := Go.Ground.guard }], guard := some (2, true) }) (v := undef) rfl (by kernel_rfl) (by kernel_rfl) (by kernel_rfl) (fun _ _ _ h => h) (Or.inr ⟨by rfl, rfl⟩) hHeld ?_
            simp only [Act.put, List.setIfInBounds_toArray, List.set_cons_zero, List.set_cons_succ]
            refine wpAnyH_take (i := 9) (oi := { dst := some 50, op := Go.Op.slice 22 (Go.Operand.tmp 46) (some (Go.Operand.tmp 47)) (some (Go.Operand.tmp 49)) none, type := 22, pos := "law.go:95", after := #[{ on := 5, ground := Go.Ground.data }, { on := 6, ground := Go.Ground.data }, { on := 8, ground := Go.Ground.data }, { on := 2, ground := Go.Ground.guard }], guard := some (2, true) }) (v := undef) rfl (by kernel_rfl) (by kernel_rfl) (by kernel_rfl) (fun _ _ _ h => h) (Or.inr ⟨by rfl, rfl⟩) hHeld ?_
            simp only [Act.put, List.setIfInBounds_toArray, List.set_cons_zero, List.set_cons_succ]
            refine wpAnyH_take (i := 10) (oi := { dst := some 51, op := Go.Op.call { callee := Go.Callee.value (Go.Operand.func 10), args := #[Go.Operand.tmp 45, Go.Operand.tmp 50], argTypes := #[22, 22] }, type := 4, pos := "law.go:95", after := #[{ on := 4, ground := Go.Ground.data }, { on := 9, ground := Go.Ground.data }, { on := 2, ground := Go.Ground.chain }, { on := 2, ground := Go.Ground.guard }], guard := some (2, true) }) (v := undef) rfl (by kernel_rfl) (by kernel_rfl) (by kernel_rfl) (fun _ _ _ h => h) (Or.inr ⟨by rfl, rfl⟩) hHeld ?_
            simp only [Act.put, List.setIfInBounds_toArray, List.set_cons_zero, List.set_cons_succ]
            refine wpAnyH_take (i := 11) (oi := { dst := some 52, op := Go.Op.unOp Go.UnOp.not 4 (Go.Operand.tmp 51), type := 4, pos := "law.go:95", after := #[{ on := 10, ground := Go.Ground.data }, { on := 2, ground := Go.Ground.guard }], guard := some (2, true) }) (v := undef) rfl (by kernel_rfl) (by kernel_rfl) (by kernel_rfl) (fun _ _ _ h => h) (Or.inr ⟨by rfl, rfl⟩) hHeld ?_
            simp only [Act.put, List.setIfInBounds_toArray, List.set_cons_zero, List.set_cons_succ]
            refine wpAnyH_take (i := 12) (oi := { dst := some 53, op := Go.Op.pick (Go.Operand.tmp 43) (Go.Operand.tmp 52) (Go.Operand.const (Go.Value.bool false)), type := 4, pos := "law.go:95", after := #[{ on := 2, ground := Go.Ground.data }, { on := 11, ground := Go.Ground.data }], guard := none }) (v := ?_) rfl (by kernel_rfl) (by kernel_rfl) (by kernel_rfl) (fun _ _ _ h => h) (Or.inl ⟨by rfl, ?_⟩) hHeld ?_
            rotate_left 1
            · (intro w hSw; (try dsimp only at hSw); go_simp <;> with_reducible rfl)
            simp only [Act.put, List.setIfInBounds_toArray, List.set_cons_zero, List.set_cons_succ]
            refine wpAnyH_take (i := 13) (oi := { dst := some 54, op := Go.Op.move (Go.Operand.tmp 53), type := 4, pos := "law.go:95", after := #[{ on := 12, ground := Go.Ground.data }, { on := 10, ground := Go.Ground.chain }], guard := none }) (v := ?_) rfl (by kernel_rfl) (by kernel_rfl) (by kernel_rfl) (fun _ _ _ h => h) (Or.inl ⟨by rfl, ?_⟩) hHeld ?_
            rotate_left 1
            · (intro w hSw; (try dsimp only at hSw); go_simp <;> with_reducible rfl)
            simp only [Act.put, List.setIfInBounds_toArray, List.set_cons_zero, List.set_cons_succ]
            refine wpAnyH_take (i := 14) (oi := { dst := some 55, op := Go.Op.move (Go.Operand.tmp 6), type := 22, pos := "law.go:95", after := #[{ on := 13, ground := Go.Ground.guard }], guard := some (13, false) }) (v := ?_) rfl (by kernel_rfl) (by kernel_rfl) (by kernel_rfl) (fun _ _ _ h => h) (Or.inl ⟨by rfl, ?_⟩) hHeld ?_
            rotate_left 1
            · (intro w hSw; (try dsimp only at hSw); go_simp <;> with_reducible rfl)
            simp only [Act.put, List.setIfInBounds_toArray, List.set_cons_zero, List.set_cons_succ]
            refine wpAnyH_take (i := 15) (oi := { dst := some 56, op := Go.Op.move (Go.Operand.tmp 7), type := 3, pos := "law.go:95", after := #[{ on := 13, ground := Go.Ground.guard }], guard := some (13, false) }) (v := ?_) rfl (by kernel_rfl) (by kernel_rfl) (by kernel_rfl) (fun _ _ _ h => h) (Or.inl ⟨by rfl, ?_⟩) hHeld ?_
            rotate_left 1
            · (intro w hSw; (try dsimp only at hSw); go_simp <;> with_reducible rfl)
            simp only [Act.put, List.setIfInBounds_toArray, List.set_cons_zero, List.set_cons_succ]
            refine wpAnyH_take (i := 16) (oi := { dst := some 57, op := Go.Op.indexAddr 22 (Go.Operand.tmp 55) (Go.Operand.tmp 56), type := 0, pos := "law.go:95", after := #[{ on := 14, ground := Go.Ground.data }, { on := 15, ground := Go.Ground.data }, { on := 13, ground := Go.Ground.guard }], guard := some (13, false) }) (v := ?_) rfl (by kernel_rfl) (by kernel_rfl) (by kernel_rfl) (fun _ _ _ h => h) (Or.inl ⟨by rfl, ?_⟩) hHeld ?_
            rotate_left 1
            · (intro w hSw; (try dsimp only at hSw); go_simp <;> with_reducible rfl)
            simp only [Act.put, List.setIfInBounds_toArray, List.set_cons_zero, List.set_cons_succ]
            refine wpAnyH_take (i := 17) (oi := { dst := some 58, op := Go.Op.fieldAddr 29 (Go.Operand.tmp 57) 0, type := 0, pos := "law.go:95", after := #[{ on := 16, ground := Go.Ground.data }, { on := 13, ground := Go.Ground.guard }], guard := some (13, false) }) (v := ?_) rfl (by kernel_rfl) (by kernel_rfl) (by kernel_rfl) (fun _ _ _ h => h) (Or.inl ⟨by rfl, ?_⟩) hHeld ?_
            rotate_left 1
            · (intro w hSw; (try dsimp only at hSw); go_simp <;> with_reducible rfl)
            simp only [Act.put, List.setIfInBounds_toArray, List.set_cons_zero, List.set_cons_succ]
            refine wpAnyH_take (i := 18) (oi := { dst := some 59, op := Go.Op.load 3 (Go.Operand.tmp 58), type := 3, pos := "law.go:95", after := #[{ on := 17, ground := Go.Ground.data }, { on := 13, ground := Go.Ground.guard }], guard := some (13, false) }) (v := ?_) rfl (by kernel_rfl) (by kernel_rfl) (by kernel_rfl) (fun _ _ _ h => h) (Or.inl ⟨by rfl, ?_⟩) hHeld ?_
            rotate_left 1
            · (intro w hSw; (try dsimp only at hSw); go_simp <;> with_reducible rfl)
            simp only [Act.put, List.setIfInBounds_toArray, List.set_cons_zero, List.set_cons_succ]
            refine wpAnyH_take (i := 19) (oi := { dst := some 60, op := Go.Op.fieldAddr 29 (Go.Operand.tmp 8) 0, type := 0, pos := "law.go:95", after := #[{ on := 13, ground := Go.Ground.guard }], guard := some (13, false) }) (v := ?_) rfl (by kernel_rfl) (by kernel_rfl) (by kernel_rfl) (fun _ _ _ h => h) (Or.inl ⟨by rfl, ?_⟩) hHeld ?_
            rotate_left 1
            · (intro w hSw; (try dsimp only at hSw); go_simp <;> with_reducible rfl)
            simp only [Act.put, List.setIfInBounds_toArray, List.set_cons_zero, List.set_cons_succ]
            refine wpAnyH_take (i := 20) (oi := { dst := some 61, op := Go.Op.load 3 (Go.Operand.tmp 60), type := 3, pos := "law.go:95", after := #[{ on := 19, ground := Go.Ground.data }, { on := 13, ground := Go.Ground.guard }], guard := some (13, false) }) (v := ?_) rfl (by kernel_rfl) (by kernel_rfl) (by kernel_rfl) (fun _ _ _ h => h) (Or.inl ⟨by rfl, ?_⟩) hHeld ?_
            rotate_left 1
            · (intro w hSw; (try dsimp only at hSw); go_simp <;> with_reducible rfl)
            simp only [Act.put, List.setIfInBounds_toArray, List.set_cons_zero, List.set_cons_succ]
            refine wpAnyH_take (i := 21) (oi := { dst := some 62, op := Go.Op.binOp Go.BinOp.neq 3 (Go.Operand.tmp 59) (Go.Operand.tmp 61) 3, type := 4, pos := "law.go:95", after := #[{ on := 18, ground := Go.Ground.data }, { on := 20, ground := Go.Ground.data }, { on := 13, ground := Go.Ground.guard }], guard := some (13, false) }) (v := ?_) rfl (by kernel_rfl) (by kernel_rfl) (by kernel_rfl) (fun _ _ _ h => h) (Or.inl ⟨by rfl, ?_⟩) hHeld ?_
            rotate_left 1
            · (intro w hSw; (try dsimp only at hSw); go_simp <;> with_reducible rfl)
            simp only [Act.put, List.setIfInBounds_toArray, List.set_cons_zero, List.set_cons_succ]
            refine wpAnyH_take (i := 22) (oi := { dst := some 63, op := Go.Op.pick (Go.Operand.tmp 54) (Go.Operand.const (Go.Value.bool true)) (Go.Operand.tmp 62), type := 4, pos := "law.go:95", after := #[{ on := 13, ground := Go.Ground.data }, { on := 21, ground := Go.Ground.data }], guard := none }) (v := ?_) rfl (by kernel_rfl) (by kernel_rfl) (by kernel_rfl) (fun _ _ _ h => h) (Or.inl ⟨by rfl, ?_⟩) hHeld ?_
            rotate_left 1
            · (intro w hSw; (try dsimp only at hSw); go_simp <;> with_reducible rfl)
            simp only [Act.put, List.setIfInBounds_toArray, List.set_cons_zero, List.set_cons_succ]
            refine wpAnyH_done (by kernel_rfl) ?_ _
            go_wp2_with fail
            exact ⟨⟨j + 1, hlt, by first | rw [HW.out] | exact congrArg _ (Int.natCast_succ j).symm, HBw.out.drew⟩, by first | exact meas hlt HW.out | exact meas hlt (Int.natCast_succ j).symm⟩
        · obtain rfl : j = m := by omega
          have KZ : Hid (Calls Try.prog 18 #[] wr _) := KW.out wr
          go_wp2_with fail
          refine KZ.out.mono ?_
          rintro e u3 ⟨rfl, hb3⟩
          have HB3 : Hid (Below w.heap.size w u3) := bel2 (bel2 HB2.out HB.out) hb3
          clear hb3
          go_wp2_with fail
          go_ret
          exact ⟨rfl, HB3.out⟩
theorem IsD.up {W : World} {n m : Nat} {cs : Array Value} {d : Dy} (h : IsD W n cs d) (hn : n ≤ m) : IsD W m cs d := by
  obtain ⟨us, h1, h2⟩ := h.wt
  obtain ⟨a, c, h3, h4⟩ := h.az
  obtain ⟨a', c', h5, h6⟩ := h.kz
  exact { h with wt := ⟨us, h1, h2.up hn⟩, az := ⟨a, c, h3, h4.up hn⟩, kz := ⟨a', c', h5, h6.up hn⟩, sw := h.sw.up hn, sa := fun e he => (h.sa e he).up hn, sk := fun e he => (h.sk e he).up hn }
theorem over_all {W : World} {a : Option Addr} {c n m : Nat} {l : List Wt} {ds : Array Value} {d : Dy} (hc : l.length ≤ c ∧ l.length ≤ 9223372036854775807) (hl : LsW W (n + 1) a l) (hs : ∀ y ∈ l, SmX (n + 1) y) (hd : IsD W m ds d) :
    Calls Try.prog 4 #[.slice a l.length c, .agg ds] W fun e w' => e = .returned (.bool true) ∧ Below W.heap.size W w' :=
  over_walk (n + 1 + m) a c l.length l rfl hc.1 hc.2 ds d W (hl.up (by omega)) (fun y hy => (hs y hy).up (by omega)) (hd.up (by omega))
end Go.Proofs.Ytocjgcjechhehaa
