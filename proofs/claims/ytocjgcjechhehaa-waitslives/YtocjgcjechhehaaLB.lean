/- The contract of the reference's Hand. -/
import Derived.Test.YtocjgcjechhehaaLA
import Derived.Test.YtocjgcjechhehaaO
import Derived.Test.YtocjgcjechhehaaT
namespace Go.Proofs.Ytocjgcjechhehaa
open Go.ChangeAt Go.ChangeShapes Go.Deep Go.RowKit Go.WideShapes
/-- Blocks from lo on but b. -/
def Pb (lo b : Nat) (B : Nat) : Prop := lo ≤ B ∧ B ≠ b
theorem qkb {lo b n : Nat} {W W' : World} {v : Value} {t : Tv} (hk : KB b W W') (h : IsQ (Pb lo b) W n v t) : IsQ (Pb lo b) W' n v t :=
  h.keep fun B q _ hB hc => ⟨hk.2.2.2.2 B (World.block_lt_of_cell? W ⟨B, q, none⟩ hc) hB.2, hB⟩
theorem qbel {lo b n : Nat} {W W' : World} {v : Value} {t : Tv} (hb : Below W.heap.size W W') (h : IsQ (Pb lo b) W n v t) : IsQ (Pb lo b) W' n v t := qkb (KB.of_below hb) h
set_option maxHeartbeats 8000000 in
set_option maxRecDepth 100000 in
theorem rhand_calls (n : Nat) (a : Option Addr) (c N : Nat) (ws : List Wt) (hN : ws.length = N) (hl : N ≤ 1000) (flow : ByteArray) (run s upto : Int) (w : World) (hR : LsW w n a ws) (hs : ∀ x ∈ ws, SmX n x) :
    Calls Try.prog 27 #[.slice a N c, .string flow, .int .i64 run, .int .i64 s, .int .i64 upto] w (RetW n w (ws.map (hnd s flow run upto))) := by
  have HR : Hid (LsW w n a ws) := hR
  have HS : Hid (∀ x ∈ ws, SmX n x) := hs
  have HN : Hid (ws.length = N) := hN
  have HL : Hid (N ≤ 1000) := hl
  have HQ : Hid (∀ v W', GrW w.heap.size n W' v (ws.map (hnd s flow run upto)) → Below w.heap.size w W' → RetW n w (ws.map (hnd s flow run upto)) (.returned v) W') := fun v W' h hb => h.ret hb
  generalize RetW n w (ws.map (hnd s flow run upto)) = Q at HQ ⊢
  clear hR hs hN hl
  go_enter Try.func27, Try.ntmps27
  go_wp2_with fail
  go_loopw [11, 12] (fun v i wr => ∃ j : Nat, j ≤ N ∧ i = .int .i64 (j : Int) ∧ Hid (GrW w.heap.size n wr v ((ws.take j).map (hnd s flow run upto))) ∧ Hid (Below w.heap.size w wr)) (fun _ i _ => N - (intOf i).toNat)
  case atStart => exact ⟨0, Nat.zero_le _, rfl, GrW.nil _ _ _, Below.refl _ _⟩
  case round =>
    obtain ⟨j, hj, rfl, HG, HB⟩ := hrel
    obtain ⟨va, vc, hva, _, _⟩ := HG.out.shape
    have hvl : ((ws.take j).map (hnd s flow run upto)).length = j := by rw [List.length_map, List.length_take, HN.out]; omega
    rw [hvl] at hva
    have HVL : Hid (((ws.take j).map (hnd s flow run upto)).length = j) := hvl
    subst hva
    clear hvl
    by_cases hlt : j < N
    · obtain ⟨x, hx⟩ : ∃ x, ws[j]? = some x := ⟨_, List.getElem?_eq_getElem (by rw [HN.out]; exact hlt)⟩
      obtain ⟨B, o, cs, rfl, hli, hi⟩ := (HR.out.below HB.out) j x hx
      have HX : Hid (ws[j]? = some x) := hx
      have hrng := lies_range hli
      have hi29 : (Try.prog.info? 29).map (·.size) = some cs.toList.length := by rw [Array.length_toList]; exact info29s cs hi.size
      have hjl : (j : Int) < (N : Int) := by omega
      have HW : Hid (wrap64 ((j : Int) + 1) = ((j + 1 : Nat) : Int)) := wr1 hlt (by have := HL.out; omega)
      have KC : Hid (Calls Try.prog 34 #[.agg cs] wr (ClW n wr x)) := rclone_calls n cs x wr hi (HS.out x (List.mem_of_getElem? HX.out))
      have HP : Hid (0 < wr.heap.size) := by have := cell_lt (hli 0 _ hi.c0); show _ < _; omega
      clear hx hi hli
      go_wp2_with (refine wpList_load_mid rfl 29 _ rfl B (o + j * 19) rfl cs.toList _ hrng Try.underlying29 rfl hi29 ?_)
      refine KC.out.mono ?_
      rintro e w1 ⟨⟨us, rfl, hi1⟩, hb1⟩
      have hz : (w1.alloc (.cells zW 29)).heap[w1.heap.size]? = some (.cells zW 29 (0, 0)) := heap_alloc_new w1 _
      have hu := info29s us hi1.size
      have ho1 : zW.size = us.size := hi1.size.symm
      have h11 := all_one hi1.one
      have HB1 : Hid (Below wr.heap.size wr w1) := hb1
      have HI1 : Hid (IsW (IsN wr.heap.size w1 n) us x) := hi1
      clear hi1 hb1 KC hi29 hrng
      go_upto_region 6 with (refine wpList_store_row rfl 29 _ _ rfl w1.heap.size us rfl rfl 29 zW hz hu ho1 h11 ?_)
      rw [World.setRow_alloc_new]
      have hrow2 : (w1.alloc (.cells us 29)).heap[w1.heap.size]? = some (.cells us 29 (0, 0)) := heap_alloc_new w1 _
      have HI2 : Hid (IsW (IsQ (Pb wr.heap.size w1.heap.size) (w1.alloc (.cells us 29)) n) us x) := HI1.out.map fun _ _ h => qbel (bel1 w1 _) (h.isQ fun B h1 h2 => ⟨h1, by omega⟩)
      have HB2 : Hid (Below wr.heap.size wr (w1.alloc (.cells us 29))) := bel2 HB1.out (bel1 w1 _)
      have HSb : Hid (wr.heap.size ≤ w1.heap.size ∧ w1.heap.size < (w1.alloc (.cells us 29)).heap.size) := ⟨HB1.out.size, by simp⟩
      generalize hb : w1.heap.size = b at hrow2 HSb HI2 ⊢
      generalize w1.alloc (.cells us 29) = W2 at HI2 HB2 hrow2 HSb ⊢
      clear hz hu ho1 h11 HI1 HB1 hb
      have hi2s := info29s us HI2.out.size
      have KO : Hid (Calls Try.prog 39 #[.agg us, .string flow, .int .i64 run, .bool true] W2 fun e w' => e = .returned (.bool (ofB x flow run true)) ∧ Below W2.heap.size W2 w') := of_calls us x HI2.out flow run true W2
      have HE : Hid (hnd s flow run upto x = if isS s && ofB x flow run true then hndT s upto x else x) := by show _ = _; unfold hnd ofB; simp
      by_cases hs0 : 0 ≤ s
      · have f0 : decide (0 ≤ s) = true := by simpa using hs0
        by_cases hs1 : s ≤ 2147483648
        · have f1 : decide (s ≤ 2147483648) = true := by simpa using hs1
          have hS : isS s = true := by simp [isS, hs0, hs1]
          rw [hS] at HE
          generalize ofB x flow run true = z at KO HE
          clear hs0 hs1 hS
          go_wp2_with (refine wpList_load_rowG (by rfl) 29 _ rfl b rfl 29 us (0, 0) _ hrow2 Try.underlying29 rfl hi2s ?_)
          refine KO.out.mono ?_
          rintro e w3 ⟨rfl, hb5⟩
          have hr5 : w3.heap[b]? = some (.cells us 29 (0, 0)) := row_below hb5 hrow2
          have HI5 : Hid (IsW (IsQ (Pb wr.heap.size b) w3 n) us x) := HI2.out.map fun _ _ h => qbel hb5 h
          have HB5 : Hid (Below wr.heap.size wr w3) := bel2 HB2.out hb5
          clear hb5 KO hrow2 hi2s
          cases z with
          | true =>
            have HF : Hid (hnd s flow run upto x = hndT s upto x) := by show _ = _; rw [HE.out]; rfl
            have p18 : w3.cell? ⟨b, 18, none⟩ = some (.int .i64 x.handed) := row_cell hr5 HI5.out.c18
            have p3 : w3.cell? ⟨b, 3, none⟩ = some (.int .i64 x.upto) := row_cell hr5 HI5.out.c3
            have pf : ∀ o, w3.frozen? ⟨b, o, none⟩ = false := fun o => frozen_of_row w3 b o _ 29 hr5
            have HR5 : Hid (w3.heap[b]? = some (.cells us 29 (0, 0))) := hr5
            clear hr5
            go_upto_region 8 with fail
            have k : KB b w3 ((w3.setCell ⟨b, 18, none⟩ (.int .i64 (wrap64 (s + 1)))).setCell ⟨b, 3, none⟩ (.int .i64 upto)) := (KB.setCell b w3 18 _).trans (KB.setCell b _ 3 _)
            have hr3 : ((w3.setCell ⟨b, 18, none⟩ (.int .i64 (wrap64 (s + 1)))).setCell ⟨b, 3, none⟩ (.int .i64 upto)).heap[b]? = some (.cells ((us.setIfInBounds 18 (.int .i64 (wrap64 (s + 1)))).setIfInBounds 3 (.int .i64 upto)) 29 (0, 0)) := heap_setCell_same _ b 3 _ 29 _ (heap_setCell_same w3 b 18 _ 29 _ HR5.out)
            have HI3 : Hid (IsW (IsQ (Pb wr.heap.size b) ((w3.setCell ⟨b, 18, none⟩ (.int .i64 (wrap64 (s + 1)))).setCell ⟨b, 3, none⟩ (.int .i64 upto)) n) ((us.setIfInBounds 18 (.int .i64 (wrap64 (s + 1)))).setIfInBounds 3 (.int .i64 upto)) (hnd s flow run upto x)) := by
              rw [HF.out]
              exact hnd_isW HI5.out fun v t h => qkb k h
            have HB3 : Hid (Below wr.heap.size wr ((w3.setCell ⟨b, 18, none⟩ (.int .i64 (wrap64 (s + 1)))).setCell ⟨b, 3, none⟩ (.int .i64 upto))) := HB5.out.trans (k.below HSb.out.1 HB5.out.size)
            clear p18 p3 pf k HR5 HI5
            generalize (w3.setCell ⟨b, 18, none⟩ (.int .i64 (wrap64 (s + 1)))).setCell ⟨b, 3, none⟩ (.int .i64 upto) = w3' at hr3 HI3 HB3 ⊢
            generalize (us.setIfInBounds 18 (.int .i64 (wrap64 (s + 1)))).setIfInBounds 3 (.int .i64 upto) = cs3 at hr3 HI3
            have hu3 := info29s cs3 HI3.out.size
            obtain ⟨a2, c2, w4, hrun, hg2, hb4, _⟩ := HG.out.push HB.out.size HB3.out (b := wr.heap.size) (Nat.le_refl _) HP.out (HI3.out.map fun _ _ h => h.isN fun B hB => hB.1) (by rw [HVL.out]; have := HL.out; omega)
            rw [← map_snoc HX.out, HVL.out] at hg2
            rw [HVL.out] at hrun
            have HRun : Hid (∀ ty, _) := hrun
            have HG2 : Hid (GrW w.heap.size n w4 (.slice a2 (j + 1) c2) ((ws.take (j + 1)).map (hnd s flow run upto))) := hg2
            have HB4 : Hid (Below w.heap.size w w4) := HB.out.trans hb4
            have hsl := slice1 cs3 HI3.out.size w3'
            clear hrun hg2 hb4 HG
            go_wp2_with (first
              | refine wpList_load_row rfl 29 _ rfl b rfl 29 cs3 (0, 0) _ hr3 Try.underlying29 rfl hu3 ?_
              | refine wpList_slice_run rfl 22 _ rfl (.agg cs3) rfl _ _ hsl ?_
              | (at_builtin; refine Lib.wpList_append_run _ rfl _ _ 22 22 rfl _ _ rfl rfl _ _ (HRun.out _) ?_))
            exact ⟨⟨j + 1, hlt, by first | rw [HW.out] | exact congrArg _ (Int.natCast_succ j).symm, HG2, HB4⟩, by first | exact meas hlt HW.out | exact meas hlt (Int.natCast_succ j).symm⟩
          | false =>
            have HF : Hid (hnd s flow run upto x = x) := by show _ = _; rw [HE.out]; rfl
            have HB3 : Hid (Below wr.heap.size wr w3) := HB5.out
            have HI3 : Hid (IsW (IsQ (Pb wr.heap.size b) w3 n) us (hnd s flow run upto x)) := by rw [HF.out]; exact HI5.out
            have hr3 : w3.heap[b]? = some (.cells us 29 (0, 0)) := hr5
            have hu3 := info29s us HI3.out.size
            obtain ⟨a2, c2, w4, hrun, hg2, hb4, _⟩ := HG.out.push HB.out.size HB3.out (b := wr.heap.size) (Nat.le_refl _) HP.out (HI3.out.map fun _ _ h => h.isN fun B hB => hB.1) (by rw [HVL.out]; have := HL.out; omega)
            rw [← map_snoc HX.out, HVL.out] at hg2
            rw [HVL.out] at hrun
            have HRun : Hid (∀ ty, _) := hrun
            have HG2 : Hid (GrW w.heap.size n w4 (.slice a2 (j + 1) c2) ((ws.take (j + 1)).map (hnd s flow run upto))) := hg2
            have HB4 : Hid (Below w.heap.size w w4) := HB.out.trans hb4
            have hsl := slice1 us HI3.out.size w3
            clear hrun hg2 hb4 HG
            go_wp2_with (first
              | refine wpList_load_row rfl 29 _ rfl b rfl 29 us (0, 0) _ hr3 Try.underlying29 rfl hu3 ?_
              | refine wpList_slice_run rfl 22 _ rfl (.agg us) rfl _ _ hsl ?_
              | (at_builtin; refine Lib.wpList_append_run _ rfl _ _ 22 22 rfl _ _ rfl rfl _ _ (HRun.out _) ?_))
            exact ⟨⟨j + 1, hlt, by first | rw [HW.out] | exact congrArg _ (Int.natCast_succ j).symm, HG2, HB4⟩, by first | exact meas hlt HW.out | exact meas hlt (Int.natCast_succ j).symm⟩
        · have f1 : decide (s ≤ 2147483648) = false := by simpa using hs1
          have hS : isS s = false := by simp [isS, hs1]
          rw [hS] at HE
          clear hs0 hs1 hS KO
          have HF : Hid (hnd s flow run upto x = x) := by show _ = _; rw [HE.out]; rfl
          have HB3 : Hid (Below wr.heap.size wr W2) := HB2.out
          have HI3 : Hid (IsW (IsQ (Pb wr.heap.size b) W2 n) us (hnd s flow run upto x)) := by rw [HF.out]; exact HI2.out
          have hr3 : W2.heap[b]? = some (.cells us 29 (0, 0)) := hrow2
          have hu3 := info29s us HI3.out.size
          obtain ⟨a2, c2, w4, hrun, hg2, hb4, _⟩ := HG.out.push HB.out.size HB3.out (b := wr.heap.size) (Nat.le_refl _) HP.out (HI3.out.map fun _ _ h => h.isN fun B hB => hB.1) (by rw [HVL.out]; have := HL.out; omega)
          rw [← map_snoc HX.out, HVL.out] at hg2
          rw [HVL.out] at hrun
          have HRun : Hid (∀ ty, _) := hrun
          have HG2 : Hid (GrW w.heap.size n w4 (.slice a2 (j + 1) c2) ((ws.take (j + 1)).map (hnd s flow run upto))) := hg2
          have HB4 : Hid (Below w.heap.size w w4) := HB.out.trans hb4
          have hsl := slice1 us HI3.out.size W2
          clear hrun hg2 hb4 HG
          go_wp2_with (first
            | refine wpList_load_row rfl 29 _ rfl b rfl 29 us (0, 0) _ hr3 Try.underlying29 rfl hu3 ?_
            | refine wpList_slice_run rfl 22 _ rfl (.agg us) rfl _ _ hsl ?_
            | (at_builtin; refine Lib.wpList_append_run _ rfl _ _ 22 22 rfl _ _ rfl rfl _ _ (HRun.out _) ?_))
          exact ⟨⟨j + 1, hlt, by first | rw [HW.out] | exact congrArg _ (Int.natCast_succ j).symm, HG2, HB4⟩, by first | exact meas hlt HW.out | exact meas hlt (Int.natCast_succ j).symm⟩
      · have f0 : decide (0 ≤ s) = false := by simpa using hs0
        have hS : isS s = false := by simp [isS, hs0]
        rw [hS] at HE
        clear hs0 hS KO
        have HF : Hid (hnd s flow run upto x = x) := by show _ = _; rw [HE.out]; rfl
        have HB3 : Hid (Below wr.heap.size wr W2) := HB2.out
        have HI3 : Hid (IsW (IsQ (Pb wr.heap.size b) W2 n) us (hnd s flow run upto x)) := by rw [HF.out]; exact HI2.out
        have hr3 : W2.heap[b]? = some (.cells us 29 (0, 0)) := hrow2
        have hu3 := info29s us HI3.out.size
        obtain ⟨a2, c2, w4, hrun, hg2, hb4, _⟩ := HG.out.push HB.out.size HB3.out (b := wr.heap.size) (Nat.le_refl _) HP.out (HI3.out.map fun _ _ h => h.isN fun B hB => hB.1) (by rw [HVL.out]; have := HL.out; omega)
        rw [← map_snoc HX.out, HVL.out] at hg2
        rw [HVL.out] at hrun
        have HRun : Hid (∀ ty, _) := hrun
        have HG2 : Hid (GrW w.heap.size n w4 (.slice a2 (j + 1) c2) ((ws.take (j + 1)).map (hnd s flow run upto))) := hg2
        have HB4 : Hid (Below w.heap.size w w4) := HB.out.trans hb4
        have hsl := slice1 us HI3.out.size W2
        clear hrun hg2 hb4 HG
        go_wp2_with (first
          | refine wpList_load_row rfl 29 _ rfl b rfl 29 us (0, 0) _ hr3 Try.underlying29 rfl hu3 ?_
          | refine wpList_slice_run rfl 22 _ rfl (.agg us) rfl _ _ hsl ?_
          | (at_builtin; refine Lib.wpList_append_run _ rfl _ _ 22 22 rfl _ _ rfl rfl _ _ (HRun.out _) ?_))
        exact ⟨⟨j + 1, hlt, by first | rw [HW.out] | exact congrArg _ (Int.natCast_succ j).symm, HG2, HB4⟩, by first | exact meas hlt HW.out | exact meas hlt (Int.natCast_succ j).symm⟩
    · obtain rfl : j = N := by omega
      have ht : ws.take j = ws := List.take_of_length_le (by rw [HN.out]; exact Nat.le_refl _)
      have HG1 : Hid (GrW w.heap.size n wr (.slice va j vc) (ws.map (hnd s flow run upto))) := by have h := HG.out; rw [ht] at h; exact h
      clear ht HG
      go_wp2_with fail
      exact HQ.out _ _ HG1.out HB.out
end Go.Proofs.Ytocjgcjechhehaa
