/- The reference's Updates and Queries. -/
import Derived.Test.YtocjgcjechhehaaLF
namespace Go.Proofs.Ytocjgcjechhehaa
open Go.ChangeAt Go.ChangeShapes Go.Deep Go.RowKit Go.WideShapes
set_option maxHeartbeats 8000000 in
set_option maxRecDepth 100000 in
theorem rupdates_calls (n : Nat) (a : Option Addr) (c N : Nat) (ws : List Wt) (hN : ws.length = N) (hl : N ≤ 900) (flow : ByteArray) (run : Int) (w : World) (hR : LsW w n a ws) (hs : ∀ x ∈ ws, SmX n x) :
    Calls Try.prog 15 #[.slice a N c, .string flow, .int .i64 run] w (RetA n w (ws.foldl (updF flow run) [])) := by
  have HR : Hid (LsW w n a ws) := hR
  have HS : Hid (∀ x ∈ ws, SmX n x) := hs
  have HN : Hid (ws.length = N) := hN
  have HL : Hid (N ≤ 900) := hl
  have HQ : Hid (∀ v W', GrA w.heap.size n W' v (ws.foldl (updF flow run) []) → Below w.heap.size w W' → RetA n w (ws.foldl (updF flow run) []) (.returned v) W') := fun v W' h hb => h.ret hb
  generalize RetA n w (ws.foldl (updF flow run) []) = Q at HQ ⊢
  clear hR hs hN hl
  go_enter Try.func15, Try.ntmps15
  go_wp2_with fail
  go_loopw [7, 8] (fun v i wr => ∃ j : Nat, j ≤ N ∧ i = .int .i64 (j : Int) ∧ Hid (GrA w.heap.size n wr v ((ws.take j).foldl (updF flow run) [])) ∧ Hid (Below w.heap.size w wr)) (fun _ i _ => N - (intOf i).toNat)
  case atStart => exact ⟨0, Nat.zero_le _, rfl, GrA.nil _ _ _, Below.refl _ _⟩
  case round =>
    obtain ⟨j, hj, rfl, HG, HB⟩ := hrel
    obtain ⟨va, vc, hva, _, _⟩ := HG.out.shape
    have hlen := fold_len (updF_len flow run) (ws.take j) []
    have HLn : Hid (((ws.take j).foldl (updF flow run) []).length ≤ 900) := by
      show _ ≤ _
      have := HL.out
      simp only [List.length_nil, List.length_take] at hlen
      omega
    have HSN : Hid (∀ x, ws[j]? = some x → (ws.take (j + 1)).foldl (updF flow run) [] = updF flow run ((ws.take j).foldl (updF flow run) []) x) := fun x hx => fold_snoc hx
    clear hlen
    by_cases hlt : j < N
    · generalize hacc : (ws.take j).foldl (updF flow run) [] = acc at HG hva HLn HSN
      generalize hvl : acc.length = vl at hva
      have HVL : Hid (acc.length = vl) := hvl
      subst hva
      clear hvl hacc
      obtain ⟨x, hx⟩ : ∃ x, ws[j]? = some x := ⟨_, List.getElem?_eq_getElem (by rw [HN.out]; exact hlt)⟩
      obtain ⟨B, o, cs, rfl, hli, hi⟩ := (HR.out.below HB.out) j x hx
      have HX : Hid (ws[j]? = some x) := hx
      have HNX : Hid (∀ (v : Value) (W : World), GrA w.heap.size n W v (updF flow run acc x) → Hid (GrA w.heap.size n W v ((ws.take (j + 1)).foldl (updF flow run) []))) := fun v W h => by rw [HSN.out x hx]; exact h
      have HSX : Hid (SmX n x) := HS.out x (List.mem_of_getElem? hx)
      have hrng := lies_range hli
      have hi29 : (Try.prog.info? 29).map (·.size) = some cs.toList.length := by rw [Array.length_toList]; exact info29s cs hi.size
      have hjl : (j : Int) < (N : Int) := by omega
      have HW : Hid (wrap64 ((j : Int) + 1) = ((j + 1 : Nat) : Int)) := wr1 hlt (by have := HL.out; omega)
      have HP : Hid (0 < wr.heap.size) := by have := cell_lt (hli 0 _ hi.c0); show _ < _; omega
      have HI : Hid (IsW (Is wr n) cs x) := hi
      clear hx hi hli HSN
      have KC : Hid (Calls Try.prog 34 #[.agg cs] wr (ClW n wr x)) := rclone_calls n cs x wr HI.out HSX.out
      go_wp2_with (refine wpList_load_mid rfl 29 _ rfl B (o + j * 19) rfl cs.toList _ hrng Try.underlying29 rfl hi29 ?_)
      refine KC.out.mono ?_
      rintro e w1 ⟨⟨us, rfl, hi1⟩, hb1⟩
      have hz : (w1.alloc (.cells zW 29)).heap[w1.heap.size]? = some (.cells zW 29 (0, 0)) := heap_alloc_new w1 _
      have hu := info29s us hi1.size
      have ho1 : zW.size = us.size := hi1.size.symm
      have h11 := all_one hi1.one
      have HB1 : Hid (Below wr.heap.size wr w1) := hb1
      have HI1 : Hid (IsW (IsN wr.heap.size w1 n) us x) := hi1
      clear hi1 hb1 KC hi29 hrng HI
      go_upto_region 6 with (refine wpList_store_row rfl 29 _ _ rfl w1.heap.size us rfl rfl 29 zW hz hu ho1 h11 ?_)
      rw [World.setRow_alloc_new]
      have hrow2 : (w1.alloc (.cells us 29)).heap[w1.heap.size]? = some (.cells us 29 (0, 0)) := heap_alloc_new w1 _
      have HI2 : Hid (IsW (IsQ (Pb wr.heap.size w1.heap.size) (w1.alloc (.cells us 29)) n) us x) := HI1.out.map fun _ _ h => qbel (bel1 w1 _) (h.isQ fun B h1 h2 => ⟨h1, by omega⟩)
      have HB2 : Hid (Below wr.heap.size wr (w1.alloc (.cells us 29))) := bel2 HB1.out (bel1 w1 _)
      generalize hb : w1.heap.size = b at hrow2 HI2 ⊢
      generalize w1.alloc (.cells us 29) = W2 at HI2 HB2 hrow2 ⊢
      clear hz ho1 h11 HI1 HB1 hb
      obtain ⟨k1, y1, z1, t1, a1, m1, c1, g0, g1, g2, g3, g4, I1⟩ := HI2.out.asked
      have HV : Hid (us[6]? = some (.int .i64 k1) ∧ us[6 + 1]? = some (.int .i64 y1) ∧ us[6 + 2]? = some (.int .u64 z1) ∧ us[6 + 3]? = some (.string t1) ∧ us[6 + 4]? = some (.slice a1 m1 c1)) := ⟨g0, g1, g2, g3, g4⟩
      have HIV : Hid (IsQ (Pb wr.heap.size b) W2 n (.agg #[.int .i64 k1, .int .i64 y1, .int .u64 z1, .string t1, .slice a1 m1 c1]) x.asked) := I1
      clear g0 g1 g2 g3 g4 I1
      have KO : Hid (Calls Try.prog 39 #[.agg us, .string flow, .int .i64 run, .bool false] W2 fun e w' => e = .returned (.bool (ofB x flow run false)) ∧ Below W2.heap.size W2 w') := of_calls us x HI2.out flow run false W2
      generalize hzz : ofB x flow run false = z at KO
      have HOF : Hid (ofB x flow run false = z) := hzz
      clear hzz
      go_wp2_with (refine wpList_load_row rfl 29 _ rfl b rfl 29 us (0, 0) _ hrow2 Try.underlying29 rfl hu ?_)
      refine KO.out.mono ?_
      rintro e w3 ⟨rfl, hb3⟩
      have HB3 : Hid (Below wr.heap.size wr w3) := bel2 HB2.out hb3
      have hrow3 : w3.heap[b]? = some (.cells us 29 (0, 0)) := row_below hb3 hrow2
      have HV3 : Hid (IsQ (Pb wr.heap.size b) w3 n (.agg #[.int .i64 k1, .int .i64 y1, .int .u64 z1, .string t1, .slice a1 m1 c1]) x.asked) := qbel hb3 HIV.out
      have HO3 : Hid (us[0]? = some (.int .i64 x.op) ∧ us[5]? = some (.string x.name)) := ⟨HI2.out.c0, HI2.out.c5⟩
      clear hb3 KO hrow2 HIV HI2 HB2 hu
      cases z with
      | false =>
        have HFx : Hid (updF flow run acc x = acc) := by show _ = _; unfold updF; rw [HOF.out]; rfl
        have HBs : Hid (Below w.heap.size w w3) := bel2 HB.out HB3.out
        have HGs : Hid (GrA w.heap.size n w3 (.slice va vl vc) (updF flow run acc x)) := by rw [HFx.out]; exact HG.out.below HB3.out
        go_wp2_with fail
        exact ⟨⟨j + 1, hlt, by first | rw [HW.out] | exact congrArg _ (Int.natCast_succ j).symm, HNX.out _ _ HGs.out, HBs⟩, by first | exact meas hlt HW.out | exact meas hlt (Int.natCast_succ j).symm⟩
      | true =>
        have KC : Hid (Calls Try.prog 40 #[.slice va vl vc, .string x.name] w3 fun e w' => e = .returned (.bool (acc.any fun d => decide (d.s = x.name))) ∧ Below w3.heap.size w3 w') := named_calls n acc va vl vc HVL.out (by have := HLn.out; have := HVL.out; omega) x.name w3 ((HG.out.below HB3.out).lsv HVL.out)
        generalize hyy : (acc.any fun d => decide (d.s = x.name)) = y at KC
        have HYY : Hid ((acc.any fun d => decide (d.s = x.name)) = y) := hyy
        have f5 : w3.cell? ⟨b, 5, none⟩ = some (.string x.name) := row_cell hrow3 HO3.out.2
        clear hyy
        go_wp2_with fail
        refine KC.out.mono ?_
        rintro e w5 ⟨rfl, hb5⟩
        have HB5 : Hid (Below wr.heap.size wr w5) := bel2 HB3.out hb5
        have hrow5 : w5.heap[b]? = some (.cells us 29 (0, 0)) := row_below hb5 hrow3
        have HV5 : Hid (IsQ (Pb wr.heap.size b) w5 n (.agg #[.int .i64 k1, .int .i64 y1, .int .u64 z1, .string t1, .slice a1 m1 c1]) x.asked) := qbel hb5 HV3.out
        clear hb5 KC hrow3 f5 HV3
        cases y with
        | true =>
          have HFx : Hid (updF flow run acc x = acc) := by show _ = _; unfold updF; rw [HOF.out, HYY.out]; rfl
          have HBs : Hid (Below w.heap.size w w5) := bel2 HB.out HB5.out
          have HGs : Hid (GrA w.heap.size n w5 (.slice va vl vc) (updF flow run acc x)) := by rw [HFx.out]; exact HG.out.below HB5.out
          go_wp2_with fail
          exact ⟨⟨j + 1, hlt, by first | rw [HW.out] | exact congrArg _ (Int.natCast_succ j).symm, HNX.out _ _ HGs.out, HBs⟩, by first | exact meas hlt HW.out | exact meas hlt (Int.natCast_succ j).symm⟩
        | false =>
          have e0 : w5.cell? ⟨b, 0, none⟩ = some (.int .i64 x.op) := row_cell hrow5 HO3.out.1
          have e5 : w5.cell? ⟨b, 5, none⟩ = some (.string x.name) := row_cell hrow5 HO3.out.2
          have hr27 : w5.rangeAt b 6 [.int .i64 k1, .int .i64 y1, .int .u64 z1, .string t1, .slice a1 m1 c1] := fun i v hv => by
            match i, hv with
            | 0, hv => cases hv; exact row_cell hrow5 HV.out.1
            | 1, hv => cases hv; exact row_cell hrow5 HV.out.2.1
            | 2, hv => cases hv; exact row_cell hrow5 HV.out.2.2.1
            | 3, hv => cases hv; exact row_cell hrow5 HV.out.2.2.2.1
            | 4, hv => cases hv; exact row_cell hrow5 HV.out.2.2.2.2
            | i + 5, hv => simp at hv
          have HIA : Hid (IsA (IsN wr.heap.size w5 n) #[.int .i64 x.op, .string x.name, .int .i64 k1, .int .i64 y1, .int .u64 z1, .string t1, .slice a1 m1 c1] (akOf x)) := ⟨rfl, rfl, rfl, ⟨k1, y1, z1, t1, a1, m1, c1, rfl, rfl, rfl, rfl, rfl, HV5.out.isN fun B hB => hB.1⟩⟩
          have HFx : Hid (updF flow run acc x = acc ++ [akOf x]) := by show _ = _; unfold updF; rw [HOF.out, HYY.out]; rfl
          obtain ⟨a9, c9, w9, hrun, hg9, hb9, _⟩ := HG.out.push HB.out.size HB5.out (b := wr.heap.size) (Nat.le_refl _) HP.out HIA.out (by have := HLn.out; omega)
          rw [← HFx.out, HVL.out] at hg9
          rw [HVL.out] at hrun
          have HRun : Hid (∀ ty, _) := hrun
          have HG9 : Hid (GrA w.heap.size n w9 (.slice a9 (vl + 1) c9) (updF flow run acc x)) := hg9
          have HB9 : Hid (Below w.heap.size w w9) := HB.out.trans hb9
          clear hrun hg9 hb9 HG
          go_wp2_with (first | refine wpList_load_mid rfl 27 _ rfl b 6 rfl [.int .i64 k1, .int .i64 y1, .int .u64 z1, .string t1, .slice a1 m1 c1] _ hr27 Try.underlying27 rfl (by kernel_rfl) ?_ | (at_builtin; refine Lib.wpList_append_run _ rfl _ _ 31 31 rfl _ _ rfl rfl _ _ (HRun.out _) ?_))
          exact ⟨⟨j + 1, hlt, by first | rw [HW.out] | exact congrArg _ (Int.natCast_succ j).symm, HNX.out _ _ HG9.out, HB9⟩, by first | exact meas hlt HW.out | exact meas hlt (Int.natCast_succ j).symm⟩
    · obtain rfl : j = N := by omega
      have ht : ws.take j = ws := List.take_of_length_le (by rw [HN.out]; exact Nat.le_refl _)
      generalize hvl : ((ws.take j).foldl (updF flow run) []).length = vl at hva
      subst hva
      have HG1 : Hid (GrA w.heap.size n wr (.slice va vl vc) (ws.foldl (updF flow run) [])) := by have h := HG.out; rw [ht] at h; exact h
      clear ht HG hvl HLn HSN
      go_wp2_with fail
      exact HQ.out _ _ HG1.out HB.out
set_option maxHeartbeats 8000000 in
set_option maxRecDepth 100000 in
theorem rqueries_calls (n : Nat) (a : Option Addr) (c N : Nat) (ws : List Wt) (hN : ws.length = N) (hl : N ≤ 900) (flow : ByteArray) (run : Int) (w : World) (hR : LsW w n a ws) (hs : ∀ x ∈ ws, SmX n x) :
    Calls Try.prog 17 #[.slice a N c, .string flow, .int .i64 run] w (RetA n w (ws.foldl (qryF flow run) [])) := by
  have HR : Hid (LsW w n a ws) := hR
  have HS : Hid (∀ x ∈ ws, SmX n x) := hs
  have HN : Hid (ws.length = N) := hN
  have HL : Hid (N ≤ 900) := hl
  have HQ : Hid (∀ v W', GrA w.heap.size n W' v (ws.foldl (qryF flow run) []) → Below w.heap.size w W' → RetA n w (ws.foldl (qryF flow run) []) (.returned v) W') := fun v W' h hb => h.ret hb
  generalize RetA n w (ws.foldl (qryF flow run) []) = Q at HQ ⊢
  clear hR hs hN hl
  go_enter Try.func17, Try.ntmps17
  go_wp2_with fail
  go_loopw [7, 8] (fun v i wr => ∃ j : Nat, j ≤ N ∧ i = .int .i64 (j : Int) ∧ Hid (GrA w.heap.size n wr v ((ws.take j).foldl (qryF flow run) [])) ∧ Hid (Below w.heap.size w wr)) (fun _ i _ => N - (intOf i).toNat)
  case atStart => exact ⟨0, Nat.zero_le _, rfl, GrA.nil _ _ _, Below.refl _ _⟩
  case round =>
    obtain ⟨j, hj, rfl, HG, HB⟩ := hrel
    obtain ⟨va, vc, hva, _, _⟩ := HG.out.shape
    have hlen := fold_len (qryF_len flow run) (ws.take j) []
    have HLn : Hid (((ws.take j).foldl (qryF flow run) []).length ≤ 900) := by
      show _ ≤ _
      have := HL.out
      simp only [List.length_nil, List.length_take] at hlen
      omega
    have HSN : Hid (∀ x, ws[j]? = some x → (ws.take (j + 1)).foldl (qryF flow run) [] = qryF flow run ((ws.take j).foldl (qryF flow run) []) x) := fun x hx => fold_snoc hx
    clear hlen
    by_cases hlt : j < N
    · generalize hacc : (ws.take j).foldl (qryF flow run) [] = acc at HG hva HLn HSN
      generalize hvl : acc.length = vl at hva
      have HVL : Hid (acc.length = vl) := hvl
      subst hva
      clear hvl hacc
      obtain ⟨x, hx⟩ : ∃ x, ws[j]? = some x := ⟨_, List.getElem?_eq_getElem (by rw [HN.out]; exact hlt)⟩
      obtain ⟨B, o, cs, rfl, hli, hi⟩ := (HR.out.below HB.out) j x hx
      have HX : Hid (ws[j]? = some x) := hx
      have HNX : Hid (∀ (v : Value) (W : World), GrA w.heap.size n W v (qryF flow run acc x) → Hid (GrA w.heap.size n W v ((ws.take (j + 1)).foldl (qryF flow run) []))) := fun v W h => by rw [HSN.out x hx]; exact h
      have HSX : Hid (SmX n x) := HS.out x (List.mem_of_getElem? hx)
      have hrng := lies_range hli
      have hi29 : (Try.prog.info? 29).map (·.size) = some cs.toList.length := by rw [Array.length_toList]; exact info29s cs hi.size
      have hjl : (j : Int) < (N : Int) := by omega
      have HW : Hid (wrap64 ((j : Int) + 1) = ((j + 1 : Nat) : Int)) := wr1 hlt (by have := HL.out; omega)
      have HP : Hid (0 < wr.heap.size) := by have := cell_lt (hli 0 _ hi.c0); show _ < _; omega
      have HI : Hid (IsW (Is wr n) cs x) := hi
      clear hx hi hli HSN
      have KC : Hid (Calls Try.prog 34 #[.agg cs] wr (ClW n wr x)) := rclone_calls n cs x wr HI.out HSX.out
      go_wp2_with (refine wpList_load_mid rfl 29 _ rfl B (o + j * 19) rfl cs.toList _ hrng Try.underlying29 rfl hi29 ?_)
      refine KC.out.mono ?_
      rintro e w1 ⟨⟨us, rfl, hi1⟩, hb1⟩
      have hz : (w1.alloc (.cells zW 29)).heap[w1.heap.size]? = some (.cells zW 29 (0, 0)) := heap_alloc_new w1 _
      have hu := info29s us hi1.size
      have ho1 : zW.size = us.size := hi1.size.symm
      have h11 := all_one hi1.one
      have HB1 : Hid (Below wr.heap.size wr w1) := hb1
      have HI1 : Hid (IsW (IsN wr.heap.size w1 n) us x) := hi1
      clear hi1 hb1 KC hi29 hrng HI
      go_upto_region 6 with (refine wpList_store_row rfl 29 _ _ rfl w1.heap.size us rfl rfl 29 zW hz hu ho1 h11 ?_)
      rw [World.setRow_alloc_new]
      have hrow2 : (w1.alloc (.cells us 29)).heap[w1.heap.size]? = some (.cells us 29 (0, 0)) := heap_alloc_new w1 _
      have HI2 : Hid (IsW (IsQ (Pb wr.heap.size w1.heap.size) (w1.alloc (.cells us 29)) n) us x) := HI1.out.map fun _ _ h => qbel (bel1 w1 _) (h.isQ fun B h1 h2 => ⟨h1, by omega⟩)
      have HB2 : Hid (Below wr.heap.size wr (w1.alloc (.cells us 29))) := bel2 HB1.out (bel1 w1 _)
      generalize hb : w1.heap.size = b at hrow2 HI2 ⊢
      generalize w1.alloc (.cells us 29) = W2 at HI2 HB2 hrow2 ⊢
      clear hz ho1 h11 HI1 HB1 hb
      obtain ⟨k1, y1, z1, t1, a1, m1, c1, g0, g1, g2, g3, g4, I1⟩ := HI2.out.asked
      have HV : Hid (us[6]? = some (.int .i64 k1) ∧ us[6 + 1]? = some (.int .i64 y1) ∧ us[6 + 2]? = some (.int .u64 z1) ∧ us[6 + 3]? = some (.string t1) ∧ us[6 + 4]? = some (.slice a1 m1 c1)) := ⟨g0, g1, g2, g3, g4⟩
      have HIV : Hid (IsQ (Pb wr.heap.size b) W2 n (.agg #[.int .i64 k1, .int .i64 y1, .int .u64 z1, .string t1, .slice a1 m1 c1]) x.asked) := I1
      clear g0 g1 g2 g3 g4 I1
      have KO : Hid (Calls Try.prog 39 #[.agg us, .string flow, .int .i64 run, .bool true] W2 fun e w' => e = .returned (.bool (ofB x flow run true)) ∧ Below W2.heap.size W2 w') := of_calls us x HI2.out flow run true W2
      generalize hzz : ofB x flow run true = z at KO
      have HOF : Hid (ofB x flow run true = z) := hzz
      clear hzz
      go_wp2_with (refine wpList_load_row rfl 29 _ rfl b rfl 29 us (0, 0) _ hrow2 Try.underlying29 rfl hu ?_)
      refine KO.out.mono ?_
      rintro e w3 ⟨rfl, hb3⟩
      have HB3 : Hid (Below wr.heap.size wr w3) := bel2 HB2.out hb3
      have hrow3 : w3.heap[b]? = some (.cells us 29 (0, 0)) := row_below hb3 hrow2
      have HV3 : Hid (IsQ (Pb wr.heap.size b) w3 n (.agg #[.int .i64 k1, .int .i64 y1, .int .u64 z1, .string t1, .slice a1 m1 c1]) x.asked) := qbel hb3 HIV.out
      have HO3 : Hid (us[0]? = some (.int .i64 x.op) ∧ us[5]? = some (.string x.name)) := ⟨HI2.out.c0, HI2.out.c5⟩
      clear hb3 KO hrow2 HIV HI2 HB2 hu
      cases z with
      | false =>
        have HFx : Hid (qryF flow run acc x = acc) := by show _ = _; unfold qryF; rw [HOF.out]; rfl
        have HBs : Hid (Below w.heap.size w w3) := bel2 HB.out HB3.out
        have HGs : Hid (GrA w.heap.size n w3 (.slice va vl vc) (qryF flow run acc x)) := by rw [HFx.out]; exact HG.out.below HB3.out
        go_wp2_with fail
        exact ⟨⟨j + 1, hlt, by first | rw [HW.out] | exact congrArg _ (Int.natCast_succ j).symm, HNX.out _ _ HGs.out, HBs⟩, by first | exact meas hlt HW.out | exact meas hlt (Int.natCast_succ j).symm⟩
      | true =>
        have e0 : w3.cell? ⟨b, 0, none⟩ = some (.int .i64 x.op) := row_cell hrow3 HO3.out.1
        have e5 : w3.cell? ⟨b, 5, none⟩ = some (.string x.name) := row_cell hrow3 HO3.out.2
        have hr27 : w3.rangeAt b 6 [.int .i64 k1, .int .i64 y1, .int .u64 z1, .string t1, .slice a1 m1 c1] := fun i v hv => by
          match i, hv with
          | 0, hv => cases hv; exact row_cell hrow3 HV.out.1
          | 1, hv => cases hv; exact row_cell hrow3 HV.out.2.1
          | 2, hv => cases hv; exact row_cell hrow3 HV.out.2.2.1
          | 3, hv => cases hv; exact row_cell hrow3 HV.out.2.2.2.1
          | 4, hv => cases hv; exact row_cell hrow3 HV.out.2.2.2.2
          | i + 5, hv => simp at hv
        have HIA : Hid (IsA (IsN wr.heap.size w3 n) #[.int .i64 x.op, .string x.name, .int .i64 k1, .int .i64 y1, .int .u64 z1, .string t1, .slice a1 m1 c1] (akOf x)) := ⟨rfl, rfl, rfl, ⟨k1, y1, z1, t1, a1, m1, c1, rfl, rfl, rfl, rfl, rfl, HV3.out.isN fun B hB => hB.1⟩⟩
        have HFx : Hid (qryF flow run acc x = acc ++ [akOf x]) := by show _ = _; unfold qryF; rw [HOF.out]; rfl
        obtain ⟨a9, c9, w9, hrun, hg9, hb9, _⟩ := HG.out.push HB.out.size HB3.out (b := wr.heap.size) (Nat.le_refl _) HP.out HIA.out (by have := HLn.out; omega)
        rw [← HFx.out, HVL.out] at hg9
        rw [HVL.out] at hrun
        have HRun : Hid (∀ ty, _) := hrun
        have HG9 : Hid (GrA w.heap.size n w9 (.slice a9 (vl + 1) c9) (qryF flow run acc x)) := hg9
        have HB9 : Hid (Below w.heap.size w w9) := HB.out.trans hb9
        clear hrun hg9 hb9 HG
        go_wp2_with (first | refine wpList_load_mid rfl 27 _ rfl b 6 rfl [.int .i64 k1, .int .i64 y1, .int .u64 z1, .string t1, .slice a1 m1 c1] _ hr27 Try.underlying27 rfl (by kernel_rfl) ?_ | (at_builtin; refine Lib.wpList_append_run _ rfl _ _ 31 31 rfl _ _ rfl rfl _ _ (HRun.out _) ?_))
        exact ⟨⟨j + 1, hlt, by first | rw [HW.out] | exact congrArg _ (Int.natCast_succ j).symm, HNX.out _ _ HG9.out, HB9⟩, by first | exact meas hlt HW.out | exact meas hlt (Int.natCast_succ j).symm⟩
    · obtain rfl : j = N := by omega
      have ht : ws.take j = ws := List.take_of_length_le (by rw [HN.out]; exact Nat.le_refl _)
      generalize hvl : ((ws.take j).foldl (qryF flow run) []).length = vl at hva
      subst hva
      have HG1 : Hid (GrA w.heap.size n wr (.slice va vl vc) (ws.foldl (qryF flow run) [])) := by have h := HG.out; rw [ht] at h; exact h
      clear ht HG hvl HLn HSN
      go_wp2_with fail
      exact HQ.out _ _ HG1.out HB.out
end Go.Proofs.Ytocjgcjechhehaa
