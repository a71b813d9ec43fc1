/- The contracts of texts and of its iterator. -/
import Derived.Test.YtimiklekajelfaaSG
namespace Go.Proofs.Ytimiklekajelfaa
open Go.ChangeShapes Go.WideShapes Go.ChangeAt Go.RowKit
attribute [local go_sem] Oper.semAt_some
/-- How much a reader has left, read off its cell. -/
def leftAt (g : Nat) (w : World) : Nat := match w.cell? ⟨g, 1, none⟩ with
  | some (.slice _ n _) => n
  | _ => 0
theorem left_at {w : World} {g h : Nat} {l : List UInt8} (r : St w g h l 0) : leftAt g w = l.length := by
  rcases r with ⟨_, p, c, _, a1, _⟩ | ⟨h0, _⟩
  · unfold leftAt; rw [a1]
  · simp at h0
set_option maxRecDepth 100000 in
set_option maxHeartbeats 4000000 in
theorem texts1_in (n : Nat) (hn : 2 ≤ n) (Bx : Nat) (v : Value) (b : List UInt8) (w : World) (hBx : w.cell? ⟨Bx, 0, none⟩ = some v) (hv : Lib.HoldsBytes w v b) (hl : b.length ≤ 281474976710656) :
    SeqRd n 58 #[.pointer (some ⟨Bx, 0, none⟩)] (tx b) b.length w := by
  intro l J W hW hJ0 hJk hY
  have hbW : W.cell? ⟨Bx, 0, none⟩ = some v := (hW.cell (World.block_lt_of_cell? w _ hBx)).trans hBx
  have OC : Hid (Calls Try.prog 21 #[v] W _) := open_calls v b W (holds_below hv hW) hl
  have HJ0 : Hid (∀ gg hh W1, W.heap.size ≤ hh → hh < gg → gg < W1.heap.size → Below W.heap.size W W1 → J gg hh [] W1) := hJ0
  have HJk : Hid (∀ gg hh pre A C, W.heap.size ≤ gg → J gg hh pre A → KB gg A C → J gg hh pre C) := hJk
  have HY : Hid (∀ gg hh pre x v W1, W.heap.size ≤ hh → W.heap.size ≤ gg → J gg hh pre W1 → HL eb (fun B => W.heap.size ≤ B) W1 v x → x.length ≤ 32768 → pre.length < b.length → YieldAt Fence.wide (n - 1) Try.prog l #[v] W1 fun e W' =>
      e = .returned (.bool true) ∧ J gg hh (pre ++ [x]) W' ∧ W1.heap.size ≤ W'.heap.size ∧ W'.heap[gg]? = W1.heap[gg]? ∧ W'.heap[hh]? = W1.heap[hh]?) := hY
  obtain ⟨pv, nv, cv, rfl⟩ : ∃ a m c, v = .slice a m c := by obtain ⟨p, cap, rfl, q1, q2⟩ := hv; exact ⟨_, _, _, rfl⟩
  clear hW hJ0 hJk hY hBx hv hl
  have h1 : 1 ≤ n := by omega
  refine callsIn_of_wp Try.func58 rfl trivial ?_ rfl
  simp only [Try.ntmps58, List.size_toArray, List.length_cons, List.length_nil, Nat.reduceAdd, Nat.reduceSub, Array.replicate_succ, Array.replicate_zero, List.push_toArray, List.append_toArray, List.nil_append, List.cons_append]
  gi_wp2_with (refine ⟨trivial, ?_⟩; gi_at_call 21; refine (callsIn_wide.2 OC.out).mono ?_; rintro e w1 ⟨g, h, rfl, hh1, hh2, hg1, s1, b1⟩)
  have HG : Hid (W.heap.size ≤ h ∧ h < g) := ⟨hh1, hh2⟩
  have S1 : Hid (St w1 g h b 0) := s1
  have J1 : Hid (J g h [] w1) := HJ0.out g h w1 hh1 hh2 hg1 b1
  have Z1 : Hid (g < w1.heap.size) := hg1
  clear s1 b1 hg1 hh1 hh2 OC hbW
  gi_loopw [4] (fun _ wr => ∃ (pre : List (List UInt8)) (rest : List UInt8), Hid (St wr g h rest 0) ∧ Hid (J g h pre wr) ∧ Hid (tx b = pre ++ tx rest) ∧ Hid (pre.length + rest.length ≤ b.length) ∧ Hid (g < wr.heap.size)) (fun _ wr => leftAt g wr)
  case atStart => exact ⟨[], b, S1, J1, rfl, (by show _ ≤ _; simp), Z1⟩
  case round =>
    obtain ⟨pre, rest, HS, HJ, HT, HLn, HZ⟩ := hrel
    have LC : Hid (Calls Try.prog 46 #[.pointer (some ⟨g, 0, none⟩)] wr _) := left_st wr g h rest 0 HS.out
    have HM : Hid (leftAt g wr = rest.length) := left_at HS.out
    by_cases hr : rest = []
    · subst hr
      gi_wp2_with (refine ⟨trivial, ?_⟩; gi_at_call 46; refine (callsIn_wide.2 LC.out).mono ?_; rintro e w2 ⟨rfl, rfl⟩)
      go_end0
      refine ⟨⟨_, rfl⟩, g, h, ?_⟩
      have := HT.out
      rw [tx_nil, List.append_nil] at this
      rw [this]
      exact HJ.out
    · have hpos : 0 < rest.length := List.length_pos_iff.2 hr
      have T0 := text_st wr g h rest 0 32768 HS.out
      have TL := sText_le 32768 (by decide) rest 0
      have HT1 : Hid ((sText 32768 rest 0).2.2 = 0 → tx b = (pre ++ [(sText 32768 rest 0).1]) ++ tx (sText 32768 rest 0).2.1 ∧ (sText 32768 rest 0).2.1.length < rest.length) := fun h0 => ⟨by rw [HT.out, tx_more hr h0]; simp, sText_lt hr h0⟩
      have HT2 : Hid ((sText 32768 rest 0).2.2 ≠ 0 → tx b = pre) := fun h0 => by rw [HT.out, tx_end hr h0, List.append_nil]
      generalize (sText 32768 rest 0).1 = Y at T0 TL HT1
      generalize (sText 32768 rest 0).2.1 = l2 at T0 HT1
      generalize (sText 32768 rest 0).2.2 = e2 at T0 HT1 HT2
      have TS : Hid (Calls Try.prog 44 #[.pointer (some ⟨g, 0, none⟩), .int .i64 32768] wr (Rs wr g h (.string (str Y)) l2 e2)) := T0
      have HTL : Hid ((Y.length : Int) ≤ 32768) := TL
      obtain ⟨L, hL⟩ : ∃ L, L = rest.length := ⟨_, rfl⟩
      rw [← hL] at LC hpos
      have hgt : decide ((0 : Int) < (L : Int)) = true := decide_eq_true (by omega)
      have hgt2 : (0 : Int) < (L : Int) := by omega
      have HLr : Hid (L = rest.length) := hL
      clear T0 TL hr hL hpos
      gi_wp2_with (refine ⟨trivial, ?_⟩; gi_at_call 46; refine (callsIn_wide.2 LC.out).mono ?_; rintro e w2 ⟨rfl, rfl⟩)
      gi_wp2_with (refine ⟨trivial, ?_⟩; gi_at_call 44; refine (callsIn_wide.2 TS.out).mono ?_; rintro e w3 ⟨rfl, s3, k3⟩)
      obtain ⟨cap, w4, hcv, hl4, hb4⟩ := conv_hl Y w3 (by have := HTL.out; omega)
      have hz3 := k3.2.2.2.1
      have S4 : Hid (St w4 g h l2 e2) := s3.keep hb4.size (hb4.block g s3.lt) (hb4.block h (by have := HG.out; have := HZ.out; omega))
      have J4 : Hid (J g h pre w4) := HJk.out g h pre _ _ (by have := HG.out; omega) HJ.out (kb_below k3 (hb4.mono hz3))
      have HV4 : Hid (HL eb (fun B => W.heap.size ≤ B) w4 (.slice (some ⟨w3.heap.size, 0, none⟩) Y.length cap) Y) := hl4.all fun B hB _ => by have hB' : B = w3.heap.size := hB; have := HG.out; have := HZ.out; omega
      have Z4 : Hid (g < w4.heap.size) := by show _ < _; have := HZ.out; have := hb4.size; omega
      have EC : Hid (Calls Try.prog 45 #[.pointer (some ⟨g, 0, none⟩)] w4 _) := err_st S4.out
      clear s3 k3 hl4 hb4 hz3 TS LC
      simp only [hcv, Result.andThen]
      by_cases he : e2 = 0
      · have d0 : (e2 != 0) = false := by simp [he]
        obtain ⟨q1, q2⟩ := HT1.out he
        have HQ1 : Hid (tx b = (pre ++ [Y]) ++ tx l2) := q1
        have HQ2 : Hid (l2.length < L) := by show _ < _; have := HLr.out; omega
        have HP : pre.length < b.length := by have := HLn.out; have := HLr.out; omega
        obtain ⟨fn, tmps, assign, body, hy, hRo⟩ := HY.out g h pre Y _ w4 HG.out.1 (by have := HG.out; omega) J4.out HV4.out (by have := HTL.out; omega) HP
        have HRo : Hid (RoundIn _ _ _ _ _ _ _ _ _ _) := hRo
        have HE : Hid (e2 = 0) := he
        clear hRo q1 q2 he
        gi_wp2_with (refine ⟨trivial, ?_⟩; gi_at_call 45; refine (callsIn_wide.2 EC.out).mono ?_; rintro e w5 ⟨rfl, rfl⟩)
        refine HRo.out.mono ?_
        rintro e W3 ⟨rfl, hJ3, hz, hg3, hh3⟩
        have S3 : Hid (St W3 g h l2 0) := by have := S4.out.keep hz hg3 hh3; rwa [HE.out] at this
        have J3 : Hid (J g h (pre ++ [Y]) W3) := hJ3
        have Z3 : Hid (g < W3.heap.size) := Nat.lt_of_lt_of_le Z4.out hz
        clear hJ3 hz hg3 hh3 hy HRo
        gi_wp2
        go_roundw
        case rel => exact ⟨pre ++ [Y], l2, S3, J3, HQ1, (by show _ ≤ _; have := HLn.out; have := HQ2.out; have := HLr.out; rw [List.length_append]; simp; omega), Z3⟩
        case measure => rw [HM.out, left_at S3.out]; have := HQ2.out; have := HLr.out; omega
      · have d0 : (e2 != 0) = true := by simpa using he
        have HQ : Hid (tx b = pre) := HT2.out he
        clear he
        gi_wp2_with (refine ⟨trivial, ?_⟩; gi_at_call 45; refine (callsIn_wide.2 EC.out).mono ?_; rintro e w5 ⟨rfl, rfl⟩)
        refine ⟨fun _ h => (by cases h), ?_⟩
        gi_wp2
        refine bodyPost_ret (results_none rfl _ _ _) rfl ?_
        refine ⟨⟨_, rfl⟩, g, h, ?_⟩
        rw [HQ.out]
        exact J4.out
theorem texts_calls (v : Value) (w : World) (hv : ∃ a m c, v = .slice a m c) :
    Calls Try.prog 35 #[v] w fun e w' => e = .returned (.func (.func 58) #[] #[.pointer (some ⟨w.heap.size, 0, none⟩)]) ∧ w' = w.alloc (.cells #[v] 23) := by
  obtain ⟨a, m, c, rfl⟩ := hv
  go_enter Try.func35, Try.ntmps35
  go_wp2_with fail
  go_ret
  exact ⟨rfl, rfl⟩
end Go.Proofs.Ytimiklekajelfaa
