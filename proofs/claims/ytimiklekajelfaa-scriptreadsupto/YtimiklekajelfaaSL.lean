/- The contracts of the reference's Same and of awake. -/
import Derived.Test.YtimiklekajelfaaSK
import Derived.Test.YtimiklekajelfaaSJ
import Derived.Test.YtimiklekajelfaaSI
namespace Go.Proofs.Ytimiklekajelfaa
open Go.ChangeShapes Go.WideShapes Go.ChangeAt Go.RowKit
set_option maxHeartbeats 2000000 in
set_option maxRecDepth 100000 in
theorem rsame_calls (P P2 : Nat → Prop) (x y : Sp) (vb vk vb' vk' : Value) (w : World) (h : IsV P w vb vk x) (h2 : IsV P2 w vb' vk' y) :
    Calls Try.prog 17 #[.agg (rowS vb vk x), .agg (rowS vb' vk' y)] w fun e w' => e = .returned (.bool (sameB x y)) ∧ Below w.heap.size w w' := by
  obtain ⟨pb, cb, rfl, _⟩ := h.1.shape
  obtain ⟨pk, ck, rfl, hk1, hk2⟩ := h.2.shape
  obtain ⟨pb', cb', rfl, _⟩ := h2.1.shape
  obtain ⟨pk', ck', rfl, _⟩ := h2.2.shape
  obtain ⟨k, s, n, b, ks⟩ := x
  obtain ⟨k', s', n', b', ks'⟩ := y
  unfold rowS sameB
  dsimp only at hk1 hk2 ⊢
  have e1 : Hid (At5 ((w.alloc (.cells #[.int .i64 k, .int .i64 s, .int .i64 n, .slice pb b.length cb, .slice pk ks.length ck] 28)).alloc (.cells #[.int .i64 k', .int .i64 s', .int .i64 n', .slice pb' b'.length cb', .slice pk' ks'.length ck'] 28)) w.heap.size 0 (.int .i64 k) (.int .i64 s) (.int .i64 n) (.slice pb b.length cb) (.slice pk ks.length ck)) := (box_at w _ _ _ _ _).below (bel1 _ _)
  have e2 : Hid (At5 ((w.alloc (.cells #[.int .i64 k, .int .i64 s, .int .i64 n, .slice pb b.length cb, .slice pk ks.length ck] 28)).alloc (.cells #[.int .i64 k', .int .i64 s', .int .i64 n', .slice pb' b'.length cb', .slice pk' ks'.length ck'] 28)) (w.heap.size + 1) 0 (.int .i64 k') (.int .i64 s') (.int .i64 n') (.slice pb' b'.length cb') (.slice pk' ks'.length ck')) := box_at' _ _ (by simp) _ _ _ _ _
  have HB0 : Hid (Below w.heap.size w ((w.alloc (.cells #[.int .i64 k, .int .i64 s, .int .i64 n, .slice pb b.length cb, .slice pk ks.length ck] 28)).alloc (.cells #[.int .i64 k', .int .i64 s', .int .i64 n', .slice pb' b'.length cb', .slice pk' ks'.length ck'] 28))) := bel2 (bel1 w _) (bel1 _ _)
  have cv1 := conv_string ((w.alloc (.cells #[.int .i64 k, .int .i64 s, .int .i64 n, .slice pb b.length cb, .slice pk ks.length ck] 28)).alloc (.cells #[.int .i64 k', .int .i64 s', .int .i64 n', .slice pb' b'.length cb', .slice pk' ks'.length ck'] 28)) pb cb b (h.below HB0.out).1.bytes
  have cv2 := conv_string ((w.alloc (.cells #[.int .i64 k, .int .i64 s, .int .i64 n, .slice pb b.length cb, .slice pk ks.length ck] 28)).alloc (.cells #[.int .i64 k', .int .i64 s', .int .i64 n', .slice pb' b'.length cb', .slice pk' ks'.length ck'] 28)) pb' cb' b' (h2.below HB0.out).1.bytes
  have t1 : (strOfNums (Lib.numsL b)).toList = b := by rw [Lib.strOfNums_toList, Lib.bytesOf_numsL]
  have t2 : (strOfNums (Lib.numsL b')).toList = b' := by rw [Lib.strOfNums_toList, Lib.bytesOf_numsL]
  have HU : Hid (∀ (i : Nat) z, ks[i]? = some z → ∃ B o, pk = some ⟨B, o, none⟩ ∧ w.cell? ⟨B, o + i, none⟩ = some (.int .i64 z)) := fun i z hz => by obtain ⟨p, c, e, _, _, q⟩ := h.2; cases e; obtain ⟨B, o, h1, _, h2⟩ := q i z hz; exact ⟨B, o, h1, h2⟩
  have HU2 : Hid (∀ (i : Nat) z, ks'[i]? = some z → ∃ B o, pk' = some ⟨B, o, none⟩ ∧ w.cell? ⟨B, o + i, none⟩ = some (.int .i64 z)) := fun i z hz => by obtain ⟨p, c, e, _, _, q⟩ := h2.2; cases e; obtain ⟨B, o, h1, _, h2⟩ := q i z hz; exact ⟨B, o, h1, h2⟩
  obtain ⟨a0, a1, a2, a3, a4⟩ := e1.out
  obtain ⟨c0, c1, c2, c3, c4⟩ := e2.out
  generalize hr1 : (k == k') = r1
  generalize hr2 : (s == s') = r2
  generalize hr3 : (n == n') = r3
  generalize hr4 : (b == b') = r4
  have d1 : (k != k') = !r1 := by rw [← hr1]; rfl
  have d2 : (s != s') = !r2 := by rw [← hr2]; rfl
  have d3 : (n != n') = !r3 := by rw [← hr3]; rfl
  have d4 : (b == b') = r4 := hr4
  clear h h2 hr1 hr2 hr3 hr4
  obtain ⟨N, hN⟩ : ∃ N, N = ks.length := ⟨_, rfl⟩
  obtain ⟨M, hM⟩ : ∃ M, M = ks'.length := ⟨_, rfl⟩
  have HN : Hid (N = ks.length) := hN
  have HM : Hid (M = ks'.length) := hM
  have HNB : Hid (N ≤ 9223372036854775807) := by show _ ≤ _; omega
  rw [← hN] at a4 e1 HB0 cv1 cv2 e2 a0 a1 a2 a3 c0 c1 c2 c3 c4 ⊢
  rw [← hM] at a4 e1 HB0 cv1 cv2 e2 a0 a1 a2 a3 c0 c1 c2 c3 c4 ⊢
  clear hN hM hk1 hk2
  cases r1 with
  | false =>
    simp only [Bool.not_false] at *
    go_enter Try.func17, Try.ntmps17
    go_wp2_with fail
    go_ret
    exact ⟨rfl, HB0.out⟩
  | true =>
  cases r2 with
  | false =>
    simp only [Bool.not_false, Bool.not_true] at *
    go_enter Try.func17, Try.ntmps17
    go_wp2_with fail
    go_ret
    exact ⟨rfl, HB0.out⟩
  | true =>
  cases r3 with
  | false =>
    simp only [Bool.not_false, Bool.not_true] at *
    go_enter Try.func17, Try.ntmps17
    go_wp2_with fail
    go_ret
    exact ⟨rfl, HB0.out⟩
  | true =>
  cases r4 with
  | false =>
    simp only [Bool.not_true] at *
    go_enter Try.func17, Try.ntmps17
    go_wp2_with fail
    go_ret
    exact ⟨rfl, HB0.out⟩
  | true =>
  simp only [Bool.not_true] at *
  by_cases hl : N = M
  · subst hl
    have dl : ((N : Int) != (N : Int)) = false := by simp
    have HE1 : Hid (At5 _ w.heap.size 0 _ _ _ _ _) := e1.out
    have HE2 : Hid (At5 _ (w.heap.size + 1) 0 _ _ _ _ _) := e2.out
    clear e1 e2
    go_enter Try.func17, Try.ntmps17
    go_wp2_with fail
    clear a0 a1 a2 a3 a4 c0 c1 c2 c3 c4 cv1 cv2
    generalize ((w.alloc (.cells #[.int .i64 k, .int .i64 s, .int .i64 n, .slice pb b.length cb, .slice pk N ck] 28)).alloc (.cells #[.int .i64 k', .int .i64 s', .int .i64 n', .slice pb' b'.length cb', .slice pk' N ck'] 28)) = w2 at HB0 HE1 HE2 ⊢
    go_loopw [5] (fun i wr => ∃ j : Nat, j ≤ N ∧ i = .int .i64 (j : Int) ∧ Hid (ks.take j = ks'.take j) ∧ Hid (Below w2.heap.size w2 wr)) (fun i _ => N - (intOf i).toNat)
    case atStart => exact ⟨0, Nat.zero_le _, rfl, rfl, Below.refl _ _⟩
    case round =>
      obtain ⟨j, hj, rfl, HE, HB⟩ := hrel
      obtain ⟨_, _, _, _, a4⟩ := HE1.out.below HB.out
      obtain ⟨_, _, _, _, c4⟩ := HE2.out.below HB.out
      have HB9 : Hid (Below w.heap.size w wr) := HB0.out.trans (HB.out.mono HB0.out.size)
      by_cases hlt : j < N
      · have hjl : (j : Int) < (N : Int) := by omega
        obtain ⟨z, hzj⟩ : ∃ z, ks[j]? = some z := ⟨_, List.getElem?_eq_getElem (by have := HN.out; omega)⟩
        obtain ⟨y, hyj⟩ : ∃ y, ks'[j]? = some y := ⟨_, List.getElem?_eq_getElem (by have := HM.out; omega)⟩
        obtain ⟨B, o, rfl, hc0⟩ := HU.out j z hzj
        obtain ⟨B', o', rfl, hd0⟩ := HU2.out j y hyj
        have hc := Lib.Below.cellOf HB9.out hc0 (Nat.le_refl _)
        have hd := Lib.Below.cellOf HB9.out hd0 (Nat.le_refl _)
        have HW : Hid (wrap64 ((j : Int) + 1) = ((j + 1 : Nat) : Int)) := wr1 hlt HNB.out
        have HT1 : Hid (ks.take (j + 1) = ks.take j ++ [z]) := by show _ = _; rw [List.take_add_one, hzj]; rfl
        have HT2 : Hid (ks'.take (j + 1) = ks'.take j ++ [y]) := by show _ = _; rw [List.take_add_one, hyj]; rfl
        clear hc0 hd0 hj hzj hyj
        by_cases hzy : z = y
        · have dz : (z != y) = false := by simp [hzy]
          have HT : Hid (ks.take (j + 1) = ks'.take (j + 1)) := by show _ = _; rw [HT1.out, HT2.out, HE.out, hzy]
          clear hzy
          go_wp2_with fail
          go_quiet (fail)
          go_wp2_with fail
          exact ⟨⟨j + 1, hlt, by rw [HW.out], HT, HB.out.trans ((belN wr _).mono HB.out.size)⟩, meas hlt HW.out⟩
        · have dz : (z != y) = true := by simpa using hzy
          have HT : Hid (ks ≠ ks') := fun e => by
            have h1 := HT1.out
            rw [e, HT2.out, ← HE.out] at h1
            have h2 := List.append_cancel_left h1
            simp at h2
            exact hzy h2.symm
          clear hzy
          go_wp2_with fail
          go_quiet (fail)
          go_wp2_with fail
          go_ret
          exact ⟨by rw [decide_eq_false HT.out]; rfl, HB9.out.trans ((belN wr _).mono HB9.out.size)⟩
      · obtain rfl : j = N := by omega
        have HT : Hid (ks = ks') := by
          show _ = _
          have h := HE.out
          rwa [List.take_of_length_le (by have := HN.out; omega), List.take_of_length_le (by have := HM.out; omega)] at h
        go_wp2_with fail
        go_ret
        exact ⟨by rw [decide_eq_true HT.out]; rfl, HB9.out⟩
  · have dl : ((N : Int) != (M : Int)) = true := by simp; omega
    have HT : Hid (ks ≠ ks') := fun e => hl (by rw [HN.out, HM.out, e])
    clear hl
    go_enter Try.func17, Try.ntmps17
    go_wp2_with fail
    go_ret
    exact ⟨by rw [decide_eq_false HT.out]; rfl, HB0.out⟩
def x0 : Sp := ⟨2, 1, 0, [], []⟩
theorem x0_put : putAll [x0] = [2, 2, 1] := by decide +kernel
theorem x0_parse : (parseB [2, 2, 1]).length = 1 := by decide +kernel
theorem three_holds (w : World) : Lib.HoldsBytes (w.alloc (.cells #[.int .u8 2, .int .u8 2, .int .u8 1] 5)) (.slice (some ⟨w.heap.size, 0, none⟩) 3 3) [2, 2, 1] := holds_bval w [2, 2, 1]
set_option maxHeartbeats 1000000 in
set_option maxRecDepth 100000 in
theorem awake_calls (w : World) : Calls Try.prog 8 #[] w fun e w' => e = .returned (.bool true) ∧ Below w.heap.size w w' := by
  have PC : Hid (Calls Try.prog 12 #[.slice (some ⟨w.heap.size, 0, none⟩) 1 1] (w.alloc (.cells #[.int .i64 2, .int .i64 1, .int .i64 0, .slice none 0 0, .slice none 0 0] 28)) _) :=
    putAll_calls (fun _ => True) (some ⟨w.heap.size, 0, none⟩) 1 1 [x0] rfl (by decide) (by intro x hx; rw [List.mem_singleton.1 hx]; exact ⟨⟨by decide, by decide⟩, ⟨by decide, by decide⟩, ⟨by decide, by decide⟩, fun z hz => by simp [x0] at hz⟩) _ (fun i x hx => by
      match i, hx with
      | 0, hx => cases hx; exact ⟨w.heap.size, 0, _, _, rfl, trivial, box_at w _ _ _ _ _, isv_nil _ _ _ _ _⟩
      | i + 1, hx => simp at hx)
  go_enter Try.func8, Try.ntmps8
  go_wp2_with fail
  refine PC.out.mono ?_
  rintro e w1 ⟨v, rfl, ho, hb⟩
  rw [x0_put] at ho
  obtain ⟨a, c, rfl⟩ := ho.shp
  have HB1 : Hid (Below w.heap.size w w1) := bel2 (bel1 _ _) hb
  have HH : Hid (Lib.HoldsBytes (w1.alloc (.cells #[.int .u8 2, .int .u8 2, .int .u8 1] 5)) (.slice a 3 c) [2, 2, 1]) := holds_below (own_holds ho) (bel1 _ _)
  have EC : Hid (Calls Try.prog 11 #[.slice a 3 c, .slice (some ⟨w1.heap.size, 0, none⟩) 3 3] (w1.alloc (.cells #[.int .u8 2, .int .u8 2, .int .u8 1] 5)) fun e w' => e = .returned (.bool true) ∧ w' = _) := equal_calls _ _ [2, 2, 1] [2, 2, 1] _ HH.out (three_holds w1)
  have RC : Hid (Calls Try.prog 15 #[.slice a 3 c] (w1.alloc (.cells #[.int .u8 2, .int .u8 2, .int .u8 1] 5)) _) := parse_calls _ [2, 2, 1] _ HH.out (by decide)
  clear ho hb PC
  go_wp2_with fail
  refine EC.out.mono ?_
  rintro e w2 ⟨rfl, hw2⟩
  rw [hw2]
  clear hw2 EC
  go_wp2_with fail
  refine RC.out.mono ?_
  rintro e w3 ⟨u, rfl, hg, hb3⟩
  obtain ⟨au, cu, rfl, _⟩ := hg.shape
  rw [x0_parse]
  have HB3 : Hid (Below w.heap.size w w3) := HB1.out.trans ((bel2 (bel1 _ _) hb3).mono HB1.out.size)
  clear hg hb3 RC
  go_wp2_with fail
  go_ret
  exact ⟨rfl, HB3.out⟩
end Go.Proofs.Ytimiklekajelfaa
