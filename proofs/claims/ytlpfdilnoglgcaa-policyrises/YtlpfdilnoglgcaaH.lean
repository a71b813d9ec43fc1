/- The walk of PolicyRises. -/
import Derived.Test.YtlpfdilnoglgcaaE
namespace Go.Proofs.Ytlpfdilnoglgcaa
open Go.ChangeShapes Go.WideShapes Go.ChangeAt Go.RowKit
open FM
theorem of_pos (f : Int) (h : 0 ≤ f) : floatOfInt .f64 f ≤ 9218868437227405312 := by
  show Ieee.double.nearest (decide (f < 0)) f.natAbs 0 ≤ _
  rw [show decide (f < 0) = false by simp; omega]
  unfold Ieee.Format.nearest Ieee.Format.word
  simp only [Bool.false_eq_true, if_false]
  split
  · omega
  · rw [c_inf]; exact Nat.min_le_right _ _
theorem of1 : floatOfInt .f64 1 = 4607182418800017408 := by decide +kernel
/-- What PolicyRises asks of the two delays. -/
structure Ris (A B m : Int) (g : Bool) : Prop where
  a0 : 0 ≤ A
  a1 : A ≤ m
  b1 : B ≤ m
  up : g = true → A ≤ B
theorem ris (f : Int) (c : Nat) (m : Int) (hp : PFit f c m) (h : may f c m = true) (N : Nat) : Ris (dlA f c m ((N : Int) + 1)) (dlA f c m ((N : Int) + 2)) m (!fLt c 4607182418800017408) := by
  have hm0 := may_most h
  unfold dlA wt
  rw [if_pos h, if_pos h]
  have i1 := dl_in (pw (floatOfInt .f64 f) c (nA ((N : Int) + 1))) m hm0
  have i2 := dl_in (pw (floatOfInt .f64 f) c (nA ((N : Int) + 2))) m hm0
  refine ⟨i1.1, i1.2, i2.2, fun hg => ?_⟩
  have hf : 0 ≤ f := by unfold may isD at h; simp at h; omega
  have hn : isN c = false := by unfold may isC at h; simp at h; exact h.2.2
  have hc1 := hp.c1
  have hc : 4607182418800017408 ≤ c ∧ c ≤ 9218868437227405312 := by
    unfold fLt at hg
    rw [hn, isN_small 4607182418800017408 (by omega), key_pos 4607182418800017408 (by omega)] at hg
    simp at hg
    have hr := rg_le c hn
    unfold key at hg
    rcases parts c hc1 with ⟨p1, p2⟩ | ⟨p1, p2⟩
    · rw [p1] at hg; simp at hg; omega
    · rw [p1] at hg; simp at hg; omega
  by_cases hN : N < 999
  · have e1 : nA ((N : Int) + 1) = N := by unfold nA; omega
    have e2 : nA ((N : Int) + 2) = N + 1 := by unfold nA; omega
    rw [e1, e2]
    exact dl_up _ c m hm0 (of_pos f hf) hc.2 hc.1 N
  · have e : nA ((N : Int) + 2) = nA ((N : Int) + 1) := by unfold nA; omega
    rw [e]
    exact Int.le_refl _
theorem rest (a : Int) : ∃ N : Nat, N ≤ 1099 ∧ wrap64 (1 + wrap64 ((IntKind.u64.wrap a).tmod 1100)) = (N : Int) + 1 := by
  have h0 : 0 ≤ IntKind.u64.wrap a := by
    show 0 ≤ a % (18446744073709551616 : Int)
    omega
  obtain ⟨k, hk⟩ := Int.eq_ofNat_of_zero_le h0
  rw [hk]
  refine ⟨k % 1100, by omega, ?_⟩
  have e : ((k : Int)).tmod 1100 = ((k % 1100 : Nat) : Int) := by rw [Int.tmod_eq_emod_of_nonneg (by omega)]; omega
  rw [e]
  unfold wrap64
  omega
theorem wr_two (N : Nat) (h : N ≤ 1099) : IntKind.i64.wrap ((N : Int) + 2) = (N : Int) + 2 := by
  rw [IntKind.wrap_i64]
  omega
set_option maxHeartbeats 2000000 in
theorem rises_walk (f : Int) (c : Nat) (m a : Int) (hp : PFit f c m) (w : World) :
    Calls Try.prog 5 #[.agg #[.int .i64 f, .int .u64 (c : Int), .int .i64 m], .int .i64 a] w fun e w' => e = .returned (.bool true) ∧ Below w.heap.size w w' := by
  have HP : Hid (PFit f c m) := hp
  clear hp
  have C1 : Hid (∀ W, _) := fun W => check_calls f c m HP.out.c1 W
  cases hm : may f c m with
  | false =>
    rw [hm] at C1
    go_enter Try.func5, Try.ntmps5
    go_wp2_with fail
    refine (C1.out _).mono ?_
    rintro e w1 ⟨rfl, hb⟩
    have HB : Hid (Below w.heap.size w w1) := bel2 (bel1 _ _) hb
    clear hb
    simp only [ce, Bool.false_eq_true, if_false]
    go_wp2_with fail
    refine (awake_calls _).mono ?_
    rintro e w2 ⟨rfl, hb⟩
    have HB2 : Hid (Below w.heap.size w w2) := bel2 HB.out hb
    clear hb
    go_wp2_with fail
    go_ret
    exact ⟨rfl, HB2.out⟩
  | true =>
    rw [hm] at C1
    have HM : Hid (may f c m = true) := hm
    clear hm
    go_enter Try.func5, Try.ntmps5
    go_wp2_with fail
    refine (C1.out _).mono ?_
    rintro e w1 ⟨rfl, hb⟩
    have HB : Hid (Below w.heap.size w w1) := bel2 (bel1 _ _) hb
    obtain ⟨k0, k1, k2⟩ := cells3 hb (box3 w _ _ _ _)
    clear hb
    simp only [ce, if_true]
    go_wp2_with fail
    obtain ⟨N, hN, hq⟩ := rest a
    rw [hq]
    generalize wrap64 ((IntKind.u64.wrap a).tmod 1100) = q1
    generalize (IntKind.u64.wrap a).tmod 1100 = q2
    clear hq
    have hw : wrap64 ((N : Int) + 1 + 1) = (N : Int) + 2 := by unfold wrap64; omega
    have RS : Hid (Ris (dlA f c m ((N : Int) + 1)) (dlA f c m ((N : Int) + 2)) m (!fLt c 4607182418800017408)) := ris f c m HP.out HM.out N
    have D1 : Hid (∀ a W, _) := fun a W => delay_calls f c m a HP.out.c1 W
    have O1 : Hid (∀ W, _) := fun W => of_calls 1 W
    have L1 : Hid (∀ W, _) := fun W => less_calls c 4607182418800017408 W
    rw [of1] at O1
    generalize dlA f c m = DA at RS D1
    generalize fLt c 4607182418800017408 = G at RS L1
    have hw3 := wr_two N hN
    clear hN
    go_region_held3 (fun w' => w'.cell? ⟨w.heap.size, 0, none⟩ = some (.int .i64 f) ∧ w'.cell? ⟨w.heap.size, 1, none⟩ = some (.int .u64 (c : Int)) ∧ w'.cell? ⟨w.heap.size, 2, none⟩ = some (.int .i64 m)) (go_keep) (first
      | (go_at_call 9; refine (D1.out _ _).mono ?_; rintro e w3 ⟨rfl, hb1⟩; have B3 : Hid (Below w.heap.size w w3) := (by first | exact bel2 B3.out hb1 | exact bel2 HB.out hb1 | exact bel2 HB.out.drew hb1); obtain ⟨y0, y1, y2⟩ := cells3 hb1 ⟨by assumption, by assumption, by assumption⟩; clear hb1))
    have hw2 : (N : Int) + 1 + 1 = (N : Int) + 2 := by omega
    simp only [hw2]
    simp only [hw3]
    clear hw2 hw3
    generalize hA : DA ((N : Int) + 1) = A at *
    generalize hB : DA ((N : Int) + 2) = B at *
    clear hA hB hw D1 k0 k1 k2
    obtain ⟨r0, r1, r2, r3⟩ := RS.out
    clear RS
    cases G with
    | true =>
      go_wp2_with fail
      go_quiet (first | (go_at_call 14; exact Calls.quiet_of_same (O1.out _)) | (go_at_call 13; exact Calls.quiet_of_same (L1.out _)))
      go_wp2_with fail
      refine (awake_calls _).mono ?_
      rintro e w5 ⟨rfl, hb⟩
      have HB5 : Hid (Below w.heap.size w w5) := bel2 (bel2 B3.out (belN _ _)) hb
      clear hb
      go_wp2_with fail
      go_ret
      exact ⟨rfl, HB5.out⟩
    | false =>
      have r4 := r3 rfl
      clear r3
      go_wp2_with fail
      go_quiet (first | (go_at_call 14; exact Calls.quiet_of_same (O1.out _)) | (go_at_call 13; exact Calls.quiet_of_same (L1.out _)))
      go_wp2_with fail
      refine (awake_calls _).mono ?_
      rintro e w5 ⟨rfl, hb⟩
      have HB5 : Hid (Below w.heap.size w w5) := bel2 (bel2 B3.out (belN _ _)) hb
      clear hb
      go_wp2_with fail
      go_ret
      exact ⟨rfl, HB5.out⟩
end Go.Proofs.Ytlpfdilnoglgcaa
