/- The Go function FloatsLess returns true for every input, and its arguments read afterwards as they did before. -/
import Derived.Test.YteigemeeoldadaaRows
import Derived.Test.YteigemeeoldadaaT4
import Derived.Test.YteigemeeoldadaaOrd
import Derived.WalkKit
import Derived.ProofKit
import Derived.OpenShut
import Derived.ShutString
namespace Go.Proofs.Yteigemeeoldadaa.floatsLess
open Go.ChangeShapes Go.WideShapes Go.ChangeAt Go.RowKit
open Go.ChangeMaps (open_string shut_string)
set_option linter.unusedVariables false      -- a walk need not use every 'w<i>' (that an integer argument fits its kind)

theorem own : ownKnob Try.prog.godebug = none := by kernel_rfl

open FM
theorem kd_one (a : Nat) : (kd a == 1) = isN a := by
  unfold kd
  cases isN a <;> cases isI a <;> cases isZ a <;> cases isS a <;> rfl
theorem kd_three (a : Nat) (h : isN a = false) : (kd a == 3) = isZ a := by
  have hi : isZ a = true → isI a = false := by unfold isZ isI; simp; omega
  unfold kd
  rw [h]
  revert hi
  cases isI a <;> cases isZ a <;> cases isS a <;> simp
theorem nan_less (a b : Nat) (h : isN a = true ∨ isN b = true) : fLt a b = false := by
  unfold fLt
  rcases h with h | h <;> rw [h] <;> simp
theorem g1 (a b : Nat) (HA : Hid (a < 18446744073709551616)) (HB : Hid (b < 18446744073709551616)) (w : World) (k1 : (kd a == 1) = true) (hl : fLt a b = false) : Calls Try.prog 8 #[.int .u64 (a : Int), .int .u64 (b : Int)] w fun e w' => e = .returned (.bool true) ∧ Grown w w' := by
  go_enter Try.func8, Try.ntmps8
  go_wp2_with fail
  refine (kind_calls _ HA.out _).mono ?_
  rintro e w' ⟨rfl, rfl⟩
  go_wp2_with fail
  refine (less_calls _ _ _).mono ?_
  rintro e w' ⟨rfl, rfl⟩
  rw [hl]
  go_wp2_with fail
  refine (awake_calls _).mono ?_
  rintro e w' ⟨rfl, rfl⟩
  go_wp2
  go_ret
  exact ⟨rfl, (Grown.refl _).drew⟩
theorem g2 (a b : Nat) (HA : Hid (a < 18446744073709551616)) (HB : Hid (b < 18446744073709551616)) (w : World) (k1 : (kd a == 1) = false) (k2 : (kd b == 1) = true) (hl : fLt a b = false) : Calls Try.prog 8 #[.int .u64 (a : Int), .int .u64 (b : Int)] w fun e w' => e = .returned (.bool true) ∧ Grown w w' := by
  go_enter Try.func8, Try.ntmps8
  go_wp2_with fail
  refine (kind_calls _ HA.out _).mono ?_
  rintro e w' ⟨rfl, rfl⟩
  go_wp2_with fail
  refine (kind_calls _ HB.out _).mono ?_
  rintro e w' ⟨rfl, rfl⟩
  go_wp2_with fail
  refine (less_calls _ _ _).mono ?_
  rintro e w' ⟨rfl, rfl⟩
  rw [hl]
  go_wp2_with fail
  refine (awake_calls _).mono ?_
  rintro e w' ⟨rfl, rfl⟩
  go_wp2
  go_ret
  exact ⟨rfl, (Grown.refl _).drew⟩
theorem zn (a b : Nat) (HA : Hid (a < 18446744073709551616)) (HB : Hid (b < 18446744073709551616)) (w : World) (k1 : (kd a == 1) = false) (k2 : (kd b == 1) = false) (z1 : (kd a == 3) = false) (hl : fLt a b = true) (ho : od a b < 0) : Calls Try.prog 8 #[.int .u64 (a : Int), .int .u64 (b : Int)] w fun e w' => e = .returned (.bool true) ∧ Grown w w' := by
  go_enter Try.func8, Try.ntmps8
  go_wp2_with fail
  refine (kind_calls _ HA.out _).mono ?_
  rintro e w' ⟨rfl, rfl⟩
  go_wp2_with fail
  refine (kind_calls _ HB.out _).mono ?_
  rintro e w' ⟨rfl, rfl⟩
  go_wp2_with fail
  refine (kind_calls _ HA.out _).mono ?_
  rintro e w' ⟨rfl, rfl⟩
  go_wp2_with fail
  refine (less_calls _ _ _).mono ?_
  rintro e w' ⟨rfl, rfl⟩
  rw [hl]
  go_wp2_with fail
  refine (order_od _ _ HA.out HB.out _).mono ?_
  rintro e w' ⟨rfl, rfl⟩
  go_wp2_with fail
  refine (awake_calls _).mono ?_
  rintro e w' ⟨rfl, rfl⟩
  go_wp2
  go_ret
  exact ⟨rfl, (Grown.refl _).drew⟩
theorem zp (a b : Nat) (HA : Hid (a < 18446744073709551616)) (HB : Hid (b < 18446744073709551616)) (w : World) (k1 : (kd a == 1) = false) (k2 : (kd b == 1) = false) (z1 : (kd a == 3) = false) (hl : fLt a b = false) (ho : ¬ od a b < 0) : Calls Try.prog 8 #[.int .u64 (a : Int), .int .u64 (b : Int)] w fun e w' => e = .returned (.bool true) ∧ Grown w w' := by
  go_enter Try.func8, Try.ntmps8
  go_wp2_with fail
  refine (kind_calls _ HA.out _).mono ?_
  rintro e w' ⟨rfl, rfl⟩
  go_wp2_with fail
  refine (kind_calls _ HB.out _).mono ?_
  rintro e w' ⟨rfl, rfl⟩
  go_wp2_with fail
  refine (kind_calls _ HA.out _).mono ?_
  rintro e w' ⟨rfl, rfl⟩
  go_wp2_with fail
  refine (less_calls _ _ _).mono ?_
  rintro e w' ⟨rfl, rfl⟩
  rw [hl]
  go_wp2_with fail
  refine (order_od _ _ HA.out HB.out _).mono ?_
  rintro e w' ⟨rfl, rfl⟩
  go_wp2_with fail
  refine (awake_calls _).mono ?_
  rintro e w' ⟨rfl, rfl⟩
  go_wp2
  go_ret
  exact ⟨rfl, (Grown.refl _).drew⟩
theorem yn (a b : Nat) (HA : Hid (a < 18446744073709551616)) (HB : Hid (b < 18446744073709551616)) (w : World) (k1 : (kd a == 1) = false) (k2 : (kd b == 1) = false) (z1 : (kd a == 3) = true) (z2 : (kd b == 3) = false) (hl : fLt a b = true) (ho : od a b < 0) : Calls Try.prog 8 #[.int .u64 (a : Int), .int .u64 (b : Int)] w fun e w' => e = .returned (.bool true) ∧ Grown w w' := by
  go_enter Try.func8, Try.ntmps8
  go_wp2_with fail
  refine (kind_calls _ HA.out _).mono ?_
  rintro e w' ⟨rfl, rfl⟩
  go_wp2_with fail
  refine (kind_calls _ HB.out _).mono ?_
  rintro e w' ⟨rfl, rfl⟩
  go_wp2_with fail
  refine (kind_calls _ HA.out _).mono ?_
  rintro e w' ⟨rfl, rfl⟩
  go_wp2_with fail
  refine (kind_calls _ HB.out _).mono ?_
  rintro e w' ⟨rfl, rfl⟩
  go_wp2_with fail
  refine (less_calls _ _ _).mono ?_
  rintro e w' ⟨rfl, rfl⟩
  rw [hl]
  go_wp2_with fail
  refine (order_od _ _ HA.out HB.out _).mono ?_
  rintro e w' ⟨rfl, rfl⟩
  go_wp2_with fail
  refine (awake_calls _).mono ?_
  rintro e w' ⟨rfl, rfl⟩
  go_wp2
  go_ret
  exact ⟨rfl, (Grown.refl _).drew⟩
theorem yp (a b : Nat) (HA : Hid (a < 18446744073709551616)) (HB : Hid (b < 18446744073709551616)) (w : World) (k1 : (kd a == 1) = false) (k2 : (kd b == 1) = false) (z1 : (kd a == 3) = true) (z2 : (kd b == 3) = false) (hl : fLt a b = false) (ho : ¬ od a b < 0) : Calls Try.prog 8 #[.int .u64 (a : Int), .int .u64 (b : Int)] w fun e w' => e = .returned (.bool true) ∧ Grown w w' := by
  go_enter Try.func8, Try.ntmps8
  go_wp2_with fail
  refine (kind_calls _ HA.out _).mono ?_
  rintro e w' ⟨rfl, rfl⟩
  go_wp2_with fail
  refine (kind_calls _ HB.out _).mono ?_
  rintro e w' ⟨rfl, rfl⟩
  go_wp2_with fail
  refine (kind_calls _ HA.out _).mono ?_
  rintro e w' ⟨rfl, rfl⟩
  go_wp2_with fail
  refine (kind_calls _ HB.out _).mono ?_
  rintro e w' ⟨rfl, rfl⟩
  go_wp2_with fail
  refine (less_calls _ _ _).mono ?_
  rintro e w' ⟨rfl, rfl⟩
  rw [hl]
  go_wp2_with fail
  refine (order_od _ _ HA.out HB.out _).mono ?_
  rintro e w' ⟨rfl, rfl⟩
  go_wp2_with fail
  refine (awake_calls _).mono ?_
  rintro e w' ⟨rfl, rfl⟩
  go_wp2
  go_ret
  exact ⟨rfl, (Grown.refl _).drew⟩
theorem xn (a b : Nat) (HA : Hid (a < 18446744073709551616)) (HB : Hid (b < 18446744073709551616)) (w : World) (k1 : (kd a == 1) = false) (k2 : (kd b == 1) = false) (z1 : (kd a == 3) = true) (z2 : (kd b == 3) = true) (hl : fLt a b = false) (ho : od a b < 0) : Calls Try.prog 8 #[.int .u64 (a : Int), .int .u64 (b : Int)] w fun e w' => e = .returned (.bool true) ∧ Grown w w' := by
  go_enter Try.func8, Try.ntmps8
  go_wp2_with fail
  refine (kind_calls _ HA.out _).mono ?_
  rintro e w' ⟨rfl, rfl⟩
  go_wp2_with fail
  refine (kind_calls _ HB.out _).mono ?_
  rintro e w' ⟨rfl, rfl⟩
  go_wp2_with fail
  refine (kind_calls _ HA.out _).mono ?_
  rintro e w' ⟨rfl, rfl⟩
  go_wp2_with fail
  refine (kind_calls _ HB.out _).mono ?_
  rintro e w' ⟨rfl, rfl⟩
  go_wp2_with fail
  refine (less_calls _ _ _).mono ?_
  rintro e w' ⟨rfl, rfl⟩
  rw [hl]
  go_wp2_with fail
  refine (order_od _ _ HA.out HB.out _).mono ?_
  rintro e w' ⟨rfl, rfl⟩
  go_wp2_with fail
  refine (awake_calls _).mono ?_
  rintro e w' ⟨rfl, rfl⟩
  go_wp2
  go_ret
  exact ⟨rfl, (Grown.refl _).drew⟩
theorem xp (a b : Nat) (HA : Hid (a < 18446744073709551616)) (HB : Hid (b < 18446744073709551616)) (w : World) (k1 : (kd a == 1) = false) (k2 : (kd b == 1) = false) (z1 : (kd a == 3) = true) (z2 : (kd b == 3) = true) (hl : fLt a b = false) (ho : ¬ od a b < 0) : Calls Try.prog 8 #[.int .u64 (a : Int), .int .u64 (b : Int)] w fun e w' => e = .returned (.bool true) ∧ Grown w w' := by
  go_enter Try.func8, Try.ntmps8
  go_wp2_with fail
  refine (kind_calls _ HA.out _).mono ?_
  rintro e w' ⟨rfl, rfl⟩
  go_wp2_with fail
  refine (kind_calls _ HB.out _).mono ?_
  rintro e w' ⟨rfl, rfl⟩
  go_wp2_with fail
  refine (kind_calls _ HA.out _).mono ?_
  rintro e w' ⟨rfl, rfl⟩
  go_wp2_with fail
  refine (kind_calls _ HB.out _).mono ?_
  rintro e w' ⟨rfl, rfl⟩
  go_wp2_with fail
  refine (less_calls _ _ _).mono ?_
  rintro e w' ⟨rfl, rfl⟩
  rw [hl]
  go_wp2_with fail
  refine (order_od _ _ HA.out HB.out _).mono ?_
  rintro e w' ⟨rfl, rfl⟩
  go_wp2_with fail
  refine (awake_calls _).mono ?_
  rintro e w' ⟨rfl, rfl⟩
  go_wp2
  go_ret
  exact ⟨rfl, (Grown.refl _).drew⟩
/-! ### STEP 1: THE WALK: the Go text returns true. 'Grown w w'': the world has at most new blocks (Derived/RowKit3.lean). Part the cases AHEAD of 'go_enter' where a test parts the walk; take each callee by a contract of your own. -/
theorem walk (a0 : Int) (a1 : Int) (w0 : (Lit.int .u64 a0).wf = true) (w1 : (Lit.int .u64 a1).wf = true) (w : World) :
    Calls Try.prog 8 #[.int .u64 a0, .int .u64 a1] w fun e w' => e = .returned (.bool true) ∧ Grown w w' := by
  obtain ⟨a, rfl, ha⟩ := nat_u64 a0 w0
  obtain ⟨b, rfl, hb⟩ := nat_u64 a1 w1
  have ka := kd_one a
  have kb := kd_one b
  cases h1 : isN a
  · rw [h1] at ka
    cases h2 : isN b
    · rw [h2] at kb
      have za := kd_three a h1
      have zb := kd_three b h2
      have hl := less_od a b h1 h2
      cases z1 : isZ a
      · rw [z1] at za hl
        by_cases ho : od a b < 0
        · exact zn a b ha hb w ka kb za (by rw [hl]; simp [ho]) ho
        · exact zp a b ha hb w ka kb za (by rw [hl]; simp; omega) ho
      · cases z2 : isZ b
        · rw [z1] at za hl
          rw [z2] at zb hl
          by_cases ho : od a b < 0
          · exact yn a b ha hb w ka kb za zb (by rw [hl]; simp [ho]) ho
          · exact yp a b ha hb w ka kb za zb (by rw [hl]; simp; omega) ho
        · rw [z1] at za hl
          rw [z2] at zb hl
          by_cases ho : od a b < 0
          · exact xn a b ha hb w ka kb za zb (by rw [hl]; simp) ho
          · exact xp a b ha hb w ka kb za zb (by rw [hl]; simp) ho
    · rw [h2] at kb
      exact g2 a b ha hb w ka kb (nan_less a b (.inr h2))
  · rw [h1] at ka
    exact g1 a b ha hb w ka (nan_less a b (.inl h1))

/-! ### THE ROW's STEP: WRITTEN OUT: LEAVE IT -/
set_option maxRecDepth 100000 in
theorem lifted (os : Os) (started : os.Started) (H : Type) (enc : TypeId × Value → H) :
    ReturnsInHanded {} Try.checked os 8 .any (Rows.floatsLessSpec.pre6 enc Try.prog Try.f8 Rows.floatsLessRow.domain false) (Rows.floatsLessSpec.post enc Try.prog Try.f8 false true false false) := by
  refine returnsInHanded_of_change (C := Try.checked) own started (by kernel_rfl) Try.func8
    (ChangeSpec.witness6 (enc := enc) (C := Try.checked) false ⟨#[], #[.int .u64 0, .int .u64 0], []⟩ 8 (by kernel_rfl) (by kernel_rfl) (by kernel_rfl) (by kernel_rfl)) ?_
  intro W base args ds gs before hval0 hW hcnd _
  have hval : ∀ (j : Nat) t v, Try.f8.params[j]? = some t → args[j]? = some v → Value.okWide Try.prog W .any base t v := hval0
  have hW' := hW
  obtain ⟨p, q, hA0, hV, rfl, hfz, hnd⟩ := hW
  have hA : DataW.TrodAll enc Try.prog W 0 (fun _ => true) true Try.f8.params.toList args.toList ds p := hA0
  rw [Try.params8] at hA hval
  obtain ⟨v0, vs0, d0, ds0, p0, q0, hargs, rfl, rfl, h0, r0⟩ := trodAll_cons hA
  obtain ⟨v1, vs1, d1, ds1, p1, q1, rfl, rfl, rfl, h1, r1⟩ := trodAll_cons r0
  obtain ⟨rfl, rfl, rfl⟩ := trodAll_nil r1
  obtain rfl : args = #[v0, v1] := by cases args; simp_all
  obtain ⟨rfl, rfl⟩ := trodVars_none hV
  obtain ⟨a0, rfl, rfl, rfl, w0⟩ := open_int Try.underlying22 (hval 0 22 v0 rfl rfl) h0
  obtain ⟨a1, rfl, rfl, rfl, w1⟩ := open_int Try.underlying22 (hval 1 22 v1 rfl rfl) h1
  clear hA0 hval0
  simp only [List.append_nil] at hW'
  refine (walk a0 a1 w0 w1 W).mono fun e W' ⟨he, hg⟩ => ?_
  subst he
  exact ⟨_, rfl, post_of_same (pa := []) (pv := []) hW' (fun _ _ _ => (trodAll_cons_mk (shut_bool Try.underlying4 _) trodAll_mk0)) (fun sp _ => (trodAll_cons_mk (shut_int Try.underlying22 w0) (trodAll_cons_mk (shut_int Try.underlying22 w1) trodAll_mk0))) (fun _ _ => rfl) rfl
    (hg.frame _) hg.2.1 (ok_one (by kernel_rfl) rfl (okWide_bool_mk Try.underlying4 _))⟩

theorem over : Rows.floatsLessRow.holds Try.pinned (OpenSpec.ofChange Rows.floatsLessSpec) :=
  OpenClaim.holds_of_wide 8 Try.f8 rfl rfl rfl rfl rfl rfl rfl ⟨rfl, rfl, rfl, rfl, rfl⟩ rfl rfl rfl rfl rfl (by kernel_rfl) Try.func8 (by kernel_rfl)
    (of_decide_eq_true (by kernel_rfl)) (by unfold Func.isWrapper; first | (rw [if_pos (by decide +kernel)]; kernel_rfl) | (rw [if_neg (by decide +kernel)]; exact ⟨rfl, rfl⟩))
    (fun os started H enc _ => lifted os started H enc)

/-- ████ THE STATEMENT ████ -/
theorem proved : Rows.FloatsLessSaid :=
  over
end Go.Proofs.Yteigemeeoldadaa.floatsLess

namespace Go.Proofs.Yteigemeeoldadaa
theorem floatsLess_holds : Rows.FloatsLessSaid := floatsLess.proved
end Go.Proofs.Yteigemeeoldadaa
