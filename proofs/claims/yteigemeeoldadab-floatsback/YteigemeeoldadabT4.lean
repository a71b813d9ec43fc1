/- The contract of awake: it returns true, and draws once. No condition. -/
import Derived.Test.YteigemeeoldadabT3
namespace Go.Proofs.Yteigemeeoldadab
open Go.ChangeShapes Go.WideShapes Go.ChangeAt Go.RowKit
open FM
/-- A uint64 is a natural number below 2^64. -/
theorem nat_u64 (a : Int) (h : (Lit.int .u64 a).wf = true) : ∃ x : Nat, a = (x : Int) ∧ x < 18446744073709551616 := by
  simp only [Lit.wf, IntKind.min, IntKind.max, IntKind.signed, IntKind.bits, Bool.and_eq_true, decide_eq_true_eq, Bool.false_eq_true, if_false] at h
  exact ⟨a.toNat, by omega, by omega⟩
theorem mul_awake (w : World) : Calls Try.prog 10 #[.int .u64 9218868437227405312, .int .u64 9223372036854775808] w fun e w' => e = .returned (.int .u64 9221120237041090560) ∧ w' = w.drew :=
  mul_none 9218868437227405312 9223372036854775808 w (by decide +kernel)
theorem kd_zero : kd 0 = 3 := by decide +kernel
theorem kind_awake (w : World) : Calls Try.prog 53 #[.int .u64 0] w fun e w' => e = .returned (.int .i64 3) ∧ w' = w := by
  have h := kind_calls 0 (by decide) w
  rw [kd_zero] at h
  exact h
theorem awake_calls (w : World) : Calls Try.prog 12 #[] w fun e w' => e = .returned (.bool true) ∧ w' = w.drew := by
  go_enter Try.func12, Try.ntmps12
  go_wp2_with fail
  refine (mul_awake _).mono ?_
  rintro e w' ⟨rfl, rfl⟩
  go_wp2_with fail
  refine (kind_awake _).mono ?_
  rintro e w' ⟨rfl, rfl⟩
  go_wp2
  go_ret
  exact ⟨rfl, rfl⟩
end Go.Proofs.Yteigemeeoldadab
