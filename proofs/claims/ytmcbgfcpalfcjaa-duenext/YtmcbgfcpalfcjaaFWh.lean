/- The contracts of Whole and of its reference; a float above 0 and below 2^63 has a whole number below it that an int holds. Condition: the word fits 64 bits. -/
import Derived.Test.YtmcbgfcpalfcjaaFT4
import Derived.Test.YtmcbgfcpalfcjaaFOrd
namespace Go.Proofs.Ytmcbgfcpalfcjaa
open Go.ChangeShapes Go.WideShapes Go.ChangeAt Go.RowKit
open FM
attribute [local go_sem] o_eq o_lt o_gt o_ne frombits tobits
theorem mg_lt (r : Nat) : mg r < 9007199254740992 := by unfold mg; split <;> omega
theorem cut_le (neg : Bool) (n drop : Nat) : Ieee.Toward.zero.cut neg n drop ≤ n := by
  unfold Ieee.Toward.cut
  dsimp only
  simp only [Bool.toNat_false, Nat.add_zero]
  exact Nat.div_le_self _ _
theorem toInt_some (x : Nat) (h1 : isN x = false) (h2 : rg x < 4890909195324358656) :
    ∃ n : Nat, (FloatKind.f64.decode x).toInt .zero = some (Ieee.signed (neg x) n 0) ∧ n < 9223372036854775808 := by
  have hd : FloatKind.f64.decode x = .number (neg x) (mg (rg x)) (-1074 + (ex (rg x) : Int)) := by
    show Ieee.double.read x = _
    rw [read_eq, if_neg (by rw [h1]; simp), if_neg (by omega)]
  rw [hd]
  refine ⟨_, rfl, ?_⟩
  refine Nat.lt_of_le_of_lt (cut_le _ _ _) ?_
  rw [Nat.shiftLeft_eq]
  have e1 : ex (rg x) ≤ 1084 := by unfold ex; omega
  have e2 : (-1074 + (ex (rg x) : Int)).toNat ≤ 10 := by omega
  have m := mg_lt (rg x)
  have p : 2 ^ (-1074 + (ex (rg x) : Int)).toNat ≤ 2 ^ 10 := Nat.pow_le_pow_right (by decide) e2
  have := Nat.mul_le_mul (show mg (rg x) ≤ 9007199254740991 by omega) p
  omega
theorem conv_some (x : Nat) (h1 : isN x = false) (h2 : fLt 0 x = true) (h3 : fLt 4890909195324358656 x = false) (h4 : fEq x 4890909195324358656 = false) :
    ∃ n : Int, floatToIntVal .f64 x .i64 = some n := by
  unfold fLt at h2 h3
  unfold fEq at h4
  rw [h1, isN_zero, key_zero] at h2
  rw [h1, isN_small 4890909195324358656 (by omega), key_pos 4890909195324358656 (by omega)] at h3 h4
  simp at h2 h3 h4
  unfold key at h2 h3 h4
  cases hn : neg x
  · rw [hn] at h2 h3 h4
    simp at h2 h3 h4
    obtain ⟨n, e, hb⟩ := toInt_some x h1 (by omega)
    unfold floatToIntVal
    rw [e, hn]
    refine ⟨(n : Int), ?_⟩
    have es : Ieee.signed false n 0 = (n : Int) := by rw [signed_eq]; simp
    rw [es]
    dsimp only
    rw [if_pos]
    simp only [IntKind.min, IntKind.max, IntKind.signed, IntKind.bits, if_true]
    omega
  · rw [hn] at h2; simp at h2; omega
theorem whole_nan (x : Nat) (m : Int) (h1 : isN x = true) (w : World) : Calls Try.prog 67 #[.int .u64 (x : Int), .int .i64 m] w fun e w' => e = .returned (.tuple #[.int .i64 0, .int .i64 1]) ∧ w' = w := by
  go_enter Try.func67, Try.ntmps67
  go_wp2
  go_ret2
  exact ⟨rfl, rfl⟩
theorem whole_neg (x : Nat) (m : Int) (h1 : isN x = false) (h2 : m < 0) (w : World) : Calls Try.prog 67 #[.int .u64 (x : Int), .int .i64 m] w fun e w' => e = .returned (.tuple #[.int .i64 0, .int .i64 1]) ∧ w' = w := by
  go_enter Try.func67, Try.ntmps67
  go_wp2
  go_ret2
  exact ⟨rfl, rfl⟩
theorem whole_zero (x : Nat) (m : Int) (h1 : isN x = false) (h2 : ¬ m < 0) (h3 : fLt 0 x = false) (w : World) : Calls Try.prog 67 #[.int .u64 (x : Int), .int .i64 m] w fun e w' => e = .returned (.tuple #[.int .i64 0, .int .i64 0]) ∧ w' = w := by
  go_enter Try.func67, Try.ntmps67
  go_wp2
  go_ret2
  exact ⟨rfl, rfl⟩
theorem whole_most (x : Nat) (m : Int) (h1 : isN x = false) (h2 : ¬ m < 0) (h3 : fLt 0 x = true) (h4 : (fLt 4890909195324358656 x || fEq x 4890909195324358656) = true) (w : World) : Calls Try.prog 67 #[.int .u64 (x : Int), .int .i64 m] w fun e w' => e = .returned (.tuple #[.int .i64 m, .int .i64 0]) ∧ w' = w := by
  go_enter Try.func67, Try.ntmps67
  go_wp2
  go_ret2
  exact ⟨rfl, rfl⟩
theorem whole_less (x : Nat) (m : Int) (h1 : isN x = false) (h2 : ¬ m < 0) (h3 : fLt 0 x = true) (h4 : (fLt 4890909195324358656 x || fEq x 4890909195324358656) = false) (n : Int) (h5 : floatToIntVal .f64 x .i64 = some n) (h6 : m < n) (w : World) : Calls Try.prog 67 #[.int .u64 (x : Int), .int .i64 m] w fun e w' => e = .returned (.tuple #[.int .i64 m, .int .i64 0]) ∧ w' = w := by
  have hr := fun w => run_convert_float_int (P := Try.prog) w 78 3 .f64 .i64 x n (by kernel_rfl) Try.underlying3 h5
  clear h5
  go_enter Try.func67, Try.ntmps67
  go_wp2
  go_ret2
  exact ⟨rfl, rfl⟩
theorem whole_some (x : Nat) (m : Int) (h1 : isN x = false) (h2 : ¬ m < 0) (h3 : fLt 0 x = true) (h4 : (fLt 4890909195324358656 x || fEq x 4890909195324358656) = false) (n : Int) (h5 : floatToIntVal .f64 x .i64 = some n) (h6 : ¬ m < n) (w : World) : Calls Try.prog 67 #[.int .u64 (x : Int), .int .i64 m] w fun e w' => e = .returned (.tuple #[.int .i64 n, .int .i64 0]) ∧ w' = w := by
  have hr := fun w => run_convert_float_int (P := Try.prog) w 78 3 .f64 .i64 x n (by kernel_rfl) Try.underlying3 h5
  clear h5
  go_enter Try.func67, Try.ntmps67
  go_wp2
  go_ret2
  exact ⟨rfl, rfl⟩
end Go.Proofs.Ytmcbgfcpalfcjaa
