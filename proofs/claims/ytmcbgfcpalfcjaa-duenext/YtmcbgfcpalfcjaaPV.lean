/- The contracts of pack's Num, Int, Bits, Flag, Text: what stands behind any bytes. Condition: these have at most 2^47 bytes. -/
import Derived.Test.YtmcbgfcpalfcjaaPW
import Derived.Laws.IdiomStrings
import Derived.Laws.BitsAllLaws
namespace Go.Proofs.Ytmcbgfcpalfcjaa
open Go.ChangeShapes Go.WideShapes Go.ChangeAt Go.RowKit
theorem enc_length (n : Nat) (h : n < 9223372036854775808) : (enc n).length ≤ 9 := by
  unfold enc
  split
  · simp
  · rename_i h0
    have := (nb_bounds n (by omega) h).2
    simp [be_length]; omega
/-- The bits of a whole number with its highest bit turned. -/
def tn (n : Int) : Nat := (n + 9223372036854775808).toNat
theorem xor_low (a : Nat) (h : a < 2 ^ 63) : a ^^^ 2 ^ 63 = 2 ^ 63 + a := by
  apply Nat.eq_of_testBit_eq
  intro i
  rw [Nat.testBit_xor, Nat.testBit_two_pow]
  by_cases h1 : i = 63
  · subst h1
    rw [Nat.testBit_two_pow_add_eq]
    simp
  · by_cases h2 : i < 63
    · rw [Nat.testBit_two_pow_add_gt h2]
      have : ¬ 63 = i := by omega
      simp [this]
    · have p : 2 ^ 64 ≤ 2 ^ i := Nat.pow_le_pow_right (by decide) (by omega)
      rw [Nat.testBit_lt_two_pow (by omega), Nat.testBit_lt_two_pow (by omega)]
      have : ¬ 63 = i := by omega
      simp [this]
theorem xor_high (a : Nat) (h : a < 2 ^ 63) : (2 ^ 63 + a) ^^^ 2 ^ 63 = a := by
  rw [← xor_low a h, Nat.xor_assoc, Nat.xor_self, Nat.xor_zero]
theorem turn_top (n : Int) (h : (Lit.int .i64 n).wf = true) : bits BinOp.xor IntKind.u64 (IntKind.u64.wrap n) 9223372036854775808 = (tn n : Nat) := by
  simp only [Lit.wf, IntKind.min, IntKind.max, IntKind.signed, IntKind.bits, Bool.and_eq_true, decide_eq_true_eq, if_true] at h
  rw [IntKind.wrap_u64, u64_xor _ _ (by omega) (by omega) (by omega) (by omega)]
  unfold tn
  have e : (9223372036854775808 : Int).toNat = 2 ^ 63 := by decide +kernel
  rw [e]
  by_cases h0 : 0 ≤ n
  · have e1 : (n % 18446744073709551616).toNat = n.toNat := by omega
    rw [e1, xor_low _ (by omega)]
    omega
  · have e1 : (n % 18446744073709551616).toNat = 2 ^ 63 + (n + 9223372036854775808).toNat := by omega
    rw [e1, xor_high _ (by omega)]
/-- A flag's byte. -/
def fb (y : Bool) : UInt8 := if y then 1 else 0
end Go.Proofs.Ytmcbgfcpalfcjaa
