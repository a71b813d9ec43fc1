/- The answers of Order and of its reference are both the order of one key, a whole number; plain facts. Condition: the words fit 64 bits. -/
import Derived.Test.YteigemeeoldadabT2
namespace Go.Proofs.Yteigemeeoldadab
open FM
theorem parts (x : Nat) (h : x < 18446744073709551616) : (neg x = true ∧ x = 9223372036854775808 + rg x) ∨ (neg x = false ∧ x = rg x) := by
  unfold neg rg
  by_cases c : x < 9223372036854775808
  · have e : x / 9223372036854775808 % 2 = 0 := by omega
    right; rw [e]; exact ⟨rfl, by omega⟩
  · have e : x / 9223372036854775808 % 2 = 1 := by omega
    left; rw [e]; exact ⟨rfl, by omega⟩
theorem rg_le (x : Nat) (h : isN x = false) : rg x ≤ 9218868437227405312 := by
  unfold isN at h; unfold rg; simp at h; omega
theorem key_zero : key 0 = 0 := by decide +kernel
theorem isN_zero : isN 0 = false := by decide +kernel
theorem isN_cn (x : Nat) : isN (cn x) = isN x := by
  unfold cn
  cases h : isN x
  · simp [h]
  · simp; decide +kernel
end Go.Proofs.Yteigemeeoldadab
