/- The bytes of two numbers stand as the numbers do (plain facts). Condition: the numbers are below 2^63. -/
import Derived.Test.YtlpfdilnoglgcaaPV
namespace Go.Proofs.Ytlpfdilnoglgcaa
theorem bl_lt (n : Nat) : n < 2 ^ bl n := by
  unfold bl
  split
  · subst_vars; simp
  · exact Nat.lt_log2_self
theorem bl_ge (n : Nat) (h : n ≠ 0) : 2 ^ (bl n - 1) ≤ n := by
  unfold bl
  rw [if_neg h]
  exact Nat.log2_self_le h
theorem nb_lt (n : Nat) : n < 2 ^ (8 * nb n) := by
  have h := bl_lt n
  have h2 : bl n ≤ 8 * nb n := by unfold nb; omega
  exact Nat.lt_of_lt_of_le h (Nat.pow_le_pow_right (by decide) h2)
theorem nb_ge (n : Nat) (h : n ≠ 0) : 2 ^ (8 * (nb n - 1)) ≤ n := by
  have h1 := bl_ge n h
  have h2 : 8 * (nb n - 1) ≤ bl n - 1 := by unfold nb; omega
  exact Nat.le_trans (Nat.pow_le_pow_right (by decide) h2) h1
theorem nb_less (n m : Nat) (hm : m ≠ 0) (h : nb n < nb m) : n < m := by
  have h1 := nb_lt n
  have h2 := nb_ge m hm
  have h3 : (2 : Nat) ^ (8 * nb n) ≤ 2 ^ (8 * (nb m - 1)) := Nat.pow_le_pow_right (by decide) (by omega)
  omega
end Go.Proofs.Ytlpfdilnoglgcaa
