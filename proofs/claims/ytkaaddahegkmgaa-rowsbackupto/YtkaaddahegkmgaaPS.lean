/- The contracts of the reference's bytes, Num, Int, Bits, Flag: what stands behind any bytes. Condition: these have at most 2^46 bytes. -/
import Derived.Test.YtkaaddahegkmgaaPR
import Derived.Test.YtkaaddahegkmgaaPR
namespace Go.Proofs.Ytkaaddahegkmgaa
open Go.ChangeShapes Go.WideShapes Go.ChangeAt Go.RowKit
theorem bl_lt (n : Nat) : n < 2 ^ bl n := by
  unfold bl
  split
  · subst_vars; simp
  · exact Nat.lt_log2_self
theorem bl_ge (n : Nat) (h : n ≠ 0) : 2 ^ (bl n - 1) ≤ n := by
  unfold bl
  rw [if_neg h]
  exact Nat.log2_self_le h
theorem nb_lt (n : Nat) : n < 2 ^ (8 * nb n) := by
  have h := bl_lt n
  have h2 : bl n ≤ 8 * nb n := by unfold nb; omega
  exact Nat.lt_of_lt_of_le h (Nat.pow_le_pow_right (by decide) h2)
theorem nb_ge (n : Nat) (h : n ≠ 0) : 2 ^ (8 * (nb n - 1)) ≤ n := by
  have h1 := bl_ge n h
  have h2 : 8 * (nb n - 1) ≤ bl n - 1 := by unfold nb; omega
  exact Nat.le_trans (Nat.pow_le_pow_right (by decide) h2) h1
theorem nb_less (n m : Nat) (hm : m ≠ 0) (h : nb n < nb m) : n < m := by
  have h1 := nb_lt n
  have h2 := nb_ge m hm
  have h3 : (2 : Nat) ^ (8 * nb n) ≤ 2 ^ (8 * (nb m - 1)) := Nat.pow_le_pow_right (by decide) (by omega)
  omega
theorem nb_of (x j : Nat) (h1 : x / 256 ^ j = 0) (h2 : j = 0 ∨ 0 < x / 256 ^ (j - 1)) : j = nb x := by
  have hp : 0 < 256 ^ j := Nat.pow_pos (by decide)
  have hx : x < 256 ^ j := by
    rcases Nat.lt_or_ge x (256 ^ j) with h | h
    · exact h
    · have := Nat.div_pos h hp; omega
  have a1 := nb_lt x
  rw [← pow_256] at a1
  by_cases h0 : x = 0
  · subst h0
    rcases h2 with h2 | h2
    · subst h2; decide
    · rw [Nat.zero_div] at h2; omega
  · have a2 := nb_ge x h0
    rw [← pow_256] at a2
    rcases Nat.lt_trichotomy j (nb x) with h | h | h
    · have : (256 : Nat) ^ j ≤ 256 ^ (nb x - 1) := Nat.pow_le_pow_right (by decide) (by omega)
      omega
    · exact h
    · rcases h2 with h2 | h2
      · omega
      · have h3 : (256 : Nat) ^ nb x ≤ 256 ^ (j - 1) := Nat.pow_le_pow_right (by decide) (by omega)
        have := Nat.div_eq_of_lt (Nat.lt_of_lt_of_le a1 h3)
        omega
theorem own_snoc {B : Nat} {w : World} {v : Value} {l : List UInt8} {b : UInt8} (h : w.ownsRow B 5 1 v (l.length + 1) (bval l ++ bval [b])) : Own B w v (l ++ [b]) := by
  show w.ownsRow B 5 1 v _ _
  have e1 : (l ++ [b]).length = l.length + 1 := by simp
  have e2 : bval (l ++ [b]) = bval l ++ bval [b] := by simp [bval]
  rw [e1, e2]
  exact h
/-- What the reference's writers leave: the bytes l, in memory of their own. -/
def RB (w : World) (l : List UInt8) (e : Ending) (w' : World) : Prop := ∃ v', e = .returned v' ∧ Own w.heap.size w' v' l ∧ Below w.heap.size w w'
end Go.Proofs.Ytkaaddahegkmgaa
