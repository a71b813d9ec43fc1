/- The bytes of two numbers stand as the numbers do (plain facts). Condition: the numbers are below 2^63. -/
import Derived.Test.YtdgnpllbdjjiiaaC
namespace Go.Proofs.Ytdgnpllbdjjiiaa
theorem bl_lt (n : Nat) : n < 2 ^ bl n := by
  unfold bl
  split
  · subst_vars; simp
  · exact Nat.lt_log2_self
theorem bl_ge (n : Nat) (h : n ≠ 0) : 2 ^ (bl n - 1) ≤ n := by
  unfold bl
  rw [if_neg h]
  exact Nat.log2_self_le h
theorem nb_lt (n : Nat) : n < 2 ^ (8 * nb n) := by
  have h := bl_lt n
  have h2 : bl n ≤ 8 * nb n := by unfold nb; omega
  exact Nat.lt_of_lt_of_le h (Nat.pow_le_pow_right (by decide) h2)
theorem nb_ge (n : Nat) (h : n ≠ 0) : 2 ^ (8 * (nb n - 1)) ≤ n := by
  have h1 := bl_ge n h
  have h2 : 8 * (nb n - 1) ≤ bl n - 1 := by unfold nb; omega
  exact Nat.le_trans (Nat.pow_le_pow_right (by decide) h2) h1
theorem nb_less (n m : Nat) (hm : m ≠ 0) (h : nb n < nb m) : n < m := by
  have h1 := nb_lt n
  have h2 := nb_ge m hm
  have h3 : (2 : Nat) ^ (8 * nb n) ≤ 2 ^ (8 * (nb m - 1)) := Nat.pow_le_pow_right (by decide) (by omega)
  omega
theorem cmp_cons (a b : Nat) (x y : List UInt8) (ha : a < 256) (hb : b < 256) :
    Lib.compareBytes (UInt8.ofNat a :: x) (UInt8.ofNat b :: y) = if a < b then -1 else if b < a then 1 else Lib.compareBytes x y := by
  rw [Lib.compareBytes]
  simp only [byte_lt a b ha hb, byte_lt b a hb ha]
theorem enc_cmp (n m : Nat) (hn : n < 9223372036854775808) (hm : m < 9223372036854775808) : Lib.compareBytes (enc n) (enc m) = cp n m := by
  unfold enc
  by_cases h1 : n < 240
  · by_cases h2 : m < 240
    · rw [if_pos h1, if_pos h2, cmp_cons n m _ _ (by omega) (by omega)]
      unfold cp Lib.compareBytes
      by_cases a : n < m
      · rw [if_pos a, if_pos (by omega)]
      · by_cases b : m < n
        · rw [if_neg a, if_pos b, if_neg (by omega), if_pos (by omega)]
        · rw [if_neg a, if_neg b, if_neg (by omega), if_neg (by omega)]
    · have := nb_bounds m (by omega) hm
      rw [if_pos h1, if_neg h2, cmp_cons n _ _ _ (by omega) (by omega), if_pos (by omega)]
      unfold cp
      rw [if_pos (by omega)]
  · have b1 := nb_bounds n (by omega) hn
    by_cases h2 : m < 240
    · rw [if_neg h1, if_pos h2, cmp_cons _ m _ _ (by omega) (by omega), if_neg (by omega), if_pos (by omega)]
      unfold cp
      rw [if_neg (by omega), if_pos (by omega)]
    · have b2 := nb_bounds m (by omega) hm
      rw [if_neg h1, if_neg h2, cmp_cons _ _ _ _ (by omega) (by omega)]
      by_cases a : nb n < nb m
      · have := nb_less n m (by omega) a
        rw [if_pos (by omega)]
        unfold cp
        rw [if_pos (by omega)]
      · by_cases b : nb m < nb n
        · have := nb_less m n (by omega) b
          rw [if_neg (by omega), if_pos (by omega)]
          unfold cp
          rw [if_neg (by omega), if_pos (by omega)]
        · have e : nb n = nb m := by omega
          rw [if_neg (by omega), if_neg (by omega), e]
          exact be_cmp _ n m (by rw [← e]; exact nb_lt n) (nb_lt m)
theorem tn_cmp (n m : Int) (hn : (Lit.int .i64 n).wf = true) (hm : (Lit.int .i64 m).wf = true) : Lib.compareBytes (be (tn n) 8) (be (tn m) 8) = cp n m := by
  simp only [Lit.wf, IntKind.min, IntKind.max, IntKind.signed, IntKind.bits, Bool.and_eq_true, decide_eq_true_eq, if_true] at hn hm
  rw [be_cmp 8 _ _ (by unfold tn; omega) (by unfold tn; omega)]
  unfold cp tn
  by_cases a : n < m
  · rw [if_pos a, if_pos (by omega)]
  · by_cases b : m < n
    · rw [if_neg a, if_pos b, if_neg (by omega), if_pos (by omega)]
    · rw [if_neg a, if_neg b, if_neg (by omega), if_neg (by omega)]
end Go.Proofs.Ytdgnpllbdjjiiaa
