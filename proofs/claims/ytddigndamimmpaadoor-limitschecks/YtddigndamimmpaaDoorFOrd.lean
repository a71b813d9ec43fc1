/- The answers of Order and of its reference are both the order of one key, a whole number; plain facts. Condition: the words fit 64 bits. -/
import Derived.Test.YtddigndamimmpaaDoorFT2
namespace Go.Proofs.YtddigndamimmpaaDoor
open FM
/-- Where a word stands in the order. -/
def tk (x : Nat) : Int := if isN x then 9223372036854775808 else if neg x then -(rg x : Int) - 1 else (rg x : Int)
def cmp3 (p q : Int) : Int := if p = q then 0 else if p < q then -1 else 1
theorem parts (x : Nat) (h : x < 18446744073709551616) : (neg x = true ∧ x = 9223372036854775808 + rg x) ∨ (neg x = false ∧ x = rg x) := by
  unfold neg rg
  by_cases c : x < 9223372036854775808
  · have e : x / 9223372036854775808 % 2 = 0 := by omega
    right; rw [e]; exact ⟨rfl, by omega⟩
  · have e : x / 9223372036854775808 % 2 = 1 := by omega
    left; rw [e]; exact ⟨rfl, by omega⟩
theorem rg_le (x : Nat) (h : isN x = false) : rg x ≤ 9218868437227405312 := by
  unfold isN at h; unfold rg; simp at h; omega
theorem key_zero : key 0 = 0 := by decide +kernel
theorem isN_zero : isN 0 = false := by decide +kernel
theorem isN_cn (x : Nat) : isN (cn x) = isN x := by
  unfold cn
  cases h : isN x
  · simp [h]
  · simp; decide +kernel
theorem oc_eq (a b : Nat) (ha : a < 18446744073709551616) (hb : b < 18446744073709551616) : oc a b = cmp3 (tk a) (tk b) := by
  unfold oc cmp3 tk sb
  rw [isN_cn, isN_cn]
  have pa := parts a ha
  have pb := parts b hb
  cases h1 : isN a <;> cases h2 : isN b
  · have ra := rg_le a h1
    have rb := rg_le b h2
    have ca : cn a = a := by simp [cn, h1]
    have cb : cn b = b := by simp [cn, h2]
    rw [ca, cb]
    unfold fEq fLt key
    rw [h1, h2]
    simp only [Bool.not_false, Bool.true_and, Bool.false_eq_true, if_false, beq_iff_eq, decide_eq_true_eq]
    rcases pa with ⟨na, ea⟩ | ⟨na, ea⟩ <;> rcases pb with ⟨nb, eb⟩ | ⟨nb, eb⟩ <;> rw [na, nb] <;> simp only [Bool.false_eq_true, if_false, if_true] <;> (repeat' split) <;> first | omega | (simp only [decide_eq_true_eq] at *; omega) | contradiction
  · have ra := rg_le a h1
    have ca : cn a = a := by simp [cn, h1]
    have cb : cn b = 9221120237041090560 := by simp [cn, h2]
    have hne : ¬ a = 9221120237041090560 := by intro e; rw [e] at h1; revert h1; decide +kernel
    rw [ca, cb]
    simp only [Bool.false_eq_true, if_false, if_true, beq_iff_eq]
    (repeat' split) <;> omega
  · have rb := rg_le b h2
    have ca : cn a = 9221120237041090560 := by simp [cn, h1]
    have cb : cn b = b := by simp [cn, h2]
    have hne : ¬ b = 9221120237041090560 := by intro e; rw [e] at h2; revert h2; decide +kernel
    rw [ca, cb]
    simp only [Bool.false_eq_true, if_false, if_true, beq_iff_eq]
    (repeat' split) <;> omega
  · have ca : cn a = 9221120237041090560 := by simp [cn, h1]
    have cb : cn b = 9221120237041090560 := by simp [cn, h2]
    rw [ca, cb]
    simp
theorem ro_eq (a b : Nat) (ha : a < 18446744073709551616) (hb : b < 18446744073709551616) : ro a b = cmp3 (tk a) (tk b) := by
  unfold ro cmp3 tk
  have pa := parts a ha
  have pb := parts b hb
  cases h1 : isN a <;> cases h2 : isN b
  · have ra := rg_le a h1
    have rb := rg_le b h2
    unfold fEq fLt
    rw [h1, h2, key_zero, isN_zero]
    unfold key
    simp only [Bool.not_false, Bool.true_and, Bool.false_eq_true, if_false, Bool.and_eq_true, decide_eq_true_eq]
    rcases pa with ⟨na, ea⟩ | ⟨na, ea⟩ <;> rcases pb with ⟨nb, eb⟩ | ⟨nb, eb⟩ <;> rw [na, nb] <;> simp only [Bool.false_eq_true, if_false, if_true] <;> (repeat' split) <;> omega
  · have ra := rg_le a h1
    simp only [Bool.false_eq_true, if_false, if_true]
    (repeat' split) <;> omega
  · have rb := rg_le b h2
    simp only [Bool.false_eq_true, if_false, if_true]
    (repeat' split) <;> omega
  · simp
theorem cn_eq (a b : Nat) (ha : a < 18446744073709551616) (hb : b < 18446744073709551616) : cn a = cn b ↔ tk a = tk b := by
  unfold cn tk
  have pa := parts a ha
  have pb := parts b hb
  cases h1 : isN a <;> cases h2 : isN b
  · have ra := rg_le a h1
    have rb := rg_le b h2
    rcases pa with ⟨na, ea⟩ | ⟨na, ea⟩ <;> rcases pb with ⟨nb, eb⟩ | ⟨nb, eb⟩ <;> rw [na, nb] <;> simp only [Bool.false_eq_true, if_false, if_true] <;> omega
  · have ra := rg_le a h1
    have hne : ¬ a = 9221120237041090560 := by intro e; rw [e] at h1; revert h1; decide +kernel
    simp only [Bool.false_eq_true, if_false, if_true]
    (repeat' split) <;> omega
  · have rb := rg_le b h2
    have hne : ¬ b = 9221120237041090560 := by intro e; rw [e] at h2; revert h2; decide +kernel
    simp only [Bool.false_eq_true, if_false, if_true]
    (repeat' split) <;> omega
  · simp
theorem fLt_eq (a b : Nat) (h1 : isN a = false) (h2 : isN b = false) : fLt a b = (decide (cmp3 (tk a) (tk b) < 0) && !(isZ a && isZ b)) := by
  have ra := rg_le a h1
  have rb := rg_le b h2
  unfold fLt cmp3 tk key isZ
  rw [h1, h2]
  simp only [Bool.not_false, Bool.true_and, Bool.false_eq_true, if_false]
  rw [Bool.eq_iff_iff]
  simp only [decide_eq_true_eq, Bool.and_eq_true, Bool.not_eq_true', Bool.and_eq_false_iff, decide_eq_false_iff_not]
  cases neg a <;> cases neg b <;> simp only [Bool.false_eq_true, if_false, if_true] <;> (repeat' split) <;> omega
/-- The order of two words: -1, 0 or 1. -/
def od (a b : Nat) : Int := cmp3 (tk a) (tk b)
theorem od_three (a b : Nat) : od a b = -1 ∨ od a b = 0 ∨ od a b = 1 := by
  unfold od cmp3; (repeat' split) <;> simp
theorem od_turn (a b : Nat) : od b a = -(od a b) := by
  unfold od cmp3; (repeat' split) <;> omega
theorem od_trans (a b c : Nat) (h1 : od a b ≤ 0) (h2 : od b c ≤ 0) : od a c ≤ 0 ∧ (od a b < 0 → od a c < 0) ∧ (od b c < 0 → od a c < 0) ∧ (od a b = 0 → od b c = 0 → od a c = 0) := by
  unfold od cmp3 at *
  refine ⟨?_, ?_, ?_, ?_⟩ <;> (repeat' split at *) <;> (repeat' split) <;> omega
theorem od_canon (a b : Nat) (ha : a < 18446744073709551616) (hb : b < 18446744073709551616) : ((cn a : Int) == (cn b : Int)) = (od a b == 0) := by
  have h := cn_eq a b ha hb
  rw [Bool.eq_iff_iff, beq_iff_eq, beq_iff_eq]
  unfold od cmp3
  constructor
  · intro e; rw [if_pos (h.1 (by omega))]
  · intro e
    have : tk a = tk b := by revert e; (repeat' split) <;> simp_all
    exact congrArg _ (h.2 this)
theorem less_od (a b : Nat) (h1 : isN a = false) (h2 : isN b = false) : fLt a b = (decide (od a b < 0) && !(isZ a && isZ b)) := fLt_eq a b h1 h2
end Go.Proofs.YtddigndamimmpaaDoor
