/- Plain facts on words of double precision: the order of two words is that of their rungs with their signs. No condition. -/
import Derived.Laws.FloatArith
namespace Go.Proofs.Ytjmonkhkcmcfiaa.FM
open Ieee

theorem c_sign : double.signWeight = 9223372036854775808 := by decide +kernel
theorem c_bin : double.binade = 4503599627370496 := by decide +kernel
theorem c_inf : double.infRung = 9218868437227405312 := by decide +kernel
theorem c_least : double.leastPlace = -1074 := by decide +kernel

/-- A magnitude's significand and exponent by its rung. -/
def mg (r : Nat) : Nat := if r < 4503599627370496 then r else 4503599627370496 + r % 4503599627370496
def ex (r : Nat) : Nat := r / 4503599627370496 - 1
def val (r : Nat) : Nat := mg r * 2 ^ ex r

def isN (x : Nat) : Bool := decide (9218868437227405312 < x % 9223372036854775808)
def neg (x : Nat) : Bool := x / 9223372036854775808 % 2 == 1
def rg (x : Nat) : Nat := x % 9223372036854775808
def key (x : Nat) : Int := if neg x then -(rg x : Int) else (rg x : Int)

theorem read_eq (x : Nat) : double.read x = if isN x then .nan (neg x) (rg x - 9218868437227405312) else if rg x = 9218868437227405312 then .infinity (neg x) else .number (neg x) (mg (rg x)) (-1074 + (ex (rg x) : Int)) := by
  unfold Format.read
  rw [c_sign, c_bin, c_inf, c_least]
  dsimp only
  have er : x % 9223372036854775808 = rg x := rfl
  rw [er]
  by_cases h1 : rg x < 4503599627370496
  · have hn : isN x = false := by unfold isN; unfold rg at h1; simp; omega
    have e0 : ex (rg x) = 0 := by unfold ex; omega
    have hm : mg (rg x) = rg x := by unfold mg; rw [if_pos h1]
    have hne : ¬ rg x = 9218868437227405312 := by omega
    rw [if_pos h1, if_neg (by rw [hn]; simp), if_neg hne, e0, hm]
    simp [neg]
  · by_cases h2 : rg x < 9218868437227405312
    · have hn : isN x = false := by unfold isN; unfold rg at h2; simp; omega
      have hm : mg (rg x) = 4503599627370496 + rg x % 4503599627370496 := by unfold mg; rw [if_neg h1]
      have hne : ¬ rg x = 9218868437227405312 := by omega
      rw [if_neg h1, if_pos h2, if_neg (by rw [hn]; simp), if_neg hne, hm]
      simp [neg, ex]
    · by_cases h3 : rg x = 9218868437227405312
      · have hn : isN x = false := by unfold isN; unfold rg at h3; simp; omega
        rw [if_neg h1, if_neg h2, if_pos h3]
        simp [hn, h3, neg]
      · have hn : isN x = true := by unfold isN; unfold rg at h2 h3; simp; omega
        rw [if_neg h1, if_neg h2, if_neg h3]
        simp [hn, neg, rg]

theorem val_zero : val 0 = 0 := by decide +kernel

theorem val_mono {r s : Nat} (h : r < s) : val r < val s := by
  unfold val mg ex
  by_cases h1 : r < 4503599627370496
  · have e1 : r / 4503599627370496 - 1 = 0 := by omega
    rw [if_pos h1, e1]
    by_cases h2 : s < 4503599627370496
    · have e2 : s / 4503599627370496 - 1 = 0 := by omega
      rw [if_pos h2, e2]; simpa using h
    · rw [if_neg h2]
      have hp : 1 ≤ 2 ^ (s / 4503599627370496 - 1) := Nat.one_le_two_pow
      have := Nat.mul_le_mul (show 4503599627370496 ≤ 4503599627370496 + s % 4503599627370496 by omega) hp
      omega
  · have h2 : ¬ s < 4503599627370496 := by omega
    rw [if_neg h1, if_neg h2]
    by_cases hq : r / 4503599627370496 = s / 4503599627370496
    · rw [hq]
      exact Nat.mul_lt_mul_of_pos_right (by omega) (Nat.two_pow_pos _)
    · have hlt : r / 4503599627370496 < s / 4503599627370496 := by omega
      obtain ⟨d, hd⟩ : ∃ d, s / 4503599627370496 - 1 = (r / 4503599627370496 - 1) + 1 + d := ⟨s / 4503599627370496 - 1 - (r / 4503599627370496 - 1) - 1, by omega⟩
      rw [hd, Nat.pow_add, Nat.pow_succ]
      generalize hP : 2 ^ (r / 4503599627370496 - 1) = P
      have hP0 : 0 < P := by rw [← hP]; exact Nat.two_pow_pos _
      have hd1 : 1 ≤ 2 ^ d := Nat.one_le_two_pow
      have a1 : (4503599627370496 + r % 4503599627370496) * P < (2 * 4503599627370496) * P := Nat.mul_lt_mul_of_pos_right (by omega) hP0
      have a2 : 4503599627370496 * (P * 2 * 1) ≤ (4503599627370496 + s % 4503599627370496) * (P * 2 * 2 ^ d) := Nat.mul_le_mul (by omega) (Nat.mul_le_mul (Nat.le_refl _) hd1)
      omega

theorem val_lt_iff {r s : Nat} : val r < val s ↔ r < s := by
  constructor
  · intro h
    by_cases c : r < s
    · exact c
    · by_cases e : r = s
      · subst e; omega
      · have := val_mono (show s < r by omega); omega
  · exact val_mono

theorem val_inj {r s : Nat} (h : val r = val s) : r = s := by
  by_cases c : r < s
  · have := val_mono c; omega
  · by_cases e : r = s
    · exact e
    · have := val_mono (show s < r by omega); omega

theorem cmp_lt {a b : Int} (h : a < b) : compare a b = .lt := by
  show compareOfLessAndEq a b = .lt
  simp [compareOfLessAndEq, h]
theorem cmp_eq {a b : Int} (h : a = b) : compare a b = .eq := by
  show compareOfLessAndEq a b = .eq
  subst h
  simp [compareOfLessAndEq]
theorem cmp_gt {a b : Int} (h : b < a) : compare a b = .gt := by
  show compareOfLessAndEq a b = .gt
  have h1 : ¬ a < b := by omega
  have h2 : ¬ a = b := by omega
  simp [compareOfLessAndEq, h1, h2]

theorem cmp_same {a b c d : Int} (h1 : a < b ↔ c < d) (h2 : b < a ↔ d < c) : compare a b = compare c d := by
  by_cases x : a < b
  · rw [cmp_lt x, cmp_lt (h1.1 x)]
  · by_cases y : b < a
    · rw [cmp_gt y, cmp_gt (h2.1 y)]
    · have x' := fun h => x (h1.2 h)
      have y' := fun h => y (h2.2 h)
      rw [cmp_eq (show a = b by omega), cmp_eq (show c = d by omega)]

theorem signed_eq (s : Bool) (m k : Nat) : signed s m k = if s then -((m * 2 ^ k : Nat) : Int) else ((m * 2 ^ k : Nat) : Int) := by
  unfold signed
  rw [Nat.shiftLeft_eq]

theorem scale_lt (a b k : Nat) : a * 2 ^ k < b * 2 ^ k ↔ a < b := Nat.mul_lt_mul_right (Nat.two_pow_pos _)

theorem cmp_num (s t : Bool) (a b : Nat) :
    compare (signed s (mg a) ((-1074 + (ex a : Int)) - min (-1074 + (ex a : Int)) (-1074 + (ex b : Int))).toNat) (signed t (mg b) ((-1074 + (ex b : Int)) - min (-1074 + (ex a : Int)) (-1074 + (ex b : Int))).toNat)
    = compare (if s then -(a : Int) else a) (if t then -(b : Int) else b) := by
  rw [signed_eq, signed_eq]
  have ea : ((-1074 + (ex a : Int)) - min (-1074 + (ex a : Int)) (-1074 + (ex b : Int))).toNat = ex a - min (ex a) (ex b) := by omega
  have eb : ((-1074 + (ex b : Int)) - min (-1074 + (ex a : Int)) (-1074 + (ex b : Int))).toNat = ex b - min (ex a) (ex b) := by omega
  rw [ea, eb]
  generalize hK : min (ex a) (ex b) = K
  have va : val a = mg a * 2 ^ (ex a - K) * 2 ^ K := by
    unfold val; rw [Nat.mul_assoc, ← Nat.pow_add]; congr 2; omega
  have vb : val b = mg b * 2 ^ (ex b - K) * 2 ^ K := by
    unfold val; rw [Nat.mul_assoc, ← Nat.pow_add]; congr 2; omega
  generalize mg a * 2 ^ (ex a - K) = A at va
  generalize mg b * 2 ^ (ex b - K) = B at vb
  have l1 : A < B ↔ a < b := by rw [← val_lt_iff (r := a), va, vb, scale_lt]
  have l2 : B < A ↔ b < a := by rw [← val_lt_iff (r := b), va, vb, scale_lt]
  have za : 0 < A ↔ 0 < a := by
    rw [← val_lt_iff (s := a), va, val_zero]
    constructor
    · intro h; exact Nat.mul_pos h (Nat.two_pow_pos _)
    · intro h; exact Nat.pos_of_mul_pos_right h
  have zb : 0 < B ↔ 0 < b := by
    rw [← val_lt_iff (s := b), vb, val_zero]
    constructor
    · intro h; exact Nat.mul_pos h (Nat.two_pow_pos _)
    · intro h; exact Nat.pos_of_mul_pos_right h
  clear va vb hK ea eb
  cases s <;> cases t <;> (refine cmp_same ?_ ?_ <;> simp only [Bool.false_eq_true, if_true, if_false] <;> omega)

/-- THE ORDER OF TWO WORDS: none where one is a NaN; else that of their rungs with their signs. -/
theorem order_eq (x y : Nat) : double.order x y = if isN x || isN y then none else some (compare (key x) (key y)) := by
  unfold Format.order
  rw [read_eq, read_eq]
  by_cases hx : isN x = true
  · rw [if_pos hx]; simp [hx, Datum.order]
  · rw [if_neg hx]
    by_cases hy : isN y = true
    · rw [if_pos hy]
      simp only [hy, Bool.or_true, if_true]
      split <;> rfl
    · rw [if_neg hy]
      have hx' : isN x = false := by simpa using hx
      have hy' : isN y = false := by simpa using hy
      have bx : rg x ≤ 9218868437227405312 := by unfold isN at hx'; unfold rg; simp at hx'; omega
      have byy : rg y ≤ 9218868437227405312 := by unfold isN at hy'; unfold rg; simp at hy'; omega
      simp only [hx', hy', Bool.or_self, Bool.false_eq_true, if_false]
      by_cases ix : rg x = 9218868437227405312
      · rw [if_pos ix]
        by_cases iy : rg y = 9218868437227405312
        · rw [if_pos iy]
          simp only [Datum.order, key, ix, iy]
          cases neg x <;> cases neg y <;> decide +kernel
        · rw [if_neg iy]
          simp only [Datum.order, key, ix]
          cases neg x <;> cases neg y <;> simp only [Bool.false_eq_true, if_true, if_false] <;> first | (rw [cmp_lt]; omega) | (rw [cmp_gt]; omega)
      · rw [if_neg ix]
        by_cases iy : rg y = 9218868437227405312
        · rw [if_pos iy]
          simp only [Datum.order, key, iy]
          cases neg x <;> cases neg y <;> simp only [Bool.false_eq_true, if_true, if_false] <;> first | (rw [cmp_lt]; omega) | (rw [cmp_gt]; omega)
        · rw [if_neg iy]
          simp only [Datum.order, key]
          rw [cmp_num]
end Go.Proofs.Ytjmonkhkcmcfiaa.FM
