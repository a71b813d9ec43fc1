/- Plain facts: a product with a factor of at least 1 is no less; the whole number below a float rises with it. -/
import Derived.Test.YtmcbgfcpalfcjaaFTu
namespace Go.Proofs.Ytmcbgfcpalfcjaa
open FM
theorem rung_eq (r : Nat) : r = ex r * 4503599627370496 + mg r := by
  unfold ex mg
  split <;> omega
theorem mg_big (r : Nat) (h : 1 ≤ ex r) : 4503599627370496 ≤ mg r := by
  unfold ex at h; unfold mg
  split <;> omega
theorem cut_ge (n d : Nat) : n / 2 ^ d ≤ Ieee.Toward.even.cut false n d := by
  unfold Ieee.Toward.cut
  dsimp only
  refine Nat.le_trans ?_ (Nat.le_add_right _ _)
  rw [Nat.one_shiftLeft]
  by_cases h : d ≤ n.log2 + 2
  · rw [Nat.min_eq_left h]; exact Nat.le_refl _
  · have hn : n < 2 ^ d := Nat.lt_of_lt_of_le Nat.lt_log2_self (Nat.pow_le_pow_right (by decide) (by omega))
    rw [Nat.div_eq_of_lt hn]; exact Nat.zero_le _
/-- The nearest word of a number that is no less than that of the rung a is no less than a. -/
theorem near_ge (a M q : Nat) (ha : a < 9218868437227405312) (hM : 0 < M) (h : mg a * 2 ^ (ex a + 1074) ≤ M * 2 ^ q) :
    a ≤ Ieee.double.nearest false M (-2148 + (q : Int)) ∧ Ieee.double.nearest false M (-2148 + (q : Int)) ≤ 9218868437227405312 := by
  unfold Ieee.Format.nearest
  rw [if_neg (by omega)]
  dsimp only
  unfold Ieee.Format.word
  simp only [Bool.false_eq_true, if_false]
  rw [c_least, c_inf, c_bin]
  have hf : (Ieee.double.fractionBits : Int) = 52 := rfl
  rw [hf]
  generalize hlast : max (-2148 + (q : Int) + (M.log2 : Int) - 52) (-1074) = last
  obtain ⟨L, hL⟩ : ∃ L : Nat, last = (L : Int) - 1074 := ⟨(last + 1074).toNat, by omega⟩
  have e1 : (last - -1074).toNat = L := by omega
  rw [e1]
  refine ⟨?_, Nat.min_le_right _ _⟩
  refine Nat.le_min.2 ⟨?_, by omega⟩
  generalize hk : Ieee.Toward.even.cut false (M <<< (-2148 + (q : Int) - last).toNat) (last - (-2148 + (q : Int))).toNat = kept
  have hkg : (M <<< (-2148 + (q : Int) - last).toNat) / 2 ^ (last - (-2148 + (q : Int))).toNat ≤ kept := by rw [← hk]; exact cut_ge _ _
  rw [Nat.shiftLeft_eq] at hkg
  have m1 : 2 ^ M.log2 ≤ M := Nat.log2_self_le (by omega)
  have m2 : M < 2 ^ (M.log2 + 1) := Nat.lt_log2_self
  have hr := rung_eq a
  have hg := mg_lt a
  rcases Nat.lt_trichotomy (ex a) L with hlt | heq | hgt
  · -- the last digit stands higher: what is kept has all its digits
    have hl : last = -2148 + (q : Int) + (M.log2 : Int) - 52 := by omega
    have k52 : 4503599627370496 ≤ kept := by
      refine Nat.le_trans ?_ hkg
      by_cases c : M.log2 ≤ 52
      · have s1 : (-2148 + (q : Int) - last).toNat = 52 - M.log2 := by omega
        have s2 : (last - (-2148 + (q : Int))).toNat = 0 := by omega
        rw [s1, s2, Nat.pow_zero, Nat.div_one]
        have := Nat.mul_le_mul_right (2 ^ (52 - M.log2)) m1
        rw [← Nat.pow_add, show M.log2 + (52 - M.log2) = 52 by omega] at this
        exact this
      · have s1 : (-2148 + (q : Int) - last).toNat = 0 := by omega
        have s2 : (last - (-2148 + (q : Int))).toNat = M.log2 - 52 := by omega
        rw [s1, s2, Nat.pow_zero, Nat.mul_one, Nat.le_div_iff_mul_le (Nat.two_pow_pos _)]
        refine Nat.le_trans ?_ m1
        have : (4503599627370496 : Nat) = 2 ^ 52 := by decide
        rw [this, ← Nat.pow_add, show 52 + (M.log2 - 52) = M.log2 by omega]
        exact Nat.le_refl _
    have hm : ex a * 4503599627370496 + 4503599627370496 ≤ L * 4503599627370496 := by
      have := Nat.mul_le_mul_right 4503599627370496 (show ex a + 1 ≤ L from hlt)
      omega
    omega
  · have hq : mg a ≤ kept := by
      refine Nat.le_trans ?_ hkg
      rw [Nat.le_div_iff_mul_le (Nat.two_pow_pos _)]
      by_cases c : 1074 + L ≤ q
      · have s1 : (-2148 + (q : Int) - last).toNat = q - (1074 + L) := by omega
        have s2 : (last - (-2148 + (q : Int))).toNat = 0 := by omega
        rw [s1, s2, Nat.pow_zero, Nat.mul_one]
        refine Nat.le_of_mul_le_mul_right ?_ (Nat.two_pow_pos (1074 + L))
        rw [Nat.mul_assoc, ← Nat.pow_add, show q - (1074 + L) + (1074 + L) = q by omega, show 1074 + L = ex a + 1074 by omega]
        exact h
      · have s1 : (-2148 + (q : Int) - last).toNat = 0 := by omega
        have s2 : (last - (-2148 + (q : Int))).toNat = 1074 + L - q := by omega
        rw [s1, s2, Nat.pow_zero, Nat.mul_one]
        refine Nat.le_of_mul_le_mul_right ?_ (Nat.two_pow_pos q)
        rw [Nat.mul_assoc, ← Nat.pow_add, show 1074 + L - q + q = ex a + 1074 by omega]
        exact h
    rw [← heq]
    omega
  · exfalso
    have g := mg_big a (by omega)
    have h1 : 2 ^ 52 * 2 ^ (ex a + 1074) ≤ M * 2 ^ q := Nat.le_trans (Nat.mul_le_mul_right _ (by simpa using g)) h
    have h2 : M * 2 ^ q < 2 ^ (M.log2 + 1) * 2 ^ q := Nat.mul_lt_mul_of_pos_right m2 (Nat.two_pow_pos _)
    rw [← Nat.pow_add] at h1 h2
    have h3 : 2 ^ (M.log2 + 1 + q) ≤ 2 ^ (52 + (ex a + 1074)) := Nat.pow_le_pow_right (by decide) (by omega)
    omega
theorem neg_small (x : Nat) (h : x ≤ 9218868437227405312) : neg x = false := by
  unfold neg
  have : x / 9223372036854775808 % 2 = 0 := by omega
  rw [this]; rfl
theorem rg_small (x : Nat) (h : x ≤ 9218868437227405312) : rg x = x := by unfold rg; omega
theorem val_one : val 4607182418800017408 = 2 ^ 1074 := by decide +kernel
/-- A product with a factor of at least 1. -/
theorem mul_ge (a b : Nat) (ha : a ≤ 9218868437227405312) (hb : b ≤ 9218868437227405312) (h1 : 4607182418800017408 ≤ b) :
    floatBits .mul .f64 a b = none ∨ ∃ r, floatBits .mul .f64 a b = some r ∧ a ≤ r ∧ r ≤ 9218868437227405312 := by
  show Ieee.double.mul a b = none ∨ ∃ r, Ieee.double.mul a b = some r ∧ _
  unfold Ieee.Format.mul
  have na := neg_small a ha
  have nb := neg_small b hb
  have ra := rg_small a ha
  have rb := rg_small b hb
  have ia := isN_small a ha
  have ib := isN_small b hb
  rw [read_eq a, read_eq b, ia, ib, na, nb, ra, rb]
  simp only [Bool.false_eq_true, if_false]
  by_cases ca : a = 9218868437227405312
  · rw [if_pos ca]
    by_cases cb : b = 9218868437227405312
    · rw [if_pos cb]
      right
      refine ⟨9218868437227405312, rfl, by omega, by omega⟩
    · rw [if_neg cb]
      have hm : mg b ≠ 0 := by
        have := mg_big b (by unfold ex; omega)
        omega
      right
      refine ⟨9218868437227405312, ?_, by omega, by omega⟩
      simp only [Ieee.Datum.product, if_neg hm]
      rfl
  · rw [if_neg ca]
    by_cases cb : b = 9218868437227405312
    · rw [if_pos cb]
      by_cases hm : mg a = 0
      · left
        simp only [Ieee.Datum.product, if_pos hm]
        rfl
      · right
        refine ⟨9218868437227405312, ?_, by omega, by omega⟩
        simp only [Ieee.Datum.product, if_neg hm]
        rfl
    · rw [if_neg cb]
      right
      simp only [Ieee.Datum.product, Option.map_some]
      refine ⟨_, rfl, ?_⟩
      show a ≤ Ieee.double.nearest (false ^^ false) (mg a * mg b) (-1074 + (ex a : Int) + (-1074 + (ex b : Int))) ∧ Ieee.double.nearest (false ^^ false) (mg a * mg b) (-1074 + (ex a : Int) + (-1074 + (ex b : Int))) ≤ _
      have ep : (-1074 + (ex a : Int) + (-1074 + (ex b : Int))) = -2148 + ((ex a + ex b : Nat) : Int) := by omega
      rw [ep, show (false ^^ false) = false from rfl]
      by_cases hm : mg a = 0
      · have h0 : a = 0 := by
          unfold mg at hm
          split at hm <;> omega
        subst h0
        rw [hm, Nat.zero_mul]
        unfold Ieee.Format.nearest
        rw [if_pos rfl]
        exact ⟨Nat.zero_le _, by decide +kernel⟩
      · have gb := mg_big b (by unfold ex; omega)
        refine near_ge a _ _ (by omega) (Nat.mul_pos (by omega) (by omega)) ?_
        have hv : 2 ^ 1074 ≤ mg b * 2 ^ ex b := by
          rw [← val_one]
          show val _ ≤ val b
          rcases Nat.lt_or_ge 4607182418800017408 b with h | h
          · exact Nat.le_of_lt (val_mono h)
          · have : b = 4607182418800017408 := by omega
            rw [this]; exact Nat.le_refl _
        have := Nat.mul_le_mul_left (mg a * 2 ^ ex a) hv
        rw [Nat.pow_add, ← Nat.mul_assoc]
        refine Nat.le_trans this (Nat.le_of_eq ?_)
        rw [Nat.pow_add]
        ac_rfl
theorem cut_zero (n d : Nat) : Ieee.Toward.zero.cut false n d = n / 2 ^ d := by
  unfold Ieee.Toward.cut
  dsimp only
  simp only [Bool.toNat_false, Nat.add_zero]
  rw [Nat.one_shiftLeft]
  by_cases h : d ≤ n.log2 + 2
  · rw [Nat.min_eq_left h]
  · rw [Nat.min_eq_right (by omega)]
    have h1 : n < 2 ^ (n.log2 + 2) := Nat.lt_of_lt_of_le Nat.lt_log2_self (Nat.pow_le_pow_right (by decide) (by omega))
    have h2 : n < 2 ^ d := Nat.lt_of_lt_of_le h1 (Nat.pow_le_pow_right (by decide) (by omega))
    rw [Nat.div_eq_of_lt h1, Nat.div_eq_of_lt h2]
theorem div_pow (m e K : Nat) : m * 2 ^ e / 2 ^ K = m * 2 ^ (e - K) / 2 ^ (K - e) := by
  by_cases c : K ≤ e
  · have h : 2 ^ e = 2 ^ (e - K) * 2 ^ K := by rw [← Nat.pow_add, show e - K + K = e by omega]
    rw [h, ← Nat.mul_assoc, Nat.mul_div_cancel _ (Nat.two_pow_pos _), show K - e = 0 by omega, Nat.pow_zero, Nat.div_one]
  · have h : 2 ^ K = 2 ^ (K - e) * 2 ^ e := by rw [← Nat.pow_add, show K - e + e = K by omega]
    rw [h, Nat.mul_div_mul_right _ _ (Nat.two_pow_pos _), show e - K = 0 by omega, Nat.pow_zero, Nat.mul_one]
/-- The whole number below a float that is not below 0. -/
theorem toInt_val (x : Nat) (h : x < 4890909195324358656) : (FloatKind.f64.decode x).toInt .zero = some ((val x / 2 ^ 1074 : Nat) : Int) := by
  have hd : FloatKind.f64.decode x = .number false (mg x) (-1074 + (ex x : Int)) := by
    show Ieee.double.read x = _
    rw [read_eq, isN_small x (by omega), if_neg (by simp), if_neg (by rw [rg_small x (by omega)]; omega), rg_small x (by omega), neg_small x (by omega)]
  rw [hd]
  unfold Ieee.Datum.toInt Ieee.Datum.integral
  dsimp only
  rw [cut_zero, signed_eq, Nat.shiftLeft_eq]
  simp only [Bool.false_eq_true, if_false, Nat.pow_zero, Nat.mul_one]
  congr 2
  have s1 : (-1074 + (ex x : Int)).toNat = ex x - 1074 := by omega
  have s2 : (-(-1074 + (ex x : Int))).toNat = 1074 - ex x := by omega
  rw [s1, s2]
  exact (div_pow (mg x) (ex x) 1074).symm
/-- Whole's answer. -/
def whA (x : Nat) (m : Int) : Int × Int :=
  if isN x then (0, 1) else if m < 0 then (0, 1) else if fLt 0 x then
    if (fLt 4890909195324358656 x || fEq x 4890909195324358656) then (m, 0) else
      match floatToIntVal .f64 x .i64 with
      | some n => (if m < n then m else n, 0)
      | none => (0, 0)
  else (0, 0)
/-- How long is waited, of what was reckoned. -/
def dl (x : Nat) (m : Int) : Int := if isN x then m else (whA x m).1
theorem whA_nan (x : Nat) (m : Int) (hm : 0 ≤ m) : (whA x m).2 = if isN x then 1 else 0 := by
  unfold whA
  cases h : isN x
  · simp only [Bool.false_eq_true, if_false]
    rw [if_neg (by omega)]
    split
    · split
      · rfl
      · split <;> rfl
    · rfl
  · simp
/-- What is waited lies between 0 and the most. -/
theorem dl_in (x : Nat) (m : Int) (hm : 0 ≤ m) : 0 ≤ dl x m ∧ dl x m ≤ m := by
  unfold dl whA
  cases h : isN x
  · simp only [Bool.false_eq_true, if_false]
    rw [if_neg (by omega)]
    cases h3 : fLt 0 x
    · simp; exact hm
    · simp only [if_true]
      cases h4 : (fLt 4890909195324358656 x || fEq x 4890909195324358656)
      · simp only [Bool.false_eq_true, if_false]
        have h3' := h3
        unfold fLt at h3
        rw [h, isN_zero, key_zero] at h3
        simp at h3
        have hn : neg x = false := by
          cases hn : neg x
          · rfl
          · unfold key at h3; rw [hn] at h3; simp at h3; omega
        obtain ⟨g1, g2⟩ := Bool.or_eq_false_iff.1 h4
        obtain ⟨n, hc⟩ := conv_some x h h3' g1 g2
        rw [hc]
        have hn0 : 0 ≤ n := by
          unfold fLt at g1; unfold fEq at g2
          rw [h, isN_small 4890909195324358656 (by omega), key_pos 4890909195324358656 (by omega)] at g1 g2
          unfold key at g1 g2
          rw [hn] at g1 g2
          simp at g1 g2
          obtain ⟨k, hk, _⟩ := toInt_some x h (by omega)
          unfold floatToIntVal at hc
          rw [hk, hn, signed_eq] at hc
          simp at hc
          omega
        dsimp only
        split <;> omega
      · simp; exact hm
  · simp; exact hm
/-- Of words that are not below 0: the more was reckoned, the longer is waited. -/
theorem dl_mono (x y : Nat) (m : Int) (hm : 0 ≤ m) (hy : y ≤ 9218868437227405312) (h : x ≤ y) : dl x m ≤ dl y m := by
  have hx : x ≤ 9218868437227405312 := by omega
  have ix := isN_small x hx
  have iy := isN_small y hy
  have hdx := dl_in x m hm
  have hdy := dl_in y m hm
  by_cases c : y < 4890909195324358656
  · by_cases x0 : x = 0
    · have : dl x m = 0 := by
        subst x0
        unfold dl whA
        rw [if_neg (by rw [ix]; simp), if_neg (by rw [ix]; simp), if_neg (by omega), if_neg]
        decide +kernel
      omega
    · have e : ∀ z, 0 < z → z < 4890909195324358656 → dl z m = if m < ((val z / 2 ^ 1074 : Nat) : Int) then m else ((val z / 2 ^ 1074 : Nat) : Int) := by
        intro z hz0 hz
        have iz := isN_small z (show z ≤ 9218868437227405312 by omega)
        have h3 : fLt 0 z = true := by unfold fLt; rw [iz, isN_zero, key_zero, key_pos z (by omega)]; simp; omega
        have h4 : (fLt 4890909195324358656 z || fEq z 4890909195324358656) = false := by
          unfold fLt fEq
          rw [iz, isN_small 4890909195324358656 (by omega), key_pos 4890909195324358656 (by omega), key_pos z (by omega)]
          simp; omega
        obtain ⟨g1, g2⟩ := Bool.or_eq_false_iff.1 h4
        obtain ⟨n, hc⟩ := conv_some z iz h3 g1 g2
        unfold dl whA
        rw [if_neg (by rw [iz]; simp), if_neg (by rw [iz]; simp), if_neg (by omega), if_pos h3, if_neg (by rw [h4]; simp), hc]
        have : n = ((val z / 2 ^ 1074 : Nat) : Int) := by
          unfold floatToIntVal at hc
          rw [toInt_val z hz] at hc
          dsimp only at hc
          split at hc
          · injection hc with hc; exact hc.symm
          · cases hc
        rw [this]
      rw [e x (by omega) (by omega), e y (by omega) c]
      have hv : val x / 2 ^ 1074 ≤ val y / 2 ^ 1074 := by
        refine Nat.div_le_div_right ?_
        rcases Nat.lt_or_ge x y with k | k
        · exact Nat.le_of_lt (val_mono k)
        · have : x = y := by omega
          rw [this]; exact Nat.le_refl _
      generalize val x / 2 ^ 1074 = X at hv
      generalize val y / 2 ^ 1074 = Y at hv
      split <;> split <;> omega
  · have h3 : fLt 0 y = true := by unfold fLt; rw [iy, isN_zero, key_zero, key_pos y (by omega)]; simp; omega
    have h4 : (fLt 4890909195324358656 y || fEq y 4890909195324358656) = true := by
      unfold fLt fEq
      rw [iy, isN_small 4890909195324358656 (by omega), key_pos 4890909195324358656 (by omega), key_pos y (by omega)]
      simp; omega
    have : dl y m = m := by
      unfold dl whA
      rw [if_neg (by rw [iy]; simp), if_neg (by rw [iy]; simp), if_neg (by omega), if_pos h3, if_pos h4]
    omega
/-- Mul's answer, and what so many products come to. -/
def mulN (x c : Nat) : Nat := match floatBits .mul .f64 x c with | some r => cn r | none => 9221120237041090560
def pw (x c : Nat) : Nat → Nat
  | 0 => x
  | k + 1 => mulN (pw x c k) c
theorem isN_qnan : isN 9221120237041090560 = true := by decide +kernel
theorem cn_small (x : Nat) (h : x ≤ 9218868437227405312) : cn x = x := by unfold cn; rw [isN_small x h]; simp
theorem mul_nan (x c : Nat) (h : isN x = true) : mulN x c = 9221120237041090560 := by
  unfold mulN
  have : floatBits .mul .f64 x c = none := by
    show Ieee.double.mul x c = none
    unfold Ieee.Format.mul
    rw [read_eq x, h]
    simp [Ieee.Datum.product]
  rw [this]
/-- With a factor of at least 1 what was reckoned is a NaN from some place on, or rises. -/
theorem pw_up (x c : Nat) (hx : x ≤ 9218868437227405312) (hc : c ≤ 9218868437227405312) (h1 : 4607182418800017408 ≤ c) (k : Nat) :
    (isN (pw x c k) = true ∨ pw x c k ≤ 9218868437227405312) ∧ (isN (pw x c (k + 1)) = true ∨ (pw x c k ≤ pw x c (k + 1) ∧ pw x c (k + 1) ≤ 9218868437227405312)) := by
  have step : ∀ y, (isN y = true ∨ y ≤ 9218868437227405312) → (isN (mulN y c) = true ∨ (y ≤ mulN y c ∧ mulN y c ≤ 9218868437227405312)) := by
    intro y hy
    rcases hy with hy | hy
    · left; rw [mul_nan y c hy]; exact isN_qnan
    · rcases mul_ge y c hy hc h1 with e | ⟨r, e, l, u⟩
      · left; unfold mulN; rw [e]; exact isN_qnan
      · right; unfold mulN; rw [e]; dsimp only; rw [cn_small r u]; exact ⟨l, u⟩
  have fst : isN (pw x c k) = true ∨ pw x c k ≤ 9218868437227405312 := by
    induction k with
    | zero => exact .inr hx
    | succ k ih => rcases step _ ih with h | h
                   · exact .inl h
                   · exact .inr h.2
  exact ⟨fst, step _ fst⟩
/-- No attempt waits less long than the one ahead. -/
theorem dl_up (x c : Nat) (m : Int) (hm : 0 ≤ m) (hx : x ≤ 9218868437227405312) (hc : c ≤ 9218868437227405312) (h1 : 4607182418800017408 ≤ c) (k : Nat) : dl (pw x c k) m ≤ dl (pw x c (k + 1)) m := by
  have h := pw_up x c hx hc h1 k
  rcases h.2 with h2 | h2
  · have : dl (pw x c (k + 1)) m = m := by unfold dl; rw [if_pos h2]
    have := (dl_in (pw x c k) m hm).2
    omega
  · exact dl_mono _ _ m hm h2.2 h2.1
end Go.Proofs.Ytmcbgfcpalfcjaa
