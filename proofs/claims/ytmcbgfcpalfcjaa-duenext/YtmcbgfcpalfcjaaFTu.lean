/- Sums and products of words don't hang on which comes first; a whole number from 1 to 2^53 has a float whose whole number it is. Plain facts. -/
import Derived.Test.YtmcbgfcpalfcjaaFT4
import Derived.Test.YtmcbgfcpalfcjaaFWh
namespace Go.Proofs.Ytmcbgfcpalfcjaa
open FM
theorem sum_turn (x y : Ieee.Datum) : x.sum y = y.sum x := by
  cases x <;> cases y <;> simp only [Ieee.Datum.sum]
  · rename_i s m i t n j
    rw [Int.min_comm j i, Int.add_comm (Ieee.signed t n _), Bool.and_comm t s]
  · rename_i s t
    by_cases h : s = t
    · subst h; rfl
    · rw [if_neg h, if_neg (fun e => h e.symm)]
theorem product_turn (x y : Ieee.Datum) : x.product y = y.product x := by
  cases x <;> cases y <;> simp only [Ieee.Datum.product]
  · rename_i s m i t n j
    rw [Bool.xor_comm, Nat.mul_comm, Int.add_comm]
  · rename_i s t
    rw [Bool.xor_comm]
theorem add_turn (a b : Nat) : floatBits .add .f64 a b = floatBits .add .f64 b a := by
  show Ieee.double.add a b = Ieee.double.add b a
  unfold Ieee.Format.add
  rw [sum_turn]
theorem mul_turn (a b : Nat) : floatBits .mul .f64 a b = floatBits .mul .f64 b a := by
  show Ieee.double.mul a b = Ieee.double.mul b a
  unfold Ieee.Format.mul
  rw [product_turn]
theorem cn_cn (x : Nat) : cn (cn x) = cn x := by
  unfold cn
  cases h : isN x
  · simp [h]
  · simp
theorem cut_even (neg : Bool) (n : Nat) : Ieee.Toward.even.cut neg n 0 = n := by
  unfold Ieee.Toward.cut
  simp [Nat.mod_one]
theorem near_small (m : Nat) (h0 : 0 < m) (h : m < 9007199254740992) :
    ∃ L, L ≤ 52 ∧ Ieee.double.nearest false m 0 = (L + 1022) * 4503599627370496 + m * 2 ^ (52 - L) ∧ 4503599627370496 ≤ m * 2 ^ (52 - L) ∧ m * 2 ^ (52 - L) < 9007199254740992 := by
  have hl : m.log2 < 53 := (Nat.log2_lt (by omega)).2 h
  refine ⟨m.log2, by omega, ?_⟩
  have e1 : 2 ^ m.log2 * 2 ^ (52 - m.log2) = 4503599627370496 := by
    rw [← Nat.pow_add, show m.log2 + (52 - m.log2) = 52 by omega]
  have p1 : 2 ^ m.log2 ≤ m := Nat.log2_self_le (by omega)
  have p2 : m < 2 ^ (m.log2 + 1) := Nat.lt_log2_self
  have hP : 0 < 2 ^ (52 - m.log2) := Nat.two_pow_pos _
  have q1 : 2 ^ m.log2 * 2 ^ (52 - m.log2) ≤ m * 2 ^ (52 - m.log2) := Nat.mul_le_mul_right _ p1
  have q2 : m * 2 ^ (52 - m.log2) < 2 ^ (m.log2 + 1) * 2 ^ (52 - m.log2) := Nat.mul_lt_mul_of_pos_right p2 hP
  have e2 : 2 ^ (m.log2 + 1) * 2 ^ (52 - m.log2) = 9007199254740992 := by
    rw [Nat.pow_succ, Nat.mul_right_comm, e1]
  refine ⟨?_, by omega, by omega⟩
  unfold Ieee.Format.nearest
  rw [if_neg (by omega)]
  rw [c_least, c_inf, c_bin]
  dsimp only
  have el : max ((0 : Int) + (m.log2 : Int) - (Ieee.double.fractionBits : Int)) (-1074) = (m.log2 : Int) - 52 := by
    show max ((0 : Int) + (m.log2 : Int) - 52) (-1074) = _
    omega
  rw [el]
  have s1 : ((0 : Int) - ((m.log2 : Int) - 52)).toNat = 52 - m.log2 := by omega
  have s2 : ((m.log2 : Int) - 52 - 0).toNat = 0 := by omega
  have s3 : ((m.log2 : Int) - 52 - -1074).toNat = m.log2 + 1022 := by omega
  rw [s1, s2, s3, cut_even, Nat.shiftLeft_eq]
  unfold Ieee.Format.word
  simp only [Bool.false_eq_true, if_false]
  have hm : m.log2 ≤ 52 := by omega
  exact Nat.min_eq_left (by omega)
theorem back_small (m : Nat) (h0 : 0 < m) (h : m < 9007199254740992) (x : Nat) (hx : x = Ieee.double.nearest false m 0) :
    isN x = false ∧ fLt 0 x = true ∧ (fLt 4890909195324358656 x || fEq x 4890909195324358656) = false ∧ floatToIntVal .f64 x .i64 = some (m : Int) := by
  obtain ⟨L, hL, e, b1, b2⟩ := near_small m h0 h
  generalize hk : m * 2 ^ (52 - L) = k at e b1 b2
  have hx' : x = (L + 1022) * 4503599627370496 + k := by rw [hx, e]
  have hr : rg x = x := by unfold rg; omega
  have hn : neg x = false := by
    unfold neg
    have : x / 9223372036854775808 % 2 = 0 := by omega
    rw [this]; rfl
  have h1 : isN x = false := isN_small x (by omega)
  have hkx : key x = (x : Int) := key_pos x (by omega)
  refine ⟨h1, ?_, ?_, ?_⟩
  · unfold fLt; rw [h1, isN_zero, key_zero, hkx]; simp; omega
  · unfold fLt fEq; rw [h1, isN_small 4890909195324358656 (by omega), hkx, key_pos 4890909195324358656 (by omega)]; simp; omega
  · have hm : mg x = k := by unfold mg; rw [if_neg (by omega)]; omega
    have he : ex x = L + 1022 := by unfold ex; omega
    have hd : FloatKind.f64.decode x = .number false k (-1074 + ((L + 1022 : Nat) : Int)) := by
      show Ieee.double.read x = _
      rw [read_eq, if_neg (by rw [h1]; simp), if_neg (by rw [hr]; omega), hr, hn, hm, he]
    unfold floatToIntVal
    rw [hd]
    have hc : Ieee.Toward.zero.cut false (k <<< (-1074 + ((L + 1022 : Nat) : Int)).toNat) (-(-1074 + ((L + 1022 : Nat) : Int))).toNat = m := by
      have t1 : (-1074 + ((L + 1022 : Nat) : Int)).toNat = 0 := by omega
      have t2 : (-(-1074 + ((L + 1022 : Nat) : Int))).toNat = 52 - L := by omega
      rw [t1, t2]
      unfold Ieee.Toward.cut
      dsimp only
      have hlog : 52 ≤ k.log2 := (Nat.le_log2 (by omega)).2 (by omega)
      have hmin : min (52 - L) ((k <<< 0).log2 + 2) = 52 - L := by
        simp only [Nat.shiftLeft_zero]; omega
      rw [hmin]
      simp only [Bool.toNat_false, Nat.add_zero, Nat.shiftLeft_zero, Nat.one_shiftLeft]
      rw [← hk]
      exact Nat.mul_div_cancel _ (Nat.two_pow_pos _)
    have hi : (Ieee.Datum.number false k (-1074 + ((L + 1022 : Nat) : Int))).toInt .zero = some (m : Int) := by
      unfold Ieee.Datum.toInt Ieee.Datum.integral
      dsimp only
      rw [hc]
      simp [Ieee.signed]
    rw [hi]
    dsimp only
    rw [if_pos]
    simp only [IntKind.min, IntKind.max, IntKind.signed, IntKind.bits, if_true]
    omega
end Go.Proofs.Ytmcbgfcpalfcjaa
