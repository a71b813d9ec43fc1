/- What is written is read: plain facts on the bytes of numbers, and appending behind bytes without room. -/
import Derived.Test.YtkaaddahegkmgaaGreatPH
import Derived.Test.YtkaaddahegkmgaaGreatPR
namespace Go.Proofs.YtkaaddahegkmgaaGreat
open Go.ChangeShapes Go.WideShapes Go.ChangeAt Go.RowKit
theorem be_mod (x k j : Nat) (h : k ≤ j) : be (x % 2 ^ (8 * j)) k = be x k := by
  induction k with
  | zero => rfl
  | succ k ih =>
    unfold be
    rw [ih (by omega)]
    congr 1
    have e : (2 ^ (8 * j) : Nat) = 2 ^ (8 * k) * 2 ^ (8 * (j - k)) := by rw [← Nat.pow_add]; congr 1; omega
    have e2 : (2 ^ (8 * (j - k)) : Nat) = 256 * 2 ^ (8 * (j - k - 1)) := by
      rw [show (256 : Nat) = 2 ^ 8 from rfl, ← Nat.pow_add]; congr 1; omega
    rw [e, Nat.mod_mul_right_div_self, e2]
    apply UInt8.toNat.inj
    rw [UInt8.toNat_ofNat', UInt8.toNat_ofNat']
    exact Nat.mod_mul_right_mod _ _ _
theorem valB_be (x k : Nat) (h : x < 256 ^ k) : valB (be x k) = x := by
  have gen : ∀ (k a x : Nat), x < 256 ^ k → (be x k).foldl (fun a b => a * 256 + b.toNat) a = a * 256 ^ k + x := by
    intro k
    induction k with
    | zero => intro a x hx; simp at hx; simp [be, hx]
    | succ k ih =>
      intro a x hx
      unfold be
      rw [List.foldl_cons]
      have hp : 0 < 256 ^ k := Nat.pow_pos (by decide)
      have hm : x % 256 ^ k < 256 ^ k := Nat.mod_lt _ hp
      have hbm : be x k = be (x % 256 ^ k) k := by rw [pow_256, be_mod x k k (Nat.le_refl _)]
      rw [hbm, ih _ _ hm, UInt8.toNat_ofNat', ← pow_256]
      have hd : x / 256 ^ k < 256 := Nat.div_lt_of_lt_mul (by rw [← Nat.pow_succ]; exact hx)
      rw [Nat.mod_eq_of_lt (by omega), Nat.pow_succ]
      have := Nat.div_add_mod x (256 ^ k)
      generalize x / 256 ^ k = q at *
      generalize x % 256 ^ k = r at *
      generalize 256 ^ k = P at *
      subst this
      have e : (a * 256 + q) * P + r = a * (P * 256) + (P * q + r) := by
        rw [Nat.add_mul, Nat.mul_assoc, Nat.mul_comm 256 P, Nat.mul_comm q P, Nat.add_assoc]
      exact e
  have := gen k 0 x h
  simpa [valB] using this
theorem sNumber_enc (n : Nat) (t : List UInt8) (h : n < 9223372036854775808) : sNumber (enc n ++ t) = (n, t, 0) := by
  unfold enc
  by_cases h0 : n < 240
  · rw [if_pos h0]
    have e : (UInt8.ofNat n).toNat = n := by rw [UInt8.toNat_ofNat']; omega
    show sNumber (UInt8.ofNat n :: t) = _
    unfold sNumber
    dsimp only
    rw [e, if_pos h0]
  · rw [if_neg h0]
    obtain ⟨k1, k8⟩ := nb_bounds n (by omega) h
    have e : (UInt8.ofNat (239 + nb n)).toNat = 239 + nb n := by rw [UInt8.toNat_ofNat']; omega
    show sNumber (UInt8.ofNat (239 + nb n) :: (be n (nb n) ++ t)) = _
    unfold sNumber
    dsimp only
    rw [e, if_neg (by omega), if_neg (by omega), Nat.add_sub_cancel_left]
    have hl : (be n (nb n)).length = nb n := be_length _ _
    have ht : (be n (nb n) ++ t).take (nb n) = be n (nb n) := by rw [List.take_append_of_le_length (by omega), List.take_of_length_le (by omega)]
    have hd : (be n (nb n) ++ t).drop (nb n) = t := by
      have := List.drop_left (l₁ := be n (nb n)) (l₂ := t)
      rwa [hl] at this
    have hv : valB (be n (nb n)) = n := valB_be n (nb n) (by rw [pow_256]; exact nb_lt n)
    have he : (enc n).length = nb n + 1 := by unfold enc; rw [if_neg h0]; simp [be_length]
    rw [if_neg (by rw [List.length_append]; omega), ht, hd, hv, he, if_neg (by omega)]
theorem sNum_enc (n : Nat) (m : Int) (t : List UInt8) (h : n < 9223372036854775808) (hm : (n : Int) ≤ m) : sNum m (enc n ++ t) 0 = ((n : Int), t, 0) := by
  unfold sNum
  rw [if_pos rfl, sNumber_enc n t h]
  dsimp only
  rw [if_pos rfl, if_neg (by omega)]
end Go.Proofs.YtkaaddahegkmgaaGreat
