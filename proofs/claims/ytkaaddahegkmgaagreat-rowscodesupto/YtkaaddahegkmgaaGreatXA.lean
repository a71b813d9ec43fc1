/- Reading a value, as a plain function; what was written is read, and what is read was written so. -/
import Derived.Test.YtkaaddahegkmgaaGreatXQ
namespace Go.Proofs.YtkaaddahegkmgaaGreat
open Go.ChangeShapes Go.WideShapes Go.ChangeAt Go.RowKit
theorem valB_cons (b : UInt8) (m : List UInt8) : valB (b :: m) = b.toNat * 256 ^ m.length + valB m := by
  have gen : ∀ (m : List UInt8) (a : Nat), m.foldl (fun a b => a * 256 + b.toNat) a = a * 256 ^ m.length + valB m := by
    intro m
    induction m with
    | nil => intro a; simp [valB]
    | cons c m ih =>
      intro a
      rw [List.foldl_cons, ih]
      have : valB (c :: m) = c.toNat * 256 ^ m.length + valB m := by
        unfold valB
        rw [List.foldl_cons, ih]
        simp [valB]
      rw [this, List.length_cons, Nat.pow_succ, Nat.add_mul, Nat.mul_assoc, Nat.mul_comm 256, Nat.add_assoc]
  unfold valB
  rw [List.foldl_cons, gen]
  simp [valB]
theorem be_valB : ∀ m : List UInt8, be (valB m) m.length = m
  | [] => rfl
  | b :: m => by
    have ih := be_valB m
    have hlt := valB_lt m
    rw [valB_cons, List.length_cons]
    unfold be
    have hp : 0 < 256 ^ m.length := Nat.pow_pos (by decide)
    have h1 : (b.toNat * 256 ^ m.length + valB m) / 2 ^ (8 * m.length) = b.toNat := by
      rw [← pow_256, Nat.mul_comm, Nat.mul_add_div hp, Nat.div_eq_of_lt hlt, Nat.add_zero]
    have h2 : be (b.toNat * 256 ^ m.length + valB m) m.length = be (valB m) m.length := by
      rw [← be_mod (b.toNat * 256 ^ m.length + valB m) m.length m.length (Nat.le_refl _), ← pow_256, Nat.mul_comm, Nat.mul_add_mod, Nat.mod_eq_of_lt hlt]
    rw [h1, h2, ih]
    congr 1
    apply UInt8.toNat.inj
    rw [UInt8.toNat_ofNat']
    have := b.toNat_lt
    omega
theorem bl_min {n m : Nat} (h : n < 2 ^ m) : bl n ≤ m := by
  unfold bl
  by_cases h0 : n = 0
  · simp [h0]
  · rw [if_neg h0]
    exact (Nat.log2_lt h0).2 h
theorem nb_min {n k : Nat} (h : n < 256 ^ k) : nb n ≤ k := by
  rw [pow_256] at h
  have := bl_min h
  unfold nb
  omega
theorem sNumber_inv {l t : List UInt8} {n : Nat} (h : sNumber l = (n, t, 0)) : l = enc n ++ t ∧ n < 9223372036854775808 := by
  cases l with
  | nil => simp [sNumber] at h
  | cons b r =>
    unfold sNumber at h
    dsimp only at h
    by_cases h0 : b.toNat < 240
    · rw [if_pos h0] at h
      simp only [Prod.mk.injEq, and_true] at h
      obtain ⟨rfl, rfl⟩ := h
      refine ⟨?_, by omega⟩
      unfold enc
      rw [if_pos h0]
      show b :: r = UInt8.ofNat b.toNat :: r
      congr 1
      simp
    · rw [if_neg h0] at h
      split at h
      · simp at h
      · split at h
        · simp at h
        · split at h
          · simp at h
          · rename_i h1 h2 h3
            simp only [Prod.mk.injEq, and_true] at h
            obtain ⟨rfl, rfl⟩ := h
            have hlt : valB (r.take (b.toNat - 239)) < 256 ^ (b.toNat - 239) := by
              have := valB_lt (r.take (b.toNat - 239))
              rwa [List.length_take, Nat.min_eq_left (by omega)] at this
            generalize hx : valB (r.take (b.toNat - 239)) = x at h3 hlt ⊢
            have hx63 : x < 9223372036854775808 := by omega
            have hx240 : ¬ x < 240 := by
              intro hc
              apply h3
              right
              unfold enc
              rw [if_pos hc]
              simp
              omega
            have hnb : nb x = b.toNat - 239 := by
              have a := nb_min hlt
              have c : ¬ (enc x).length ≤ b.toNat - 239 := fun hc => h3 (Or.inr hc)
              have e : (enc x).length = nb x + 1 := by unfold enc; rw [if_neg hx240]; simp [be_length]
              omega
            refine ⟨?_, hx63⟩
            unfold enc
            rw [if_neg hx240, hnb]
            have hbe : be x (b.toNat - 239) = r.take (b.toNat - 239) := by
              have := be_valB (r.take (b.toNat - 239))
              rw [List.length_take, Nat.min_eq_left (by omega), hx] at this
              exact this
            rw [hbe]
            have hb : UInt8.ofNat (239 + (b.toNat - 239)) = b := by
              rw [show 239 + (b.toNat - 239) = b.toNat by omega]
              simp
            rw [hb, List.cons_append, List.take_append_drop]
theorem sNum_inv {l t : List UInt8} {m k : Int} (h : sNum m l 0 = (k, t, 0)) : 0 ≤ k ∧ k ≤ m ∧ l = enc k.toNat ++ t ∧ k < 9223372036854775808 := by
  unfold sNum at h
  rw [if_pos rfl] at h
  split at h
  · rename_i h0
    split at h
    · simp at h
    · rename_i hm
      simp only [Prod.mk.injEq, and_true] at h
      obtain ⟨rfl, rfl⟩ := h
      have := sNumber_inv (l := l) (n := (sNumber l).1) (t := (sNumber l).2.1) (by rw [← h0])
      refine ⟨by omega, by omega, ?_, by omega⟩
      rw [Int.toNat_natCast]
      exact this.1
  · rename_i h0
    simp only [Prod.mk.injEq] at h
    exact absurd h.2.2 h0
theorem sNum_err {m : Int} {l : List UInt8} {e : Int} (h : e ≠ 0) : sNum m l e = (0, l, e) := by unfold sNum; rw [if_neg h]
theorem sText_inv {l t s : List UInt8} {m : Int} (h : sText m l 0 = (s, t, 0)) : l = enc s.length ++ (s ++ t) ∧ (s.length : Int) ≤ m := by
  unfold sText at h
  split at h
  · rename_i h0
    split at h
    · simp at h
    · rename_i hl
      simp only [Prod.mk.injEq, and_true] at h
      obtain ⟨rfl, rfl⟩ := h
      have := sNum_inv (m := m) (l := l) (k := (sNum m l 0).1) (t := (sNum m l 0).2.1) (Prod.ext rfl (Prod.ext rfl h0))
      obtain ⟨k0, k1, k2, k3⟩ := this
      have hlen : ((sNum m l 0).2.1.take (sNum m l 0).1.toNat).length = (sNum m l 0).1.toNat := by rw [List.length_take]; omega
      rw [hlen, List.take_append_drop]
      exact ⟨k2, by omega⟩
  · rename_i h0
    simp only [Prod.mk.injEq] at h
    exact absurd h.2.2 h0
theorem sText_enc (s t : List UInt8) (m : Int) (h : (s.length : Int) ≤ m) (h2 : s.length < 9223372036854775808) : sText m (enc s.length ++ (s ++ t)) 0 = (s, t, 0) := by
  unfold sText
  rw [sNum_enc s.length m (s ++ t) h2 h]
  dsimp only
  rw [if_pos rfl, Int.toNat_natCast, if_neg (by rw [List.length_append]; omega)]
  rw [List.take_append_of_le_length (Nat.le_refl _), List.take_length, List.drop_left]
end Go.Proofs.YtkaaddahegkmgaaGreat
