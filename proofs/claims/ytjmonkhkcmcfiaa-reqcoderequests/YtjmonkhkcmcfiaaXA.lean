/- Reading a value, as a plain function; what was written is read, and what is read was written so. -/
import Derived.Test.YtjmonkhkcmcfiaaXQ
import Derived.Test.YtjmonkhkcmcfiaaVK
namespace Go.Proofs.Ytjmonkhkcmcfiaa
open Go.ChangeShapes Go.WideShapes Go.ChangeAt Go.RowKit
theorem valB_cons (b : UInt8) (m : List UInt8) : valB (b :: m) = b.toNat * 256 ^ m.length + valB m := by
  have gen : ∀ (m : List UInt8) (a : Nat), m.foldl (fun a b => a * 256 + b.toNat) a = a * 256 ^ m.length + valB m := by
    intro m
    induction m with
    | nil => intro a; simp [valB]
    | cons c m ih =>
      intro a
      rw [List.foldl_cons, ih]
      have : valB (c :: m) = c.toNat * 256 ^ m.length + valB m := by
        unfold valB
        rw [List.foldl_cons, ih]
        simp [valB]
      rw [this, List.length_cons, Nat.pow_succ, Nat.add_mul, Nat.mul_assoc, Nat.mul_comm 256, Nat.add_assoc]
  unfold valB
  rw [List.foldl_cons, gen]
  simp [valB]
theorem be_valB : ∀ m : List UInt8, be (valB m) m.length = m
  | [] => rfl
  | b :: m => by
    have ih := be_valB m
    have hlt := valB_lt m
    rw [valB_cons, List.length_cons]
    unfold be
    have hp : 0 < 256 ^ m.length := Nat.pow_pos (by decide)
    have h1 : (b.toNat * 256 ^ m.length + valB m) / 2 ^ (8 * m.length) = b.toNat := by
      rw [← pow_256, Nat.mul_comm, Nat.mul_add_div hp, Nat.div_eq_of_lt hlt, Nat.add_zero]
    have h2 : be (b.toNat * 256 ^ m.length + valB m) m.length = be (valB m) m.length := by
      rw [← be_mod (b.toNat * 256 ^ m.length + valB m) m.length m.length (Nat.le_refl _), ← pow_256, Nat.mul_comm, Nat.mul_add_mod, Nat.mod_eq_of_lt hlt]
    rw [h1, h2, ih]
    congr 1
    apply UInt8.toNat.inj
    rw [UInt8.toNat_ofNat']
    have := b.toNat_lt
    omega
theorem bl_min {n m : Nat} (h : n < 2 ^ m) : bl n ≤ m := by
  unfold bl
  by_cases h0 : n = 0
  · simp [h0]
  · rw [if_neg h0]
    exact (Nat.log2_lt h0).2 h
theorem nb_min {n k : Nat} (h : n < 256 ^ k) : nb n ≤ k := by
  rw [pow_256] at h
  have := bl_min h
  unfold nb
  omega
theorem sNumber_inv {l t : List UInt8} {n : Nat} (h : sNumber l = (n, t, 0)) : l = enc n ++ t ∧ n < 9223372036854775808 := by
  cases l with
  | nil => simp [sNumber] at h
  | cons b r =>
    unfold sNumber at h
    dsimp only at h
    by_cases h0 : b.toNat < 240
    · rw [if_pos h0] at h
      simp only [Prod.mk.injEq, and_true] at h
      obtain ⟨rfl, rfl⟩ := h
      refine ⟨?_, by omega⟩
      unfold enc
      rw [if_pos h0]
      show b :: r = UInt8.ofNat b.toNat :: r
      congr 1
      simp
    · rw [if_neg h0] at h
      split at h
      · simp at h
      · split at h
        · simp at h
        · split at h
          · simp at h
          · rename_i h1 h2 h3
            simp only [Prod.mk.injEq, and_true] at h
            obtain ⟨rfl, rfl⟩ := h
            have hlt : valB (r.take (b.toNat - 239)) < 256 ^ (b.toNat - 239) := by
              have := valB_lt (r.take (b.toNat - 239))
              rwa [List.length_take, Nat.min_eq_left (by omega)] at this
            generalize hx : valB (r.take (b.toNat - 239)) = x at h3 hlt ⊢
            have hx63 : x < 9223372036854775808 := by omega
            have hx240 : ¬ x < 240 := by
              intro hc
              apply h3
              right
              unfold enc
              rw [if_pos hc]
              simp
              omega
            have hnb : nb x = b.toNat - 239 := by
              have a := nb_min hlt
              have c : ¬ (enc x).length ≤ b.toNat - 239 := fun hc => h3 (Or.inr hc)
              have e : (enc x).length = nb x + 1 := by unfold enc; rw [if_neg hx240]; simp [be_length]
              omega
            refine ⟨?_, hx63⟩
            unfold enc
            rw [if_neg hx240, hnb]
            have hbe : be x (b.toNat - 239) = r.take (b.toNat - 239) := by
              have := be_valB (r.take (b.toNat - 239))
              rw [List.length_take, Nat.min_eq_left (by omega), hx] at this
              exact this
            rw [hbe]
            have hb : UInt8.ofNat (239 + (b.toNat - 239)) = b := by
              rw [show 239 + (b.toNat - 239) = b.toNat by omega]
              simp
            rw [hb, List.cons_append, List.take_append_drop]
theorem sNum_inv {l t : List UInt8} {m k : Int} (h : sNum m l 0 = (k, t, 0)) : 0 ≤ k ∧ k ≤ m ∧ l = enc k.toNat ++ t ∧ k < 9223372036854775808 := by
  unfold sNum at h
  rw [if_pos rfl] at h
  split at h
  · rename_i h0
    split at h
    · simp at h
    · rename_i hm
      simp only [Prod.mk.injEq, and_true] at h
      obtain ⟨rfl, rfl⟩ := h
      have := sNumber_inv (l := l) (n := (sNumber l).1) (t := (sNumber l).2.1) (by rw [← h0])
      refine ⟨by omega, by omega, ?_, by omega⟩
      rw [Int.toNat_natCast]
      exact this.1
  · rename_i h0
    simp only [Prod.mk.injEq] at h
    exact absurd h.2.2 h0
theorem sNum_err {m : Int} {l : List UInt8} {e : Int} (h : e ≠ 0) : sNum m l e = (0, l, e) := by unfold sNum; rw [if_neg h]
theorem sInt_inv {l t : List UInt8} {x : Int} (h : sInt l 0 = (x, t, 0)) : l = be (tn x) 8 ++ t ∧ -9223372036854775808 ≤ x ∧ x ≤ 9223372036854775807 := by
  unfold sInt at h
  rw [if_pos rfl] at h
  split at h
  · simp at h
  · rename_i h8
    simp only [Prod.mk.injEq, and_true] at h
    obtain ⟨rfl, rfl⟩ := h
    have hv := val8_lt l
    have e : tn ((valB (l.take 8) : Int) - 9223372036854775808) = valB (l.take 8) := by unfold tn; omega
    refine ⟨?_, by omega, by omega⟩
    rw [e]
    have := be_valB (l.take 8)
    rw [List.length_take, Nat.min_eq_left (by omega)] at this
    rw [this, List.take_append_drop]
theorem sBits_inv {l t : List UInt8} {b : Nat} (h : sBits l 0 = (b, t, 0)) : l = be b 8 ++ t ∧ b ≤ 18446744073709551615 := by
  unfold sBits at h
  rw [if_pos rfl] at h
  split at h
  · simp at h
  · rename_i h8
    simp only [Prod.mk.injEq, and_true] at h
    obtain ⟨rfl, rfl⟩ := h
    have hv := val8_lt l
    refine ⟨?_, by omega⟩
    have := be_valB (l.take 8)
    rw [List.length_take, Nat.min_eq_left (by omega)] at this
    rw [this, List.take_append_drop]
theorem sText_inv {l t s : List UInt8} {m : Int} (h : sText m l 0 = (s, t, 0)) : l = enc s.length ++ (s ++ t) ∧ (s.length : Int) ≤ m := by
  unfold sText at h
  split at h
  · rename_i h0
    split at h
    · simp at h
    · rename_i hl
      simp only [Prod.mk.injEq, and_true] at h
      obtain ⟨rfl, rfl⟩ := h
      have := sNum_inv (m := m) (l := l) (k := (sNum m l 0).1) (t := (sNum m l 0).2.1) (Prod.ext rfl (Prod.ext rfl h0))
      obtain ⟨k0, k1, k2, k3⟩ := this
      have hlen : ((sNum m l 0).2.1.take (sNum m l 0).1.toNat).length = (sNum m l 0).1.toNat := by rw [List.length_take]; omega
      rw [hlen, List.take_append_drop]
      exact ⟨k2, by omega⟩
  · rename_i h0
    simp only [Prod.mk.injEq] at h
    exact absurd h.2.2 h0
theorem sInt_be (x : Int) (t : List UInt8) (h0 : -9223372036854775808 ≤ x) (h1 : x ≤ 9223372036854775807) : sInt (be (tn x) 8 ++ t) 0 = (x, t, 0) := by
  have hl := be_length (tn x) 8
  unfold sInt
  rw [if_pos rfl, if_neg (by rw [List.length_append]; omega)]
  have ht : (be (tn x) 8 ++ t).take 8 = be (tn x) 8 := by rw [List.take_append_of_le_length (by omega), List.take_of_length_le (by omega)]
  have hd : (be (tn x) 8 ++ t).drop 8 = t := by have := List.drop_left (l₁ := be (tn x) 8) (l₂ := t); rwa [hl] at this
  rw [ht, hd, valB_be (tn x) 8 (by have e : (256 : Nat) ^ 8 = 18446744073709551616 := by decide +kernel
                                   unfold tn; omega)]
  unfold tn
  congr 1
  omega
theorem sBits_be (b : Nat) (t : List UInt8) (h1 : b ≤ 18446744073709551615) : sBits (be b 8 ++ t) 0 = (b, t, 0) := by
  have hl := be_length b 8
  unfold sBits
  rw [if_pos rfl, if_neg (by rw [List.length_append]; omega)]
  have ht : (be b 8 ++ t).take 8 = be b 8 := by rw [List.take_append_of_le_length (by omega), List.take_of_length_le (by omega)]
  have hd : (be b 8 ++ t).drop 8 = t := by have := List.drop_left (l₁ := be b 8) (l₂ := t); rwa [hl] at this
  rw [ht, hd, valB_be b 8 (by have e : (256 : Nat) ^ 8 = 18446744073709551616 := by decide +kernel
                              omega)]
theorem sText_enc (s t : List UInt8) (m : Int) (h : (s.length : Int) ≤ m) (h2 : s.length < 9223372036854775808) : sText m (enc s.length ++ (s ++ t)) 0 = (s, t, 0) := by
  unfold sText
  rw [sNum_enc s.length m (s ++ t) h2 h]
  dsimp only
  rw [if_pos rfl, Int.toNat_natCast, if_neg (by rw [List.length_append]; omega)]
  rw [List.take_append_of_le_length (Nat.le_refl _), List.take_length, List.drop_left]
/-- How many values a list has, and these. -/
def rdN (f : List UInt8 → Int → Tv × List UInt8 × Int) : Nat → List UInt8 → Int → List Tv × List UInt8 × Int
  | 0, l, e => ([], l, e)
  | n + 1, l, e =>
    if (f l e).2.2 = 0 then
      if (rdN f n (f l e).2.1 0).2.2 = 0 then ((f l e).1 :: (rdN f n (f l e).2.1 0).1, (rdN f n (f l e).2.1 0).2.1, 0)
      else ([], (rdN f n (f l e).2.1 0).2.1, (rdN f n (f l e).2.1 0).2.2)
    else ([], (f l e).2.1, (f l e).2.2)
/-- What a failure leaves of what was to be read. -/
def flL (l : List UInt8) (e : Int) : List UInt8 := if e = 0 then [] else l
def flE (e f : Int) : Int := if e = 0 then f else e
/-- What a list's reading leaves; f reads one value. -/
def rdL (f : List UInt8 → Int → Tv × List UInt8 × Int) (l : List UInt8) (e : Int) : List Tv × List UInt8 × Int :=
  rdN f (sNum 12 l e).1.toNat (sNum 12 l e).2.1 (sNum 12 l e).2.2
/-- What reading a value leaves; g reads its list. -/
def rd1 (g : List UInt8 → Int → List Tv × List UInt8 × Int) (l : List UInt8) (e : Int) : Tv × List UInt8 × Int :=
  if (sNum 4 l e).1 = 1 then (.mk 1 (sInt (sNum 4 l e).2.1 (sNum 4 l e).2.2).1 0 ⟨#[]⟩ [], (sInt (sNum 4 l e).2.1 (sNum 4 l e).2.2).2)
  else if (sNum 4 l e).1 = 2 then
    (.mk 2 0 ((sBits (sNum 4 l e).2.1 (sNum 4 l e).2.2).1 : Int) ⟨#[]⟩ [],
      if cn (sBits (sNum 4 l e).2.1 (sNum 4 l e).2.2).1 = (sBits (sNum 4 l e).2.1 (sNum 4 l e).2.2).1 then (sBits (sNum 4 l e).2.1 (sNum 4 l e).2.2).2
      else (flL (sBits (sNum 4 l e).2.1 (sNum 4 l e).2.2).2.1 (sBits (sNum 4 l e).2.1 (sNum 4 l e).2.2).2.2, flE (sBits (sNum 4 l e).2.1 (sNum 4 l e).2.2).2.2 3))
  else if (sNum 4 l e).1 = 3 then (.mk 3 0 0 (str (sText 200 (sNum 4 l e).2.1 (sNum 4 l e).2.2).1) [], (sText 200 (sNum 4 l e).2.1 (sNum 4 l e).2.2).2)
  else if (sNum 4 l e).1 = 4 then (.mk 4 0 0 ⟨#[]⟩ (g (sNum 4 l e).2.1 (sNum 4 l e).2.2).1, (g (sNum 4 l e).2.1 (sNum 4 l e).2.2).2)
  else (.mk (sNum 4 l e).1 0 0 ⟨#[]⟩ [], (sNum 4 l e).2)
/-- What reading a value of at most d lists within one another leaves. -/
def rdV : Nat → List UInt8 → Int → Tv × List UInt8 × Int
  | 0, l, e => rd1 (fun l e => ([], flL l e, flE e 5)) l e
  | d + 1, l, e => rd1 (rdL (rdV d)) l e
end Go.Proofs.Ytjmonkhkcmcfiaa
