/- Reading a value (XQ, XA, XC, XB, XD, XE, XF, XG, XI). -/
import Derived.Test.YtobblioplfpndaaPH
import Derived.Test.YtobblioplfpndaaPR
import Derived.Test.YtobblioplfpndaaVK
import Derived.Deep.RegionHeld3
import Derived.BigQuiet
import Derived.Deep.DeepCutAuto
import Derived.Test.YtobblioplfpndaaVC
import Derived.Test.YtobblioplfpndaaPE
namespace Go.Proofs.Ytobblioplfpndaa
open Go.ChangeShapes Go.WideShapes Go.ChangeAt Go.RowKit
theorem be_mod (x k j : Nat) (h : k ≤ j) : be (x % 2 ^ (8 * j)) k = be x k := by
  induction k with
  | zero => rfl
  | succ k ih =>
    unfold be
    rw [ih (by omega)]
    congr 1
    have e : (2 ^ (8 * j) : Nat) = 2 ^ (8 * k) * 2 ^ (8 * (j - k)) := by rw [← Nat.pow_add]; congr 1; omega
    have e2 : (2 ^ (8 * (j - k)) : Nat) = 256 * 2 ^ (8 * (j - k - 1)) := by
      rw [show (256 : Nat) = 2 ^ 8 from rfl, ← Nat.pow_add]; congr 1; omega
    rw [e, Nat.mod_mul_right_div_self, e2]
    apply UInt8.toNat.inj
    rw [UInt8.toNat_ofNat', UInt8.toNat_ofNat']
    exact Nat.mod_mul_right_mod _ _ _
theorem valB_be (x k : Nat) (h : x < 256 ^ k) : valB (be x k) = x := by
  have gen : ∀ (k a x : Nat), x < 256 ^ k → (be x k).foldl (fun a b => a * 256 + b.toNat) a = a * 256 ^ k + x := by
    intro k
    induction k with
    | zero => intro a x hx; simp at hx; simp [be, hx]
    | succ k ih =>
      intro a x hx
      unfold be
      rw [List.foldl_cons]
      have hp : 0 < 256 ^ k := Nat.pow_pos (by decide)
      have hm : x % 256 ^ k < 256 ^ k := Nat.mod_lt _ hp
      have hbm : be x k = be (x % 256 ^ k) k := by rw [pow_256, be_mod x k k (Nat.le_refl _)]
      rw [hbm, ih _ _ hm, UInt8.toNat_ofNat', ← pow_256]
      have hd : x / 256 ^ k < 256 := Nat.div_lt_of_lt_mul (by rw [← Nat.pow_succ]; exact hx)
      rw [Nat.mod_eq_of_lt (by omega), Nat.pow_succ]
      have := Nat.div_add_mod x (256 ^ k)
      generalize x / 256 ^ k = q at *
      generalize x % 256 ^ k = r at *
      generalize 256 ^ k = P at *
      subst this
      have e : (a * 256 + q) * P + r = a * (P * 256) + (P * q + r) := by
        rw [Nat.add_mul, Nat.mul_assoc, Nat.mul_comm 256 P, Nat.mul_comm q P, Nat.add_assoc]
      exact e
  have := gen k 0 x h
  simpa [valB] using this
theorem sNumber_enc (n : Nat) (t : List UInt8) (h : n < 9223372036854775808) : sNumber (enc n ++ t) = (n, t, 0) := by
  unfold enc
  by_cases h0 : n < 240
  · rw [if_pos h0]
    have e : (UInt8.ofNat n).toNat = n := by rw [UInt8.toNat_ofNat']; omega
    show sNumber (UInt8.ofNat n :: t) = _
    unfold sNumber
    dsimp only
    rw [e, if_pos h0]
  · rw [if_neg h0]
    obtain ⟨k1, k8⟩ := nb_bounds n (by omega) h
    have e : (UInt8.ofNat (239 + nb n)).toNat = 239 + nb n := by rw [UInt8.toNat_ofNat']; omega
    show sNumber (UInt8.ofNat (239 + nb n) :: (be n (nb n) ++ t)) = _
    unfold sNumber
    dsimp only
    rw [e, if_neg (by omega), if_neg (by omega), Nat.add_sub_cancel_left]
    have hl : (be n (nb n)).length = nb n := be_length _ _
    have ht : (be n (nb n) ++ t).take (nb n) = be n (nb n) := by rw [List.take_append_of_le_length (by omega), List.take_of_length_le (by omega)]
    have hd : (be n (nb n) ++ t).drop (nb n) = t := by
      have := List.drop_left (l₁ := be n (nb n)) (l₂ := t)
      rwa [hl] at this
    have hv : valB (be n (nb n)) = n := valB_be n (nb n) (by rw [pow_256]; exact nb_lt n)
    have he : (enc n).length = nb n + 1 := by unfold enc; rw [if_neg h0]; simp [be_length]
    rw [if_neg (by rw [List.length_append]; omega), ht, hd, hv, he, if_neg (by omega)]
theorem sNum_enc (n : Nat) (m : Int) (t : List UInt8) (h : n < 9223372036854775808) (hm : (n : Int) ≤ m) : sNum m (enc n ++ t) 0 = ((n : Int), t, 0) := by
  unfold sNum
  rw [if_pos rfl, sNumber_enc n t h]
  dsimp only
  rw [if_pos rfl, if_neg (by omega)]
end Go.Proofs.Ytobblioplfpndaa
namespace Go.Proofs.Ytobblioplfpndaa
open Go.ChangeShapes Go.WideShapes Go.ChangeAt Go.RowKit
theorem valB_cons (b : UInt8) (m : List UInt8) : valB (b :: m) = b.toNat * 256 ^ m.length + valB m := by
  have gen : ∀ (m : List UInt8) (a : Nat), m.foldl (fun a b => a * 256 + b.toNat) a = a * 256 ^ m.length + valB m := by
    intro m
    induction m with
    | nil => intro a; simp [valB]
    | cons c m ih =>
      intro a
      rw [List.foldl_cons, ih]
      have : valB (c :: m) = c.toNat * 256 ^ m.length + valB m := by
        unfold valB
        rw [List.foldl_cons, ih]
        simp [valB]
      rw [this, List.length_cons, Nat.pow_succ, Nat.add_mul, Nat.mul_assoc, Nat.mul_comm 256, Nat.add_assoc]
  unfold valB
  rw [List.foldl_cons, gen]
  simp [valB]
theorem be_valB : ∀ m : List UInt8, be (valB m) m.length = m
  | [] => rfl
  | b :: m => by
    have ih := be_valB m
    have hlt := valB_lt m
    rw [valB_cons, List.length_cons]
    unfold be
    have hp : 0 < 256 ^ m.length := Nat.pow_pos (by decide)
    have h1 : (b.toNat * 256 ^ m.length + valB m) / 2 ^ (8 * m.length) = b.toNat := by
      rw [← pow_256, Nat.mul_comm, Nat.mul_add_div hp, Nat.div_eq_of_lt hlt, Nat.add_zero]
    have h2 : be (b.toNat * 256 ^ m.length + valB m) m.length = be (valB m) m.length := by
      rw [← be_mod (b.toNat * 256 ^ m.length + valB m) m.length m.length (Nat.le_refl _), ← pow_256, Nat.mul_comm, Nat.mul_add_mod, Nat.mod_eq_of_lt hlt]
    rw [h1, h2, ih]
    congr 1
    apply UInt8.toNat.inj
    rw [UInt8.toNat_ofNat']
    have := b.toNat_lt
    omega
theorem bl_min {n m : Nat} (h : n < 2 ^ m) : bl n ≤ m := by
  unfold bl
  by_cases h0 : n = 0
  · simp [h0]
  · rw [if_neg h0]
    exact (Nat.log2_lt h0).2 h
theorem nb_min {n k : Nat} (h : n < 256 ^ k) : nb n ≤ k := by
  rw [pow_256] at h
  have := bl_min h
  unfold nb
  omega
theorem sNumber_inv {l t : List UInt8} {n : Nat} (h : sNumber l = (n, t, 0)) : l = enc n ++ t ∧ n < 9223372036854775808 := by
  cases l with
  | nil => simp [sNumber] at h
  | cons b r =>
    unfold sNumber at h
    dsimp only at h
    by_cases h0 : b.toNat < 240
    · rw [if_pos h0] at h
      simp only [Prod.mk.injEq, and_true] at h
      obtain ⟨rfl, rfl⟩ := h
      refine ⟨?_, by omega⟩
      unfold enc
      rw [if_pos h0]
      show b :: r = UInt8.ofNat b.toNat :: r
      congr 1
      simp
    · rw [if_neg h0] at h
      split at h
      · simp at h
      · split at h
        · simp at h
        · split at h
          · simp at h
          · rename_i h1 h2 h3
            simp only [Prod.mk.injEq, and_true] at h
            obtain ⟨rfl, rfl⟩ := h
            have hlt : valB (r.take (b.toNat - 239)) < 256 ^ (b.toNat - 239) := by
              have := valB_lt (r.take (b.toNat - 239))
              rwa [List.length_take, Nat.min_eq_left (by omega)] at this
            generalize hx : valB (r.take (b.toNat - 239)) = x at h3 hlt ⊢
            have hx63 : x < 9223372036854775808 := by omega
            have hx240 : ¬ x < 240 := by
              intro hc
              apply h3
              right
              unfold enc
              rw [if_pos hc]
              simp
              omega
            have hnb : nb x = b.toNat - 239 := by
              have a := nb_min hlt
              have c : ¬ (enc x).length ≤ b.toNat - 239 := fun hc => h3 (Or.inr hc)
              have e : (enc x).length = nb x + 1 := by unfold enc; rw [if_neg hx240]; simp [be_length]
              omega
            refine ⟨?_, hx63⟩
            unfold enc
            rw [if_neg hx240, hnb]
            have hbe : be x (b.toNat - 239) = r.take (b.toNat - 239) := by
              have := be_valB (r.take (b.toNat - 239))
              rw [List.length_take, Nat.min_eq_left (by omega), hx] at this
              exact this
            rw [hbe]
            have hb : UInt8.ofNat (239 + (b.toNat - 239)) = b := by
              rw [show 239 + (b.toNat - 239) = b.toNat by omega]
              simp
            rw [hb, List.cons_append, List.take_append_drop]
theorem sNum_inv {l t : List UInt8} {m k : Int} (h : sNum m l 0 = (k, t, 0)) : 0 ≤ k ∧ k ≤ m ∧ l = enc k.toNat ++ t ∧ k < 9223372036854775808 := by
  unfold sNum at h
  rw [if_pos rfl] at h
  split at h
  · rename_i h0
    split at h
    · simp at h
    · rename_i hm
      simp only [Prod.mk.injEq, and_true] at h
      obtain ⟨rfl, rfl⟩ := h
      have := sNumber_inv (l := l) (n := (sNumber l).1) (t := (sNumber l).2.1) (by rw [← h0])
      refine ⟨by omega, by omega, ?_, by omega⟩
      rw [Int.toNat_natCast]
      exact this.1
  · rename_i h0
    simp only [Prod.mk.injEq] at h
    exact absurd h.2.2 h0
theorem sNum_err {m : Int} {l : List UInt8} {e : Int} (h : e ≠ 0) : sNum m l e = (0, l, e) := by unfold sNum; rw [if_neg h]
theorem sInt_inv {l t : List UInt8} {x : Int} (h : sInt l 0 = (x, t, 0)) : l = be (tn x) 8 ++ t ∧ -9223372036854775808 ≤ x ∧ x ≤ 9223372036854775807 := by
  unfold sInt at h
  rw [if_pos rfl] at h
  split at h
  · simp at h
  · rename_i h8
    simp only [Prod.mk.injEq, and_true] at h
    obtain ⟨rfl, rfl⟩ := h
    have hv := val8_lt l
    have e : tn ((valB (l.take 8) : Int) - 9223372036854775808) = valB (l.take 8) := by unfold tn; omega
    refine ⟨?_, by omega, by omega⟩
    rw [e]
    have := be_valB (l.take 8)
    rw [List.length_take, Nat.min_eq_left (by omega)] at this
    rw [this, List.take_append_drop]
theorem sBits_inv {l t : List UInt8} {b : Nat} (h : sBits l 0 = (b, t, 0)) : l = be b 8 ++ t ∧ b ≤ 18446744073709551615 := by
  unfold sBits at h
  rw [if_pos rfl] at h
  split at h
  · simp at h
  · rename_i h8
    simp only [Prod.mk.injEq, and_true] at h
    obtain ⟨rfl, rfl⟩ := h
    have hv := val8_lt l
    refine ⟨?_, by omega⟩
    have := be_valB (l.take 8)
    rw [List.length_take, Nat.min_eq_left (by omega)] at this
    rw [this, List.take_append_drop]
theorem sText_inv {l t s : List UInt8} {m : Int} (h : sText m l 0 = (s, t, 0)) : l = enc s.length ++ (s ++ t) ∧ (s.length : Int) ≤ m := by
  unfold sText at h
  split at h
  · rename_i h0
    split at h
    · simp at h
    · rename_i hl
      simp only [Prod.mk.injEq, and_true] at h
      obtain ⟨rfl, rfl⟩ := h
      have := sNum_inv (m := m) (l := l) (k := (sNum m l 0).1) (t := (sNum m l 0).2.1) (Prod.ext rfl (Prod.ext rfl h0))
      obtain ⟨k0, k1, k2, k3⟩ := this
      have hlen : ((sNum m l 0).2.1.take (sNum m l 0).1.toNat).length = (sNum m l 0).1.toNat := by rw [List.length_take]; omega
      rw [hlen, List.take_append_drop]
      exact ⟨k2, by omega⟩
  · rename_i h0
    simp only [Prod.mk.injEq] at h
    exact absurd h.2.2 h0
theorem sInt_be (x : Int) (t : List UInt8) (h0 : -9223372036854775808 ≤ x) (h1 : x ≤ 9223372036854775807) : sInt (be (tn x) 8 ++ t) 0 = (x, t, 0) := by
  have hl := be_length (tn x) 8
  unfold sInt
  rw [if_pos rfl, if_neg (by rw [List.length_append]; omega)]
  have ht : (be (tn x) 8 ++ t).take 8 = be (tn x) 8 := by rw [List.take_append_of_le_length (by omega), List.take_of_length_le (by omega)]
  have hd : (be (tn x) 8 ++ t).drop 8 = t := by have := List.drop_left (l₁ := be (tn x) 8) (l₂ := t); rwa [hl] at this
  rw [ht, hd, valB_be (tn x) 8 (by have e : (256 : Nat) ^ 8 = 18446744073709551616 := by decide +kernel
                                   unfold tn; omega)]
  unfold tn
  congr 1
  omega
theorem sBits_be (b : Nat) (t : List UInt8) (h1 : b ≤ 18446744073709551615) : sBits (be b 8 ++ t) 0 = (b, t, 0) := by
  have hl := be_length b 8
  unfold sBits
  rw [if_pos rfl, if_neg (by rw [List.length_append]; omega)]
  have ht : (be b 8 ++ t).take 8 = be b 8 := by rw [List.take_append_of_le_length (by omega), List.take_of_length_le (by omega)]
  have hd : (be b 8 ++ t).drop 8 = t := by have := List.drop_left (l₁ := be b 8) (l₂ := t); rwa [hl] at this
  rw [ht, hd, valB_be b 8 (by have e : (256 : Nat) ^ 8 = 18446744073709551616 := by decide +kernel
                              omega)]
theorem sText_enc (s t : List UInt8) (m : Int) (h : (s.length : Int) ≤ m) (h2 : s.length < 9223372036854775808) : sText m (enc s.length ++ (s ++ t)) 0 = (s, t, 0) := by
  unfold sText
  rw [sNum_enc s.length m (s ++ t) h2 h]
  dsimp only
  rw [if_pos rfl, Int.toNat_natCast, if_neg (by rw [List.length_append]; omega)]
  rw [List.take_append_of_le_length (Nat.le_refl _), List.take_length, List.drop_left]
/-- How many values a list has, and these. -/
def rdN (f : List UInt8 → Int → Tv × List UInt8 × Int) : Nat → List UInt8 → Int → List Tv × List UInt8 × Int
  | 0, l, e => ([], l, e)
  | n + 1, l, e =>
    if (f l e).2.2 = 0 then
      if (rdN f n (f l e).2.1 0).2.2 = 0 then ((f l e).1 :: (rdN f n (f l e).2.1 0).1, (rdN f n (f l e).2.1 0).2.1, 0)
      else ([], (rdN f n (f l e).2.1 0).2.1, (rdN f n (f l e).2.1 0).2.2)
    else ([], (f l e).2.1, (f l e).2.2)
/-- What a failure leaves of what was to be read. -/
def flL (l : List UInt8) (e : Int) : List UInt8 := if e = 0 then [] else l
def flE (e f : Int) : Int := if e = 0 then f else e
/-- What a list's reading leaves; f reads one value. -/
def rdL (f : List UInt8 → Int → Tv × List UInt8 × Int) (l : List UInt8) (e : Int) : List Tv × List UInt8 × Int :=
  rdN f (sNum 12 l e).1.toNat (sNum 12 l e).2.1 (sNum 12 l e).2.2
/-- What reading a value leaves; g reads its list. -/
def rd1 (g : List UInt8 → Int → List Tv × List UInt8 × Int) (l : List UInt8) (e : Int) : Tv × List UInt8 × Int :=
  if (sNum 4 l e).1 = 1 then (.mk 1 (sInt (sNum 4 l e).2.1 (sNum 4 l e).2.2).1 0 ⟨#[]⟩ [], (sInt (sNum 4 l e).2.1 (sNum 4 l e).2.2).2)
  else if (sNum 4 l e).1 = 2 then
    (.mk 2 0 ((sBits (sNum 4 l e).2.1 (sNum 4 l e).2.2).1 : Int) ⟨#[]⟩ [],
      if cn (sBits (sNum 4 l e).2.1 (sNum 4 l e).2.2).1 = (sBits (sNum 4 l e).2.1 (sNum 4 l e).2.2).1 then (sBits (sNum 4 l e).2.1 (sNum 4 l e).2.2).2
      else (flL (sBits (sNum 4 l e).2.1 (sNum 4 l e).2.2).2.1 (sBits (sNum 4 l e).2.1 (sNum 4 l e).2.2).2.2, flE (sBits (sNum 4 l e).2.1 (sNum 4 l e).2.2).2.2 3))
  else if (sNum 4 l e).1 = 3 then (.mk 3 0 0 (str (sText 200 (sNum 4 l e).2.1 (sNum 4 l e).2.2).1) [], (sText 200 (sNum 4 l e).2.1 (sNum 4 l e).2.2).2)
  else if (sNum 4 l e).1 = 4 then (.mk 4 0 0 ⟨#[]⟩ (g (sNum 4 l e).2.1 (sNum 4 l e).2.2).1, (g (sNum 4 l e).2.1 (sNum 4 l e).2.2).2)
  else (.mk (sNum 4 l e).1 0 0 ⟨#[]⟩ [], (sNum 4 l e).2)
/-- What reading a value of at most d lists within one another leaves. -/
def rdV : Nat → List UInt8 → Int → Tv × List UInt8 × Int
  | 0, l, e => rd1 (fun l e => ([], flL l e, flE e 5)) l e
  | d + 1, l, e => rd1 (rdL (rdV d)) l e
end Go.Proofs.Ytobblioplfpndaa
namespace Go.Proofs.Ytobblioplfpndaa
open Go.ChangeShapes Go.WideShapes Go.ChangeAt Go.RowKit
/-- A value's numbers fit. -/
def FitT : Nat → Tv → Prop
  | 0, _ => False
  | n + 1, .mk _ x b _ l => (-9223372036854775808 ≤ x ∧ x ≤ 9223372036854775807) ∧ (0 ≤ b ∧ b ≤ 18446744073709551615) ∧ ∀ (i : Nat) t, l[i]? = some t → FitT n t
theorem Is.fitT {w : World} : ∀ {n : Nat} {v : Value} {t : Tv}, Is w n v t → FitT n t
  | 0, _, _, h => h
  | n + 1, v, .mk k x b s l, ⟨a, c, hv, hf, hr⟩ => ⟨⟨hf.x0, hf.x1⟩, ⟨hf.b0, hf.b1⟩, fun i t ht => by
      obtain ⟨B, o, c0, c1, c2, c3, c4, ha, h5, hi⟩ := hr i t ht
      exact hi.fitT⟩
theorem str_data (s : ByteArray) : str s.data.toList = s := by
  apply ByteArray.ext
  simp [str]
theorem str_size (s : List UInt8) : (str s).size = s.length := by simp [str, ByteArray.size]
theorem str_toList (s : List UInt8) : (str s).data.toList = s := by simp [str]
theorem data_len2 (s : ByteArray) : s.data.toList.length = s.size := by rw [Array.length_toList]; rfl
theorem nil_toList : (⟨#[]⟩ : ByteArray).toList = [] := by rw [Lib.toList_data]
theorem empty_of {s : ByteArray} (h : s.toList = []) : s = ⟨#[]⟩ := by
  rw [Lib.toList_data] at h
  cases s
  simpa using h
theorem rdN_flat {f : List UInt8 → Int → Tv × List UInt8 × Int} {n : Nat} : ∀ (ts : List Tv) (rest : List UInt8), (∀ t ∈ ts, ∀ rest, f (bytesT n t ++ rest) 0 = (t, rest, 0)) → rdN f ts.length ((ts.map (bytesT n)).flatten ++ rest) 0 = (ts, rest, 0)
  | [], rest, _ => rfl
  | t :: ts, rest, h => by
    have ih := rdN_flat ts rest (fun u hu => h u (by simp [hu]))
    have h1 := h t (by simp) ((ts.map (bytesT n)).flatten ++ rest)
    simp only [List.length_cons, List.map_cons, List.flatten_cons, List.append_assoc, rdN, h1, ih, if_true]
theorem rdV_back : ∀ (d n : Nat) (t : Tv) (rest : List UInt8), ShapeT n d t → FitT n t → rdV d (bytesT n t ++ rest) 0 = (t, rest, 0) := by
  intro d
  induction d with
  | zero =>
    intro n t rest hs hf
    cases n with
    | zero => exact hf.elim
    | succ n =>
      obtain ⟨k, x, b, s, l⟩ := t
      obtain ⟨⟨f0, f1, f2, f3, f4, f5, f6, f7, f8⟩, h4, _⟩ := hs
      obtain ⟨hx, hb, _⟩ := hf
      have hn : ∀ r, sNum 4 (enc k.toNat ++ r) 0 = (k, r, 0) := fun r => by
        rw [sNum_enc k.toNat 4 r (by omega) (by omega), Int.toNat_of_nonneg f0]
      have hk : k = 0 ∨ k = 1 ∨ k = 2 ∨ k = 3 := by
        have : k ≠ 4 := fun e => h4 e rfl
        omega
      simp only [rdV, bytesT, List.append_assoc]
      unfold rd1
      rw [hn]
      dsimp only
      have hl0 : l = [] := List.eq_nil_of_length_eq_zero (by omega)
      rcases hk with rfl | rfl | rfl | rfl
      · have hx0 : x = 0 := by omega
        have hb0 : b = 0 := by omega
        have hs0 : s = ⟨#[]⟩ := empty_of (by rcases f5 with h | h; exact absurd h (by decide); exact h)
        subst hx0 hb0 hs0 hl0
        simp
      · have hb0 : b = 0 := by omega
        have hs0 : s = ⟨#[]⟩ := empty_of (by rcases f5 with h | h; exact absurd h (by decide); exact h)
        subst hb0 hs0 hl0
        simp [sInt_be x rest hx.1 hx.2]
      · have hx0 : x = 0 := by omega
        have hs0 : s = ⟨#[]⟩ := empty_of (by rcases f5 with h | h; exact absurd h (by decide); exact h)
        subst hx0 hs0 hl0
        have hbb : ((b.toNat : Nat) : Int) = b := Int.toNat_of_nonneg hb.1
        simp [sBits_be b.toNat rest (by omega), f4, hbb]
      · have hx0 : x = 0 := by omega
        have hb0 : b = 0 := by omega
        subst hx0 hb0 hl0
        have hsz := data_len2 s
        have ht := sText_enc s.data.toList rest 200 (by omega) (by omega)
        rw [hsz] at ht
        simp [ht, str_data]
  | succ d ih =>
    intro n t rest hs hf
    cases n with
    | zero => exact hf.elim
    | succ n =>
      obtain ⟨k, x, b, s, l⟩ := t
      obtain ⟨⟨f0, f1, f2, f3, f4, f5, f6, f7, f8⟩, h4, hL⟩ := hs
      obtain ⟨hx, hb, hF⟩ := hf
      have hn : ∀ r, sNum 4 (enc k.toNat ++ r) 0 = (k, r, 0) := fun r => by
        rw [sNum_enc k.toNat 4 r (by omega) (by omega), Int.toNat_of_nonneg f0]
      have hk : k = 0 ∨ k = 1 ∨ k = 2 ∨ k = 3 ∨ k = 4 := by omega
      simp only [rdV, bytesT, List.append_assoc]
      unfold rd1
      rw [hn]
      dsimp only
      rcases hk with rfl | rfl | rfl | rfl | rfl
      · have hl0 : l = [] := List.eq_nil_of_length_eq_zero (by omega)
        have hx0 : x = 0 := by omega
        have hb0 : b = 0 := by omega
        have hs0 : s = ⟨#[]⟩ := empty_of (by rcases f5 with h | h; exact absurd h (by decide); exact h)
        subst hx0 hb0 hs0 hl0
        simp
      · have hl0 : l = [] := List.eq_nil_of_length_eq_zero (by omega)
        have hb0 : b = 0 := by omega
        have hs0 : s = ⟨#[]⟩ := empty_of (by rcases f5 with h | h; exact absurd h (by decide); exact h)
        subst hb0 hs0 hl0
        simp [sInt_be x rest hx.1 hx.2]
      · have hl0 : l = [] := List.eq_nil_of_length_eq_zero (by omega)
        have hx0 : x = 0 := by omega
        have hs0 : s = ⟨#[]⟩ := empty_of (by rcases f5 with h | h; exact absurd h (by decide); exact h)
        subst hx0 hs0 hl0
        have hbb : ((b.toNat : Nat) : Int) = b := Int.toNat_of_nonneg hb.1
        simp [sBits_be b.toNat rest (by omega), f4, hbb]
      · have hl0 : l = [] := List.eq_nil_of_length_eq_zero (by omega)
        have hx0 : x = 0 := by omega
        have hb0 : b = 0 := by omega
        subst hx0 hb0 hl0
        have hsz := data_len2 s
        have ht := sText_enc s.data.toList rest 200 (by omega) (by omega)
        rw [hsz] at ht
        simp [ht, str_data]
      · have hx0 : x = 0 := by omega
        have hb0 : b = 0 := by omega
        have hs0 : s = ⟨#[]⟩ := empty_of (by rcases f5 with h | h; exact absurd h (by decide); exact h)
        subst hx0 hb0 hs0
        have hc := sNum_enc l.length 12 ((l.map (bytesT n)).flatten ++ rest) (by omega) (by omega)
        have hN := rdN_flat (f := rdV d) (n := n) l rest (fun t ht r => by
          obtain ⟨i, hi⟩ := List.getElem?_of_mem ht
          have h1 := hL i t hi
          have e : ((d + 1 : Nat) : Int) - 1 = (d : Int) := by omega
          rw [e] at h1
          exact ih n t r h1 (hF i t hi))
        have hR : rdL (rdV d) (enc l.length ++ ((l.map (bytesT n)).flatten ++ rest)) 0 = (l, rest, 0) := by
          unfold rdL
          rw [hc]
          dsimp only
          rw [Int.toNat_natCast]
          exact hN
        simp [hR]
theorem flE_ne {e f : Int} (h : f ≠ 0) : flE e f ≠ 0 := by
  unfold flE
  split
  · exact h
  · assumption
theorem cn0 : cn 0 = 0 := by decide +kernel
theorem rdN_inv {f : List UInt8 → Int → Tv × List UInt8 × Int} {n : Nat} {P : Tv → Prop} (hf : ∀ l t rest, f l 0 = (t, rest, 0) → P t ∧ l = bytesT n t ++ rest) : ∀ (c : Nat) (l : List UInt8) (ts : List Tv) (rest : List UInt8), rdN f c l 0 = (ts, rest, 0) → ts.length = c ∧ (∀ (i : Nat) t, ts[i]? = some t → P t) ∧ l = (ts.map (bytesT n)).flatten ++ rest
  | 0, l, ts, rest, h => by
    simp only [rdN, Prod.mk.injEq] at h
    obtain ⟨rfl, rfl, _⟩ := h
    exact ⟨rfl, fun i t h => by simp at h, by simp⟩
  | c + 1, l, ts, rest, h => by
    unfold rdN at h
    split at h
    · rename_i h0
      split at h
      · rename_i h1
        simp only [Prod.mk.injEq, and_true] at h
        obtain ⟨rfl, rfl⟩ := h
        obtain ⟨p1, p2⟩ := hf l (f l 0).1 (f l 0).2.1 (Prod.ext rfl (Prod.ext rfl h0))
        obtain ⟨i1, i2, i3⟩ := rdN_inv hf c (f l 0).2.1 (rdN f c (f l 0).2.1 0).1 (rdN f c (f l 0).2.1 0).2.1 (Prod.ext rfl (Prod.ext rfl h1))
        refine ⟨by simp [i1], fun i t ht => ?_, ?_⟩
        · cases i with
          | zero => simp at ht; subst ht; exact p1
          | succ i => exact i2 i t (by simpa using ht)
        · rw [List.map_cons, List.flatten_cons, List.append_assoc, ← i3]
          exact p2
      · rename_i h1
        simp only [Prod.mk.injEq] at h
        exact absurd h.2.2 h1
    · rename_i h0
      simp only [Prod.mk.injEq] at h
      exact absurd h.2.2 h0
/-- A value that is no list is read just if it stands there. -/
theorem rd1_inv {g : List UInt8 → Int → List Tv × List UInt8 × Int} {n d : Nat} (hg : ∀ l ts rest, g l 0 = (ts, rest, 0) → d ≠ 0 ∧ ts.length ≤ 12 ∧ (∀ (i : Nat) t, ts[i]? = some t → ShapeT n ((d : Int) - 1) t) ∧ l = enc ts.length ++ ((ts.map (bytesT n)).flatten ++ rest))
    {l : List UInt8} {t : Tv} {rest : List UInt8} (h : rd1 g l 0 = (t, rest, 0)) : ShapeT (n + 1) d t ∧ l = bytesT (n + 1) t ++ rest := by
  have he : (sNum 4 l 0).2.2 = 0 := by
    by_cases hc : (sNum 4 l 0).2.2 = 0
    · exact hc
    · exfalso
      have hz := sNum_zero 4 l 0 hc
      unfold rd1 at h
      rw [if_neg (by omega), if_neg (by omega), if_neg (by omega), if_neg (by omega)] at h
      simp only [Prod.mk.injEq] at h
      apply hc
      rw [h.2]
  obtain ⟨k, l1, hn⟩ : ∃ k l1, sNum 4 l 0 = (k, l1, 0) := ⟨(sNum 4 l 0).1, (sNum 4 l 0).2.1, Prod.ext rfl (Prod.ext rfl he)⟩
  obtain ⟨k0, k1, k2, _⟩ := sNum_inv hn
  unfold rd1 at h
  rw [hn] at h
  dsimp only at h
  split at h
  · rename_i hk
    subst hk
    simp only [Prod.mk.injEq] at h
    obtain ⟨rfl, h2⟩ := h
    obtain ⟨i1, i2, i3⟩ := sInt_inv (x := (sInt l1 0).1) (t := rest) (Prod.ext rfl h2)
    refine ⟨⟨⟨by omega, by omega, .inl rfl, .inr rfl, cn0, .inr nil_toList, by decide, .inr rfl, by decide⟩, (fun e => absurd e (by decide)), fun i t ht => by simp at ht⟩, ?_⟩
    rw [k2]
    simp only [bytesT, List.append_assoc]
    simp
    exact i1
  · rename_i hk1
    split at h
    · rename_i hk
      subst hk
      split at h
      · rename_i hc
        simp only [Prod.mk.injEq] at h
        obtain ⟨rfl, h2⟩ := h
        obtain ⟨i1, i2⟩ := sBits_inv (b := (sBits l1 0).1) (t := rest) (Prod.ext rfl h2)
        refine ⟨⟨⟨by omega, by omega, .inr rfl, .inl rfl, by simpa using hc, .inr nil_toList, by decide, .inr rfl, by decide⟩, (fun e => absurd e (by decide)), fun i t ht => by simp at ht⟩, ?_⟩
        rw [k2]
        simp only [bytesT, List.append_assoc]
        simp
        exact i1
      · simp only [Prod.mk.injEq] at h
        exact absurd h.2.2 (flE_ne (by decide))
    · rename_i hk2
      split at h
      · rename_i hk
        subst hk
        simp only [Prod.mk.injEq] at h
        obtain ⟨rfl, h2⟩ := h
        obtain ⟨i1, i2⟩ := sText_inv (s := (sText 200 l1 0).1) (t := rest) (Prod.ext rfl h2)
        refine ⟨⟨⟨by omega, by omega, .inr rfl, .inr rfl, cn0, .inl rfl, by rw [str_size]; omega, .inr rfl, by simp⟩, (fun e => absurd e (by decide)), fun i t ht => by simp at ht⟩, ?_⟩
        rw [k2]
        simp only [bytesT, List.append_assoc]
        simp [str_size, str_toList]
        exact i1
      · rename_i hk3
        split at h
        · rename_i hk
          subst hk
          simp only [Prod.mk.injEq] at h
          obtain ⟨rfl, h2⟩ := h
          obtain ⟨i0, i1, i2, i3⟩ := hg l1 (g l1 0).1 rest (Prod.ext rfl h2)
          refine ⟨⟨⟨by omega, by omega, .inr rfl, .inr rfl, cn0, .inr nil_toList, by decide, .inl rfl, i1⟩, (fun _ e => i0 (by omega)), i2⟩, ?_⟩
          rw [k2]
          simp only [bytesT, List.append_assoc]
          simp
          exact i3
        · rename_i hk4
          have hk : k = 0 := by omega
          subst hk
          simp only [Prod.mk.injEq] at h
          obtain ⟨rfl, rfl, _⟩ := h
          refine ⟨⟨⟨by omega, by omega, .inr rfl, .inr rfl, cn0, .inr nil_toList, by decide, .inr rfl, by decide⟩, (fun e => absurd e (by decide)), fun i t ht => by simp at ht⟩, ?_⟩
          rw [k2]
          simp [bytesT]
theorem rdV_inv : ∀ (d : Nat) (l : List UInt8) (t : Tv) (rest : List UInt8), rdV d l 0 = (t, rest, 0) → ShapeT (d + 1) d t ∧ l = bytesT (d + 1) t ++ rest := by
  intro d
  induction d with
  | zero =>
    intro l t rest h
    refine rd1_inv (fun l ts rest hg => ?_) h
    simp only [Prod.mk.injEq] at hg
    exact absurd hg.2.2 (flE_ne (by decide))
  | succ d ih =>
    intro l t rest h
    refine rd1_inv (fun l ts rest hg => ?_) h
    have he : (sNum 12 l 0).2.2 = 0 := by
      by_cases hc : (sNum 12 l 0).2.2 = 0
      · exact hc
      · exfalso
        have hz := sNum_zero 12 l 0 hc
        unfold rdL at hg
        rw [hz] at hg
        simp only [Int.toNat_zero, rdN, Prod.mk.injEq] at hg
        exact hc hg.2.2
    obtain ⟨c, l1, hn⟩ : ∃ c l1, sNum 12 l 0 = (c, l1, 0) := ⟨(sNum 12 l 0).1, (sNum 12 l 0).2.1, Prod.ext rfl (Prod.ext rfl he)⟩
    obtain ⟨c0, c1, c2, _⟩ := sNum_inv hn
    unfold rdL at hg
    rw [hn] at hg
    dsimp only at hg
    obtain ⟨j1, j2, j3⟩ := rdN_inv (n := d + 1) (P := fun t => ShapeT (d + 1) (((d + 1 : Nat) : Int) - 1) t) (fun l t rest hh => by
      have e : ((d + 1 : Nat) : Int) - 1 = (d : Int) := by omega
      rw [e]
      exact ih l t rest hh) c.toNat l1 ts rest hg
    refine ⟨by omega, by omega, j2, ?_⟩
    rw [c2, j1, ← j3]
end Go.Proofs.Ytobblioplfpndaa
namespace Go.Proofs.Ytobblioplfpndaa
open Go.ChangeShapes Go.WideShapes Go.ChangeAt Go.RowKit
/-- As Is, all lists in blocks of which P holds. -/
def IsQ (P : Nat → Prop) (w : World) : Nat → Value → Tv → Prop
  | 0, _, _ => False
  | n + 1, v, .mk k x b s l => ∃ a c, v = .agg #[.int .i64 k, .int .i64 x, .int .u64 b, .string s, .slice a l.length c] ∧ Fit k x b s l.length c ∧
      ∀ i t, l[i]? = some t → ∃ B o c0 c1 c2 c3 c4, a = some ⟨B, o, none⟩ ∧ P B ∧ At5 w B (o + i * 5) c0 c1 c2 c3 c4 ∧ IsQ P w n (.agg #[c0, c1, c2, c3, c4]) t
theorem IsN.isQ {lo : Nat} {w : World} {P : Nat → Prop} (hP : ∀ B, lo ≤ B → B < w.heap.size → P B) : ∀ {n : Nat} {v : Value} {t : Tv}, IsN lo w n v t → IsQ P w n v t
  | 0, _, _, h => h
  | n + 1, v, .mk k x b s l, ⟨a, c, hv, hf, hr⟩ => ⟨a, c, hv, hf, fun i t ht => by
      obtain ⟨B, o, c0, c1, c2, c3, c4, ha, hB, h5, hi⟩ := hr i t ht
      exact ⟨B, o, c0, c1, c2, c3, c4, ha, hP B hB (World.block_lt_of_cell? w ⟨B, o + i * 5, none⟩ h5.1), h5, hi.isQ hP⟩⟩
theorem IsQ.isN {lo : Nat} {w : World} {P : Nat → Prop} (hP : ∀ B, P B → lo ≤ B) : ∀ {n : Nat} {v : Value} {t : Tv}, IsQ P w n v t → IsN lo w n v t
  | 0, _, _, h => h
  | n + 1, v, .mk k x b s l, ⟨a, c, hv, hf, hr⟩ => ⟨a, c, hv, hf, fun i t ht => by
      obtain ⟨B, o, c0, c1, c2, c3, c4, ha, hB, h5, hi⟩ := hr i t ht
      exact ⟨B, o, c0, c1, c2, c3, c4, ha, hP B hB, h5, hi.isN hP⟩⟩
theorem At5.keepB {w w' : World} {B p : Nat} {c0 c1 c2 c3 c4 : Value} (h : At5 w B p c0 c1 c2 c3 c4) (hk : w'.heap[B]? = w.heap[B]?) : At5 w' B p c0 c1 c2 c3 c4 := by
  have f : ∀ q, w'.cell? ⟨B, q, none⟩ = w.cell? ⟨B, q, none⟩ := fun q => World.cell?_of_block hk
  exact ⟨(f _).trans h.1, (f _).trans h.2.1, (f _).trans h.2.2.1, (f _).trans h.2.2.2.1, (f _).trans h.2.2.2.2⟩
/-- A value stays, while its blocks do. -/
theorem IsQ.keep {P P' : Nat → Prop} {w w' : World} (hk : ∀ B, P B → B < w.heap.size → w'.heap[B]? = w.heap[B]? ∧ P' B) : ∀ {n : Nat} {v : Value} {t : Tv}, IsQ P w n v t → IsQ P' w' n v t
  | 0, _, _, h => h
  | n + 1, v, .mk k x b s l, ⟨a, c, hv, hf, hr⟩ => ⟨a, c, hv, hf, fun i t ht => by
      obtain ⟨B, o, c0, c1, c2, c3, c4, ha, hB, h5, hi⟩ := hr i t ht
      have hb := hk B hB (World.block_lt_of_cell? w ⟨B, o + i * 5, none⟩ h5.1)
      exact ⟨B, o, c0, c1, c2, c3, c4, ha, hb.2, h5.keepB hb.1, hi.keep hk⟩⟩
/-- The values ts, in a list of the call's own. -/
def Vs (lo n : Nat) (w : World) (u : Value) (ts : List Tv) : Prop :=
  ∃ cells, w.ownsRow lo 25 5 u ts.length cells ∧ ∀ (i : Nat) t, ts[i]? = some t → ∃ c0 c1 c2 c3 c4, cells[i * 5]? = some c0 ∧ cells[i * 5 + 1]? = some c1 ∧ cells[i * 5 + 2]? = some c2 ∧ cells[i * 5 + 3]? = some c3 ∧ cells[i * 5 + 4]? = some c4 ∧
    IsQ (fun B => lo ≤ B ∧ u.ownBlock ≠ some B) w n (.agg #[c0, c1, c2, c3, c4]) t
theorem Vs.nil (lo n : Nat) (w : World) : Vs lo n w (.slice none 0 0) [] := ⟨[], World.ownsRow_nil _ _ _ _, fun i t h => by simp at h⟩
theorem row_kept {lo k : Nat} {w w' : World} {u : Value} {cells : List Value} (h : w.ownsRow lo 25 5 u k cells) (hk : ∀ B, u.ownBlock = some B → w'.heap[B]? = w.heap[B]?) : w'.ownsRow lo 25 5 u k cells := by
  obtain ⟨h1, h2 | ⟨g, cap, cur, rfl, hB, hg, r⟩⟩ := h
  · exact ⟨h1, .inl h2⟩
  · exact ⟨h1, .inr ⟨g, cap, cur, rfl, hB, by rw [hk g rfl]; exact hg, r⟩⟩
/-- The list stays, while its blocks do. -/
theorem Vs.keep {lo n : Nat} {w w' : World} {u : Value} {ts : List Tv} (h : Vs lo n w u ts) (hk : ∀ B, lo ≤ B → B < w.heap.size → w'.heap[B]? = w.heap[B]?) : Vs lo n w' u ts := by
  obtain ⟨cells, ho, hc⟩ := h
  refine ⟨cells, row_kept ho (fun B hB => by have := World.ownsRow.lt ho B hB; exact hk B this.1 this.2), fun i t ht => ?_⟩
  obtain ⟨c0, c1, c2, c3, c4, e0, e1, e2, e3, e4, hi⟩ := hc i t ht
  exact ⟨c0, c1, c2, c3, c4, e0, e1, e2, e3, e4, hi.keep (fun B hB hl => ⟨hk B hB.1 hl, hB⟩)⟩
theorem Vs.shape {lo n : Nat} {w : World} {u : Value} {ts : List Tv} (h : Vs lo n w u ts) : ∃ a c, u = .slice a ts.length c ∧ ts.length ≤ c ∧ c ≤ 9223372036854775807 := by
  obtain ⟨_, ⟨_, ⟨rfl, h2⟩ | ⟨g, cap, cur, rfl, _, _, hle, hm, _⟩⟩, _⟩ := h
  · exact ⟨none, 0, by rw [h2], by omega, by omega⟩
  · unfold maxLen at hm
    exact ⟨_, _, rfl, hle, by omega⟩
theorem Vs.row {lo n : Nat} {w : World} {a : Option Addr} {k c : Nat} {ts : List Tv} (h : Vs lo n w (.slice a k c) ts) : RowN lo (IsN lo w n) w a ts := by
  obtain ⟨cells, ho, hc⟩ := h
  intro i t ht
  have hlt : i < ts.length := (List.getElem?_eq_some_iff.1 ht).1
  obtain ⟨c0, c1, c2, c3, c4, e0, e1, e2, e3, e4, hi⟩ := hc i t ht
  have ho2 := ho
  obtain ⟨_, ⟨hu, h2⟩ | ⟨g, cap, cur, hu, hB, _⟩⟩ := ho
  · omega
  · cases hu
    have f : ∀ r x, r < 5 → cells[i * 5 + r]? = some x → w.cell? ⟨g, i * 5 + r, none⟩ = some x := fun r x hr hx => by rw [World.ownsRow.cellAt ho2 (i * 5 + r) (by omega), hx]
    exact ⟨g, 0, c0, c1, c2, c3, c4, rfl, hB, by
      rw [Nat.zero_add]
      exact ⟨f 0 c0 (by omega) e0, f 1 c1 (by omega) e1, f 2 c2 (by omega) e2, f 3 c3 (by omega) e3, f 4 c4 (by omega) e4⟩, hi.isN (fun B hB => hB.1)⟩
/-- append of one value. -/
theorem vapp_run {lo n src : Nat} {W : World} {u : Value} {ts : List Tv} {t : Tv} {c0 c1 c2 c3 c4 : Value} (ho : Vs lo n W u ts) (h5 : At5 W src 0 c0 c1 c2 c3 c4) (hs1 : ∀ z ∈ [c0, c1, c2, c3, c4], z.oneCell' = true) (hv : IsQ (fun B => lo ≤ B ∧ u.ownBlock ≠ some B) W n (.agg #[c0, c1, c2, c3, c4]) t) (hB : lo ≤ W.heap.size) (hk : ts.length ≤ 1000) :
    ∃ u' w', (∀ ty, (Builtin.append_ #[23, 23] ty #[u, .slice (some ⟨src, 0, none⟩) 1 1]).run Try.prog W = .ok u' w') ∧ Vs lo n w' u' (ts ++ [t]) ∧ Below lo W w' ∧ (∀ B, B < W.heap.size → u.ownBlock ≠ some B → w'.heap[B]? = W.heap[B]?) := by
  obtain ⟨cells, hown, hc⟩ := ho
  obtain ⟨i0, hi, hz0, hz1, hz2⟩ := info_parts info25
  have hnews : ∀ j z, [c0, c1, c2, c3, c4][j]? = some z → W.cell? ((⟨src, 0, none⟩ : Addr).add j) = some z := fun j z hj => by
    rw [add_plain]
    obtain ⟨q0, q1, q2, q3, q4⟩ := h5
    match j, hj with
    | 0, hj => cases hj; exact q0
    | 1, hj => cases hj; exact q1
    | 2, hj => cases hj; exact q2
    | 3, hj => cases hj; exact q3
    | 4, hj => cases hj; exact q4
    | j + 5, hj => simp at hj
  have key : ∀ ty, ∃ v' w', (Builtin.append_ #[23, 23] ty #[u, .slice (some ⟨src, 0, none⟩) 1 1]).run Try.prog W = .ok v' w' ∧ w'.ownsRow lo 25 5 v' (ts.length + 1) (cells ++ [c0, c1, c2, c3, c4]) ∧ W.grownBy w' u.ownBlock ∧ _ := fun ty =>
    run_append_own (P := Try.prog) (w := W) lo 23 ty 25 i0 _ 5 64 Try.underlying23 hi hz0 hz1 hz2 rfl (by decide) u ts.length cells hown ⟨src, 0, none⟩ 1 1 [c0, c1, c2, c3, c4] rfl hnews hs1 (by unfold maxLen; omega) (by omega) hB
  obtain ⟨u', w', hr, hown', hgrow, _⟩ := key 23
  have hblk : u'.ownBlock = u.ownBlock ∨ u'.ownBlock = some W.heap.size := by
    have hown2 := hown
    obtain ⟨hcl, ⟨rfl, hn0⟩ | ⟨g, cap, cur, rfl, _, hg, hle, _, hcs, _⟩⟩ := hown2
    · have h2 := run_append_nil (P := Try.prog) W 23 23 25 i0 _ Try.underlying23 hi hz0 ⟨src, 0, none⟩ 1 1 [c0, c1, c2, c3, c4] (by rw [hz1]; rfl) hnews (by omega) (by omega) (by rw [hz2]; omega)
      have e := hr.symm.trans h2
      cases e
      exact .inr rfl
    · by_cases hroom : ts.length + 1 ≤ cap
      · have h2 := run_append_room (P := Try.prog) W 23 23 25 i0 Try.underlying23 hi g ts.length cap cur hg ⟨src, 0, none⟩ 1 1 [c0, c1, c2, c3, c4] (by rw [hz1]; rfl) hnews hs1 hroom (by rw [hz1, hcs]; simp; omega)
        have e := hr.symm.trans h2
        cases e
        exact .inl rfl
      · have holds : ∀ j z, cells[j]? = some z → W.cell? ((⟨g, 0, none⟩ : Addr).add j) = some z := hown.cells (g := g) rfl
        have h2 := run_append_grow (P := Try.prog) W 23 23 25 i0 _ Try.underlying23 hi hz0 ⟨g, 0, none⟩ ts.length cap cells (by rw [hz1]; exact hcl) holds ⟨src, 0, none⟩ 1 1 [c0, c1, c2, c3, c4] (by rw [hz1]; rfl) hnews (by omega) (by omega) (growslice_fits (by omega) (by rw [hz2]; omega))
        have e := hr.symm.trans h2
        cases e
        exact .inr rfl
  have hkeep : ∀ B, B < W.heap.size → u.ownBlock ≠ some B → w'.heap[B]? = W.heap[B]? := fun B hB2 hne => hgrow.block B hB2 (fun e => hne e.symm)
  have hold : ∀ {v : Value} {t : Tv}, IsQ (fun B => lo ≤ B ∧ u.ownBlock ≠ some B) W n v t → IsQ (fun B => lo ≤ B ∧ u'.ownBlock ≠ some B) w' n v t := fun h => h.keep (fun B hB2 hl => ⟨hkeep B hl hB2.2, hB2.1, by
    rcases hblk with e | e
    · rw [e]; exact hB2.2
    · rw [e]; intro e2; injection e2 with e2; omega⟩)
  have hcl : cells.length = ts.length * 5 := hown.1
  refine ⟨u', w', fun ty => hr, ⟨cells ++ [c0, c1, c2, c3, c4], by rw [List.length_append]; exact hown', fun i y hy => ?_⟩, (Below.refl _ W).grown hgrow hB (fun k hk2 => (World.ownsRow.lt hown k hk2).1), hkeep⟩
  by_cases hlt : i < ts.length
  · rw [List.getElem?_append_left hlt] at hy
    obtain ⟨d0, d1, d2, d3, d4, e0, e1, e2, e3, e4, hq⟩ := hc i y hy
    have g : ∀ r z, r < 5 → cells[i * 5 + r]? = some z → (cells ++ [c0, c1, c2, c3, c4])[i * 5 + r]? = some z := fun r z hr2 hz => by rw [List.getElem?_append_left (by omega)]; exact hz
    exact ⟨d0, d1, d2, d3, d4, g 0 d0 (by omega) e0, g 1 d1 (by omega) e1, g 2 d2 (by omega) e2, g 3 d3 (by omega) e3, g 4 d4 (by omega) e4, hold hq⟩
  · have hi2 : i = ts.length := by
      have := (List.getElem?_eq_some_iff.1 hy).1
      simp at this
      omega
    subst hi2
    rw [List.getElem?_append_right (Nat.le_refl _)] at hy
    simp at hy
    subst hy
    have g : ∀ r, r < 5 → (cells ++ [c0, c1, c2, c3, c4])[ts.length * 5 + r]? = [c0, c1, c2, c3, c4][r]? := fun r hr2 => by rw [List.getElem?_append_right (by omega), hcl, Nat.add_sub_cancel_left]
    exact ⟨c0, c1, c2, c3, c4, g 0 (by omega), g 1 (by omega), g 2 (by omega), g 3 (by omega), g 4 (by omega), hold hv⟩
end Go.Proofs.Ytobblioplfpndaa
namespace Go.Proofs.Ytobblioplfpndaa
open Go.ChangeShapes Go.WideShapes Go.ChangeAt Go.RowKit
theorem kb_below {g : Nat} {w a b : World} (h : KB g w a) (k : Below w.heap.size a b) : KB g w b :=
  ⟨k.os.trans h.1, k.tape.trans h.2.1, k.output.trans h.2.2.1, Nat.le_trans h.2.2.2.1 k.size, fun i hi hg => (k.block i hi).trans (h.2.2.2.2 i hi hg)⟩
/-- A reader stays, while its two blocks do. -/
theorem St.keep {w w' : World} {g h : Nat} {l : List UInt8} {e : Int} (r : St w g h l e) (_hs : w.heap.size ≤ w'.heap.size) (h1 : w'.heap[g]? = w.heap[g]?) (h2 : w'.heap[h]? = w.heap[h]?) : St w' g h l e := by
  have fg : ∀ o, w'.cell? ⟨g, o, none⟩ = w.cell? ⟨g, o, none⟩ := fun o => World.cell?_of_block h1
  have fh : ∀ o, w'.cell? ⟨h, o, none⟩ = w.cell? ⟨h, o, none⟩ := fun o => World.cell?_of_block h2
  have zg : ∀ o, w'.frozen? ⟨g, o, none⟩ = w.frozen? ⟨g, o, none⟩ := fun o => World.frozen?_of_block h1
  rcases r with ⟨h0, p, c, a0, a1, a2, f1, f2, hl, hg, hb⟩ | ⟨h0, hl, a0, a2⟩
  · refine .inl ⟨h0, p, c, (fg 0).trans a0, (fg 1).trans a1, (fg 2).trans a2, (zg 1).trans f1, (zg 2).trans f2, hl, hg, fun hne => ?_⟩
    obtain ⟨o, hp, hcell⟩ := hb hne
    exact ⟨o, hp, fun i x hx => (fh _).trans (hcell i x hx)⟩
  · exact .inr ⟨h0, hl, (fg 0).trans a0, (fg 2).trans a2⟩
theorem St.lt {w : World} {g h : Nat} {l : List UInt8} {e : Int} (r : St w g h l e) : g < w.heap.size := by
  rcases r with ⟨_, p, c, a0, _⟩ | ⟨_, _, a0, _⟩
  · exact World.block_lt_of_cell? w ⟨g, 0, none⟩ a0
  · exact World.block_lt_of_cell? w ⟨g, 0, none⟩ a0
/-- What reading a value leaves. -/
def RdP (w : World) (g h n : Nat) (r : Tv × List UInt8 × Int) (x : Ending) (w' : World) : Prop :=
  ∃ v, x = .returned v ∧ IsN w.heap.size w' n v r.1 ∧ St w' g h r.2.1 r.2.2 ∧ KB g w w'
def ReadAt (f : List UInt8 → Int → Tv × List UInt8 × Int) (d n : Nat) : Prop := ∀ (w : World) (g h : Nat) (l : List UInt8) (e : Int), St w g h l e → h < w.heap.size →
    Calls Try.prog 59 #[.pointer (some ⟨g, 0, none⟩), .int .i64 (d : Int)] w (RdP w g h n (f l e))
/-- What reading a list leaves. -/
def LsP (w : World) (g h n : Nat) (r : List Tv × List UInt8 × Int) (x : Ending) (w' : World) : Prop :=
  ∃ a c, x = .returned (.slice a r.1.length c) ∧ r.1.length ≤ c ∧ c ≤ 9223372036854775807 ∧ RowN w.heap.size (IsN w.heap.size w' n) w' a r.1 ∧ St w' g h r.2.1 r.2.2 ∧ KB g w w'
def ListAt (f : List UInt8 → Int → List Tv × List UInt8 × Int) (d n : Nat) : Prop := ∀ (w : World) (g h : Nat) (l : List UInt8) (e : Int), St w g h l e → h < w.heap.size →
    Calls Try.prog 84 #[.pointer (some ⟨g, 0, none⟩), .int .i64 (d : Int)] w (LsP w g h n (f l e))
theorem fl_l (l : List UInt8) (e f : Int) (hf : (f != 0) = true) : (if e == 0 && f != 0 then [] else l) = flL l e := by
  unfold flL
  rw [hf]
  by_cases h : e = 0 <;> simp [h]
theorem fl_e (e f : Int) : (if e == 0 then f else e) = flE e f := by
  unfold flE
  by_cases h : e = 0 <;> simp [h]
set_option maxHeartbeats 1000000 in
theorem list0_calls (n : Nat) : ListAt (fun l e => ([], flL l e, flE e 5)) 0 n := by
  intro w g h l e r hh
  have F : Hid (Calls Try.prog 60 #[.pointer (some ⟨g, 0, none⟩), .int .i64 5] w fun r w' => r = .returned (.tuple #[]) ∧ St w' g h (flL l e) (flE e 5) ∧ KB g w w') := by
    have := fail_st w g h l e 5 r
    rwa [fl_l l e 5 (by decide), fl_e e 5] at this
  clear r
  go_enter Try.func84, Try.ntmps84
  go_wp2_with fail
  refine F.out.mono ?_
  rintro e1 w1 ⟨rfl, s1, k1⟩
  have S1 : Hid (St w1 g h (flL l e) (flE e 5)) := s1
  have K1 : Hid (KB g w w1) := k1
  clear s1 k1
  go_wp2_with fail
  go_ret
  exact ⟨none, 0, rfl, Nat.le_refl _, by omega, fun i t ht => by simp at ht, S1.out, K1.out⟩
theorem rdN_err {f : List UInt8 → Int → Tv × List UInt8 × Int} : ∀ (n : Nat) (l : List UInt8) (e : Int), (rdN f n l e).2.2 ≠ 0 → (rdN f n l e).1 = []
  | 0, l, e, _ => rfl
  | n + 1, l, e, h => by
    unfold rdN at h ⊢
    split at h
    · split at h
      · exact absurd rfl h
      · rename_i h0 h1
        rw [if_pos h0, if_neg h1]
    · rename_i h0
      rw [if_neg h0]
/-- What was read so far, and what comes of the rest. -/
def jn (acc : List Tv) (q : List Tv × List UInt8 × Int) : List Tv × List UInt8 × Int := if q.2.2 = 0 then (acc ++ q.1, q.2.1, 0) else ([], q.2.1, q.2.2)
theorem jn_nil {f : List UInt8 → Int → Tv × List UInt8 × Int} (n : Nat) (l : List UInt8) (e : Int) : jn [] (rdN f n l e) = rdN f n l e := by
  unfold jn
  split
  · rename_i h
    rw [List.nil_append]
    exact Prod.ext rfl (Prod.ext rfl h.symm)
  · rename_i h
    exact Prod.ext (rdN_err n l e h).symm rfl
theorem jn_more {f : List UInt8 → Int → Tv × List UInt8 × Int} (acc : List Tv) (n : Nat) (l : List UInt8) (h : (f l 0).2.2 = 0) : jn acc (rdN f (n + 1) l 0) = jn (acc ++ [(f l 0).1]) (rdN f n (f l 0).2.1 0) := by
  unfold jn
  conv => lhs; unfold rdN
  rw [if_pos h]
  by_cases h1 : (rdN f n (f l 0).2.1 0).2.2 = 0
  · simp [h1]
  · simp [h1]
theorem jn_end {f : List UInt8 → Int → Tv × List UInt8 × Int} (acc : List Tv) (n : Nat) (l : List UInt8) (h : (f l 0).2.2 ≠ 0) : jn acc (rdN f (n + 1) l 0) = ([], (f l 0).2.1, (f l 0).2.2) := by
  unfold jn
  conv => lhs; unfold rdN
  rw [if_neg h]
  simp [h]
set_option maxHeartbeats 1000000 in
set_option maxRecDepth 100000 in
theorem list_calls (f : List UInt8 → Int → Tv × List UInt8 × Int) (d n : Nat) (hd : d ≤ 4) (hR : ReadAt f d n) : ListAt (rdL f) (d + 1) n := by
  intro w g h l e r hh
  have NC := num_st w g h l e 12 r
  have n0 := sNum_nat 12 l e
  have nle : (sNum 12 l e).1 ≤ 12 := by
    unfold sNum
    split
    · split
      · split
        · simp
        · simp; omega
      · simp
    · simp
  have nz := sNum_zero 12 l e
  have hdef : rdL f l e = rdN f (sNum 12 l e).1.toNat (sNum 12 l e).2.1 (sNum 12 l e).2.2 := rfl
  rw [hdef]
  generalize (sNum 12 l e).1 = k at NC n0 nle nz ⊢
  generalize (sNum 12 l e).2.1 = l1 at NC ⊢
  generalize (sNum 12 l e).2.2 = e1 at NC nz ⊢
  obtain ⟨N, rfl⟩ := Int.eq_ofNat_of_zero_le n0
  rw [Int.toNat_natCast]
  have HNC : Hid (Calls Try.prog 80 #[.pointer (some ⟨g, 0, none⟩), .int .i64 12] w (Rs w g h (.int .i64 (N : Int)) l1 e1)) := NC
  have HZ : Hid (N = 0 ∨ e1 = 0) := by
    show _ ∨ _
    by_cases h0 : e1 = 0
    · exact .inr h0
    · exact .inl (by have := nz h0; omega)
  have HN : Hid (N ≤ 12) := by show _ ≤ _; omega
  have HR : Hid (ReadAt f d n) := hR
  have HH : Hid (h < w.heap.size ∧ g < w.heap.size) := ⟨hh, r.lt⟩
  have f0 : (((d + 1 : Nat) : Int) == 0) = false := by simp; omega
  obtain ⟨D, hD⟩ : ∃ D : Int, D = ((d + 1 : Nat) : Int) := ⟨_, rfl⟩
  rw [← hD] at f0 ⊢
  have hdw : IntKind.i64.wrap (D - 1) = (d : Int) := by rw [hD, IntKind.wrap_i64]; omega
  have hdw2 : wrap64 (D - 1) = (d : Int) := by rw [hD]; unfold wrap64; omega
  have hNb : (N : Int) ≤ 12 := by have := HN.out; omega
  clear NC n0 nle nz hdef r hR hh hD hd
  go_enter Try.func84, Try.ntmps84
  go_wp2_with fail
  refine HNC.out.mono ?_
  rintro x w1 ⟨rfl, s1, k1⟩
  have S1 : Hid (St w1 g h l1 e1) := s1
  have K1 : Hid (KB g w w1) := k1
  clear s1 k1
  go_wp2_with fail
  go_loopw [5, 12] (fun u i wr => ∃ (j : Nat) (acc : List Tv) (lj : List UInt8) (ej : Int), j ≤ N ∧ i = .int .i64 (j : Int) ∧ Hid (acc.length = j) ∧ Hid (Vs w.heap.size n wr u acc) ∧ Hid (St wr g h lj ej) ∧ Hid (KB g w wr) ∧ Hid (N = 0 ∨ ej = 0) ∧ Hid (rdN f N l1 e1 = jn acc (rdN f (N - j) lj ej))) (fun _ i _ => N - (intOf i).toNat)
  case atStart => exact ⟨0, [], l1, e1, Nat.zero_le _, rfl, rfl, Vs.nil _ _ _, S1, K1, HZ, (by show _ = _; rw [Nat.sub_zero, jn_nil])⟩
  case round =>
    obtain ⟨j, acc, lj, ej, hj, rfl, HA, HV, HS, HK, HE, HJ⟩ := hrel
    obtain ⟨ua, un, uc, hu⟩ : ∃ a n c, u5 = .slice a n c := by obtain ⟨a, c, h, _⟩ := HV.out.shape; exact ⟨_, _, _, h⟩
    by_cases hlt : j < N
    · have ej0 : ej = 0 := by rcases HE.out with h | h; omega; exact h
      subst ej0
      have hszw : w.heap.size ≤ wr.heap.size := HK.out.2.2.2.1
      have RC : Hid (Calls Try.prog 59 #[.pointer (some ⟨g, 0, none⟩), .int .i64 (d : Int)] wr (RdP wr g h n (f lj 0))) := HR.out wr g h lj 0 HS.out (Nat.lt_of_lt_of_le HH.out.1 hszw)
      have hjl : (j : Int) < (N : Int) := by omega
      subst hu
      clear hszw
      go_wp2_with fail
      refine RC.out.mono ?_
      rintro x w2 ⟨v, rfl, hi2, hs2, hk2⟩
      obtain ⟨vk, vx, vb, vs, va, vm, vc, rfl⟩ := hi2.shape
      have hz0 : w.heap.size ≤ wr.heap.size := HK.out.2.2.2.1
      have hz2 : wr.heap.size ≤ w2.heap.size := hk2.2.2.2.1
      have hvs2 : Vs w.heap.size n w2 (.slice ua un uc) acc := HV.out.keep (fun B h1 h2 => hk2.2.2.2.2 B h2 (by have := HH.out.2; omega))
      have hVW : Vs w.heap.size n (w2.alloc (.cells #[.int .i64 vk, .int .i64 vx, .int .u64 vb, .string vs, .slice va vm vc] 25)) (.slice ua un uc) acc := hvs2.keep (fun B _ h2 => (bel1 w2 _).block B h2)
      have hlto : ∀ B, (Value.slice ua un uc).ownBlock = some B → B < wr.heap.size := fun B hB => by obtain ⟨cells, ho, _⟩ := HV.out; exact (World.ownsRow.lt ho B hB).2
      have hq : IsQ (fun B => w.heap.size ≤ B ∧ (Value.slice ua un uc).ownBlock ≠ some B) w2 n (.agg #[.int .i64 vk, .int .i64 vx, .int .u64 vb, .string vs, .slice va vm vc]) (f lj 0).1 := hi2.isQ (fun B h1 _ => ⟨by omega, fun e => by have := hlto B e; omega⟩)
      obtain ⟨u', w3, hr3, hv3, hb3, hk3⟩ := vapp_run (src := w2.heap.size) hVW (box_at w2 _ _ _ _ _) (by intro z hz; simp only [List.mem_cons, List.not_mem_nil, or_false] at hz; rcases hz with rfl | rfl | rfl | rfl | rfl <;> rfl) (hq.keep (fun B hB hl => ⟨(bel1 w2 _).block B hl, hB⟩)) (by simp; omega) (by have := HA.out; have := HN.out; omega)
      have hgo : ∀ B, B < w.heap.size → w3.heap[B]? = w2.heap[B]? := fun B hB => (hb3.block B hB).trans ((bel1 w2 _).block B (by omega))
      have S3 : Hid (St w3 g h (f lj 0).2.1 (f lj 0).2.2) := hs2.keep (by have := hb3.size; simp at this; omega) (hgo g HH.out.2) (hgo h HH.out.1)
      have K3 : Hid (KB g w w3) := kb_below (HK.out.trans hk2) (((bel1 w2 _).mono (by omega)).trans hb3)
      have EC : Hid (Calls Try.prog 34 #[.pointer (some ⟨g, 0, none⟩)] w3 _) := err_st S3.out
      have V3 : Hid (Vs w.heap.size n w3 u' (acc ++ [(f lj 0).1])) := hv3
      obtain ⟨ua', un', uc', hu'⟩ : ∃ a n c, u' = .slice a n c := by obtain ⟨a, c, h, _⟩ := hv3.shape; exact ⟨_, _, _, h⟩
      subst hu'
      obtain ⟨m, hm⟩ : ∃ m, N - j = m + 1 := ⟨N - j - 1, by omega⟩
      have HJ2 : Hid (rdN f N l1 e1 = jn acc (rdN f (m + 1) lj 0)) := by show _ = _; rw [HJ.out, hm]
      have HM : Hid (N - (j + 1) = m) := by show _ = _; omega
      obtain ⟨e2, he2⟩ : ∃ e2, e2 = (f lj 0).2.2 := ⟨_, rfl⟩
      rw [← he2] at EC
      have HE2 : Hid (e2 = (f lj 0).2.2) := he2
      clear hi2 hs2 hk2 hz0 hz2 hvs2 hVW hlto hq hv3 hb3 hk3 hgo hm he2
      go_wp2_with (at_builtin; refine Lib.wpList_append_run _ rfl _ _ 23 23 rfl _ _ rfl rfl _ _ (hr3 _) ?_)
      refine EC.out.mono ?_
      rintro x w4 ⟨rfl, hw4⟩
      have hw5 := hw4.symm
      subst hw5
      clear hw4
      by_cases h0 : e2 = 0
      · have d0 : (e2 != 0) = false := by simp [h0]
        have HF0 : Hid ((f lj 0).2.2 = 0) := HE2.out.symm.trans h0
        clear h0
        go_wp2_with fail
        refine ⟨⟨j + 1, acc ++ [(f lj 0).1], (f lj 0).2.1, 0, hlt, by rw [Int.natCast_add]; rfl, (by show _ = _; rw [List.length_append, HA.out]; rfl), V3, (by have := S3.out; rwa [HF0.out] at this), K3, .inr rfl, (by show _ = _; rw [HJ2.out, HM.out, jn_more acc m lj HF0.out])⟩, ?_⟩
        simp only [intOf]
        omega
      · have d0 : (e2 != 0) = true := by simpa using h0
        have HF0 : Hid ((f lj 0).2.2 ≠ 0) := fun hc => h0 (HE2.out.trans hc)
        clear h0
        go_wp2_with fail
        go_ret
        rw [HJ2.out, jn_end acc m lj HF0.out]
        exact ⟨none, 0, rfl, Nat.le_refl _, by omega, fun i t ht => by simp at ht, S3.out, K3.out⟩
    · obtain rfl : j = N := by omega
      obtain ⟨va, vc, hv, hvc, hvm⟩ := HV.out.shape
      subst hv
      have HJ2 : Hid (rdN f j l1 e1 = (if ej = 0 then (acc, lj, 0) else ([], lj, ej))) := by
        show _ = _
        rw [HJ.out, Nat.sub_self]
        unfold jn rdN
        simp
      have HVC : Hid (acc.length ≤ vc ∧ vc ≤ 9223372036854775807) := ⟨hvc, hvm⟩
      obtain ⟨L, hL⟩ : ∃ L, L = acc.length := ⟨_, rfl⟩
      rw [← hL]
      have HL : Hid (L = acc.length) := hL
      clear hvc hvm hL hu
      go_wp2_with fail
      go_ret
      rw [HJ2.out]
      by_cases h0 : ej = 0
      · subst h0
        rw [if_pos rfl, HL.out]
        exact ⟨va, vc, rfl, HVC.out.1, HVC.out.2, HV.out.row, HS.out, HK.out⟩
      · rw [if_neg h0]
        have hj0 : acc = [] := List.eq_nil_of_length_eq_zero (by rcases HE.out with h | h; have := HA.out; omega; exact absurd h h0)
        have hLe := HL.out
        subst hj0
        simp at hLe
        subst hLe
        exact ⟨va, vc, rfl, Nat.zero_le _, HVC.out.2, fun i t ht => by simp at ht, HS.out, HK.out⟩
end Go.Proofs.Ytobblioplfpndaa
namespace Go.Proofs.Ytobblioplfpndaa
open Go.ChangeShapes Go.WideShapes Go.ChangeAt Go.RowKit
/-- The world while a value is read: its result's box, its own box at q, and the reader. -/
structure Mid (w W : World) (g h q : Nat) (l : List UInt8) (e : Int) (c0 c1 c2 c3 c4 : Value) : Prop where
  q0 : w.heap.size < q
  q1 : q < W.heap.size
  gw : g < w.heap.size
  hw : h < w.heap.size
  res : At5 W w.heap.size 0 (.int .i64 0) (.int .i64 0) (.int .u64 0) (.string ⟨#[]⟩) (.slice none 0 0)
  rfr : ∀ o, W.frozen? ⟨w.heap.size, o, none⟩ = false
  own : At5 W q 0 c0 c1 c2 c3 c4
  ofr : ∀ o, W.frozen? ⟨q, o, none⟩ = false
  st : St W g h l e
  kb : KB g w W
theorem Mid.step {w W w' : World} {g h q : Nat} {l l' : List UInt8} {e e' : Int} {c0 c1 c2 c3 c4 : Value} (m : Mid w W g h q l e c0 c1 c2 c3 c4) (s : St w' g h l' e') (k : KB g W w') : Mid w w' g h q l' e' c0 c1 c2 c3 c4 := by
  have a := m.q0
  have b := m.q1
  have c := m.gw
  refine ⟨a, Nat.lt_of_lt_of_le b k.2.2.2.1, c, m.hw, m.res.kb k (by omega), fun o => (k.frozen (a := ⟨w.heap.size, o, none⟩) (show w.heap.size < W.heap.size by omega) (show w.heap.size ≠ g by omega)).trans (m.rfr o), m.own.kb k (by omega), fun o => (k.frozen (a := ⟨q, o, none⟩) b (show q ≠ g by omega)).trans (m.ofr o), s, m.kb.trans k⟩
theorem cs5 (w : World) (B o o' : Nat) (u : Value) (h : o ≠ o') : (w.setCell ⟨B, o', none⟩ u).cell? ⟨B, o, none⟩ = w.cell? ⟨B, o, none⟩ :=
  World.cell?_setCell_other w _ _ u (fun e => h (by injection e with _ e2; exact e2.symm))
/-- What of a store into the own box holds whatever field it is. -/
theorem Mid.put {w W : World} {g h q i : Nat} {l : List UInt8} {e : Int} {c0 c1 c2 c3 c4 d0 d1 d2 d3 d4 : Value} (m : Mid w W g h q l e c0 c1 c2 c3 c4) (u : Value) (h5 : At5 (W.setCell ⟨q, i, none⟩ u) q 0 d0 d1 d2 d3 d4) : Mid w (W.setCell ⟨q, i, none⟩ u) g h q l e d0 d1 d2 d3 d4 := by
  have a := m.q0
  have b := m.q1
  have c := m.gw
  have d := m.hw
  have hb : ∀ B, B ≠ q → (W.setCell ⟨q, i, none⟩ u).heap[B]? = W.heap[B]? := fun B hB => Below.heap_setCell _ _ _ _ hB
  have hsz : (W.setCell ⟨q, i, none⟩ u).heap.size = W.heap.size := by simp [World.setCell]
  exact ⟨a, by rw [hsz]; exact b, c, d, m.res.keepB (hb _ (by omega)), fun o => (World.frozen?_setCell _ _ _ _).trans (m.rfr o), h5, fun o => (World.frozen?_setCell _ _ _ _).trans (m.ofr o), m.st.keep (by omega) (hb g (by omega)) (hb h (by omega)), kb_below m.kb ((KB.setCell q W i u).below (by omega) (by omega))⟩
theorem At5.set1 {W : World} {q : Nat} {c0 c1 c2 c3 c4 : Value} (h : At5 W q 0 c0 c1 c2 c3 c4) (u : Value) : At5 (W.setCell ⟨q, 1, none⟩ u) q 0 c0 u c2 c3 c4 :=
  ⟨(cs5 _ _ _ _ _ (by decide)).trans h.1, World.cell?_setCell_same _ _ _ h.2.1, (cs5 _ _ _ _ _ (by decide)).trans h.2.2.1, (cs5 _ _ _ _ _ (by decide)).trans h.2.2.2.1, (cs5 _ _ _ _ _ (by decide)).trans h.2.2.2.2⟩
theorem At5.set2 {W : World} {q : Nat} {c0 c1 c2 c3 c4 : Value} (h : At5 W q 0 c0 c1 c2 c3 c4) (u : Value) : At5 (W.setCell ⟨q, 2, none⟩ u) q 0 c0 c1 u c3 c4 :=
  ⟨(cs5 _ _ _ _ _ (by decide)).trans h.1, (cs5 _ _ _ _ _ (by decide)).trans h.2.1, World.cell?_setCell_same _ _ _ h.2.2.1, (cs5 _ _ _ _ _ (by decide)).trans h.2.2.2.1, (cs5 _ _ _ _ _ (by decide)).trans h.2.2.2.2⟩
theorem At5.set3 {W : World} {q : Nat} {c0 c1 c2 c3 c4 : Value} (h : At5 W q 0 c0 c1 c2 c3 c4) (u : Value) : At5 (W.setCell ⟨q, 3, none⟩ u) q 0 c0 c1 c2 u c4 :=
  ⟨(cs5 _ _ _ _ _ (by decide)).trans h.1, (cs5 _ _ _ _ _ (by decide)).trans h.2.1, (cs5 _ _ _ _ _ (by decide)).trans h.2.2.1, World.cell?_setCell_same _ _ _ h.2.2.2.1, (cs5 _ _ _ _ _ (by decide)).trans h.2.2.2.2⟩
theorem At5.set4 {W : World} {q : Nat} {c0 c1 c2 c3 c4 : Value} (h : At5 W q 0 c0 c1 c2 c3 c4) (u : Value) : At5 (W.setCell ⟨q, 4, none⟩ u) q 0 c0 c1 c2 c3 u :=
  ⟨(cs5 _ _ _ _ _ (by decide)).trans h.1, (cs5 _ _ _ _ _ (by decide)).trans h.2.1, (cs5 _ _ _ _ _ (by decide)).trans h.2.2.1, (cs5 _ _ _ _ _ (by decide)).trans h.2.2.2.1, World.cell?_setCell_same _ _ _ h.2.2.2.2⟩
/-- The beginning: two boxes. -/
theorem Mid.first {w w1 : World} {g h : Nat} {l : List UInt8} {e : Int} (k : Int) (hg : g < w.heap.size) (hh : h < w.heap.size) (s : St w1 g h l e) (kb : KB g (w.alloc (.cells #[.int .i64 0, .int .i64 0, .int .u64 0, .string ⟨#[]⟩, .slice none 0 0] 25)) w1) :
    Mid w (w1.alloc (.cells #[.int .i64 k, .int .i64 0, .int .u64 0, .string ⟨#[]⟩, .slice none 0 0] 25)) g h w1.heap.size l e (.int .i64 k) (.int .i64 0) (.int .u64 0) (.string ⟨#[]⟩) (.slice none 0 0) := by
  have hz : w.heap.size + 1 ≤ w1.heap.size := by have := kb.2.2.2.1; simpa using this
  have hz0 : w.heap.size < (w.alloc (.cells #[.int .i64 0, .int .i64 0, .int .u64 0, .string ⟨#[]⟩, .slice none 0 0] 25)).heap.size := by simp
  have r1 := (box_at w (.int .i64 0) (.int .i64 0) (.int .u64 0) (.string ⟨#[]⟩) (.slice none 0 0)).kb kb (by omega)
  refine ⟨by omega, by simp, hg, hh, r1.below (bel1 _ _), fun o => ((bel1 w1 _).frozen (show w.heap.size < w1.heap.size by omega)).trans ((kb.frozen (a := ⟨w.heap.size, o, none⟩) hz0 (show w.heap.size ≠ g by omega)).trans (fresh w _ o)), box_at w1 _ _ _ _ _, fun o => fresh w1 _ o, s.keep (by simp) ((bel1 w1 _).block g (by omega)) ((bel1 w1 _).block h (by omega)), ?_⟩
  refine kb_below (a := w1) ?_ ((bel1 w1 _).mono (by omega))
  exact ⟨kb.1, kb.2.1, kb.2.2.1, by omega, fun i hi hne => (kb.2.2.2.2 i (by simp; omega) hne).trans ((bel1 w _).block i hi)⟩
/-- The end: the own box goes into the result's. -/
theorem Mid.fin {w W : World} {g h q n : Nat} {l : List UInt8} {e : Int} {c0 c1 c2 c3 c4 : Value} {t : Tv} (m : Mid w W g h q l e c0 c1 c2 c3 c4) (hi : IsN (w.heap.size + 1) W n (.agg #[c0, c1, c2, c3, c4]) t) :
    RdP w g h n (t, l, e) (.returned (.agg #[c0, c1, c2, c3, c4])) (set5 W w.heap.size 0 c0 c1 c2 c3 c4) := by
  have a := m.q0
  have b := m.q1
  have c := m.gw
  have d := m.hw
  have kb := set5_kb W w.heap.size 0 c0 c1 c2 c3 c4
  exact ⟨_, rfl, (hi.kb kb (by omega)).lower (by omega), m.st.keep kb.2.2.2.1 (kb.2.2.2.2 g (by omega) (by omega)) (kb.2.2.2.2 h (by omega) (by omega)), kb_below m.kb (kb.below (Nat.le_refl _) (by omega))⟩
theorem flat_is {lo : Nat} {W : World} {n : Nat} {k x b : Int} {s : ByteArray} (hf : Fit k x b s 0 0) : IsN lo W (n + 1) (.agg #[.int .i64 k, .int .i64 x, .int .u64 b, .string s, .slice none 0 0]) (.mk k x b s []) :=
  ⟨none, 0, rfl, hf, fun i t h => by simp at h⟩
theorem sInt_rng (l : List UInt8) (e : Int) : -9223372036854775808 ≤ (sInt l e).1 ∧ (sInt l e).1 ≤ 9223372036854775807 := by
  unfold sInt
  have := val8_lt l
  split
  · split
    · simp
    · dsimp only; omega
  · simp
theorem sBits_rng (l : List UInt8) (e : Int) : (sBits l e).1 ≤ 18446744073709551615 := by
  unfold sBits
  have := val8_lt l
  split
  · split
    · simp
    · dsimp only; omega
  · simp
theorem sText_rng (l : List UInt8) (e : Int) : (sText 200 l e).1.length ≤ 200 := by
  unfold sText
  split
  · split
    · simp
    · have h0 : (sNum 200 l e).1 ≤ 200 := by
        unfold sNum
        split
        · split
          · split
            · simp
            · simp; omega
          · simp
        · simp
      dsimp only
      rw [List.length_take]
      omega
  · simp
set_option maxHeartbeats 1000000 in
set_option maxRecDepth 100000 in
theorem read1_calls (gl : List UInt8 → Int → List Tv × List UInt8 × Int) (d n : Nat) (hL : ListAt gl d n) : ReadAt (rd1 gl) d (n + 1) := by
  intro w g h l e r hh
  have hg := r.lt
  have NC := num_st (w.alloc (.cells #[.int .i64 0, .int .i64 0, .int .u64 0, .string ⟨#[]⟩, .slice none 0 0] 25)) g h l e 4 (r.keep (by simp) ((bel1 w _).block g hg) ((bel1 w _).block h hh))
  have n0 := sNum_nat 4 l e
  have nle : (sNum 4 l e).1 ≤ 4 := by
    unfold sNum
    split
    · split
      · split
        · simp
        · simp; omega
      · simp
    · simp
  unfold rd1
  generalize (sNum 4 l e).1 = k at NC n0 nle ⊢
  generalize (sNum 4 l e).2 = q2 at NC ⊢
  obtain ⟨l1, e1⟩ := q2
  dsimp only at NC ⊢
  have HL : Hid (ListAt gl d n) := hL
  have HGH : Hid (g < w.heap.size ∧ h < w.heap.size) := ⟨hg, hh⟩
  have HNC : Hid (Calls Try.prog 80 #[.pointer (some ⟨g, 0, none⟩), .int .i64 4] (w.alloc (.cells #[.int .i64 0, .int .i64 0, .int .u64 0, .string ⟨#[]⟩, .slice none 0 0] 25)) (Rs _ g h (.int .i64 k) l1 e1)) := NC
  have hk : k = 1 ∨ k = 2 ∨ k = 3 ∨ k = 4 ∨ k = 0 := by omega
  clear NC n0 nle r hL hg hh
  rcases hk with rfl | rfl | rfl | rfl | rfl
  · rw [if_pos rfl]
    have IR := sInt_rng l1 e1
    have IS := fun W (r : St W g h l1 e1) => int_st W g h l1 e1 r
    generalize (sInt l1 e1).1 = X at IR IS ⊢
    generalize (sInt l1 e1).2 = q2 at IS ⊢
    obtain ⟨l2, e2⟩ := q2
    dsimp only at IS ⊢
    have HIS : Hid (∀ W, St W g h l1 e1 → Calls Try.prog 81 #[.pointer (some ⟨g, 0, none⟩)] W (Rs W g h (.int .i64 X) l2 e2)) := IS
    have HIR : Hid (-9223372036854775808 ≤ X ∧ X ≤ 9223372036854775807) := IR
    clear IS IR
    go_enter Try.func59, Try.ntmps59
    go_wp2_with fail
    refine HNC.out.mono ?_
    rintro x w1 ⟨rfl, s1, k1⟩
    have M0 : Hid (Mid w (w1.alloc (.cells #[.int .i64 1, .int .i64 0, .int .u64 0, .string ⟨#[]⟩, .slice none 0 0] 25)) g h w1.heap.size l1 e1 (.int .i64 1) (.int .i64 0) (.int .u64 0) (.string ⟨#[]⟩) (.slice none 0 0)) := Mid.first 1 HGH.out.1 HGH.out.2 s1 k1
    obtain ⟨W2, hW2⟩ : ∃ W2, W2 = w1.alloc (.cells #[.int .i64 1, .int .i64 0, .int .u64 0, .string ⟨#[]⟩, .slice none 0 0] 25) := ⟨_, rfl⟩
    obtain ⟨q, hq⟩ : ∃ q, q = w1.heap.size := ⟨_, rfl⟩
    rw [← hW2, ← hq] at M0
    have HW2 : Hid (W2 = w1.alloc (.cells #[.int .i64 1, .int .i64 0, .int .u64 0, .string ⟨#[]⟩, .slice none 0 0] 25)) := hW2
    have HQ : Hid (q = w1.heap.size) := hq
    clear s1 k1 hW2 hq
    go_upto_region 2 with fail
    rw [← HW2.out, ← HQ.out]
    obtain ⟨o0, o1, o2, o3, o4⟩ := M0.out.own
    have CC : Hid (Calls Try.prog 81 #[.pointer (some ⟨g, 0, none⟩)] W2 (Rs W2 g h (.int .i64 X) l2 e2)) := HIS.out W2 M0.out.st
    go_wp2_with fail
    refine CC.out.mono ?_
    rintro x w3 ⟨rfl, s3, k3⟩
    have M3 : Hid (Mid w w3 g h q _ _ (.int .i64 1) (.int .i64 0) (.int .u64 0) (.string ⟨#[]⟩) (.slice none 0 0)) := M0.out.step s3 k3
    clear s3 k3 o0 o1 o2 o3 o4 CC
    obtain ⟨o0, o1, o2, o3, o4⟩ := M3.out.own
    have y := M3.out.ofr 1
    have M4 : Hid (Mid w (w3.setCell ⟨q, 1, none⟩ (.int .i64 X)) g h q _ _ (.int .i64 1) (.int .i64 X) (.int .u64 0) (.string ⟨#[]⟩) (.slice none 0 0)) := M3.out.put (.int .i64 X) (M3.out.own.set1 _)
    obtain ⟨W4, hW4⟩ : ∃ W4, W4 = w3.setCell ⟨q, 1, none⟩ (.int .i64 X) := ⟨_, rfl⟩
    rw [← hW4] at M4
    have HW4 : Hid (W4 = w3.setCell ⟨q, 1, none⟩ (.int .i64 X)) := hW4
    clear hW4
    go_upto_region 13 with fail
    rw [← HW4.out]
    clear o0 o1 o2 o3 o4 y
    obtain ⟨a0, a1, a2, a3, a4⟩ := M4.out.own
    obtain ⟨b0, b1, b2, b3, b4⟩ := M4.out.res
    have f0 := M4.out.rfr 0
    have f1 := M4.out.rfr 1
    have f2 := M4.out.rfr 2
    have f3 := M4.out.rfr 3
    have f4 := M4.out.rfr 4
    go_wp2_with fail
    refine bodyPost_ret (ret5 Try.results59 _ (g := w.heap.size) rfl (set5_at M4.out.res (.int .i64 1) (.int .i64 X) (.int .u64 0) (.string ⟨#[]⟩) (.slice none 0 0))) rfl ?_
    exact M4.out.fin (flat_is ⟨by decide, by decide, HIR.out.1, HIR.out.2, by decide, by decide, by decide, by decide, by decide⟩)
  · rw [if_neg (by decide), if_pos rfl]
    have IR := sBits_rng l1 e1
    have IS := fun W (r : St W g h l1 e1) => bits_st W g h l1 e1 r
    generalize (sBits l1 e1).1 = X at IR IS ⊢
    generalize (sBits l1 e1).2 = q2 at IS ⊢
    obtain ⟨l2, e2⟩ := q2
    dsimp only at IS ⊢
    have HIS : Hid (∀ W, St W g h l1 e1 → Calls Try.prog 82 #[.pointer (some ⟨g, 0, none⟩)] W (Rs W g h (.int .u64 (X : Int)) l2 e2)) := IS
    have HIR : Hid (X ≤ 18446744073709551615) := IR
    clear IS IR
    have CN : Hid (∀ W, Calls Try.prog 38 #[.int .u64 (X : Int)] W fun e w' => e = .returned (.int .u64 (cn X : Nat)) ∧ w' = W) := fun W => canon_calls X W
    obtain ⟨C, hC⟩ : ∃ C, C = cn X := ⟨_, rfl⟩
    rw [← hC] at CN ⊢
    by_cases hc : C = X
    · rw [if_pos hc]
      have dc : ((C : Int) != (X : Int)) = false := by rw [hc]; simp
      clear hc hC
      go_enter Try.func59, Try.ntmps59
      go_wp2_with fail
      refine HNC.out.mono ?_
      rintro x w1 ⟨rfl, s1, k1⟩
      have M0 : Hid (Mid w (w1.alloc (.cells #[.int .i64 2, .int .i64 0, .int .u64 0, .string ⟨#[]⟩, .slice none 0 0] 25)) g h w1.heap.size l1 e1 (.int .i64 2) (.int .i64 0) (.int .u64 0) (.string ⟨#[]⟩) (.slice none 0 0)) := Mid.first 2 HGH.out.1 HGH.out.2 s1 k1
      obtain ⟨W2, hW2⟩ : ∃ W2, W2 = w1.alloc (.cells #[.int .i64 2, .int .i64 0, .int .u64 0, .string ⟨#[]⟩, .slice none 0 0] 25) := ⟨_, rfl⟩
      obtain ⟨q, hq⟩ : ∃ q, q = w1.heap.size := ⟨_, rfl⟩
      rw [← hW2, ← hq] at M0
      have HW2 : Hid (W2 = w1.alloc (.cells #[.int .i64 2, .int .i64 0, .int .u64 0, .string ⟨#[]⟩, .slice none 0 0] 25)) := hW2
      have HQ : Hid (q = w1.heap.size) := hq
      clear s1 k1 hW2 hq
      go_upto_region 2 with fail
      rw [← HW2.out, ← HQ.out]
      obtain ⟨o0, o1, o2, o3, o4⟩ := M0.out.own
      have CC : Hid (Calls Try.prog 82 #[.pointer (some ⟨g, 0, none⟩)] W2 (Rs W2 g h (.int .u64 (X : Int)) l2 e2)) := HIS.out W2 M0.out.st
      go_wp2_with fail
      refine CC.out.mono ?_
      rintro x w3 ⟨rfl, s3, k3⟩
      have M3 : Hid (Mid w w3 g h q _ _ (.int .i64 2) (.int .i64 0) (.int .u64 0) (.string ⟨#[]⟩) (.slice none 0 0)) := M0.out.step s3 k3
      clear s3 k3 o0 o1 o2 o3 o4 CC
      obtain ⟨o0, o1, o2, o3, o4⟩ := M3.out.own
      have y := M3.out.ofr 2
      have M4 : Hid (Mid w (w3.setCell ⟨q, 2, none⟩ (.int .u64 (X : Int))) g h q _ _ (.int .i64 2) (.int .i64 0) (.int .u64 (X : Int)) (.string ⟨#[]⟩) (.slice none 0 0)) := M3.out.put (.int .u64 (X : Int)) (M3.out.own.set2 _)
      obtain ⟨W4, hW4⟩ : ∃ W4, W4 = w3.setCell ⟨q, 2, none⟩ (.int .u64 (X : Int)) := ⟨_, rfl⟩
      rw [← hW4] at M4
      have HW4 : Hid (W4 = w3.setCell ⟨q, 2, none⟩ (.int .u64 (X : Int))) := hW4
      clear hW4
      go_upto_region 7 with fail
      rw [← HW4.out]
      clear o0 o1 o2 o3 o4 y
      obtain ⟨o0, o1, o2, o3, o4⟩ := M4.out.own
      go_quiet ((go_at_call 38; exact Calls.quiet_of_same (CN.out _)))
      clear o0 o1 o2 o3 o4
      have MD : Hid (∀ k, Mid w (W4.drewN k) g h q l2 e2 (.int .i64 2) (.int .i64 0) (.int .u64 (X : Int)) (.string ⟨#[]⟩) (.slice none 0 0)) := fun k => M4.out.step (M4.out.st.keep (Nat.le_refl _) rfl rfl) (KB.of_below (belN W4 k))
      generalize hW5 : W4.drewN _ = W5
      have M5 : Hid (Mid w W5 g h q l2 e2 (.int .i64 2) (.int .i64 0) (.int .u64 (X : Int)) (.string ⟨#[]⟩) (.slice none 0 0)) := by rw [← hW5]; exact MD.out _
      clear hW5
      go_upto_region 13 with fail
      obtain ⟨a0, a1, a2, a3, a4⟩ := M5.out.own
      obtain ⟨b0, b1, b2, b3, b4⟩ := M5.out.res
      have f0 := M5.out.rfr 0
      have f1 := M5.out.rfr 1
      have f2 := M5.out.rfr 2
      have f3 := M5.out.rfr 3
      have f4 := M5.out.rfr 4
      go_wp2_with fail
      refine bodyPost_ret (ret5 Try.results59 _ (g := w.heap.size) rfl (set5_at M5.out.res (.int .i64 2) (.int .i64 0) (.int .u64 (X : Int)) (.string ⟨#[]⟩) (.slice none 0 0))) rfl ?_
      exact M5.out.fin (flat_is ⟨by decide, by decide, by decide, by decide, by omega, by have := HIR.out; omega, by decide, by decide, by decide⟩)
    · rw [if_neg hc]
      have dc : ((C : Int) != (X : Int)) = true := by simp; omega
      clear hc hC
      go_enter Try.func59, Try.ntmps59
      go_wp2_with fail
      refine HNC.out.mono ?_
      rintro x w1 ⟨rfl, s1, k1⟩
      have M0 : Hid (Mid w (w1.alloc (.cells #[.int .i64 2, .int .i64 0, .int .u64 0, .string ⟨#[]⟩, .slice none 0 0] 25)) g h w1.heap.size l1 e1 (.int .i64 2) (.int .i64 0) (.int .u64 0) (.string ⟨#[]⟩) (.slice none 0 0)) := Mid.first 2 HGH.out.1 HGH.out.2 s1 k1
      obtain ⟨W2, hW2⟩ : ∃ W2, W2 = w1.alloc (.cells #[.int .i64 2, .int .i64 0, .int .u64 0, .string ⟨#[]⟩, .slice none 0 0] 25) := ⟨_, rfl⟩
      obtain ⟨q, hq⟩ : ∃ q, q = w1.heap.size := ⟨_, rfl⟩
      rw [← hW2, ← hq] at M0
      have HW2 : Hid (W2 = w1.alloc (.cells #[.int .i64 2, .int .i64 0, .int .u64 0, .string ⟨#[]⟩, .slice none 0 0] 25)) := hW2
      have HQ : Hid (q = w1.heap.size) := hq
      clear s1 k1 hW2 hq
      go_upto_region 2 with fail
      rw [← HW2.out, ← HQ.out]
      obtain ⟨o0, o1, o2, o3, o4⟩ := M0.out.own
      have CC : Hid (Calls Try.prog 82 #[.pointer (some ⟨g, 0, none⟩)] W2 (Rs W2 g h (.int .u64 (X : Int)) l2 e2)) := HIS.out W2 M0.out.st
      go_wp2_with fail
      refine CC.out.mono ?_
      rintro x w3 ⟨rfl, s3, k3⟩
      have M3 : Hid (Mid w w3 g h q _ _ (.int .i64 2) (.int .i64 0) (.int .u64 0) (.string ⟨#[]⟩) (.slice none 0 0)) := M0.out.step s3 k3
      clear s3 k3 o0 o1 o2 o3 o4 CC
      obtain ⟨o0, o1, o2, o3, o4⟩ := M3.out.own
      have y := M3.out.ofr 2
      have M4 : Hid (Mid w (w3.setCell ⟨q, 2, none⟩ (.int .u64 (X : Int))) g h q _ _ (.int .i64 2) (.int .i64 0) (.int .u64 (X : Int)) (.string ⟨#[]⟩) (.slice none 0 0)) := M3.out.put (.int .u64 (X : Int)) (M3.out.own.set2 _)
      obtain ⟨W4, hW4⟩ : ∃ W4, W4 = w3.setCell ⟨q, 2, none⟩ (.int .u64 (X : Int)) := ⟨_, rfl⟩
      rw [← hW4] at M4
      have HW4 : Hid (W4 = w3.setCell ⟨q, 2, none⟩ (.int .u64 (X : Int))) := hW4
      clear hW4
      go_upto_region 7 with fail
      rw [← HW4.out]
      clear o0 o1 o2 o3 o4 y
      obtain ⟨o0, o1, o2, o3, o4⟩ := M4.out.own
      go_quiet ((go_at_call 38; exact Calls.quiet_of_same (CN.out _)))
      clear o0 o1 o2 o3 o4
      have MD : Hid (∀ k, Mid w (W4.drewN k) g h q l2 e2 (.int .i64 2) (.int .i64 0) (.int .u64 (X : Int)) (.string ⟨#[]⟩) (.slice none 0 0)) := fun k => M4.out.step (M4.out.st.keep (Nat.le_refl _) rfl rfl) (KB.of_below (belN W4 k))
      generalize hW5 : W4.drewN _ = W5
      have M5 : Hid (Mid w W5 g h q l2 e2 (.int .i64 2) (.int .i64 0) (.int .u64 (X : Int)) (.string ⟨#[]⟩) (.slice none 0 0)) := by rw [← hW5]; exact MD.out _
      clear hW5
      have FC : Hid (Calls Try.prog 60 #[.pointer (some ⟨g, 0, none⟩), .int .i64 3] W5 fun r w' => r = .returned (.tuple #[]) ∧ St w' g h (flL l2 e2) (flE e2 3) ∧ KB g W5 w') := by
        have := fail_st W5 g h l2 e2 3 M5.out.st
        rwa [fl_l l2 e2 3 (by decide), fl_e e2 3] at this
      go_wp2_with fail
      refine FC.out.mono ?_
      rintro x w6 ⟨rfl, s6, k6⟩
      have M6 : Hid (Mid w w6 g h q (flL l2 e2) (flE e2 3) (.int .i64 2) (.int .i64 0) (.int .u64 (X : Int)) (.string ⟨#[]⟩) (.slice none 0 0)) := M5.out.step s6 k6
      clear s6 k6 FC
      obtain ⟨a0, a1, a2, a3, a4⟩ := M6.out.own
      obtain ⟨b0, b1, b2, b3, b4⟩ := M6.out.res
      have f0 := M6.out.rfr 0
      have f1 := M6.out.rfr 1
      have f2 := M6.out.rfr 2
      have f3 := M6.out.rfr 3
      have f4 := M6.out.rfr 4
      go_wp2_with fail
      refine bodyPost_ret (ret5 Try.results59 _ (g := w.heap.size) rfl (set5_at M6.out.res (.int .i64 2) (.int .i64 0) (.int .u64 (X : Int)) (.string ⟨#[]⟩) (.slice none 0 0))) rfl ?_
      exact M6.out.fin (flat_is ⟨by decide, by decide, by decide, by decide, by omega, by have := HIR.out; omega, by decide, by decide, by decide⟩)
  · rw [if_neg (by decide), if_neg (by decide), if_pos rfl]
    have IR := sText_rng l1 e1
    have IS := fun W (r : St W g h l1 e1) => text_st W g h l1 e1 200 r
    generalize (sText 200 l1 e1).1 = X at IR IS ⊢
    generalize (sText 200 l1 e1).2 = q2 at IS ⊢
    obtain ⟨l2, e2⟩ := q2
    dsimp only at IS ⊢
    have HIS : Hid (∀ W, St W g h l1 e1 → Calls Try.prog 83 #[.pointer (some ⟨g, 0, none⟩), .int .i64 200] W (Rs W g h (.string (str X)) l2 e2)) := IS
    have HIR : Hid (X.length ≤ 200) := IR
    clear IS IR
    go_enter Try.func59, Try.ntmps59
    go_wp2_with fail
    refine HNC.out.mono ?_
    rintro x w1 ⟨rfl, s1, k1⟩
    have M0 : Hid (Mid w (w1.alloc (.cells #[.int .i64 3, .int .i64 0, .int .u64 0, .string ⟨#[]⟩, .slice none 0 0] 25)) g h w1.heap.size l1 e1 (.int .i64 3) (.int .i64 0) (.int .u64 0) (.string ⟨#[]⟩) (.slice none 0 0)) := Mid.first 3 HGH.out.1 HGH.out.2 s1 k1
    obtain ⟨W2, hW2⟩ : ∃ W2, W2 = w1.alloc (.cells #[.int .i64 3, .int .i64 0, .int .u64 0, .string ⟨#[]⟩, .slice none 0 0] 25) := ⟨_, rfl⟩
    obtain ⟨q, hq⟩ : ∃ q, q = w1.heap.size := ⟨_, rfl⟩
    rw [← hW2, ← hq] at M0
    have HW2 : Hid (W2 = w1.alloc (.cells #[.int .i64 3, .int .i64 0, .int .u64 0, .string ⟨#[]⟩, .slice none 0 0] 25)) := hW2
    have HQ : Hid (q = w1.heap.size) := hq
    clear s1 k1 hW2 hq
    go_upto_region 2 with fail
    rw [← HW2.out, ← HQ.out]
    obtain ⟨o0, o1, o2, o3, o4⟩ := M0.out.own
    have CC : Hid (Calls Try.prog 83 #[.pointer (some ⟨g, 0, none⟩), .int .i64 200] W2 (Rs W2 g h (.string (str X)) l2 e2)) := HIS.out W2 M0.out.st
    go_wp2_with fail
    refine CC.out.mono ?_
    rintro x w3 ⟨rfl, s3, k3⟩
    have M3 : Hid (Mid w w3 g h q _ _ (.int .i64 3) (.int .i64 0) (.int .u64 0) (.string ⟨#[]⟩) (.slice none 0 0)) := M0.out.step s3 k3
    clear s3 k3 o0 o1 o2 o3 o4 CC
    obtain ⟨o0, o1, o2, o3, o4⟩ := M3.out.own
    have y := M3.out.ofr 3
    have M4 : Hid (Mid w (w3.setCell ⟨q, 3, none⟩ (.string (str X))) g h q _ _ (.int .i64 3) (.int .i64 0) (.int .u64 0) (.string (str X)) (.slice none 0 0)) := M3.out.put (.string (str X)) (M3.out.own.set3 _)
    obtain ⟨W4, hW4⟩ : ∃ W4, W4 = w3.setCell ⟨q, 3, none⟩ (.string (str X)) := ⟨_, rfl⟩
    rw [← hW4] at M4
    have HW4 : Hid (W4 = w3.setCell ⟨q, 3, none⟩ (.string (str X))) := hW4
    clear hW4
    go_upto_region 13 with fail
    rw [← HW4.out]
    clear o0 o1 o2 o3 o4 y
    obtain ⟨a0, a1, a2, a3, a4⟩ := M4.out.own
    obtain ⟨b0, b1, b2, b3, b4⟩ := M4.out.res
    have f0 := M4.out.rfr 0
    have f1 := M4.out.rfr 1
    have f2 := M4.out.rfr 2
    have f3 := M4.out.rfr 3
    have f4 := M4.out.rfr 4
    go_wp2_with fail
    refine bodyPost_ret (ret5 Try.results59 _ (g := w.heap.size) rfl (set5_at M4.out.res (.int .i64 3) (.int .i64 0) (.int .u64 0) (.string (str X)) (.slice none 0 0))) rfl ?_
    exact M4.out.fin (flat_is ⟨by decide, by decide, by decide, by decide, by decide, by decide, by rw [str_size]; have := HIR.out; omega, by decide, by decide⟩)
  · rw [if_neg (by decide), if_neg (by decide), if_neg (by decide), if_pos rfl]
    have HL2 : Hid (∀ W, St W g h l1 e1 → h < W.heap.size → Calls Try.prog 84 #[.pointer (some ⟨g, 0, none⟩), .int .i64 (d : Int)] W (LsP W g h n (gl l1 e1))) := fun W s hh => HL.out W g h l1 e1 s hh
    generalize gl l1 e1 = G at HL2 ⊢
    obtain ⟨ts, l2, e2⟩ := G
    dsimp only
    go_enter Try.func59, Try.ntmps59
    go_wp2_with fail
    refine HNC.out.mono ?_
    rintro x w1 ⟨rfl, s1, k1⟩
    have M0 : Hid (Mid w (w1.alloc (.cells #[.int .i64 4, .int .i64 0, .int .u64 0, .string ⟨#[]⟩, .slice none 0 0] 25)) g h w1.heap.size l1 e1 (.int .i64 4) (.int .i64 0) (.int .u64 0) (.string ⟨#[]⟩) (.slice none 0 0)) := Mid.first 4 HGH.out.1 HGH.out.2 s1 k1
    obtain ⟨W2, hW2⟩ : ∃ W2, W2 = w1.alloc (.cells #[.int .i64 4, .int .i64 0, .int .u64 0, .string ⟨#[]⟩, .slice none 0 0] 25) := ⟨_, rfl⟩
    obtain ⟨q, hq⟩ : ∃ q, q = w1.heap.size := ⟨_, rfl⟩
    rw [← hW2, ← hq] at M0
    have HW2 : Hid (W2 = w1.alloc (.cells #[.int .i64 4, .int .i64 0, .int .u64 0, .string ⟨#[]⟩, .slice none 0 0] 25)) := hW2
    have HQ : Hid (q = w1.heap.size) := hq
    clear s1 k1 hW2 hq
    go_upto_region 2 with fail
    rw [← HW2.out, ← HQ.out]
    obtain ⟨o0, o1, o2, o3, o4⟩ := M0.out.own
    have LC : Hid (Calls Try.prog 84 #[.pointer (some ⟨g, 0, none⟩), .int .i64 (d : Int)] W2 (LsP W2 g h n (ts, l2, e2))) := HL2.out W2 M0.out.st (by have := M0.out.hw; have := M0.out.q0; have := M0.out.q1; omega)
    go_wp2_with fail
    refine LC.out.mono ?_
    rintro x w3 ⟨la, lc, rfl, hlc, hlm, hrow, s3, k3⟩
    dsimp only at hlc hlm hrow s3 ⊢
    have M3 : Hid (Mid w w3 g h q l2 e2 (.int .i64 4) (.int .i64 0) (.int .u64 0) (.string ⟨#[]⟩) (.slice none 0 0)) := M0.out.step s3 k3
    have HRow : Hid (RowN W2.heap.size (IsN W2.heap.size w3 n) w3 la ts) := hrow
    have HLC : Hid (ts.length ≤ lc ∧ lc ≤ 9223372036854775807) := ⟨hlc, hlm⟩
    obtain ⟨L, hLn⟩ : ∃ L, L = ts.length := ⟨_, rfl⟩
    rw [← hLn]
    have HLn : Hid (L = ts.length) := hLn
    clear s3 k3 o0 o1 o2 o3 o4 LC hlc hlm hrow hLn
    obtain ⟨o0, o1, o2, o3, o4⟩ := M3.out.own
    have y := M3.out.ofr 4
    have M4 : Hid (Mid w (w3.setCell ⟨q, 4, none⟩ (.slice la L lc)) g h q l2 e2 (.int .i64 4) (.int .i64 0) (.int .u64 0) (.string ⟨#[]⟩) (.slice la L lc)) := M3.out.put _ (M3.out.own.set4 _)
    have I4 : Hid (IsN (w.heap.size + 1) (w3.setCell ⟨q, 4, none⟩ (.slice la L lc)) (n + 1) (.agg #[.int .i64 4, .int .i64 0, .int .u64 0, .string ⟨#[]⟩, .slice la L lc]) (.mk 4 0 0 ⟨#[]⟩ ts)) := by
      rw [HLn.out]
      have hq1 := M0.out.q1
      have hq0 := M0.out.q0
      refine ⟨la, lc, rfl, ⟨by decide, by decide, by decide, by decide, by decide, by decide, by decide, HLC.out.1, HLC.out.2⟩, fun i t ht => ?_⟩
      obtain ⟨B, o, d0, d1, d2, d3, d4, ha, hB, h5, hn⟩ := (HRow.out.kb (KB.setCell q w3 4 (.slice la ts.length lc)) hq1) i t ht
      exact ⟨B, o, d0, d1, d2, d3, d4, ha, by omega, h5, hn.lower (by omega)⟩
    obtain ⟨W4, hW4⟩ : ∃ W4, W4 = w3.setCell ⟨q, 4, none⟩ (.slice la L lc) := ⟨_, rfl⟩
    rw [← hW4] at M4 I4
    have HW4 : Hid (W4 = w3.setCell ⟨q, 4, none⟩ (.slice la L lc)) := hW4
    clear hW4
    go_upto_region 13 with fail
    rw [← HW4.out]
    clear o0 o1 o2 o3 o4 y
    obtain ⟨a0, a1, a2, a3, a4⟩ := M4.out.own
    obtain ⟨b0, b1, b2, b3, b4⟩ := M4.out.res
    have f0 := M4.out.rfr 0
    have f1 := M4.out.rfr 1
    have f2 := M4.out.rfr 2
    have f3 := M4.out.rfr 3
    have f4 := M4.out.rfr 4
    go_wp2_with fail
    refine bodyPost_ret (ret5 Try.results59 _ (g := w.heap.size) rfl (set5_at M4.out.res (.int .i64 4) (.int .i64 0) (.int .u64 0) (.string ⟨#[]⟩) (.slice la L lc))) rfl ?_
    exact M4.out.fin I4.out
  · rw [if_neg (by decide), if_neg (by decide), if_neg (by decide), if_neg (by decide)]
    go_enter Try.func59, Try.ntmps59
    go_wp2_with fail
    refine HNC.out.mono ?_
    rintro x w1 ⟨rfl, s1, k1⟩
    have M0 : Hid (Mid w (w1.alloc (.cells #[.int .i64 0, .int .i64 0, .int .u64 0, .string ⟨#[]⟩, .slice none 0 0] 25)) g h w1.heap.size l1 e1 (.int .i64 0) (.int .i64 0) (.int .u64 0) (.string ⟨#[]⟩) (.slice none 0 0)) := Mid.first 0 HGH.out.1 HGH.out.2 s1 k1
    obtain ⟨W2, hW2⟩ : ∃ W2, W2 = w1.alloc (.cells #[.int .i64 0, .int .i64 0, .int .u64 0, .string ⟨#[]⟩, .slice none 0 0] 25) := ⟨_, rfl⟩
    obtain ⟨q, hq⟩ : ∃ q, q = w1.heap.size := ⟨_, rfl⟩
    rw [← hW2, ← hq] at M0
    have HW2 : Hid (W2 = w1.alloc (.cells #[.int .i64 0, .int .i64 0, .int .u64 0, .string ⟨#[]⟩, .slice none 0 0] 25)) := hW2
    have HQ : Hid (q = w1.heap.size) := hq
    clear s1 k1 hW2 hq
    go_upto_region 2 with fail
    rw [← HW2.out, ← HQ.out]
    obtain ⟨o0, o1, o2, o3, o4⟩ := M0.out.own
    clear o0 o1 o2 o3 o4
    obtain ⟨a0, a1, a2, a3, a4⟩ := M0.out.own
    obtain ⟨b0, b1, b2, b3, b4⟩ := M0.out.res
    have f0 := M0.out.rfr 0
    have f1 := M0.out.rfr 1
    have f2 := M0.out.rfr 2
    have f3 := M0.out.rfr 3
    have f4 := M0.out.rfr 4
    go_wp2_with fail
    refine bodyPost_ret (ret5 Try.results59 _ (g := w.heap.size) rfl (set5_at M0.out.res (.int .i64 0) (.int .i64 0) (.int .u64 0) (.string ⟨#[]⟩) (.slice none 0 0))) rfl ?_
    exact M0.out.fin (flat_is ⟨by decide, by decide, by decide, by decide, by decide, by decide, by decide, by decide, by decide⟩)
theorem read_calls : ∀ d, d ≤ 4 → ReadAt (rdV d) d (d + 1) := by
  intro d
  induction d with
  | zero => intro _; exact read1_calls _ 0 0 (list0_calls 0)
  | succ d ih => intro hd; exact read1_calls _ (d + 1) (d + 1) (list_calls (rdV d) d (d + 1) (by omega) (ih (by omega)))
end Go.Proofs.Ytobblioplfpndaa
namespace Go.Proofs.Ytobblioplfpndaa
open Go.ChangeShapes Go.WideShapes Go.ChangeAt Go.RowKit
theorem sNumber_len (l : List UInt8) : (sNumber l).2.1.length ≤ l.length := by
  unfold sNumber
  split
  · simp
  · split
    · simp
    · split
      · simp
      · split
        · simp
        · split
          · simp
          · simp; omega
theorem sNum_len (m : Int) (l : List UInt8) (e : Int) : (sNum m l e).2.1.length ≤ l.length := by
  have := sNumber_len l
  unfold sNum
  split
  · split
    · split
      · simp
      · exact this
    · simp
  · exact Nat.le_refl _
theorem sInt_len (l : List UInt8) (e : Int) : (sInt l e).2.1.length ≤ l.length := by
  unfold sInt
  split
  · split
    · simp
    · simp
  · exact Nat.le_refl _
theorem sBits_len (l : List UInt8) (e : Int) : (sBits l e).2.1.length ≤ l.length := by
  unfold sBits
  split
  · split
    · simp
    · simp
  · exact Nat.le_refl _
theorem sText_len (m : Int) (l : List UInt8) (e : Int) : (sText m l e).2.1.length ≤ l.length := by
  have := sNum_len m l e
  unfold sText
  split
  · split
    · simp
    · simp; omega
  · exact this
theorem flL_len (l : List UInt8) (e : Int) : (flL l e).length ≤ l.length := by
  unfold flL
  split
  · simp
  · exact Nat.le_refl _
theorem rdN_len {f : List UInt8 → Int → Tv × List UInt8 × Int} (hf : ∀ l e, (f l e).2.1.length ≤ l.length) : ∀ (n : Nat) (l : List UInt8) (e : Int), (rdN f n l e).2.1.length ≤ l.length
  | 0, l, e => Nat.le_refl _
  | n + 1, l, e => by
    have h1 := hf l e
    have h2 := rdN_len hf n (f l e).2.1 0
    unfold rdN
    split
    · split
      · dsimp only; omega
      · dsimp only; omega
    · exact h1
theorem rd1_len {g : List UInt8 → Int → List Tv × List UInt8 × Int} (hg : ∀ l e, (g l e).2.1.length ≤ l.length) (l : List UInt8) (e : Int) : (rd1 g l e).2.1.length ≤ l.length := by
  have h0 := sNum_len 4 l e
  unfold rd1
  split
  · have := sInt_len (sNum 4 l e).2.1 (sNum 4 l e).2.2
    dsimp only
    omega
  · split
    · have h1 := sBits_len (sNum 4 l e).2.1 (sNum 4 l e).2.2
      have h2 := flL_len (sBits (sNum 4 l e).2.1 (sNum 4 l e).2.2).2.1 (sBits (sNum 4 l e).2.1 (sNum 4 l e).2.2).2.2
      dsimp only
      split
      · omega
      · dsimp only; omega
    · split
      · have := sText_len 200 (sNum 4 l e).2.1 (sNum 4 l e).2.2
        dsimp only
        omega
      · split
        · have := hg (sNum 4 l e).2.1 (sNum 4 l e).2.2
          dsimp only
          omega
        · exact h0
theorem rdV_len : ∀ (d : Nat) (l : List UInt8) (e : Int), (rdV d l e).2.1.length ≤ l.length
  | 0, l, e => rd1_len (fun l e => flL_len l e) l e
  | d + 1, l, e => rd1_len (fun l e => by
      have h1 := sNum_len 12 l e
      have h2 := rdN_len (rdV_len d) (sNum 12 l e).1.toNat (sNum 12 l e).2.1 (sNum 12 l e).2.2
      unfold rdL
      omega) l e
def zT : Tv := .mk 0 0 0 ⟨#[]⟩ []
/-- What Read leaves, of what read left. -/
def afR (n : Nat) (r : Tv × List UInt8 × Int) : Tv × List UInt8 × Int :=
  if 1000 < (n : Int) - (r.2.1.length : Int) then (zT, flL r.2.1 r.2.2, flE r.2.2 5) else if r.2.2 = 0 then r else (zT, r.2.1, r.2.2)
/-- What Read leaves. -/
def rdR (l : List UInt8) (e : Int) : Tv × List UInt8 × Int := afR l.length (rdV 4 l e)
theorem zT_is (lo : Nat) (W : World) (n : Nat) : IsN lo W (n + 1) (.agg #[.int .i64 0, .int .i64 0, .int .u64 0, .string ⟨#[]⟩, .slice none 0 0]) zT :=
  flat_is ⟨by decide, by decide, by decide, by decide, by decide, by decide, by decide, by decide, by decide⟩
/-- The end where there is an error: the result's box stays as it is. -/
theorem Mid.fin0 {w W : World} {g h q n : Nat} {l : List UInt8} {e : Int} {c0 c1 c2 c3 c4 : Value} (m : Mid w W g h q l e c0 c1 c2 c3 c4) :
    RdP w g h (n + 1) (zT, l, e) (.returned (.agg #[.int .i64 0, .int .i64 0, .int .u64 0, .string ⟨#[]⟩, .slice none 0 0])) (set5 W w.heap.size 0 (.int .i64 0) (.int .i64 0) (.int .u64 0) (.string ⟨#[]⟩) (.slice none 0 0)) := by
  have a := m.q0
  have b := m.q1
  have c := m.gw
  have d := m.hw
  have kb := set5_kb W w.heap.size 0 (.int .i64 0) (.int .i64 0) (.int .u64 0) (.string ⟨#[]⟩) (.slice none 0 0)
  exact ⟨_, rfl, zT_is _ _ _, m.st.keep kb.2.2.2.1 (kb.2.2.2.2 g (by omega) (by omega)) (kb.2.2.2.2 h (by omega) (by omega)), kb_below m.kb (kb.below (Nat.le_refl _) (by omega))⟩
/-- As Mid.first, with a box of any five. -/
theorem Mid.box {w w1 : World} {g h : Nat} {l : List UInt8} {e : Int} {c0 c1 c2 c3 c4 : Value} (hg : g < w.heap.size) (hh : h < w.heap.size) (s : St w1 g h l e) (kb : KB g (w.alloc (.cells #[.int .i64 0, .int .i64 0, .int .u64 0, .string ⟨#[]⟩, .slice none 0 0] 25)) w1) :
    Mid w (w1.alloc (.cells #[c0, c1, c2, c3, c4] 25)) g h w1.heap.size l e c0 c1 c2 c3 c4 := by
  have hz : w.heap.size + 1 ≤ w1.heap.size := by have := kb.2.2.2.1; simpa using this
  have hz0 : w.heap.size < (w.alloc (.cells #[.int .i64 0, .int .i64 0, .int .u64 0, .string ⟨#[]⟩, .slice none 0 0] 25)).heap.size := by simp
  have r1 := (box_at w (.int .i64 0) (.int .i64 0) (.int .u64 0) (.string ⟨#[]⟩) (.slice none 0 0)).kb kb (by omega)
  refine ⟨by omega, by simp, hg, hh, r1.below (bel1 _ _), fun o => ((bel1 w1 _).frozen (show w.heap.size < w1.heap.size by omega)).trans ((kb.frozen (a := ⟨w.heap.size, o, none⟩) hz0 (show w.heap.size ≠ g by omega)).trans (fresh w _ o)), box_at w1 _ _ _ _ _, fun o => fresh w1 _ o, s.keep (by simp) ((bel1 w1 _).block g (by omega)) ((bel1 w1 _).block h (by omega)), ?_⟩
  refine kb_below (a := w1) ?_ ((bel1 w1 _).mono (by omega))
  exact ⟨kb.1, kb.2.1, kb.2.2.1, by omega, fun i hi hne => (kb.2.2.2.2 i (by simp; omega) hne).trans ((bel1 w _).block i hi)⟩
set_option maxHeartbeats 1000000 in
set_option maxRecDepth 100000 in
theorem readv_calls (w : World) (g h : Nat) (l : List UInt8) (e : Int) (r : St w g h l e) (hh : h < w.heap.size) (hl : l.length ≤ 281474976710656) :
    Calls Try.prog 32 #[.pointer (some ⟨g, 0, none⟩)] w (RdP w g h 5 (rdR l e)) := by
  have hg := r.lt
  have s0 : St (w.alloc (.cells #[.int .i64 0, .int .i64 0, .int .u64 0, .string ⟨#[]⟩, .slice none 0 0] 25)) g h l e := r.keep (by simp) ((bel1 w _).block g hg) ((bel1 w _).block h hh)
  have LF : Hid (Calls Try.prog 36 #[.pointer (some ⟨g, 0, none⟩)] (w.alloc (.cells #[.int .i64 0, .int .i64 0, .int .u64 0, .string ⟨#[]⟩, .slice none 0 0] 25)) _) := left_st _ g h l e s0
  have RC := read_calls 4 (by omega) (w.alloc (.cells #[.int .i64 0, .int .i64 0, .int .u64 0, .string ⟨#[]⟩, .slice none 0 0] 25)) g h l e s0 (by simp; omega)
  have hlen := rdV_len 4 l e
  have hdef : rdR l e = afR l.length (rdV 4 l e) := rfl
  rw [hdef]
  generalize rdV 4 l e = R at RC hlen ⊢
  obtain ⟨t, l1, e1⟩ := R
  dsimp only at hlen
  have HRC : Hid (Calls Try.prog 59 #[.pointer (some ⟨g, 0, none⟩), .int .i64 4] (w.alloc (.cells #[.int .i64 0, .int .i64 0, .int .u64 0, .string ⟨#[]⟩, .slice none 0 0] 25)) (RdP _ g h 5 (t, l1, e1))) := RC
  obtain ⟨A, hA⟩ : ∃ A, A = l.length := ⟨_, rfl⟩
  obtain ⟨B, hB⟩ : ∃ B, B = l1.length := ⟨_, rfl⟩
  rw [← hA] at LF ⊢
  obtain ⟨D, hD⟩ : ∃ D : Int, D = (A : Int) - (B : Int) := ⟨_, rfl⟩
  have hw1 : wrap64 ((A : Int) - (B : Int)) = D := by rw [hD]; unfold wrap64; omega
  have hw2 : IntKind.i64.wrap ((A : Int) - (B : Int)) = D := by rw [hD, IntKind.wrap_i64]; omega
  have HGH : Hid (g < w.heap.size ∧ h < w.heap.size) := ⟨hg, hh⟩
  have HB : Hid (B = l1.length) := hB
  have HD : Hid (D = (A : Int) - (B : Int)) := hD
  clear RC hdef s0 r hg hh hl hlen hA hB hD
  by_cases hbig : 1000 < D
  · have d1 : decide (1000 < D) = true := decide_eq_true hbig
    have HF : Hid (afR A (t, l1, e1) = (zT, flL l1 e1, flE e1 5)) := by show _ = _; unfold afR; dsimp only; rw [if_pos (by have := HD.out; have := HB.out; omega)]
    clear hbig
    go_enter Try.func32, Try.ntmps32
    go_wp2_with fail
    refine LF.out.mono ?_
    rintro x w0 ⟨rfl, hw0⟩
    have hw0' := hw0.symm
    subst hw0'
    clear hw0
    go_wp2_with fail
    refine HRC.out.mono ?_
    rintro x w1 ⟨v, rfl, hi1, s1, k1⟩
    dsimp only at hi1 s1
    obtain ⟨vk, vx, vb, vs, va, vm, vc, rfl⟩ := hi1.shape
    have M0 : Hid (Mid w (w1.alloc (.cells #[.int .i64 vk, .int .i64 vx, .int .u64 vb, .string vs, .slice va vm vc] 25)) g h w1.heap.size l1 e1 (.int .i64 vk) (.int .i64 vx) (.int .u64 vb) (.string vs) (.slice va vm vc)) := Mid.box HGH.out.1 HGH.out.2 s1 k1
    obtain ⟨W2, hW2⟩ : ∃ W2, W2 = w1.alloc (.cells #[.int .i64 vk, .int .i64 vx, .int .u64 vb, .string vs, .slice va vm vc] 25) := ⟨_, rfl⟩
    obtain ⟨q, hq⟩ : ∃ q, q = w1.heap.size := ⟨_, rfl⟩
    rw [← hW2, ← hq] at M0
    have HW2 : Hid (W2 = _) := hW2
    have HQ : Hid (q = w1.heap.size) := hq
    have L2 : Hid (Calls Try.prog 36 #[.pointer (some ⟨g, 0, none⟩)] W2 fun x w' => x = .returned (.int .i64 (B : Int)) ∧ w' = W2) := by
      have := left_st W2 g h l1 e1 M0.out.st
      rwa [← HB.out] at this
    clear hi1 s1 k1 hW2 hq
    go_upto_region 3 with fail
    rw [← HW2.out, ← HQ.out]
    go_wp2_with fail
    refine L2.out.mono ?_
    rintro x w3 ⟨rfl, hw3⟩
    have hw3' := hw3.symm
    subst hw3'
    clear hw3
    have FC : Hid (Calls Try.prog 60 #[.pointer (some ⟨g, 0, none⟩), .int .i64 5] W2 fun r w' => r = .returned (.tuple #[]) ∧ St w' g h (flL l1 e1) (flE e1 5) ∧ KB g W2 w') := by
      have := fail_st W2 g h l1 e1 5 M0.out.st
      rwa [fl_l l1 e1 5 (by decide), fl_e e1 5] at this
    go_wp2_with fail
    refine FC.out.mono ?_
    rintro x w4 ⟨rfl, s4, k4⟩
    have M4 : Hid (Mid w w4 g h q (flL l1 e1) (flE e1 5) (.int .i64 vk) (.int .i64 vx) (.int .u64 vb) (.string vs) (.slice va vm vc)) := M0.out.step s4 k4
    have EC : Hid (Calls Try.prog 34 #[.pointer (some ⟨g, 0, none⟩)] w4 _) := err_st M4.out.st
    have dE : (flE e1 5 != 0) = true := by simpa using flE_ne (e := e1) (f := 5) (by decide)
    clear s4 k4 FC
    go_wp2_with fail
    refine EC.out.mono ?_
    rintro x w5 ⟨rfl, hw5⟩
    have hw5' := hw5.symm
    subst hw5'
    clear hw5
    obtain ⟨b0, b1, b2, b3, b4⟩ := M4.out.res
    have f0 := M4.out.rfr 0
    have f1 := M4.out.rfr 1
    have f2 := M4.out.rfr 2
    have f3 := M4.out.rfr 3
    have f4 := M4.out.rfr 4
    go_wp2_with fail
    refine bodyPost_ret (ret5 Try.results32 _ (g := w.heap.size) rfl (set5_at M4.out.res (.int .i64 0) (.int .i64 0) (.int .u64 0) (.string ⟨#[]⟩) (.slice none 0 0))) rfl ?_
    rw [HF.out]
    exact M4.out.fin0
  · have d1 : decide (1000 < D) = false := decide_eq_false hbig
    by_cases h0 : e1 = 0
    · have dE : (e1 != 0) = false := by simpa using h0
      have HF : Hid (afR A (t, l1, e1) = (t, l1, e1)) := by show _ = _; unfold afR; dsimp only; rw [if_neg (by have := HD.out; have := HB.out; omega), if_pos h0]
      clear hbig h0
      go_enter Try.func32, Try.ntmps32
      go_wp2_with fail
      refine LF.out.mono ?_
      rintro x w0 ⟨rfl, hw0⟩
      have hw0' := hw0.symm
      subst hw0'
      clear hw0
      go_wp2_with fail
      refine HRC.out.mono ?_
      rintro x w1 ⟨v, rfl, hi1, s1, k1⟩
      dsimp only at hi1 s1
      obtain ⟨vk, vx, vb, vs, va, vm, vc, rfl⟩ := hi1.shape
      have M0 : Hid (Mid w (w1.alloc (.cells #[.int .i64 vk, .int .i64 vx, .int .u64 vb, .string vs, .slice va vm vc] 25)) g h w1.heap.size l1 e1 (.int .i64 vk) (.int .i64 vx) (.int .u64 vb) (.string vs) (.slice va vm vc)) := Mid.box HGH.out.1 HGH.out.2 s1 k1
      obtain ⟨W2, hW2⟩ : ∃ W2, W2 = w1.alloc (.cells #[.int .i64 vk, .int .i64 vx, .int .u64 vb, .string vs, .slice va vm vc] 25) := ⟨_, rfl⟩
      obtain ⟨q, hq⟩ : ∃ q, q = w1.heap.size := ⟨_, rfl⟩
      rw [← hW2, ← hq] at M0
      have HW2 : Hid (W2 = _) := hW2
      have HQ : Hid (q = w1.heap.size) := hq
      have L2 : Hid (Calls Try.prog 36 #[.pointer (some ⟨g, 0, none⟩)] W2 fun x w' => x = .returned (.int .i64 (B : Int)) ∧ w' = W2) := by
        have := left_st W2 g h l1 e1 M0.out.st
        rwa [← HB.out] at this
      have I2 : Hid (IsN (w.heap.size + 1) W2 5 (.agg #[.int .i64 vk, .int .i64 vx, .int .u64 vb, .string vs, .slice va vm vc]) t) := by
        rw [HW2.out]
        have hz : (w.alloc (.cells #[.int .i64 0, .int .i64 0, .int .u64 0, .string ⟨#[]⟩, .slice none 0 0] 25)).heap.size = w.heap.size + 1 := by simp
        rw [hz] at hi1
        exact hi1.kb (kb_below (KB.refl g w1) (bel1 _ _)) (by have := HGH.out.1; omega)
      clear hi1 s1 k1 hW2 hq
      go_upto_region 3 with fail
      rw [← HW2.out, ← HQ.out]
      go_wp2_with fail
      refine L2.out.mono ?_
      rintro x w3 ⟨rfl, hw3⟩
      have hw3' := hw3.symm
      subst hw3'
      clear hw3
      have EC : Hid (Calls Try.prog 34 #[.pointer (some ⟨g, 0, none⟩)] W2 _) := err_st M0.out.st
      go_wp2_with fail
      refine EC.out.mono ?_
      rintro x w5 ⟨rfl, hw5⟩
      have hw5' := hw5.symm
      subst hw5'
      clear hw5
      obtain ⟨a0, a1, a2, a3, a4⟩ := M0.out.own
      obtain ⟨b0, b1, b2, b3, b4⟩ := M0.out.res
      have f0 := M0.out.rfr 0
      have f1 := M0.out.rfr 1
      have f2 := M0.out.rfr 2
      have f3 := M0.out.rfr 3
      have f4 := M0.out.rfr 4
      go_wp2_with fail
      refine bodyPost_ret (ret5 Try.results32 _ (g := w.heap.size) rfl (set5_at M0.out.res (.int .i64 vk) (.int .i64 vx) (.int .u64 vb) (.string vs) (.slice va vm vc))) rfl ?_
      rw [HF.out]
      exact M0.out.fin I2.out
    · have dE : (e1 != 0) = true := by simpa using h0
      have HF : Hid (afR A (t, l1, e1) = (zT, l1, e1)) := by show _ = _; unfold afR; dsimp only; rw [if_neg (by have := HD.out; have := HB.out; omega), if_neg h0]
      clear hbig h0
      go_enter Try.func32, Try.ntmps32
      go_wp2_with fail
      refine LF.out.mono ?_
      rintro x w0 ⟨rfl, hw0⟩
      have hw0' := hw0.symm
      subst hw0'
      clear hw0
      go_wp2_with fail
      refine HRC.out.mono ?_
      rintro x w1 ⟨v, rfl, hi1, s1, k1⟩
      dsimp only at hi1 s1
      obtain ⟨vk, vx, vb, vs, va, vm, vc, rfl⟩ := hi1.shape
      have M0 : Hid (Mid w (w1.alloc (.cells #[.int .i64 vk, .int .i64 vx, .int .u64 vb, .string vs, .slice va vm vc] 25)) g h w1.heap.size l1 e1 (.int .i64 vk) (.int .i64 vx) (.int .u64 vb) (.string vs) (.slice va vm vc)) := Mid.box HGH.out.1 HGH.out.2 s1 k1
      obtain ⟨W2, hW2⟩ : ∃ W2, W2 = w1.alloc (.cells #[.int .i64 vk, .int .i64 vx, .int .u64 vb, .string vs, .slice va vm vc] 25) := ⟨_, rfl⟩
      obtain ⟨q, hq⟩ : ∃ q, q = w1.heap.size := ⟨_, rfl⟩
      rw [← hW2, ← hq] at M0
      have HW2 : Hid (W2 = _) := hW2
      have HQ : Hid (q = w1.heap.size) := hq
      have L2 : Hid (Calls Try.prog 36 #[.pointer (some ⟨g, 0, none⟩)] W2 fun x w' => x = .returned (.int .i64 (B : Int)) ∧ w' = W2) := by
        have := left_st W2 g h l1 e1 M0.out.st
        rwa [← HB.out] at this
      clear hi1 s1 k1 hW2 hq
      go_upto_region 3 with fail
      rw [← HW2.out, ← HQ.out]
      go_wp2_with fail
      refine L2.out.mono ?_
      rintro x w3 ⟨rfl, hw3⟩
      have hw3' := hw3.symm
      subst hw3'
      clear hw3
      have EC : Hid (Calls Try.prog 34 #[.pointer (some ⟨g, 0, none⟩)] W2 _) := err_st M0.out.st
      go_wp2_with fail
      refine EC.out.mono ?_
      rintro x w5 ⟨rfl, hw5⟩
      have hw5' := hw5.symm
      subst hw5'
      clear hw5
      obtain ⟨b0, b1, b2, b3, b4⟩ := M0.out.res
      have f0 := M0.out.rfr 0
      have f1 := M0.out.rfr 1
      have f2 := M0.out.rfr 2
      have f3 := M0.out.rfr 3
      have f4 := M0.out.rfr 4
      go_wp2_with fail
      refine bodyPost_ret (ret5 Try.results32 _ (g := w.heap.size) rfl (set5_at M0.out.res (.int .i64 0) (.int .i64 0) (.int .u64 0) (.string ⟨#[]⟩) (.slice none 0 0))) rfl ?_
      rw [HF.out]
      exact M0.out.fin0
end Go.Proofs.Ytobblioplfpndaa
namespace Go.Proofs.Ytobblioplfpndaa
open Go.ChangeShapes Go.WideShapes Go.ChangeAt Go.RowKit
/-- What Parse answers. -/
def psR (l : List UInt8) : Tv × Int :=
  if en (rdR l 0).2.1 (rdR l 0).2.2 = 0 then ((rdR l 0).1, 0) else (zT, en (rdR l 0).2.1 (rdR l 0).2.2)
theorem ret25 (tmps : Array Value) {w : World} {g : Nat} {c0 c1 c2 c3 c4 y : Value} (hp : tmps.getD 2 undef = .pointer (some ⟨g, 0, none⟩)) (hq : tmps.getD 3 undef = y) (h5 : At5 w g 0 c0 c1 c2 c3 c4) :
    (results Try.f25 tmps).run Try.prog w = .ok (.tuple #[.agg #[c0, c1, c2, c3, c4], y]) w := by
  have hp' : tmps[2]?.getD undef = .pointer (some ⟨g, 0, none⟩) := by simpa using hp
  have hq' : tmps[3]?.getD undef = y := by simpa using hq
  simp [results, hp', hq', asAddr, load5 h5]
/-- Where Parse stands when the value is read. -/
structure PMid (w W : World) (g h q : Nat) (l : List UInt8) (e : Int) (c0 c1 c2 c3 c4 : Value) (t : Tv) : Prop where
  q0 : w.heap.size < q
  q1 : q < W.heap.size
  res : At5 W w.heap.size 0 (.int .i64 0) (.int .i64 0) (.int .u64 0) (.string ⟨#[]⟩) (.slice none 0 0)
  rfr : ∀ o, W.frozen? ⟨w.heap.size, o, none⟩ = false
  own : At5 W q 0 c0 c1 c2 c3 c4
  st : St W g h l e
  is : IsN (w.heap.size + 1) W 5 (.agg #[c0, c1, c2, c3, c4]) t
  bel : Below w.heap.size w W
theorem PMid.box {w w1 w2 : World} {g h : Nat} {l : List UInt8} {e : Int} {c0 c1 c2 c3 c4 : Value} {t : Tv}
    (hg : w.heap.size < g) (hg1 : g < w1.heap.size) (hh1 : h < w1.heap.size)
    (b1 : Below (w.alloc (.cells #[.int .i64 0, .int .i64 0, .int .u64 0, .string ⟨#[]⟩, .slice none 0 0] 25)).heap.size (w.alloc (.cells #[.int .i64 0, .int .i64 0, .int .u64 0, .string ⟨#[]⟩, .slice none 0 0] 25)) w1)
    (s : St w2 g h l e) (kb : KB g w1 w2) (hi : IsN w1.heap.size w2 5 (.agg #[c0, c1, c2, c3, c4]) t) :
    PMid w (w2.alloc (.cells #[c0, c1, c2, c3, c4] 25)) g h w2.heap.size l e c0 c1 c2 c3 c4 t := by
  have hz0 : w.heap.size < (w.alloc (.cells #[.int .i64 0, .int .i64 0, .int .u64 0, .string ⟨#[]⟩, .slice none 0 0] 25)).heap.size := by simp
  have hz1 := b1.size
  have hz2 := kb.2.2.2.1
  have r1 := ((box_at w (.int .i64 0) (.int .i64 0) (.int .u64 0) (.string ⟨#[]⟩) (.slice none 0 0)).below b1).kb kb (by omega)
  refine ⟨by omega, by simp, r1.below (bel1 _ _), fun o => ((bel1 w2 _).frozen (show w.heap.size < w2.heap.size by omega)).trans ((kb.frozen (a := ⟨w.heap.size, o, none⟩) (show w.heap.size < w1.heap.size by omega) (show w.heap.size ≠ g by omega)).trans ((b1.frozen (p := ⟨w.heap.size, o, none⟩) hz0).trans (fresh w _ o))), box_at w2 _ _ _ _ _, s.keep (by simp) ((bel1 w2 _).block g (by omega)) ((bel1 w2 _).block h (by omega)), ?_, ?_⟩
  · exact ((hi.kb (kb_below (KB.refl w.heap.size w2) (bel1 _ _)) (by omega)).lower (by omega))
  · exact ((bel1 w _).trans ((b1.mono (by omega)).trans ((kb.below (by omega) (by omega)).trans ((bel1 w2 _).mono (by omega)))))
theorem PMid.fin {w W : World} {g h q : Nat} {l : List UInt8} {e : Int} {c0 c1 c2 c3 c4 : Value} {t : Tv} (m : PMid w W g h q l e c0 c1 c2 c3 c4 t) :
    Is (set5 W w.heap.size 0 c0 c1 c2 c3 c4) 5 (.agg #[c0, c1, c2, c3, c4]) t ∧ Below w.heap.size w (set5 W w.heap.size 0 c0 c1 c2 c3 c4) := by
  have kb := set5_kb W w.heap.size 0 c0 c1 c2 c3 c4
  exact ⟨(m.is.kb kb (by omega)).is, m.bel.trans (kb.below (Nat.le_refl _) m.bel.size)⟩
theorem PMid.fin0 {w W : World} {g h q : Nat} {l : List UInt8} {e : Int} {c0 c1 c2 c3 c4 : Value} {t : Tv} (m : PMid w W g h q l e c0 c1 c2 c3 c4 t) :
    Is (set5 W w.heap.size 0 (.int .i64 0) (.int .i64 0) (.int .u64 0) (.string ⟨#[]⟩) (.slice none 0 0)) 5 (.agg #[.int .i64 0, .int .i64 0, .int .u64 0, .string ⟨#[]⟩, .slice none 0 0]) zT ∧ Below w.heap.size w (set5 W w.heap.size 0 (.int .i64 0) (.int .i64 0) (.int .u64 0) (.string ⟨#[]⟩) (.slice none 0 0)) := by
  have kb := set5_kb W w.heap.size 0 (.int .i64 0) (.int .i64 0) (.int .u64 0) (.string ⟨#[]⟩) (.slice none 0 0)
  exact ⟨(zT_is 0 _ 4).is, m.bel.trans (kb.below (Nat.le_refl _) m.bel.size)⟩
def PsP (w : World) (r : Tv × Int) (x : Ending) (w' : World) : Prop :=
  ∃ u, x = .returned (.tuple #[u, .int .i64 r.2]) ∧ Is w' 5 u r.1 ∧ Below w.heap.size w w'
set_option maxHeartbeats 1000000 in
set_option maxRecDepth 100000 in
theorem parse_calls (w : World) (v : Value) (l : List UInt8) (hv : Lib.HoldsBytes w v l) (hl : l.length ≤ 281474976710656) :
    Calls Try.prog 25 #[v] w (PsP w (psR l)) := by
  have HV : Hid (Lib.HoldsBytes (w.alloc (.cells #[.int .i64 0, .int .i64 0, .int .u64 0, .string ⟨#[]⟩, .slice none 0 0] 25)) v l) := holds_below hv (bel1 w _)
  have OC : Hid (Calls Try.prog 30 #[v] (w.alloc (.cells #[.int .i64 0, .int .i64 0, .int .u64 0, .string ⟨#[]⟩, .slice none 0 0] 25)) _) := open_calls v l _ HV.out hl
  have RC : Hid (∀ (w : World) (g h : Nat), St w g h l 0 → h < w.heap.size → Calls Try.prog 32 #[.pointer (some ⟨g, 0, none⟩)] w (RdP w g h 5 (rdR l 0))) := fun w g h r hh => readv_calls w g h l 0 r hh hl
  obtain ⟨k', x', b', rfl⟩ : ∃ a m c, v = .slice a m c := by obtain ⟨p, cap, rfl, q1, q2⟩ := hv; exact ⟨_, _, _, rfl⟩
  have hdef : psR l = if en (rdR l 0).2.1 (rdR l 0).2.2 = 0 then ((rdR l 0).1, 0) else (zT, en (rdR l 0).2.1 (rdR l 0).2.2) := rfl
  rw [hdef]
  generalize rdR l 0 = R at RC ⊢
  obtain ⟨t, l2, e2⟩ := R
  dsimp only
  obtain ⟨E, hE⟩ : ∃ E, E = en l2 e2 := ⟨_, rfl⟩
  rw [← hE]
  have HE : Hid (E = en l2 e2) := hE
  clear hdef hv hl hE
  have hW0 : Hid ((w.alloc (.cells #[.int .i64 0, .int .i64 0, .int .u64 0, .string ⟨#[]⟩, .slice none 0 0] 25)).heap.size = w.heap.size + 1) := by show _ = _; simp
  by_cases h0 : E = 0
  · have dE : (E != 0) = false := by simpa using h0
    rw [if_pos h0]
    clear h0
    go_enter Try.func25, Try.ntmps25
    go_wp2_with fail
    refine OC.out.mono ?_
    rintro x w1 ⟨g, h, rfl, hh1, hh2, hg1, s1, b1⟩
    have HG : Hid (w.heap.size < g ∧ g < w1.heap.size ∧ h < w1.heap.size) := by have := hW0.out; show _ ∧ _; omega
    have HB1 : Hid (Below _ _ w1) := b1
    have RC1 : Hid (Calls Try.prog 32 #[.pointer (some ⟨g, 0, none⟩)] w1 (RdP w1 g h 5 (t, l2, e2))) := RC.out w1 g h s1 HG.out.2.2
    clear hh1 hh2 hg1 s1 b1 RC
    go_wp2_with fail
    refine RC1.out.mono ?_
    rintro x w2 ⟨v, rfl, hi2, s2, k2⟩
    dsimp only at hi2 s2
    obtain ⟨vk, vx, vb, vs, va, vm, vc, rfl⟩ := hi2.shape
    have M0 : Hid (PMid w (w2.alloc (.cells #[.int .i64 vk, .int .i64 vx, .int .u64 vb, .string vs, .slice va vm vc] 25)) g h w2.heap.size l2 e2 (.int .i64 vk) (.int .i64 vx) (.int .u64 vb) (.string vs) (.slice va vm vc) t) := PMid.box HG.out.1 HG.out.2.1 HG.out.2.2 HB1.out s2 k2 hi2
    obtain ⟨W2, hW2⟩ : ∃ W2, W2 = w2.alloc (.cells #[.int .i64 vk, .int .i64 vx, .int .u64 vb, .string vs, .slice va vm vc] 25) := ⟨_, rfl⟩
    obtain ⟨q, hq⟩ : ∃ q, q = w2.heap.size := ⟨_, rfl⟩
    rw [← hW2, ← hq] at M0
    have HW2 : Hid (W2 = _) := hW2
    have HQ : Hid (q = w2.heap.size) := hq
    have EC : Hid (Calls Try.prog 54 #[.pointer (some ⟨g, 0, none⟩)] W2 fun x w' => x = .returned (.int .i64 E) ∧ w' = W2) := by
      have := end_st W2 g h l2 e2 M0.out.st
      rwa [← HE.out] at this
    clear hi2 s2 k2 hW2 hq
    go_upto_region 3 with fail
    rw [← HW2.out, ← HQ.out]
    go_wp2_with fail
    refine EC.out.mono ?_
    rintro x w3 ⟨rfl, hw3⟩
    have hw3' := hw3.symm
    subst hw3'
    clear hw3
    obtain ⟨a0, a1, a2, a3, a4⟩ := M0.out.own
    obtain ⟨b0, b1, b2, b3, b4⟩ := M0.out.res
    have f0 := M0.out.rfr 0
    have f1 := M0.out.rfr 1
    have f2 := M0.out.rfr 2
    have f3 := M0.out.rfr 3
    have f4 := M0.out.rfr 4
    go_wp2_with fail
    refine bodyPost_ret (ret25 _ (g := w.heap.size) rfl rfl (set5_at M0.out.res (.int .i64 vk) (.int .i64 vx) (.int .u64 vb) (.string vs) (.slice va vm vc))) rfl ?_
    exact ⟨_, rfl, M0.out.fin⟩
  · have dE : (E != 0) = true := by simpa using h0
    rw [if_neg h0]
    clear h0
    go_enter Try.func25, Try.ntmps25
    go_wp2_with fail
    refine OC.out.mono ?_
    rintro x w1 ⟨g, h, rfl, hh1, hh2, hg1, s1, b1⟩
    have HG : Hid (w.heap.size < g ∧ g < w1.heap.size ∧ h < w1.heap.size) := by have := hW0.out; show _ ∧ _; omega
    have HB1 : Hid (Below _ _ w1) := b1
    have RC1 : Hid (Calls Try.prog 32 #[.pointer (some ⟨g, 0, none⟩)] w1 (RdP w1 g h 5 (t, l2, e2))) := RC.out w1 g h s1 HG.out.2.2
    clear hh1 hh2 hg1 s1 b1 RC
    go_wp2_with fail
    refine RC1.out.mono ?_
    rintro x w2 ⟨v, rfl, hi2, s2, k2⟩
    dsimp only at hi2 s2
    obtain ⟨vk, vx, vb, vs, va, vm, vc, rfl⟩ := hi2.shape
    have M0 : Hid (PMid w (w2.alloc (.cells #[.int .i64 vk, .int .i64 vx, .int .u64 vb, .string vs, .slice va vm vc] 25)) g h w2.heap.size l2 e2 (.int .i64 vk) (.int .i64 vx) (.int .u64 vb) (.string vs) (.slice va vm vc) t) := PMid.box HG.out.1 HG.out.2.1 HG.out.2.2 HB1.out s2 k2 hi2
    obtain ⟨W2, hW2⟩ : ∃ W2, W2 = w2.alloc (.cells #[.int .i64 vk, .int .i64 vx, .int .u64 vb, .string vs, .slice va vm vc] 25) := ⟨_, rfl⟩
    obtain ⟨q, hq⟩ : ∃ q, q = w2.heap.size := ⟨_, rfl⟩
    rw [← hW2, ← hq] at M0
    have HW2 : Hid (W2 = _) := hW2
    have HQ : Hid (q = w2.heap.size) := hq
    have EC : Hid (Calls Try.prog 54 #[.pointer (some ⟨g, 0, none⟩)] W2 fun x w' => x = .returned (.int .i64 E) ∧ w' = W2) := by
      have := end_st W2 g h l2 e2 M0.out.st
      rwa [← HE.out] at this
    clear hi2 s2 k2 hW2 hq
    go_upto_region 3 with fail
    rw [← HW2.out, ← HQ.out]
    go_wp2_with fail
    refine EC.out.mono ?_
    rintro x w3 ⟨rfl, hw3⟩
    have hw3' := hw3.symm
    subst hw3'
    clear hw3
    obtain ⟨b0, b1, b2, b3, b4⟩ := M0.out.res
    have f0 := M0.out.rfr 0
    have f1 := M0.out.rfr 1
    have f2 := M0.out.rfr 2
    have f3 := M0.out.rfr 3
    have f4 := M0.out.rfr 4
    go_wp2_with fail
    refine bodyPost_ret (ret25 _ (g := w.heap.size) rfl rfl (set5_at M0.out.res (.int .i64 0) (.int .i64 0) (.int .u64 0) (.string ⟨#[]⟩) (.slice none 0 0))) rfl ?_
    exact ⟨_, rfl, M0.out.fin0⟩
end Go.Proofs.Ytobblioplfpndaa
namespace Go.Proofs.Ytobblioplfpndaa
open Go.ChangeShapes Go.WideShapes Go.ChangeAt Go.RowKit
theorem psR_back {n : Nat} {t : Tv} (m : May n t) (hf : FitT n t) : psR (bytesT n t) = (t, 0) := by
  have h := rdV_back 4 n t [] m.1 hf
  rw [List.append_nil] at h
  have hr : rdR (bytesT n t) 0 = (t, [], 0) := by
    unfold rdR afR
    rw [h]
    have := m.2
    dsimp only
    rw [if_neg (by simp only [List.length_nil]; omega), if_pos rfl]
  unfold psR
  rw [hr]
  rfl
theorem psR_inv {l : List UInt8} (h : (psR l).2 = 0) : May 5 (psR l).1 ∧ bytesT 5 (psR l).1 = l := by
  obtain ⟨t, l1, e1, hR⟩ : ∃ t l1 e1, rdV 4 l 0 = (t, l1, e1) := ⟨_, _, _, rfl⟩
  have hr : rdR l 0 = afR l.length (t, l1, e1) := by unfold rdR; rw [hR]
  have hen : ∀ (l : List UInt8) (e : Int), e ≠ 0 → en l e ≠ 0 := by
    intro l e he
    unfold en
    rw [if_neg (by simpa using he)]
    exact he
  by_cases hE : en (rdR l 0).2.1 (rdR l 0).2.2 = 0
  · have hp : psR l = ((rdR l 0).1, 0) := by unfold psR; rw [if_pos hE]
    rw [hp]
    rw [hr] at hE ⊢
    unfold afR at hE ⊢
    dsimp only at hE ⊢
    by_cases hb : 1000 < (l.length : Int) - (l1.length : Int)
    · rw [if_pos hb] at hE
      exact absurd hE (hen _ _ (flE_ne (by decide)))
    · rw [if_neg hb] at hE ⊢
      by_cases h0 : e1 = 0
      · rw [if_pos h0] at hE ⊢
        subst h0
        dsimp only at hE ⊢
        have hl1 : l1.length = 0 := by
          unfold en at hE
          rw [if_pos (by decide)] at hE
          split at hE
          · assumption
          · cases hE
        have hl1' := List.eq_nil_of_length_eq_zero hl1
        subst hl1'
        have hi := rdV_inv 4 l t [] hR
        rw [List.append_nil] at hi
        refine ⟨⟨hi.1, ?_⟩, hi.2.symm⟩
        rw [← hi.2]
        simp only [List.length_nil] at hb
        omega
      · rw [if_neg h0] at hE
        exact absurd hE (hen _ _ h0)
  · have hp : psR l = (zT, en (rdR l 0).2.1 (rdR l 0).2.2) := by unfold psR; rw [if_neg hE]
    rw [hp] at h
    exact absurd h hE
theorem holds_nilB (w : World) : Lib.HoldsBytes w (.slice none 0 0) [] := ⟨none, 0, rfl, fun _ => rfl, fun a ha => by cases ha⟩
theorem Is.five {w : World} : ∀ {n : Nat} {v : Value} {t : Tv}, Is w n v t → ∃ k x b s a m c, v = .agg #[.int .i64 k, .int .i64 x, .int .u64 b, .string s, .slice a m c]
  | 0, _, _, h => h.elim
  | _ + 1, _, .mk k x b s l, ⟨a, c, hv, _, _⟩ => ⟨k, x, b, s, a, l.length, c, hv⟩
set_option maxHeartbeats 2000000 in
set_option maxRecDepth 100000 in
theorem back_walk (n : Nat) (v : Value) (t : Tv) (b : Value) (l : List UInt8) (w : World) (hn : 5 ≤ n) (h : Is w n v t) (hb : Lib.HoldsBytes w b l) (hl : l.length ≤ 281474976710656) :
    Calls Try.prog 6 #[v, b] w fun e w' => e = .returned (.bool true) ∧ Below w.heap.size w w' := by
  have HF1 : Hid (∀ W, Below w.heap.size w W → _) := fun W (hB : Below w.heap.size w W) => fine_calls n v t W (h.below hB)
  have HK1 : Hid (∀ W, Below w.heap.size w W → _) := fun W (hB : Below w.heap.size w W) => check_calls n v t W (h.below hB)
  have HP1 : Hid (May n t → ∀ W, Below w.heap.size w W → Calls Try.prog 28 #[.slice none 0 0, v] W fun e w' => ∃ v', e = .returned v' ∧ Lib.HoldsBytes w' v' (bytesT n t) ∧ Below W.heap.size W w') := fun m W hB => (put_calls n v t _ [] W (h.below hB) (holds_nilB W) (by simp)).mono fun e w' ⟨v', he, hm, _, hb⟩ => ⟨v', he, hm m, hb⟩
  have HPB : Hid (∀ W, Below w.heap.size w W → Calls Try.prog 25 #[b] W (PsP W (psR l))) := fun W hB => parse_calls W b l (holds_below hb hB) hl
  have HPV : Hid (May n t → ∀ W v', Lib.HoldsBytes W v' (bytesT n t) → Calls Try.prog 25 #[v'] W (PsP W (t, 0))) := fun m W v' hv => by
    have := parse_calls W v' (bytesT n t) hv (by have := m.2; omega)
    rwa [psR_back m h.fitT] at this
  have HS : Hid (∀ W u, Below w.heap.size w W → Is W 5 u t → Calls Try.prog 22 #[u, v] W fun e w' => e = .returned (.bool true) ∧ Below W.heap.size W w') := fun W u hB hu => (same_calls n u t v t W (hu.up hn) (h.below hB)).mono fun e w' ⟨⟨r, he, hr⟩, hb⟩ => by
    obtain rfl := hr.2 rfl
    exact ⟨he, hb⟩
  have HI : Hid ((psR l).2 = 0 → May 5 (psR l).1 ∧ bytesT 5 (psR l).1 = l) := psR_inv
  have HQ1 : Hid (∀ W u t2, May 5 t2 → Is W 5 u t2 → Calls Try.prog 20 #[u] W fun e w' => e = .returned (.int .i64 0) ∧ Below W.heap.size W w') := fun W u t2 m hu => (check_calls 5 u t2 W hu).mono fun e w' ⟨⟨r, he, hr, _⟩, hb⟩ => by
    obtain rfl := hr m
    exact ⟨he, hb⟩
  have HQ2 : Hid (∀ W u t2, May 5 t2 → Is W 5 u t2 → Calls Try.prog 28 #[.slice none 0 0, u] W fun e w' => ∃ p m c, e = .returned (.slice p m c) ∧ Lib.HoldsBytes w' (.slice p m c) (bytesT 5 t2) ∧ Below W.heap.size W w') := fun W u t2 m hu => (put_calls 5 u t2 _ [] W hu (holds_nilB W) (by simp)).mono fun e w' ⟨v', he, hm, _, hb⟩ => by
    have hh := hm m
    obtain ⟨p, c, rfl, q1, q2⟩ := hh
    exact ⟨p, _, c, he, ⟨p, c, rfl, q1, q2⟩, hb⟩
  have HEq : Hid (∀ W v', Below w.heap.size w W → Lib.HoldsBytes W v' l → Calls Try.prog 27 #[v', b] W fun e w' => e = .returned (.bool true) ∧ w' = W) := fun W v' hB hv => (equal_calls v' b l l W hv (holds_below hb hB)).mono fun e w' ⟨he, hw⟩ => ⟨by rw [he]; simp, hw⟩
  have HM : Hid (May n t ∨ ¬ May n t) := Classical.em _
  obtain ⟨k, x, bb, s, aa, m, c, rfl⟩ := h.five
  obtain ⟨ba, bm, bc, rfl⟩ : ∃ p m c, b = .slice p m c := by obtain ⟨p, cap, rfl, q1, q2⟩ := hb; exact ⟨_, _, _, rfl⟩
  generalize psR l = R at HPB HI
  obtain ⟨t2, E⟩ := R
  clear h hb hl hn
  go_enter Try.func6, Try.ntmps6
  go_wp2_with fail
  generalize hW0 : w.alloc (Obj.cells #[.int .i64 k, .int .i64 x, .int .u64 bb, .string s, .slice aa m c] 25) = W0
  have HA : Hid (At5 W0 w.heap.size 0 (.int .i64 k) (.int .i64 x) (.int .u64 bb) (.string s) (.slice aa m c)) := by subst hW0; exact box_at w _ _ _ _ _
  have HB0 : Hid (Below w.heap.size w W0) := by subst hW0; exact bel1 _ _
  clear hW0
  refine (HF1.out W0 HB0.out).mono ?_
  rintro e w1 ⟨⟨f1, rfl⟩, hb1⟩
  have T1 : Hid (Below W0.heap.size W0 w1) := hb1
  clear hb1
  obtain ⟨p0, p1, p2, p3, p4⟩ := HA.out.below T1.out
  cases f1 with
  | false =>
    clear p0 p1 p2 p3 p4
    go_wp2_with fail
    refine (HPB.out w1 (bel2 HB0.out T1.out)).mono ?_
    rintro e v1 ⟨u, rfl, hu, hbv⟩
    dsimp only at hu
    have Tv1 : Hid (Below W0.heap.size W0 v1) := bel2 T1.out hbv
    clear hbv
    obtain ⟨yk, yx, yb, ys, ya, ym, yc, rfl⟩ := hu.five
    have yU : Hid (Is (v1.alloc (.cells #[.int .i64 yk, .int .i64 yx, .int .u64 yb, .string ys, .slice ya ym yc] 25)) 5 (.agg #[.int .i64 yk, .int .i64 yx, .int .u64 yb, .string ys, .slice ya ym yc]) t2) := hu.below (bel1 _ _)
    have yO : Hid (At5 (v1.alloc (.cells #[.int .i64 yk, .int .i64 yx, .int .u64 yb, .string ys, .slice ya ym yc] 25)) v1.heap.size 0 (.int .i64 yk) (.int .i64 yx) (.int .u64 yb) (.string ys) (.slice ya ym yc)) := box_at v1 _ _ _ _ _
    have yT : Hid (Below W0.heap.size W0 (v1.alloc (.cells #[.int .i64 yk, .int .i64 yx, .int .u64 yb, .string ys, .slice ya ym yc] 25))) := bel2 Tv1.out (bel1 _ _)
    obtain ⟨yW, hW⟩ : ∃ W2, W2 = v1.alloc (.cells #[.int .i64 yk, .int .i64 yx, .int .u64 yb, .string ys, .slice ya ym yc] 25) := ⟨_, rfl⟩
    obtain ⟨yq, hq⟩ : ∃ q, q = v1.heap.size := ⟨_, rfl⟩
    rw [← hW] at yU yO yT
    rw [← hq] at yO
    have yHW : Hid (yW = _) := hW
    have yHQ : Hid (yq = v1.heap.size) := hq
    clear hu hW hq
    go_upto_region 6 with fail
    rw [← yHW.out, ← yHQ.out]
    rcases Classical.em (E = 0) with h0 | h0
    · have h0' := h0
      subst h0'
      obtain ⟨M2, L2⟩ := HI.out rfl
      have HM2 : Hid (May 5 t2) := M2
      have HL2 : Hid (bytesT 5 t2 = l) := L2
      clear M2 L2 h0
      obtain ⟨r0, r1, r2, r3, r4⟩ := yO.out
      go_wp2_with fail
      refine (HQ1.out _ _ t2 HM2.out yU.out).mono ?_
      rintro e v2 ⟨rfl, hbv⟩
      have Tv2 : Hid (Below yW.heap.size yW v2) := hbv
      clear hbv r0 r1 r2 r3 r4
      obtain ⟨r0, r1, r2, r3, r4⟩ := yO.out.below Tv2.out
      go_wp2_with fail
      refine (HQ2.out _ _ t2 HM2.out (yU.out.below Tv2.out)).mono ?_
      rintro e v3 ⟨vp, vm, vc, rfl, hv3, hbv⟩
      have Tv3 : Hid (Below W0.heap.size W0 v3) := bel2 (bel2 yT.out Tv2.out) hbv
      have EC : Hid (Calls Try.prog 27 #[.slice vp vm vc, .slice ba bm bc] v3 _) := HEq.out v3 _ (bel2 HB0.out Tv3.out) (by rw [← HL2.out]; exact hv3)
      clear hbv hv3 r0 r1 r2 r3 r4
      go_wp2_with fail
      refine EC.out.mono ?_
      rintro e v4 ⟨rfl, hv4⟩
      have hv4' := hv4.symm
      subst hv4'
      clear hv4
      go_wp2_with fail
      refine (awake_calls _).mono ?_
      rintro e v5 ⟨rfl, hbv⟩
      have Tv5 : Hid (Below W0.heap.size W0 v5) := bel2 Tv3.out hbv
      clear hbv
      go_wp2_with fail
      go_ret
      exact ⟨rfl, bel2 HB0.out Tv5.out⟩
    · have dE : (E != 0) = true := by simpa using h0
      clear h0
      go_wp2_with fail
      refine (awake_calls _).mono ?_
      rintro e v5 ⟨rfl, hbv⟩
      have Tv5 : Hid (Below W0.heap.size W0 v5) := bel2 yT.out hbv
      clear hbv
      go_wp2_with fail
      go_ret
      exact ⟨rfl, bel2 HB0.out Tv5.out⟩
  | true =>
    go_wp2_with fail
    refine (HK1.out w1 (bel2 HB0.out T1.out)).mono ?_
    rintro e w2 ⟨⟨r, rfl, hr1, hr2⟩, hb2⟩
    have T2 : Hid (Below W0.heap.size W0 w2) := bel2 T1.out hb2
    clear hb2 p0 p1 p2 p3 p4
    rcases HM.out with hm | hm
    · have hr := hr1 hm
      clear hr1 hr2
      subst hr
      have HMm : Hid (May n t) := hm
      clear hm
      obtain ⟨p0, p1, p2, p3, p4⟩ := HA.out.below T2.out
      go_wp2_with fail
      refine (HP1.out HMm.out w2 (bel2 HB0.out T2.out)).mono ?_
      rintro e w3 ⟨v', rfl, hv3, hb3⟩
      have T3 : Hid (Below W0.heap.size W0 w3) := bel2 T2.out hb3
      have PC : Hid (Calls Try.prog 25 #[v'] w3 (PsP w3 (t, 0))) := HPV.out HMm.out w3 v' hv3
      obtain ⟨ja, jm, jc, rfl⟩ : ∃ p m c, v' = .slice p m c := by obtain ⟨p, cap, rfl, q1, q2⟩ := hv3; exact ⟨_, _, _, rfl⟩
      clear hb3 hv3 p0 p1 p2 p3 p4
      go_wp2_with fail
      refine PC.out.mono ?_
      rintro e w4 ⟨u, rfl, hu, hb4⟩
      dsimp only at hu
      have T4 : Hid (Below W0.heap.size W0 w4) := bel2 T3.out hb4
      clear hb4
      obtain ⟨zk, zx, zb, zs, za, zm, zc, rfl⟩ := hu.five
      have zU : Hid (Is (w4.alloc (.cells #[.int .i64 zk, .int .i64 zx, .int .u64 zb, .string zs, .slice za zm zc] 25)) 5 (.agg #[.int .i64 zk, .int .i64 zx, .int .u64 zb, .string zs, .slice za zm zc]) t) := hu.below (bel1 _ _)
      have zO : Hid (At5 (w4.alloc (.cells #[.int .i64 zk, .int .i64 zx, .int .u64 zb, .string zs, .slice za zm zc] 25)) w4.heap.size 0 (.int .i64 zk) (.int .i64 zx) (.int .u64 zb) (.string zs) (.slice za zm zc)) := box_at w4 _ _ _ _ _
      have zTT : Hid (Below W0.heap.size W0 (w4.alloc (.cells #[.int .i64 zk, .int .i64 zx, .int .u64 zb, .string zs, .slice za zm zc] 25))) := bel2 T4.out (bel1 _ _)
      obtain ⟨zW, hW⟩ : ∃ W2, W2 = w4.alloc (.cells #[.int .i64 zk, .int .i64 zx, .int .u64 zb, .string zs, .slice za zm zc] 25) := ⟨_, rfl⟩
      obtain ⟨zq, hq⟩ : ∃ q, q = w4.heap.size := ⟨_, rfl⟩
      rw [← hW] at zU zO zTT
      rw [← hq] at zO
      have zHW : Hid (zW = _) := hW
      have zHQ : Hid (zq = w4.heap.size) := hq
      clear hu hW hq
      go_upto_region 3 with fail
      rw [← zHW.out, ← zHQ.out]
      obtain ⟨p0, p1, p2, p3, p4⟩ := HA.out.below zTT.out
      obtain ⟨r0, r1, r2, r3, r4⟩ := zO.out
      go_wp2_with fail
      refine (HS.out _ _ (bel2 HB0.out zTT.out) zU.out).mono ?_
      rintro e w5 ⟨rfl, hb5⟩
      have T5 : Hid (Below W0.heap.size W0 w5) := bel2 zTT.out hb5
      clear hb5 p0 p1 p2 p3 p4 r0 r1 r2 r3 r4
      go_wp2_with fail
      refine (HPB.out w5 (bel2 HB0.out T5.out)).mono ?_
      rintro e v1 ⟨u, rfl, hu, hbv⟩
      dsimp only at hu
      have Tv1 : Hid (Below W0.heap.size W0 v1) := bel2 T5.out hbv
      clear hbv
      obtain ⟨yk, yx, yb, ys, ya, ym, yc, rfl⟩ := hu.five
      have yU : Hid (Is (v1.alloc (.cells #[.int .i64 yk, .int .i64 yx, .int .u64 yb, .string ys, .slice ya ym yc] 25)) 5 (.agg #[.int .i64 yk, .int .i64 yx, .int .u64 yb, .string ys, .slice ya ym yc]) t2) := hu.below (bel1 _ _)
      have yO : Hid (At5 (v1.alloc (.cells #[.int .i64 yk, .int .i64 yx, .int .u64 yb, .string ys, .slice ya ym yc] 25)) v1.heap.size 0 (.int .i64 yk) (.int .i64 yx) (.int .u64 yb) (.string ys) (.slice ya ym yc)) := box_at v1 _ _ _ _ _
      have yT : Hid (Below W0.heap.size W0 (v1.alloc (.cells #[.int .i64 yk, .int .i64 yx, .int .u64 yb, .string ys, .slice ya ym yc] 25))) := bel2 Tv1.out (bel1 _ _)
      obtain ⟨yW, hW⟩ : ∃ W2, W2 = v1.alloc (.cells #[.int .i64 yk, .int .i64 yx, .int .u64 yb, .string ys, .slice ya ym yc] 25) := ⟨_, rfl⟩
      obtain ⟨yq, hq⟩ : ∃ q, q = v1.heap.size := ⟨_, rfl⟩
      rw [← hW] at yU yO yT
      rw [← hq] at yO
      have yHW : Hid (yW = _) := hW
      have yHQ : Hid (yq = v1.heap.size) := hq
      clear hu hW hq
      go_upto_region 6 with fail
      rw [← yHW.out, ← yHQ.out]
      rcases Classical.em (E = 0) with h0 | h0
      · have h0' := h0
        subst h0'
        obtain ⟨M2, L2⟩ := HI.out rfl
        have HM2 : Hid (May 5 t2) := M2
        have HL2 : Hid (bytesT 5 t2 = l) := L2
        clear M2 L2 h0
        obtain ⟨r0, r1, r2, r3, r4⟩ := yO.out
        go_wp2_with fail
        refine (HQ1.out _ _ t2 HM2.out yU.out).mono ?_
        rintro e v2 ⟨rfl, hbv⟩
        have Tv2 : Hid (Below yW.heap.size yW v2) := hbv
        clear hbv r0 r1 r2 r3 r4
        obtain ⟨r0, r1, r2, r3, r4⟩ := yO.out.below Tv2.out
        go_wp2_with fail
        refine (HQ2.out _ _ t2 HM2.out (yU.out.below Tv2.out)).mono ?_
        rintro e v3 ⟨vp, vm, vc, rfl, hv3, hbv⟩
        have Tv3 : Hid (Below W0.heap.size W0 v3) := bel2 (bel2 yT.out Tv2.out) hbv
        have EC : Hid (Calls Try.prog 27 #[.slice vp vm vc, .slice ba bm bc] v3 _) := HEq.out v3 _ (bel2 HB0.out Tv3.out) (by rw [← HL2.out]; exact hv3)
        clear hbv hv3 r0 r1 r2 r3 r4
        go_wp2_with fail
        refine EC.out.mono ?_
        rintro e v4 ⟨rfl, hv4⟩
        have hv4' := hv4.symm
        subst hv4'
        clear hv4
        go_wp2_with fail
        refine (awake_calls _).mono ?_
        rintro e v5 ⟨rfl, hbv⟩
        have Tv5 : Hid (Below W0.heap.size W0 v5) := bel2 Tv3.out hbv
        clear hbv
        go_wp2_with fail
        go_ret
        exact ⟨rfl, bel2 HB0.out Tv5.out⟩
      · have dE : (E != 0) = true := by simpa using h0
        clear h0
        go_wp2_with fail
        refine (awake_calls _).mono ?_
        rintro e v5 ⟨rfl, hbv⟩
        have Tv5 : Hid (Below W0.heap.size W0 v5) := bel2 yT.out hbv
        clear hbv
        go_wp2_with fail
        go_ret
        exact ⟨rfl, bel2 HB0.out Tv5.out⟩
    · have hr := hr2 hm
      clear hr1 hr2 hm
      subst hr
      go_wp2_with fail
      refine (HPB.out w2 (bel2 HB0.out T2.out)).mono ?_
      rintro e v1 ⟨u, rfl, hu, hbv⟩
      dsimp only at hu
      have Tv1 : Hid (Below W0.heap.size W0 v1) := bel2 T2.out hbv
      clear hbv
      obtain ⟨yk, yx, yb, ys, ya, ym, yc, rfl⟩ := hu.five
      have yU : Hid (Is (v1.alloc (.cells #[.int .i64 yk, .int .i64 yx, .int .u64 yb, .string ys, .slice ya ym yc] 25)) 5 (.agg #[.int .i64 yk, .int .i64 yx, .int .u64 yb, .string ys, .slice ya ym yc]) t2) := hu.below (bel1 _ _)
      have yO : Hid (At5 (v1.alloc (.cells #[.int .i64 yk, .int .i64 yx, .int .u64 yb, .string ys, .slice ya ym yc] 25)) v1.heap.size 0 (.int .i64 yk) (.int .i64 yx) (.int .u64 yb) (.string ys) (.slice ya ym yc)) := box_at v1 _ _ _ _ _
      have yT : Hid (Below W0.heap.size W0 (v1.alloc (.cells #[.int .i64 yk, .int .i64 yx, .int .u64 yb, .string ys, .slice ya ym yc] 25))) := bel2 Tv1.out (bel1 _ _)
      obtain ⟨yW, hW⟩ : ∃ W2, W2 = v1.alloc (.cells #[.int .i64 yk, .int .i64 yx, .int .u64 yb, .string ys, .slice ya ym yc] 25) := ⟨_, rfl⟩
      obtain ⟨yq, hq⟩ : ∃ q, q = v1.heap.size := ⟨_, rfl⟩
      rw [← hW] at yU yO yT
      rw [← hq] at yO
      have yHW : Hid (yW = _) := hW
      have yHQ : Hid (yq = v1.heap.size) := hq
      clear hu hW hq
      go_upto_region 6 with fail
      rw [← yHW.out, ← yHQ.out]
      rcases Classical.em (E = 0) with h0 | h0
      · have h0' := h0
        subst h0'
        obtain ⟨M2, L2⟩ := HI.out rfl
        have HM2 : Hid (May 5 t2) := M2
        have HL2 : Hid (bytesT 5 t2 = l) := L2
        clear M2 L2 h0
        obtain ⟨r0, r1, r2, r3, r4⟩ := yO.out
        go_wp2_with fail
        refine (HQ1.out _ _ t2 HM2.out yU.out).mono ?_
        rintro e v2 ⟨rfl, hbv⟩
        have Tv2 : Hid (Below yW.heap.size yW v2) := hbv
        clear hbv r0 r1 r2 r3 r4
        obtain ⟨r0, r1, r2, r3, r4⟩ := yO.out.below Tv2.out
        go_wp2_with fail
        refine (HQ2.out _ _ t2 HM2.out (yU.out.below Tv2.out)).mono ?_
        rintro e v3 ⟨vp, vm, vc, rfl, hv3, hbv⟩
        have Tv3 : Hid (Below W0.heap.size W0 v3) := bel2 (bel2 yT.out Tv2.out) hbv
        have EC : Hid (Calls Try.prog 27 #[.slice vp vm vc, .slice ba bm bc] v3 _) := HEq.out v3 _ (bel2 HB0.out Tv3.out) (by rw [← HL2.out]; exact hv3)
        clear hbv hv3 r0 r1 r2 r3 r4
        go_wp2_with fail
        refine EC.out.mono ?_
        rintro e v4 ⟨rfl, hv4⟩
        have hv4' := hv4.symm
        subst hv4'
        clear hv4
        go_wp2_with fail
        refine (awake_calls _).mono ?_
        rintro e v5 ⟨rfl, hbv⟩
        have Tv5 : Hid (Below W0.heap.size W0 v5) := bel2 Tv3.out hbv
        clear hbv
        go_wp2_with fail
        go_ret
        exact ⟨rfl, bel2 HB0.out Tv5.out⟩
      · have dE : (E != 0) = true := by simpa using h0
        clear h0
        go_wp2_with fail
        refine (awake_calls _).mono ?_
        rintro e v5 ⟨rfl, hbv⟩
        have Tv5 : Hid (Below W0.heap.size W0 v5) := bel2 yT.out hbv
        clear hbv
        go_wp2_with fail
        go_ret
        exact ⟨rfl, bel2 HB0.out Tv5.out⟩
end Go.Proofs.Ytobblioplfpndaa
