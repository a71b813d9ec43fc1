/- Values there and back: what was written is read, and what is read was written so. -/
import Derived.Test.YtjmonkhkcmcfiaaXA
namespace Go.Proofs.Ytjmonkhkcmcfiaa
open Go.ChangeShapes Go.WideShapes Go.ChangeAt Go.RowKit
/-- A value's numbers fit. -/
def FitT : Nat → Tv → Prop
  | 0, _ => False
  | n + 1, .mk _ x b _ l => (-9223372036854775808 ≤ x ∧ x ≤ 9223372036854775807) ∧ (0 ≤ b ∧ b ≤ 18446744073709551615) ∧ ∀ (i : Nat) t, l[i]? = some t → FitT n t
theorem Is.fitT {w : World} : ∀ {n : Nat} {v : Value} {t : Tv}, Is w n v t → FitT n t
  | 0, _, _, h => h
  | n + 1, v, .mk k x b s l, ⟨a, c, hv, hf, hr⟩ => ⟨⟨hf.x0, hf.x1⟩, ⟨hf.b0, hf.b1⟩, fun i t ht => by
      obtain ⟨B, o, c0, c1, c2, c3, c4, ha, h5, hi⟩ := hr i t ht
      exact hi.fitT⟩
theorem str_data (s : ByteArray) : str s.data.toList = s := by
  apply ByteArray.ext
  simp [str]
theorem str_size (s : List UInt8) : (str s).size = s.length := by simp [str, ByteArray.size]
theorem str_toList (s : List UInt8) : (str s).data.toList = s := by simp [str]
theorem data_len2 (s : ByteArray) : s.data.toList.length = s.size := by rw [Array.length_toList]; rfl
theorem nil_toList : (⟨#[]⟩ : ByteArray).toList = [] := by rw [Lib.toList_data]
theorem empty_of {s : ByteArray} (h : s.toList = []) : s = ⟨#[]⟩ := by
  rw [Lib.toList_data] at h
  cases s
  simpa using h
theorem rdN_flat {f : List UInt8 → Int → Tv × List UInt8 × Int} {n : Nat} : ∀ (ts : List Tv) (rest : List UInt8), (∀ t ∈ ts, ∀ rest, f (bytesT n t ++ rest) 0 = (t, rest, 0)) → rdN f ts.length ((ts.map (bytesT n)).flatten ++ rest) 0 = (ts, rest, 0)
  | [], rest, _ => rfl
  | t :: ts, rest, h => by
    have ih := rdN_flat ts rest (fun u hu => h u (by simp [hu]))
    have h1 := h t (by simp) ((ts.map (bytesT n)).flatten ++ rest)
    simp only [List.length_cons, List.map_cons, List.flatten_cons, List.append_assoc, rdN, h1, ih, if_true]
theorem rdV_back : ∀ (d n : Nat) (t : Tv) (rest : List UInt8), ShapeT n d t → FitT n t → rdV d (bytesT n t ++ rest) 0 = (t, rest, 0) := by
  intro d
  induction d with
  | zero =>
    intro n t rest hs hf
    cases n with
    | zero => exact hf.elim
    | succ n =>
      obtain ⟨k, x, b, s, l⟩ := t
      obtain ⟨⟨f0, f1, f2, f3, f4, f5, f6, f7, f8⟩, h4, _⟩ := hs
      obtain ⟨hx, hb, _⟩ := hf
      have hn : ∀ r, sNum 4 (enc k.toNat ++ r) 0 = (k, r, 0) := fun r => by
        rw [sNum_enc k.toNat 4 r (by omega) (by omega), Int.toNat_of_nonneg f0]
      have hk : k = 0 ∨ k = 1 ∨ k = 2 ∨ k = 3 := by
        have : k ≠ 4 := fun e => h4 e rfl
        omega
      simp only [rdV, bytesT, List.append_assoc]
      unfold rd1
      rw [hn]
      dsimp only
      have hl0 : l = [] := List.eq_nil_of_length_eq_zero (by omega)
      rcases hk with rfl | rfl | rfl | rfl
      · have hx0 : x = 0 := by omega
        have hb0 : b = 0 := by omega
        have hs0 : s = ⟨#[]⟩ := empty_of (by rcases f5 with h | h; exact absurd h (by decide); exact h)
        subst hx0 hb0 hs0 hl0
        simp
      · have hb0 : b = 0 := by omega
        have hs0 : s = ⟨#[]⟩ := empty_of (by rcases f5 with h | h; exact absurd h (by decide); exact h)
        subst hb0 hs0 hl0
        simp [sInt_be x rest hx.1 hx.2]
      · have hx0 : x = 0 := by omega
        have hs0 : s = ⟨#[]⟩ := empty_of (by rcases f5 with h | h; exact absurd h (by decide); exact h)
        subst hx0 hs0 hl0
        have hbb : ((b.toNat : Nat) : Int) = b := Int.toNat_of_nonneg hb.1
        simp [sBits_be b.toNat rest (by omega), f4, hbb]
      · have hx0 : x = 0 := by omega
        have hb0 : b = 0 := by omega
        subst hx0 hb0 hl0
        have hsz := data_len2 s
        have ht := sText_enc s.data.toList rest 200 (by omega) (by omega)
        rw [hsz] at ht
        simp [ht, str_data]
  | succ d ih =>
    intro n t rest hs hf
    cases n with
    | zero => exact hf.elim
    | succ n =>
      obtain ⟨k, x, b, s, l⟩ := t
      obtain ⟨⟨f0, f1, f2, f3, f4, f5, f6, f7, f8⟩, h4, hL⟩ := hs
      obtain ⟨hx, hb, hF⟩ := hf
      have hn : ∀ r, sNum 4 (enc k.toNat ++ r) 0 = (k, r, 0) := fun r => by
        rw [sNum_enc k.toNat 4 r (by omega) (by omega), Int.toNat_of_nonneg f0]
      have hk : k = 0 ∨ k = 1 ∨ k = 2 ∨ k = 3 ∨ k = 4 := by omega
      simp only [rdV, bytesT, List.append_assoc]
      unfold rd1
      rw [hn]
      dsimp only
      rcases hk with rfl | rfl | rfl | rfl | rfl
      · have hl0 : l = [] := List.eq_nil_of_length_eq_zero (by omega)
        have hx0 : x = 0 := by omega
        have hb0 : b = 0 := by omega
        have hs0 : s = ⟨#[]⟩ := empty_of (by rcases f5 with h | h; exact absurd h (by decide); exact h)
        subst hx0 hb0 hs0 hl0
        simp
      · have hl0 : l = [] := List.eq_nil_of_length_eq_zero (by omega)
        have hb0 : b = 0 := by omega
        have hs0 : s = ⟨#[]⟩ := empty_of (by rcases f5 with h | h; exact absurd h (by decide); exact h)
        subst hb0 hs0 hl0
        simp [sInt_be x rest hx.1 hx.2]
      · have hl0 : l = [] := List.eq_nil_of_length_eq_zero (by omega)
        have hx0 : x = 0 := by omega
        have hs0 : s = ⟨#[]⟩ := empty_of (by rcases f5 with h | h; exact absurd h (by decide); exact h)
        subst hx0 hs0 hl0
        have hbb : ((b.toNat : Nat) : Int) = b := Int.toNat_of_nonneg hb.1
        simp [sBits_be b.toNat rest (by omega), f4, hbb]
      · have hl0 : l = [] := List.eq_nil_of_length_eq_zero (by omega)
        have hx0 : x = 0 := by omega
        have hb0 : b = 0 := by omega
        subst hx0 hb0 hl0
        have hsz := data_len2 s
        have ht := sText_enc s.data.toList rest 200 (by omega) (by omega)
        rw [hsz] at ht
        simp [ht, str_data]
      · have hx0 : x = 0 := by omega
        have hb0 : b = 0 := by omega
        have hs0 : s = ⟨#[]⟩ := empty_of (by rcases f5 with h | h; exact absurd h (by decide); exact h)
        subst hx0 hb0 hs0
        have hc := sNum_enc l.length 12 ((l.map (bytesT n)).flatten ++ rest) (by omega) (by omega)
        have hN := rdN_flat (f := rdV d) (n := n) l rest (fun t ht r => by
          obtain ⟨i, hi⟩ := List.getElem?_of_mem ht
          have h1 := hL i t hi
          have e : ((d + 1 : Nat) : Int) - 1 = (d : Int) := by omega
          rw [e] at h1
          exact ih n t r h1 (hF i t hi))
        have hR : rdL (rdV d) (enc l.length ++ ((l.map (bytesT n)).flatten ++ rest)) 0 = (l, rest, 0) := by
          unfold rdL
          rw [hc]
          dsimp only
          rw [Int.toNat_natCast]
          exact hN
        simp [hR]
theorem flE_ne {e f : Int} (h : f ≠ 0) : flE e f ≠ 0 := by
  unfold flE
  split
  · exact h
  · assumption
theorem cn0 : cn 0 = 0 := by decide +kernel
theorem rdN_inv {f : List UInt8 → Int → Tv × List UInt8 × Int} {n : Nat} {P : Tv → Prop} (hf : ∀ l t rest, f l 0 = (t, rest, 0) → P t ∧ l = bytesT n t ++ rest) : ∀ (c : Nat) (l : List UInt8) (ts : List Tv) (rest : List UInt8), rdN f c l 0 = (ts, rest, 0) → ts.length = c ∧ (∀ (i : Nat) t, ts[i]? = some t → P t) ∧ l = (ts.map (bytesT n)).flatten ++ rest
  | 0, l, ts, rest, h => by
    simp only [rdN, Prod.mk.injEq] at h
    obtain ⟨rfl, rfl, _⟩ := h
    exact ⟨rfl, fun i t h => by simp at h, by simp⟩
  | c + 1, l, ts, rest, h => by
    unfold rdN at h
    split at h
    · rename_i h0
      split at h
      · rename_i h1
        simp only [Prod.mk.injEq, and_true] at h
        obtain ⟨rfl, rfl⟩ := h
        obtain ⟨p1, p2⟩ := hf l (f l 0).1 (f l 0).2.1 (Prod.ext rfl (Prod.ext rfl h0))
        obtain ⟨i1, i2, i3⟩ := rdN_inv hf c (f l 0).2.1 (rdN f c (f l 0).2.1 0).1 (rdN f c (f l 0).2.1 0).2.1 (Prod.ext rfl (Prod.ext rfl h1))
        refine ⟨by simp [i1], fun i t ht => ?_, ?_⟩
        · cases i with
          | zero => simp at ht; subst ht; exact p1
          | succ i => exact i2 i t (by simpa using ht)
        · rw [List.map_cons, List.flatten_cons, List.append_assoc, ← i3]
          exact p2
      · rename_i h1
        simp only [Prod.mk.injEq] at h
        exact absurd h.2.2 h1
    · rename_i h0
      simp only [Prod.mk.injEq] at h
      exact absurd h.2.2 h0
/-- A value that is no list is read just if it stands there. -/
theorem rd1_inv {g : List UInt8 → Int → List Tv × List UInt8 × Int} {n d : Nat} (hg : ∀ l ts rest, g l 0 = (ts, rest, 0) → d ≠ 0 ∧ ts.length ≤ 12 ∧ (∀ (i : Nat) t, ts[i]? = some t → ShapeT n ((d : Int) - 1) t) ∧ l = enc ts.length ++ ((ts.map (bytesT n)).flatten ++ rest))
    {l : List UInt8} {t : Tv} {rest : List UInt8} (h : rd1 g l 0 = (t, rest, 0)) : ShapeT (n + 1) d t ∧ l = bytesT (n + 1) t ++ rest := by
  have he : (sNum 4 l 0).2.2 = 0 := by
    by_cases hc : (sNum 4 l 0).2.2 = 0
    · exact hc
    · exfalso
      have hz := sNum_zero 4 l 0 hc
      unfold rd1 at h
      rw [if_neg (by omega), if_neg (by omega), if_neg (by omega), if_neg (by omega)] at h
      simp only [Prod.mk.injEq] at h
      apply hc
      rw [h.2]
  obtain ⟨k, l1, hn⟩ : ∃ k l1, sNum 4 l 0 = (k, l1, 0) := ⟨(sNum 4 l 0).1, (sNum 4 l 0).2.1, Prod.ext rfl (Prod.ext rfl he)⟩
  obtain ⟨k0, k1, k2, _⟩ := sNum_inv hn
  unfold rd1 at h
  rw [hn] at h
  dsimp only at h
  split at h
  · rename_i hk
    subst hk
    simp only [Prod.mk.injEq] at h
    obtain ⟨rfl, h2⟩ := h
    obtain ⟨i1, i2, i3⟩ := sInt_inv (x := (sInt l1 0).1) (t := rest) (Prod.ext rfl h2)
    refine ⟨⟨⟨by omega, by omega, .inl rfl, .inr rfl, cn0, .inr nil_toList, by decide, .inr rfl, by decide⟩, (fun e => absurd e (by decide)), fun i t ht => by simp at ht⟩, ?_⟩
    rw [k2]
    simp only [bytesT, List.append_assoc]
    simp
    exact i1
  · rename_i hk1
    split at h
    · rename_i hk
      subst hk
      split at h
      · rename_i hc
        simp only [Prod.mk.injEq] at h
        obtain ⟨rfl, h2⟩ := h
        obtain ⟨i1, i2⟩ := sBits_inv (b := (sBits l1 0).1) (t := rest) (Prod.ext rfl h2)
        refine ⟨⟨⟨by omega, by omega, .inr rfl, .inl rfl, by simpa using hc, .inr nil_toList, by decide, .inr rfl, by decide⟩, (fun e => absurd e (by decide)), fun i t ht => by simp at ht⟩, ?_⟩
        rw [k2]
        simp only [bytesT, List.append_assoc]
        simp
        exact i1
      · simp only [Prod.mk.injEq] at h
        exact absurd h.2.2 (flE_ne (by decide))
    · rename_i hk2
      split at h
      · rename_i hk
        subst hk
        simp only [Prod.mk.injEq] at h
        obtain ⟨rfl, h2⟩ := h
        obtain ⟨i1, i2⟩ := sText_inv (s := (sText 200 l1 0).1) (t := rest) (Prod.ext rfl h2)
        refine ⟨⟨⟨by omega, by omega, .inr rfl, .inr rfl, cn0, .inl rfl, by rw [str_size]; omega, .inr rfl, by simp⟩, (fun e => absurd e (by decide)), fun i t ht => by simp at ht⟩, ?_⟩
        rw [k2]
        simp only [bytesT, List.append_assoc]
        simp [str_size, str_toList]
        exact i1
      · rename_i hk3
        split at h
        · rename_i hk
          subst hk
          simp only [Prod.mk.injEq] at h
          obtain ⟨rfl, h2⟩ := h
          obtain ⟨i0, i1, i2, i3⟩ := hg l1 (g l1 0).1 rest (Prod.ext rfl h2)
          refine ⟨⟨⟨by omega, by omega, .inr rfl, .inr rfl, cn0, .inr nil_toList, by decide, .inl rfl, i1⟩, (fun _ e => i0 (by omega)), i2⟩, ?_⟩
          rw [k2]
          simp only [bytesT, List.append_assoc]
          simp
          exact i3
        · rename_i hk4
          have hk : k = 0 := by omega
          subst hk
          simp only [Prod.mk.injEq] at h
          obtain ⟨rfl, rfl, _⟩ := h
          refine ⟨⟨⟨by omega, by omega, .inr rfl, .inr rfl, cn0, .inr nil_toList, by decide, .inr rfl, by decide⟩, (fun e => absurd e (by decide)), fun i t ht => by simp at ht⟩, ?_⟩
          rw [k2]
          simp [bytesT]
theorem rdV_inv : ∀ (d : Nat) (l : List UInt8) (t : Tv) (rest : List UInt8), rdV d l 0 = (t, rest, 0) → ShapeT (d + 1) d t ∧ l = bytesT (d + 1) t ++ rest := by
  intro d
  induction d with
  | zero =>
    intro l t rest h
    refine rd1_inv (fun l ts rest hg => ?_) h
    simp only [Prod.mk.injEq] at hg
    exact absurd hg.2.2 (flE_ne (by decide))
  | succ d ih =>
    intro l t rest h
    refine rd1_inv (fun l ts rest hg => ?_) h
    have he : (sNum 12 l 0).2.2 = 0 := by
      by_cases hc : (sNum 12 l 0).2.2 = 0
      · exact hc
      · exfalso
        have hz := sNum_zero 12 l 0 hc
        unfold rdL at hg
        rw [hz] at hg
        simp only [Int.toNat_zero, rdN, Prod.mk.injEq] at hg
        exact hc hg.2.2
    obtain ⟨c, l1, hn⟩ : ∃ c l1, sNum 12 l 0 = (c, l1, 0) := ⟨(sNum 12 l 0).1, (sNum 12 l 0).2.1, Prod.ext rfl (Prod.ext rfl he)⟩
    obtain ⟨c0, c1, c2, _⟩ := sNum_inv hn
    unfold rdL at hg
    rw [hn] at hg
    dsimp only at hg
    obtain ⟨j1, j2, j3⟩ := rdN_inv (n := d + 1) (P := fun t => ShapeT (d + 1) (((d + 1 : Nat) : Int) - 1) t) (fun l t rest hh => by
      have e : ((d + 1 : Nat) : Int) - 1 = (d : Int) := by omega
      rw [e]
      exact ih l t rest hh) c.toNat l1 ts rest hg
    refine ⟨by omega, by omega, j2, ?_⟩
    rw [c2, j1, ← j3]
end Go.Proofs.Ytjmonkhkcmcfiaa
