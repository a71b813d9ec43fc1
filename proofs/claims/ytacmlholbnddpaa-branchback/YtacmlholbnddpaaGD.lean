/- There and back; Same, awake; an argument that is an event; the walk of EventBack. -/
import Derived.Test.YtacmlholbnddpaaGC
import Derived.Test.YtacmlholbnddpaaGB
import Derived.Test.YtacmlholbnddpaaVJ
import Derived.Test.YtacmlholbnddpaaLO
namespace Go.Proofs.Ytacmlholbnddpaa
open Go.ChangeShapes Go.WideShapes Go.ChangeAt Go.RowKit
def oN (c : Bool) (m : Int) (l : List UInt8) (e : Int) : Int × List UInt8 × Int := if c then sNum m l e else (0, l, e)
def oT (a b : Bool) (l : List UInt8) (e : Int) : List UInt8 × List UInt8 × Int := if a then sText 24 l e else if b then sText 200 l e else ([], l, e)
def oV (c : Bool) (l : List UInt8) (e : Int) : Tv × List UInt8 × Int := if c then rdR l e else (zE, l, e)
def oP (c : Bool) (l : List UInt8) (e : Int) : Pr := if c then rdP l e else ⟨0, 0, 0, l, e⟩
theorem rpE_eq (l : List UInt8) (e : Int) : rpE l e =
    let a := sNum 19 l e
    let b := sNum 1099511627776 a.2.1 a.2.2
    let c := oN (hN a.1) (nm a.1) b.2.1 b.2.2
    let d := oN (hD a.1) 2199023255552 c.2.1 c.2.2
    let s := oT (hM a.1) (hT a.1) d.2.1 d.2.2
    let v := oV (hV a.1) s.2.1 s.2.2
    let p := oP (hP a.1) v.2.1 v.2.2
    (⟨a.1, b.1, c.1, d.1, str s.1, v.1, p.f, p.c, p.m⟩, p.l, p.e) := rfl
theorem oN_back {c : Bool} {m n : Int} (t : List UInt8) (h : c = true → 0 ≤ n ∧ n ≤ m ∧ n < 9223372036854775808) (h0 : c = false → n = 0) : oN c m ((if c then enc n.toNat else []) ++ t) 0 = (n, t, 0) := by
  cases c with
  | true =>
    obtain ⟨h1, h2, h3⟩ := h rfl
    show sNum m (enc n.toNat ++ t) 0 = _
    rw [sNum_enc n.toNat m t (by omega) (by omega), Int.toNat_of_nonneg h1]
  | false => rw [h0 rfl]; rfl
theorem oN_inv {c : Bool} {m n e : Int} {l t : List UInt8} (h : oN c m l e = (n, t, 0)) : e = 0 ∧ l = (if c then enc n.toNat else []) ++ t := by
  cases c with
  | true =>
    have h1 : sNum m l e = (n, t, 0) := h
    by_cases h0 : e = 0
    · subst h0; exact ⟨rfl, (sNum_inv h1).2.2.1⟩
    · rw [sNum_err h0] at h1
      exact absurd (congrArg (fun x => x.2.2) h1) h0
  | false =>
    have h1 : ((0 : Int), l, e) = (n, t, 0) := h
    simp only [Prod.mk.injEq] at h1
    exact ⟨h1.2.2, h1.2.1⟩
theorem sText_err {m : Int} {l : List UInt8} {e : Int} (h : e ≠ 0) : (sText m l e).2.2 ≠ 0 := by
  unfold sText
  rw [sNum_err h]
  simp [h]
theorem oT_back {a b : Bool} (s t : List UInt8) (h : a = true → s.length ≤ 24) (hb : b = true → s.length ≤ 200) (h0 : a = false → b = false → s = []) : oT a b ((if a || b then enc s.length ++ s else []) ++ t) 0 = (s, t, 0) := by
  cases a with
  | true =>
    show sText 24 (enc s.length ++ s ++ t) 0 = _
    have := h rfl
    rw [List.append_assoc]
    exact sText_enc s t 24 (by omega) (by omega)
  | false =>
    cases b with
    | true =>
      show sText 200 (enc s.length ++ s ++ t) 0 = _
      have := hb rfl
      rw [List.append_assoc]
      exact sText_enc s t 200 (by omega) (by omega)
    | false => rw [h0 rfl rfl]; rfl
theorem oT_inv {a b : Bool} {s l t : List UInt8} {e : Int} (h : oT a b l e = (s, t, 0)) : e = 0 ∧ l = (if a || b then enc s.length ++ s else []) ++ t := by
  have key : ∀ m, sText m l e = (s, t, 0) → e = 0 ∧ l = enc s.length ++ s ++ t := fun m h1 => by
    by_cases h0 : e = 0
    · subst h0
      rw [List.append_assoc]
      exact ⟨rfl, (sText_inv h1).1⟩
    · have := sText_err (m := m) (l := l) h0
      rw [h1] at this
      exact absurd rfl this
  cases a with
  | true => exact key 24 h
  | false =>
    cases b with
    | true => exact key 200 h
    | false =>
      have h1 : (([] : List UInt8), l, e) = (s, t, 0) := h
      simp only [Prod.mk.injEq] at h1
      exact ⟨h1.2.2, h1.2.1⟩
theorem rdR_back {n : Nat} {v : Tv} (t : List UInt8) (m : May n v) (hf : FitT n v) : rdR (bytesT n v ++ t) 0 = (v, t, 0) := by
  unfold rdR
  rw [rdV_back 4 n v t m.1 hf]
  unfold afR
  dsimp only
  have := m.2
  rw [if_neg (by rw [List.length_append]; omega), if_pos rfl]
theorem rdR_inv {l t : List UInt8} {v : Tv} (h : rdR l 0 = (v, t, 0)) : l = bytesT 5 v ++ t := by
  obtain ⟨v1, t1, e1, hR⟩ : ∃ v1 t1 e1, rdV 4 l 0 = (v1, t1, e1) := ⟨_, _, _, rfl⟩
  unfold rdR at h
  rw [hR] at h
  unfold afR at h
  dsimp only at h
  split at h
  · have := congrArg (fun x => x.2.2) h
    exact absurd this (flE_ne (by decide))
  · split at h
    · rename_i h1 h2
      subst h2
      cases h
      exact (rdV_inv 4 l _ _ hR).2
    · rename_i h1 h2
      have := congrArg (fun x => x.2.2) h
      exact absurd this h2
theorem rd1_err {g : List UInt8 → Int → List Tv × List UInt8 × Int} {l : List UInt8} {e : Int} (he : e ≠ 0) : (rd1 g l e).2.2 ≠ 0 := by
  have h0 : sNum 4 l e = (0, l, e) := sNum_err he
  unfold rd1
  rw [h0]
  simp [he]
theorem rdR_err {l : List UInt8} {e : Int} (he : e ≠ 0) : (rdR l e).2.2 ≠ 0 := by
  have h1 : (rdV 4 l e).2.2 ≠ 0 := rd1_err he
  unfold rdR afR
  split
  · exact flE_ne (by decide)
  · first
    | exact h1
    | (split
       · rename_i h2; exact absurd h2 h1
       · exact h1)
theorem oV_back {c : Bool} {n : Nat} {v : Tv} (t : List UInt8) (h : c = true → May n v ∧ FitT n v) (h0 : c = false → v = zE) : oV c ((if c then bytesT n v else []) ++ t) 0 = (v, t, 0) := by
  cases c with
  | true => exact rdR_back t (h rfl).1 (h rfl).2
  | false => rw [h0 rfl]; rfl
theorem oV_inv {c : Bool} {l t : List UInt8} {v : Tv} {e : Int} (h : oV c l e = (v, t, 0)) : e = 0 ∧ l = (if c then bytesT 5 v else []) ++ t := by
  cases c with
  | true =>
    have h1 : rdR l e = (v, t, 0) := h
    by_cases h0 : e = 0
    · subst h0; exact ⟨rfl, rdR_inv h1⟩
    · have := rdR_err (l := l) h0
      rw [h1] at this
      exact absurd rfl this
  | false =>
    have h1 : (zE, l, e) = (v, t, 0) := h
    simp only [Prod.mk.injEq] at h1
    exact ⟨h1.2.2, h1.2.1⟩
theorem rdP_back (f : Int) (c : Nat) (m : Int) (t : List UInt8) (hc : c < 18446744073709551616) (h : may f c m = true) : rdP (eP f c m ++ t) 0 = ⟨f, c, m, t, 0⟩ := by
  have h1 : isC c = true := by unfold may at h; simp at h; exact h.2
  have hf : 0 ≤ f ∧ f ≤ 1073741824 := by unfold may isD at h; simp at h; omega
  have hm : 0 ≤ m ∧ m ≤ 1073741824 := by unfold may isD at h; simp at h; omega
  unfold rdP eP
  dsimp only
  rw [List.append_assoc, List.append_assoc, sNum_enc f.toNat 1073741824 _ (by omega) (by omega)]
  dsimp only
  rw [sBits_be c _ (by omega)]
  dsimp only
  rw [sNum_enc m.toNat 1073741824 _ (by omega) (by omega)]
  dsimp only
  rw [Int.toNat_of_nonneg hf.1, Int.toNat_of_nonneg hm.1]
  unfold pr3 pe pl
  rw [if_pos h1, if_pos h1, if_pos rfl]
theorem sBits_err {l : List UInt8} {e : Int} (h : e ≠ 0) : (sBits l e).2.2 = e := by unfold sBits; rw [if_neg h]
theorem rdP_inv {l t : List UInt8} {e f m : Int} {c : Nat} (h : rdP l e = ⟨f, c, m, t, 0⟩) : e = 0 ∧ l = eP f c m ++ t := by
  unfold rdP at h
  dsimp only at h
  obtain ⟨f1, l1, e1, hA⟩ : ∃ f1 l1 e1, sNum 1073741824 l e = (f1, l1, e1) := ⟨_, _, _, rfl⟩
  rw [hA] at h
  dsimp only at h
  obtain ⟨c2, l2, e2, hB⟩ : ∃ c2 l2 e2, sBits l1 e1 = (c2, l2, e2) := ⟨_, _, _, rfl⟩
  rw [hB] at h
  dsimp only at h
  obtain ⟨m3, l3, e3, hC⟩ : ∃ m3 l3 e3, sNum 1073741824 l2 e2 = (m3, l3, e3) := ⟨_, _, _, rfl⟩
  rw [hC] at h
  dsimp only at h
  unfold pr3 at h
  by_cases hp : pe c2 e3 = 0
  · rw [if_pos hp] at h
    have hic : isC c2 = true := by
      cases hc : isC c2
      · unfold pe at hp
        rw [hc] at hp
        simp only [Bool.false_eq_true, if_false] at hp
        split at hp
        · cases hp
        · rename_i hx; simp [hp] at hx
      · rfl
    have he3 : e3 = 0 := by unfold pe at hp; rw [if_pos hic] at hp; exact hp
    have hl3 : pl c2 l3 e3 = l3 := by unfold pl; rw [if_pos hic]
    rw [hl3] at h
    cases h
    subst he3
    have he2 : e2 = 0 := by
      by_cases h0 : e2 = 0
      · exact h0
      · rw [sNum_err h0] at hC; exact absurd (congrArg (fun x => x.2.2) hC) h0
    subst he2
    have he1 : e1 = 0 := by
      by_cases h0 : e1 = 0
      · exact h0
      · have := sBits_err (l := l1) h0
        rw [hB] at this
        exact this.symm
    subst he1
    have he : e = 0 := by
      by_cases h0 : e = 0
      · exact h0
      · rw [sNum_err h0] at hA; exact absurd (congrArg (fun x => x.2.2) hA) h0
    subst he
    refine ⟨rfl, ?_⟩
    have i1 := (sNum_inv hA).2.2.1
    have i2 := (sBits_inv hB).1
    have i3 := (sNum_inv hC).2.2.1
    unfold eP
    rw [i1, i2, i3]
    simp only [List.append_assoc]
  · rw [if_neg hp] at h
    have := congrArg Pr.e h
    exact absurd this hp
theorem oP_back {b : Bool} {f : Int} {c : Nat} {m : Int} (t : List UInt8) (hc : c < 18446744073709551616) (h : b = true → may f c m = true) (h0 : b = false → f = 0 ∧ c = 0 ∧ m = 0) : oP b ((if b then eP f c m else []) ++ t) 0 = ⟨f, c, m, t, 0⟩ := by
  cases b with
  | true => exact rdP_back f c m t hc (h rfl)
  | false =>
    obtain ⟨rfl, rfl, rfl⟩ := h0 rfl
    rfl
theorem oP_inv {b : Bool} {l t : List UInt8} {e f m : Int} {c : Nat} (h : oP b l e = ⟨f, c, m, t, 0⟩) : e = 0 ∧ l = (if b then eP f c m else []) ++ t := by
  cases b with
  | true => exact rdP_inv h
  | false =>
    have h1 : (⟨0, 0, 0, l, e⟩ : Pr) = ⟨f, c, m, t, 0⟩ := h
    simp only [Pr.mk.injEq] at h1
    exact ⟨h1.2.2.2.2, h1.2.2.2.1⟩
theorem hN_iff (k : Int) : hN k = true ↔ k = 2 ∨ k = 5 := by
  unfold hN pt bt
  (repeat' split) <;> simp <;> omega
theorem empty_data {s : ByteArray} (h : s.toList.isEmpty = true) : s.data.toList = [] := by
  rw [ByteArray.toList_eq] at h
  exact List.isEmpty_iff.1 h
/-- What was written is read. -/
theorem rpE_back (N : Nat) (x : Ev) (hx : MayE N x) (hf : FitT N x.v) (hc : x.c < 18446744073709551616) (t : List UInt8) : rpE (encE N x ++ t) 0 = (x, t, 0) := by
  obtain ⟨k, tm, n, d, s, v, f, c, m⟩ := x
  obtain ⟨m1, m2, m3, m4, m5⟩ := hx
  dsimp only at m1 m2 m3 m4 m5 hf hc
  have hk : 1 ≤ k ∧ k ≤ 19 := by unfold wi at m1; simp at m1; omega
  unfold nf wi at m2
  simp only [Bool.and_eq_true, decide_eq_true_eq] at m2
  obtain ⟨⟨⟨t0, t1⟩, ⟨n0, n1⟩⟩, ⟨d0, d1⟩⟩ := m2
  rw [rpE_eq]
  unfold encE
  dsimp only
  simp only [List.append_assoc]
  rw [sNum_enc k.toNat 19 _ (by omega) (by omega), Int.toNat_of_nonneg (by omega)]
  dsimp only
  rw [sNum_enc tm.toNat 1099511627776 _ (by omega) (by omega), Int.toNat_of_nonneg t0]
  dsimp only
  have hnl : hN k = false → n = 0 := fun h => by
    have h2 : ¬ (k = 2 ∨ k = 5) := fun hh => by rw [(hN_iff k).2 hh] at h; cases h
    unfold nl at n0
    unfold nm at n1
    rw [if_neg (by omega)] at n0
    rw [if_neg (by omega), if_neg (by omega)] at n1
    omega
  have hnm : nm k ≤ 2147483648 ∧ 0 ≤ nl k := by
    unfold nm nl
    constructor
    · (repeat' split) <;> omega
    · split <;> omega
  rw [oN_back _ (fun _ => ⟨by omega, n1, by omega⟩) hnl]
  dsimp only
  have hdm : d < 9223372036854775808 := by
    by_cases hh : hD k = true
    · rw [if_pos hh] at d1; omega
    · rw [if_neg hh] at d1; omega
  rw [oN_back _ (fun hh => ⟨d0, by rw [if_pos hh] at d1; exact d1, hdm⟩) (fun hh => by rw [if_neg (by rw [hh]; simp)] at d1; omega)]
  dsimp only
  have hs : s.size = s.data.toList.length := Array.length_toList.symm
  rw [hs]
  have b1 : hM k = true → s.data.toList.length ≤ 24 := fun hh => by
    unfold nmf at m3
    rw [if_pos hh] at m3
    unfold nmB at m3
    simp at m3
    rw [← hs]; exact m3.1.2
  have b2 : hM k = false → hT k = false → s.data.toList = [] := fun h1 h2 => by
    unfold nmf at m3
    rw [if_neg (by rw [h1]; simp), if_neg (by rw [h2]; simp)] at m3
    exact empty_data m3
  have b3 : hT k = true → s.data.toList.length ≤ 200 := fun hh => by
    rw [← hs]
    exact may_size m3 (by rw [hh]; simp)
  rw [oT_back s.data.toList _ b1 b3 b2]
  dsimp only
  rw [str_data]
  rw [oV_back (n := N) _ (fun hh => by
      rcases m4 with h4 | h4
      · exact ⟨h4.2, hf⟩
      · rw [hh] at h4; cases h4.1) (fun hh => by
      rcases m4 with h4 | h4
      · rw [hh] at h4; cases h4.1
      · exact h4.2)]
  dsimp only
  rw [oP_back _ hc (fun hh => by unfold pf at m5; rw [if_pos hh] at m5; exact m5) (fun hh => by
      unfold pf at m5
      rw [if_neg (by rw [hh]; simp)] at m5
      simp only [Bool.and_eq_true, decide_eq_true_eq] at m5
      exact ⟨m5.1.1, m5.1.2, m5.2⟩)]
/-- What was read has those bytes. -/
theorem rpE_inv {l t : List UInt8} {x : Ev} (h : rpE l 0 = (x, t, 0)) : l = encE 5 x ++ t := by
  rw [rpE_eq] at h
  dsimp only at h
  obtain ⟨k, l1, e1, hA⟩ : ∃ a b c, sNum 19 l 0 = (a, b, c) := ⟨_, _, _, rfl⟩
  rw [hA] at h
  dsimp only at h
  obtain ⟨tm, l2, e2, hB⟩ : ∃ a b c, sNum 1099511627776 l1 e1 = (a, b, c) := ⟨_, _, _, rfl⟩
  rw [hB] at h
  dsimp only at h
  obtain ⟨n, l3, e3, hC⟩ : ∃ a b c, oN (hN k) (nm k) l2 e2 = (a, b, c) := ⟨_, _, _, rfl⟩
  rw [hC] at h
  dsimp only at h
  obtain ⟨d, l4, e4, hD'⟩ : ∃ a b c, oN (hD k) 2199023255552 l3 e3 = (a, b, c) := ⟨_, _, _, rfl⟩
  rw [hD'] at h
  dsimp only at h
  obtain ⟨s, l5, e5, hE⟩ : ∃ a b c, oT (hM k) (hT k) l4 e4 = (a, b, c) := ⟨_, _, _, rfl⟩
  rw [hE] at h
  dsimp only at h
  obtain ⟨v, l6, e6, hF⟩ : ∃ a b c, oV (hV k) l5 e5 = (a, b, c) := ⟨_, _, _, rfl⟩
  rw [hF] at h
  dsimp only at h
  obtain ⟨f, c, m, l7, e7, hG⟩ : ∃ a b c d e, oP (hP k) l6 e6 = ⟨a, b, c, d, e⟩ := ⟨_, _, _, _, _, rfl⟩
  rw [hG] at h
  dsimp only at h
  cases h
  obtain ⟨rfl, i7⟩ := oP_inv hG
  obtain ⟨rfl, i6⟩ := oV_inv hF
  obtain ⟨rfl, i5⟩ := oT_inv hE
  obtain ⟨rfl, i4⟩ := oN_inv hD'
  obtain ⟨rfl, i3⟩ := oN_inv hC
  have he1 : e1 = 0 := by
    by_cases h0 : e1 = 0
    · exact h0
    · rw [sNum_err h0] at hB; exact absurd (congrArg (fun x => x.2.2) hB) h0
  subst he1
  have i1 := (sNum_inv hA).2.2.1
  have i2 := (sNum_inv hB).2.2.1
  unfold encE
  dsimp only
  have hs : (str s).size = s.length := by
    show (str s).data.size = _
    rw [← Array.length_toList, str_toList]
  rw [hs, str_toList, i1, i2, i3, i4, i5, i6, i7]
  simp only [List.append_assoc]
theorem encE_length {N : Nat} {x : Ev} (hx : MayE N x) (k1 : x.k < 9223372036854775808) (t1 : x.t < 9223372036854775808) (n1 : x.n < 9223372036854775808) (d1 : x.d < 9223372036854775808) (hp : PFit x.f x.c x.m) : (encE N x).length ≤ 1300 := by
  obtain ⟨k, tm, n, d, s, v, f, c, m⟩ := x
  obtain ⟨m1, m2, m3, m4, m5⟩ := hx
  dsimp only at *
  unfold encE
  dsimp only
  have e1 : (enc k.toNat).length ≤ 9 := enc_length k.toNat (by omega)
  have e2 : (enc tm.toNat).length ≤ 9 := enc_length tm.toNat (by omega)
  have e3 : (if hN k then enc n.toNat else []).length ≤ 9 := by
    split
    · exact enc_length n.toNat (by omega)
    · simp
  have e4 : (if hD k then enc d.toNat else []).length ≤ 9 := by
    split
    · exact enc_length d.toNat (by omega)
    · simp
  have e5 : (if hM k || hT k then enc s.size ++ s.data.toList else []).length ≤ 209 := by
    split
    · rename_i hh
      have := may_size m3 hh
      have g := enc_length s.size (by omega)
      have hs : s.data.toList.length = s.size := Array.length_toList
      rw [List.length_append]
      omega
    · simp
  have e6 : (if hV k then bytesT N v else []).length ≤ 1000 := by
    split
    · rename_i hh
      rcases m4 with h4 | h4
      · exact h4.2.2
      · rw [hh] at h4; cases h4.1
    · simp
  have e7 : (if hP k then eP f c m else []).length ≤ 26 := by
    split
    · have g1 : (enc f.toNat).length ≤ 9 := enc_length f.toNat (by have := hp.f1; omega)
      have g2 : (be c 8).length = 8 := be_length c 8
      have g3 : (enc m.toNat).length ≤ 9 := enc_length m.toNat (by have := hp.m1; omega)
      unfold eP
      simp only [List.length_append]
      omega
    · simp
  simp only [List.length_append]
  omega
end Go.Proofs.Ytacmlholbnddpaa
namespace Go.Proofs.Ytacmlholbnddpaa
open Go.ChangeShapes Go.WideShapes Go.ChangeAt Go.RowKit
theorem str_ne {s t : ByteArray} (h : s ≠ t) : (s.toList == t.toList) = false := by
  rw [beq_eq_false_iff_ne, ByteArray.toList_eq, ByteArray.toList_eq]
  intro e
  apply h
  apply ByteArray.ext
  exact Array.toList_inj.1 e
set_option maxHeartbeats 4000000 in
set_option maxRecDepth 100000 in
theorem evsame_calls (nn : Nat) (tv tv2 : Tv) (k t n d : Int) (s : ByteArray) (vk vx vb : Int) (vs : ByteArray) (la : Option Addr) (ll lc : Nat) (f : Int) (c : Nat) (m : Int) (k2 t2 n2 d2 : Int) (s2 : ByteArray) (vk2 vx2 vb2 : Int) (vs2 : ByteArray) (la2 : Option Addr) (ll2 lc2 : Nat) (f2 : Int) (c2 : Nat) (m2 : Int) (w : World) (h : Is w (nn + 1) (.agg #[.int .i64 vk, .int .i64 vx, .int .u64 vb, .string vs, .slice la ll lc]) tv) (hh : Is w (nn + 1) (.agg #[.int .i64 vk2, .int .i64 vx2, .int .u64 vb2, .string vs2, .slice la2 ll2 lc2]) tv2) :
    Calls Try.prog 30 #[(.agg #[.int .i64 k, .int .i64 t, .int .i64 n, .int .i64 d, .string s, .int .i64 vk, .int .i64 vx, .int .u64 vb, .string vs, .slice la ll lc, .int .i64 f, .int .u64 (c : Int), .int .i64 m]), (.agg #[.int .i64 k2, .int .i64 t2, .int .i64 n2, .int .i64 d2, .string s2, .int .i64 vk2, .int .i64 vx2, .int .u64 vb2, .string vs2, .slice la2 ll2 lc2, .int .i64 f2, .int .u64 (c2 : Int), .int .i64 m2])] w (FitP (k = k2 ∧ t = t2 ∧ n = n2 ∧ d = d2 ∧ s = s2 ∧ tv = tv2 ∧ f = f2 ∧ c = c2 ∧ m = m2) w) := by
  have HF : Hid (∀ b w', (b = true ↔ (k = k2 ∧ t = t2 ∧ n = n2 ∧ d = d2 ∧ s = s2 ∧ tv = tv2 ∧ f = f2 ∧ c = c2 ∧ m = m2)) → Below w.heap.size w w' → FitP (k = k2 ∧ t = t2 ∧ n = n2 ∧ d = d2 ∧ s = s2 ∧ tv = tv2 ∧ f = f2 ∧ c = c2 ∧ m = m2) w (.returned (.bool b)) w') := fun b w' h1 h2 => ⟨⟨b, rfl, h1⟩, h2⟩
  have SC : Hid (∀ W, Below w.heap.size w W → _) := fun W hB => same_calls (nn + 1) (.agg #[.int .i64 vk, .int .i64 vx, .int .u64 vb, .string vs, .slice la ll lc]) tv (.agg #[.int .i64 vk2, .int .i64 vx2, .int .u64 vb2, .string vs2, .slice la2 ll2 lc2]) tv2 W (h.below hB) (hh.below hB)
  generalize FitP (k = k2 ∧ t = t2 ∧ n = n2 ∧ d = d2 ∧ s = s2 ∧ tv = tv2 ∧ f = f2 ∧ c = c2 ∧ m = m2) w = Q at HF ⊢
  clear h hh
  by_cases h0 : k = k2
  rotate_left
  · have d0 : (k == k2) = false := by simpa using h0
    go_enter Try.func30, Try.ntmps30
    go_wp2_with fail
    exact HF.out false _ (by simp [h0]) (bel2 (bel1 _ _) (bel1 _ _))
  subst h0
  by_cases h1 : t = t2
  rotate_left
  · have d1 : (t == t2) = false := by simpa using h1
    go_enter Try.func30, Try.ntmps30
    go_wp2_with fail
    exact HF.out false _ (by simp [h1]) (bel2 (bel1 _ _) (bel1 _ _))
  subst h1
  by_cases h2 : n = n2
  rotate_left
  · have d2 : (n == n2) = false := by simpa using h2
    go_enter Try.func30, Try.ntmps30
    go_wp2_with fail
    exact HF.out false _ (by simp [h2]) (bel2 (bel1 _ _) (bel1 _ _))
  subst h2
  by_cases h3 : d = d2
  rotate_left
  · have d3 : (d == d2) = false := by simpa using h3
    go_enter Try.func30, Try.ntmps30
    go_wp2_with fail
    exact HF.out false _ (by simp [h3]) (bel2 (bel1 _ _) (bel1 _ _))
  subst h3
  by_cases h4 : s = s2
  rotate_left
  · have d4 := str_ne h4
    go_enter Try.func30, Try.ntmps30
    go_wp2_with fail
    exact HF.out false _ (by simp [h4]) (bel2 (bel1 _ _) (bel1 _ _))
  subst h4
  have HX : Hid (At13 ((w.alloc (.cells #[.int .i64 k, .int .i64 t, .int .i64 n, .int .i64 d, .string s, .int .i64 vk, .int .i64 vx, .int .u64 vb, .string vs, .slice la ll lc, .int .i64 f, .int .u64 (c : Int), .int .i64 m] 39)).alloc (.cells #[.int .i64 k, .int .i64 t, .int .i64 n, .int .i64 d, .string s, .int .i64 vk2, .int .i64 vx2, .int .u64 vb2, .string vs2, .slice la2 ll2 lc2, .int .i64 f2, .int .u64 (c2 : Int), .int .i64 m2] 39)) w.heap.size (.int .i64 k) (.int .i64 t) (.int .i64 n) (.int .i64 d) (.string s) (.int .i64 vk) (.int .i64 vx) (.int .u64 vb) (.string vs) (.slice la ll lc) (.int .i64 f) (.int .u64 (c : Int)) (.int .i64 m)) := (At13.box w (.int .i64 k) (.int .i64 t) (.int .i64 n) (.int .i64 d) (.string s) (.int .i64 vk) (.int .i64 vx) (.int .u64 vb) (.string vs) (.slice la ll lc) (.int .i64 f) (.int .u64 (c : Int)) (.int .i64 m)).below (bel1 _ _)
  have HY : Hid (At13 ((w.alloc (.cells #[.int .i64 k, .int .i64 t, .int .i64 n, .int .i64 d, .string s, .int .i64 vk, .int .i64 vx, .int .u64 vb, .string vs, .slice la ll lc, .int .i64 f, .int .u64 (c : Int), .int .i64 m] 39)).alloc (.cells #[.int .i64 k, .int .i64 t, .int .i64 n, .int .i64 d, .string s, .int .i64 vk2, .int .i64 vx2, .int .u64 vb2, .string vs2, .slice la2 ll2 lc2, .int .i64 f2, .int .u64 (c2 : Int), .int .i64 m2] 39)) (w.heap.size + 1) (.int .i64 k) (.int .i64 t) (.int .i64 n) (.int .i64 d) (.string s) (.int .i64 vk2) (.int .i64 vx2) (.int .u64 vb2) (.string vs2) (.slice la2 ll2 lc2) (.int .i64 f2) (.int .u64 (c2 : Int)) (.int .i64 m2)) := by
    have := At13.box (w.alloc (.cells #[.int .i64 k, .int .i64 t, .int .i64 n, .int .i64 d, .string s, .int .i64 vk, .int .i64 vx, .int .u64 vb, .string vs, .slice la ll lc, .int .i64 f, .int .u64 (c : Int), .int .i64 m] 39)) (.int .i64 k) (.int .i64 t) (.int .i64 n) (.int .i64 d) (.string s) (.int .i64 vk2) (.int .i64 vx2) (.int .u64 vb2) (.string vs2) (.slice la2 ll2 lc2) (.int .i64 f2) (.int .u64 (c2 : Int)) (.int .i64 m2)
    have hz : (w.alloc (.cells #[.int .i64 k, .int .i64 t, .int .i64 n, .int .i64 d, .string s, .int .i64 vk, .int .i64 vx, .int .u64 vb, .string vs, .slice la ll lc, .int .i64 f, .int .u64 (c : Int), .int .i64 m] 39)).heap.size = w.heap.size + 1 := by simp
    rw [hz] at this
    exact this
  go_enter Try.func30, Try.ntmps30
  go_wp2_with fail
  refine Calls.mono (SC.out _ ?_) ?_
  · exact bel2 (bel1 _ _) (bel1 _ _)
  rintro e w1 ⟨⟨r, rfl, hr⟩, hb⟩
  have HB : Hid (Below w.heap.size w w1) := bel2 (bel2 (bel1 _ _) (bel1 _ _)) hb
  have HR : Hid (r = true ↔ tv = tv2) := hr
  obtain ⟨a0, a1, a2, a3, a4, a5, a6, a7, a8, a9, a10, a11, a12⟩ := HX.out.below hb
  obtain ⟨b0, b1, b2, b3, b4, b5, b6, b7, b8, b9, b10, b11, b12⟩ := HY.out.below hb
  clear hr hb
  cases r with
  | false =>
    go_wp2_with fail
    exact HF.out false _ (by have := HR.out; simp at this; simp [this]) HB.out
  | true =>
    have hv := HR.out.1 rfl
    clear HR
    go_wp2_with fail
    all_goals first
      | (refine HF.out true _ ?_ HB.out; refine ⟨fun _ => ⟨trivial, trivial, trivial, trivial, trivial, hv, ?_, ?_, ?_⟩, fun _ => rfl⟩ <;> (first | rfl | assumption | omega))
      | (refine HF.out false _ ?_ HB.out; simp_all; done)
      | (refine HF.out false _ ?_ HB.out; simp only [Bool.false_eq_true, false_iff]; rintro ⟨-, -, -, -, -, -, q1, q2, q3⟩; omega)
end Go.Proofs.Ytacmlholbnddpaa
namespace Go.Proofs.Ytacmlholbnddpaa
open Go.ChangeShapes Go.WideShapes Go.ChangeAt Go.RowKit Go.Deep
theorem cells29 : Try.prog.cellsOf 39 = 13 := by kernel_rfl
theorem cells27 : Try.prog.cellsOf 37 = 3 := by kernel_rfl
theorem cells3' : Try.prog.cellsOf 3 = 1 := by kernel_rfl
theorem cells9' : Try.prog.cellsOf 9 = 1 := by kernel_rfl
theorem cells22' : Try.prog.cellsOf 32 = 1 := by kernel_rfl
theorem list13 {α : Type} : ∀ {l : List α}, l.length = 13 → ∃ e0 e1 e2 e3 e4 e5 e6 e7 e8 e9 e10 e11 e12, l = [e0, e1, e2, e3, e4, e5, e6, e7, e8, e9, e10, e11, e12]
  | [e0, e1, e2, e3, e4, e5, e6, e7, e8, e9, e10, e11, e12], _ => ⟨e0, e1, e2, e3, e4, e5, e6, e7, e8, e9, e10, e11, e12, rfl⟩
theorem list7 {α : Type} : ∀ {l : List α}, l.length = 7 → ∃ a b c d e f g, l = [a, b, c, d, e, f, g]
  | [a, b, c, d, e, f, g], _ => ⟨a, b, c, d, e, f, g, rfl⟩
theorem list3 {α : Type} : ∀ {l : List α}, l.length = 3 → ∃ a b c, l = [a, b, c]
  | [a, b, c], _ => ⟨a, b, c, rfl⟩
set_option maxRecDepth 20000 in
theorem open_po {H : Type} {enc : TypeId × Value → H} {W : World} {base : Nat} {spare : Nat → Bool} {held : Bool} (fuel : Nat) (cs : List Value) (x : DataW H × List MemPlace) (h : DataW.trod enc Try.prog W base spare held fuel 37 cs = some x) :
    ∃ (f : Int) (c : Nat) (m : Int), cs = [.int .i64 f, .int .u64 (c : Int), .int .i64 m] ∧ PFit f c m := by
  obtain ⟨xs, k, hk, hxy, hlen, hxl, hf⟩ := DataW.trod_struct Try.underlying37 h
  rw [cells27] at hlen
  obtain ⟨c0, c1, c2, rfl⟩ := list3 hlen
  obtain ⟨y0, y1, y2, rfl⟩ := list3 (l := xs) hxl
  have g0 := hf 0 _ rfl
  have g1 := hf 1 _ rfl
  have g2 := hf 2 _ rfl
  clear hf hxl hlen hxy h
  simp only [List.getElem?_cons_zero, List.getElem?_cons_succ] at g0 g1 g2
  obtain ⟨n0, e0, _, w0⟩ := DataW.trod_int Try.underlying3 g0
  obtain ⟨n1, e1, _, w1⟩ := DataW.trod_int Try.underlying32 g1
  obtain ⟨n2, e2, _, w2⟩ := DataW.trod_int Try.underlying3 g2
  cases e0; cases e1; cases e2
  have g0 := lo64 w0
  have g1 := lou64 w1
  have g2 := lo64 w2
  refine ⟨n0, n1.toNat, n2, ?_, ⟨g0.1, g0.2, by omega, g2.1, g2.2⟩⟩
  rw [Int.toNat_of_nonneg g1.1]
set_option maxRecDepth 100000 in
theorem open_ev {H : Type} {enc : TypeId × Value → H} {W : World} {base : Nat} {spare : Nat → Bool} {held : Bool} (fuel : Nat) (cs : List Value) (x : DataW H × List MemPlace) (h : DataW.trod enc Try.prog W base spare held fuel 39 cs = some x) :
    ∃ (k t n d : Int) (s : ByteArray) (vk vx vb : Int) (vs : ByteArray) (la : Option Addr) (ll lc : Nat) (f : Int) (c : Nat) (m : Int) (nn : Nat) (tv : Tv), cs = [.int .i64 k, .int .i64 t, .int .i64 n, .int .i64 d, .string s, .int .i64 vk, .int .i64 vx, .int .u64 vb, .string vs, .slice la ll lc, .int .i64 f, .int .u64 (c : Int), .int .i64 m] ∧ Is W (nn + 1) (.agg #[.int .i64 vk, .int .i64 vx, .int .u64 vb, .string vs, .slice la ll lc]) tv ∧ EFit k t n d s ∧ PFit f c m := by
  obtain ⟨xs, q, hk, hxy, hlen, hxl, hf⟩ := DataW.trod_struct Try.underlying39 h
  rw [cells29] at hlen
  obtain ⟨e0, e1, e2, e3, e4, e5, e6, e7, e8, e9, e10, e11, e12, rfl⟩ := list13 hlen
  obtain ⟨y0, y1, y2, y3, y4, y5, y6, rfl⟩ := list7 (l := xs) hxl
  have g0 := hf 0 _ rfl
  have g1 := hf 1 _ rfl
  have g2 := hf 2 _ rfl
  have g3 := hf 3 _ rfl
  have g4 := hf 4 _ rfl
  have g5 := hf 5 _ rfl
  have g6 := hf 6 _ rfl
  clear hf hxl hlen hxy h
  simp only [List.getElem?_cons_zero, List.getElem?_cons_succ] at g0 g1 g2 g3 g4 g5 g6
  obtain ⟨n0, p0, _, w0⟩ := DataW.trod_int Try.underlying3 g0
  obtain ⟨n1, p1, _, w1⟩ := DataW.trod_int Try.underlying3 g1
  obtain ⟨n2, p2, _, w2⟩ := DataW.trod_int Try.underlying3 g2
  obtain ⟨n3, p3, _, w3⟩ := DataW.trod_int Try.underlying3 g3
  obtain ⟨s4, p4, _, w4⟩ := DataW.trod_string Try.underlying9 g4
  cases p0; cases p1; cases p2; cases p3; cases p4
  obtain ⟨v0, v1, v2, v3, v4, tv, nn, p5, hi⟩ := open_val q _ _ g5
  obtain ⟨f, c, m, p6, hp⟩ := open_po q _ _ g6
  cases p5
  cases p6
  cases nn with
  | zero => exact hi.elim
  | succ nn =>
    obtain ⟨vk, vx, vb, vs, la, ll, lc, rfl, rfl, rfl, rfl, rfl⟩ := hi.shape
    exact ⟨n0, n1, n2, n3, s4, vk, vx, vb, vs, la, ll, lc, f, c, m, nn, tv, rfl, hi, ⟨by have := (lo64 w0).2; omega, by have := (lo64 w1).2; omega, by have := (lo64 w2).2; omega, by have := (lo64 w3).2; omega⟩, hp⟩
end Go.Proofs.Ytacmlholbnddpaa
namespace Go.Proofs.Ytacmlholbnddpaa
open Go.ChangeShapes Go.WideShapes Go.ChangeAt Go.RowKit
def aw : Ev := ⟨3, 5, 0, 9, ⟨#[]⟩, zE, 0, 0, 0⟩
theorem aw_may : MayE 1 aw := by
  refine ⟨by decide +kernel, by decide +kernel, by decide +kernel, .inr ⟨by decide +kernel, rfl⟩, by decide +kernel⟩
theorem aw_enc : encE 1 aw = [3, 5, 9] := by decide +kernel
theorem may_five {n : Nat} {t : Tv} (h : May n t) (hf : FitT n t) : May 5 t := by
  have h1 := rdV_back 4 n t [] h.1 hf
  have h2 := rdV_inv 4 _ _ _ h1
  refine ⟨h2.1, ?_⟩
  have h3 := h2.2
  rw [List.append_nil, List.append_nil] at h3
  rw [← h3]
  exact h.2
theorem mayE_five {n : Nat} {x : Ev} (h : MayE n x) (hf : FitT n x.v) : MayE 5 x := by
  obtain ⟨h1, h2, h3, h4, h5⟩ := h
  refine ⟨h1, h2, h3, ?_, h5⟩
  rcases h4 with h4 | h4
  · exact .inl ⟨h4.1, may_five h4.2 hf⟩
  · exact .inr h4
/-- The numbers of an event that may be. -/
theorem may_fit {N : Nat} {x : Ev} (h : MayE N x) : EFit x.k x.t x.n x.d x.s := by
  obtain ⟨m1, m2, _, _, _⟩ := h
  unfold wi at m1
  unfold nf wi at m2
  simp only [Bool.and_eq_true, decide_eq_true_eq] at m1 m2
  have hn : nm x.k ≤ 2147483648 := by unfold nm; (repeat' split) <;> omega
  refine ⟨by omega, by omega, by omega, ?_⟩
  by_cases hh : hD x.k = true
  · rw [if_pos hh] at m2; omega
  · rw [if_neg hh] at m2; omega
theorem may_pol {N : Nat} {x : Ev} (h : MayE N x) (hc : x.c < 18446744073709551616) : PFit x.f x.c x.m := by
  obtain ⟨_, _, _, _, m5⟩ := h
  unfold pf at m5
  split at m5
  · unfold may isD at m5
    simp only [Bool.and_eq_true, decide_eq_true_eq] at m5
    exact ⟨by omega, by omega, hc, by omega, by omega⟩
  · simp only [Bool.and_eq_true, decide_eq_true_eq] at m5
    exact ⟨by omega, by omega, hc, by omega, by omega⟩
end Go.Proofs.Ytacmlholbnddpaa
