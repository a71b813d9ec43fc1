/- A batch's bytes are read as that batch, whatever stands behind them; what is read has those bytes. -/
import Derived.Test.YtomkoajhjijplaaXA
import Derived.Test.YtomkoajhjijplaaDE
import Derived.Test.YtomkoajhjijplaaBK
namespace Go.Proofs.Ytomkoajhjijplaa
open Go.ChangeShapes Go.WideShapes Go.ChangeAt Go.RowKit
theorem str_data (s : ByteArray) : str s.data.toList = s := by
  cases s
  simp [str]
theorem str_size (s : List UInt8) : (str s).size = s.length := by simp [str, ByteArray.size]
theorem str_toList (s : List UInt8) : (str s).data.toList = s := by simp [str]
def eT (x : ByteArray) : List UInt8 := enc x.size ++ x.data.toList
def eL (l : List UInt8) : List UInt8 := enc l.length ++ l
def eW (t : Wt) : List UInt8 := eT t.br ++ (eT t.fk ++ (enc t.kp.toNat ++ (enc t.ta.toNat ++ (enc t.ev.length ++ (t.ev.map eL).flatten))))
def eB (b : Bt) : List UInt8 := eT b.key ++ (enc b.ex.toNat ++ (eL b.row ++ (enc b.ws.length ++ (b.ws.map eW).flatten)))
theorem wyE_eq : ∀ (l : List (List UInt8)) (st : List UInt8), wyE sE st l = st ++ (l.map eL).flatten
  | [], st => by simp [wyE]
  | e :: l, st => by
    have h0 : wyE sE st (e :: l) = wyE sE (st ++ eL e) l := rfl
    rw [h0, wyE_eq l]
    simp
theorem wyW_eq (st : List UInt8) (t : Wt) : wyW sE st t = st ++ eW t := by
  have h0 : wy0 sE st t = st ++ eT t.br ++ eT t.fk ++ enc t.kp.toNat ++ enc t.ta.toNat ++ enc (t.ev.length : Int).toNat := rfl
  unfold wyW
  rw [wyE_eq, h0, Int.toNat_natCast]
  simp [eW]
theorem byW_eq : ∀ (l : List Wt) (st : List UInt8), byW sE st l = st ++ (l.map eW).flatten
  | [], st => by simp [byW]
  | t :: l, st => by
    have h0 : byW sE st (t :: l) = byW sE (wyW sE st t) l := rfl
    rw [h0, byW_eq l, wyW_eq]
    simp
theorem encB_eq (b : Bt) : encB b = eB b := by
  have h0 : by0 sE [] b = [] ++ eT b.key ++ enc b.ex.toNat ++ eL b.row ++ enc (b.ws.length : Int).toNat := rfl
  unfold encB byB
  rw [byW_eq, h0, Int.toNat_natCast]
  simp [eB]
theorem sText_eT (x : ByteArray) (m : Int) (r : List UInt8) (h : (x.size : Int) ≤ m) (h2 : x.size < 9223372036854775808) : sText m (eT x ++ r) 0 = (x.data.toList, r, 0) := by
  have := sText_enc x.data.toList r m (by rw [str_len]; exact h) (by rw [str_len]; exact h2)
  rw [str_len] at this
  unfold eT
  rw [List.append_assoc]
  exact this
theorem sText_eL (l : List UInt8) (m : Int) (r : List UInt8) (h : (l.length : Int) ≤ m) (h2 : l.length < 9223372036854775808) : sText m (eL l ++ r) 0 = (l, r, 0) := by
  unfold eL
  rw [List.append_assoc]
  exact sText_enc l r m h h2
theorem rdE_back : ∀ (l : List (List UInt8)) (r : List UInt8), (∀ e ∈ l, 1 ≤ e.length ∧ e.length ≤ 4096) → rdE l.length ((l.map eL).flatten ++ r) 0 = (l, r, 0)
  | [], r, _ => rfl
  | e :: l, r, h => by
    have ih := rdE_back l r (fun x hx => h x (List.mem_cons_of_mem _ hx))
    have h1 := h e (List.mem_cons_self ..)
    have h2 : ((e :: l).map eL).flatten ++ r = eL e ++ ((l.map eL).flatten ++ r) := by simp
    have h3 := sText_eL e 4096 ((l.map eL).flatten ++ r) (by omega) (by omega)
    rw [List.length_cons, h2]
    unfold rdE
    rw [h3]
    dsimp only
    rw [ih]
theorem rdW_back {t : Wt} (h : MayW t) (r : List UInt8) : rdW (eW t ++ r) 0 = (t, r, 0) := by
  obtain ⟨b0, b1, f1, k0, k1, a0, a1, e1, ee, mx⟩ := h
  have g1 : r1 (eW t ++ r) 0 = (t.br.data.toList, eT t.fk ++ (enc t.kp.toNat ++ (enc t.ta.toNat ++ (enc t.ev.length ++ ((t.ev.map eL).flatten ++ r)))), 0) := by
    have : eW t ++ r = eT t.br ++ (eT t.fk ++ (enc t.kp.toNat ++ (enc t.ta.toNat ++ (enc t.ev.length ++ ((t.ev.map eL).flatten ++ r))))) := by simp [eW]
    unfold r1
    rw [this, sText_eT _ _ _ (by omega) (by omega)]
  have g2 : r2 (eW t ++ r) 0 = (t.fk.data.toList, enc t.kp.toNat ++ (enc t.ta.toNat ++ (enc t.ev.length ++ ((t.ev.map eL).flatten ++ r))), 0) := by
    unfold r2
    rw [g1]
    dsimp only
    rw [sText_eT _ _ _ (by omega) (by omega)]
  have g3 : r3 (eW t ++ r) 0 = (t.kp, enc t.ta.toNat ++ (enc t.ev.length ++ ((t.ev.map eL).flatten ++ r)), 0) := by
    unfold r3
    rw [g2]
    dsimp only
    rw [sNum_enc _ _ _ (by omega) (by omega), Int.toNat_of_nonneg k0]
  have g4 : r4 (eW t ++ r) 0 = (t.ta, enc t.ev.length ++ ((t.ev.map eL).flatten ++ r), 0) := by
    unfold r4
    rw [g3]
    dsimp only
    rw [sNum_enc _ _ _ (by omega) (by omega), Int.toNat_of_nonneg a0]
  have g5 : r5 (eW t ++ r) 0 = ((t.ev.length : Int), (t.ev.map eL).flatten ++ r, 0) := by
    unfold r5
    rw [g4]
    dsimp only
    rw [sNum_enc _ _ _ (by omega) (by omega)]
  unfold rdW
  rw [g1, g2, g3, g4, g5]
  dsimp only
  rw [Int.toNat_natCast, rdE_back t.ev r ee, str_data, str_data]
theorem rdWs_back : ∀ (l : List Wt) (r : List UInt8), (∀ t ∈ l, MayW t) → rdWs l.length ((l.map eW).flatten ++ r) 0 = (l, r, 0)
  | [], r, _ => rfl
  | t :: l, r, h => by
    have ih := rdWs_back l r (fun x hx => h x (List.mem_cons_of_mem _ hx))
    have h2 : ((t :: l).map eW).flatten ++ r = eW t ++ ((l.map eW).flatten ++ r) := by simp
    have h3 := rdW_back (h t (List.mem_cons_self ..)) ((l.map eW).flatten ++ r)
    rw [List.length_cons, h2]
    unfold rdWs
    rw [h3]
    dsimp only
    rw [ih]
theorem rdB_back {b : Bt} (h : MayB b) (r : List UInt8) : rdB (encB b ++ r) 0 = (b, r, 0) := by
  rw [encB_eq]
  obtain ⟨k0, k1, x0, x1, r1', n1, ww⟩ := h
  have g1 : q1 (eB b ++ r) 0 = (b.key.data.toList, enc b.ex.toNat ++ (eL b.row ++ (enc b.ws.length ++ ((b.ws.map eW).flatten ++ r))), 0) := by
    have : eB b ++ r = eT b.key ++ (enc b.ex.toNat ++ (eL b.row ++ (enc b.ws.length ++ ((b.ws.map eW).flatten ++ r)))) := by simp [eB]
    unfold q1
    rw [this, sText_eT _ _ _ (by omega) (by omega)]
  have g2 : q2 (eB b ++ r) 0 = (b.ex, eL b.row ++ (enc b.ws.length ++ ((b.ws.map eW).flatten ++ r)), 0) := by
    unfold q2
    rw [g1]
    dsimp only
    rw [sNum_enc _ _ _ (by omega) (by omega), Int.toNat_of_nonneg x0]
  have g3 : q3 (eB b ++ r) 0 = (b.row, enc b.ws.length ++ ((b.ws.map eW).flatten ++ r), 0) := by
    unfold q3
    rw [g2]
    dsimp only
    rw [sText_eL _ _ _ (by omega) (by omega)]
  have g4 : q4 (eB b ++ r) 0 = ((b.ws.length : Int), (b.ws.map eW).flatten ++ r, 0) := by
    unfold q4
    rw [g3]
    dsimp only
    rw [sNum_enc _ _ _ (by omega) (by omega)]
  unfold rdB
  rw [g1, g2, g3, g4]
  dsimp only
  rw [Int.toNat_natCast, rdWs_back b.ws r ww, str_data]
theorem decB_back {b : Bt} (h : mayB b = true) : decB (encB b) = (b, 0) := by
  have hb := rdB_back ((mayB_iff b).1 h) []
  rw [List.append_nil] at hb
  unfold decB
  rw [hb]
  dsimp only
  rw [if_pos (by rfl), if_pos h]
theorem decB_more {b : Bt} (h : mayB b = true) (m : UInt8) : (decB (encB b ++ [m])).2 ≠ 0 := by
  have hb := rdB_back ((mayB_iff b).1 h) [m]
  unfold decB
  rw [hb]
  dsimp only
  rw [if_neg (by show ¬ (en [m] 0 = 0); simp [en])]
  show en [m] 0 ≠ 0
  simp [en]
/-- A text of the reader that has an error. -/
theorem sText_bad {m : Int} {l : List UInt8} {e : Int} (h : e ≠ 0) : sText m l e = ([], l, e) := by
  unfold sText
  rw [sNum_err h]
  dsimp only
  rw [if_neg h]
theorem sText_ok {m : Int} {l : List UInt8} {e : Int} (h : (sText m l e).2.2 = 0) : e = 0 ∧ l = eL (sText m l e).1 ++ (sText m l e).2.1 := by
  have h0 : e = 0 := by
    refine Classical.byContradiction fun hn => ?_
    rw [sText_bad hn] at h
    exact hn h
  subst h0
  have := sText_inv (m := m) (l := l) (s := (sText m l 0).1) (t := (sText m l 0).2.1) (Prod.ext rfl (Prod.ext rfl h))
  refine ⟨rfl, ?_⟩
  unfold eL
  rw [List.append_assoc]
  exact this.1
theorem sNum_ok {m : Int} {l : List UInt8} {e : Int} (h : (sNum m l e).2.2 = 0) : e = 0 ∧ l = enc (sNum m l e).1.toNat ++ (sNum m l e).2.1 := by
  have h0 : e = 0 := by
    refine Classical.byContradiction fun hn => ?_
    rw [sNum_err hn] at h
    exact hn h
  subst h0
  exact ⟨rfl, (sNum_inv (m := m) (l := l) (k := (sNum m l 0).1) (t := (sNum m l 0).2.1) (Prod.ext rfl (Prod.ext rfl h))).2.2.1⟩
theorem eT_str (s : List UInt8) : eT (str s) = eL s := by
  unfold eT eL
  rw [str_size, str_toList]
theorem rdE_ok : ∀ (n : Nat) (l : List UInt8) (e : Int), (rdE n l e).2.2 = 0 → e = 0 ∧ l = ((rdE n l e).1.map eL).flatten ++ (rdE n l e).2.1
  | 0, l, e, h => ⟨h, rfl⟩
  | n + 1, l, e, h => by
    have ih := rdE_ok n (sText 4096 l e).2.1 (sText 4096 l e).2.2 h
    have h1 := sText_ok (m := 4096) (l := l) (e := e) ih.1
    refine ⟨h1.1, ?_⟩
    have h2 : ((rdE (n + 1) l e).1.map eL).flatten ++ (rdE (n + 1) l e).2.1 = eL (sText 4096 l e).1 ++ (((rdE n (sText 4096 l e).2.1 (sText 4096 l e).2.2).1.map eL).flatten ++ (rdE n (sText 4096 l e).2.1 (sText 4096 l e).2.2).2.1) := by
      simp [rdE]
    rw [h2, ← ih.2]
    exact h1.2
theorem rdW_ok (l : List UInt8) (e : Int) (h : (rdW l e).2.2 = 0) : e = 0 ∧ l = eW (rdW l e).1 ++ (rdW l e).2.1 := by
  have g6 := rdE_ok (r5 l e).1.toNat (r5 l e).2.1 (r5 l e).2.2 h
  have g5 := sNum_ok (m := 120) (l := (r4 l e).2.1) (e := (r4 l e).2.2) g6.1
  have g4 := sNum_ok (m := 120) (l := (r3 l e).2.1) (e := (r3 l e).2.2) g5.1
  have g3 := sNum_ok (m := 120) (l := (r2 l e).2.1) (e := (r2 l e).2.2) g4.1
  have g2 := sText_ok (m := 64) (l := (r1 l e).2.1) (e := (r1 l e).2.2) g3.1
  have g1 := sText_ok (m := 64) (l := l) (e := e) g2.1
  refine ⟨g1.1, ?_⟩
  have hw : eW (rdW l e).1 ++ (rdW l e).2.1 = eL (r1 l e).1 ++ (eL (r2 l e).1 ++ (enc (r3 l e).1.toNat ++ (enc (r4 l e).1.toNat ++ (enc (r5 l e).1.toNat ++ (((rdE (r5 l e).1.toNat (r5 l e).2.1 (r5 l e).2.2).1.map eL).flatten ++ (rdE (r5 l e).1.toNat (r5 l e).2.1 (r5 l e).2.2).2.1))))) := by
    simp only [rdW, eW, eT_str, rdE_len, List.append_assoc]
  rw [hw, ← g6.2]
  have e5 : (r4 l e).2.1 = enc (r5 l e).1.toNat ++ (r5 l e).2.1 := g5.2
  have e4 : (r3 l e).2.1 = enc (r4 l e).1.toNat ++ (r4 l e).2.1 := g4.2
  have e3 : (r2 l e).2.1 = enc (r3 l e).1.toNat ++ (r3 l e).2.1 := g3.2
  have e2 : (r1 l e).2.1 = eL (r2 l e).1 ++ (r2 l e).2.1 := g2.2
  have e1 : l = eL (r1 l e).1 ++ (r1 l e).2.1 := g1.2
  rw [← e5, ← e4, ← e3, ← e2]
  exact e1
theorem rdWs_ok : ∀ (n : Nat) (l : List UInt8) (e : Int), (rdWs n l e).2.2 = 0 → e = 0 ∧ l = ((rdWs n l e).1.map eW).flatten ++ (rdWs n l e).2.1
  | 0, l, e, h => ⟨h, rfl⟩
  | n + 1, l, e, h => by
    have ih := rdWs_ok n (rdW l e).2.1 (rdW l e).2.2 h
    have h1 := rdW_ok l e ih.1
    refine ⟨h1.1, ?_⟩
    have h2 : ((rdWs (n + 1) l e).1.map eW).flatten ++ (rdWs (n + 1) l e).2.1 = eW (rdW l e).1 ++ (((rdWs n (rdW l e).2.1 (rdW l e).2.2).1.map eW).flatten ++ (rdWs n (rdW l e).2.1 (rdW l e).2.2).2.1) := by
      simp [rdWs]
    rw [h2, ← ih.2]
    exact h1.2
theorem rdB_ok (l : List UInt8) (e : Int) (h : (rdB l e).2.2 = 0) : e = 0 ∧ l = encB (rdB l e).1 ++ (rdB l e).2.1 := by
  have g5 := rdWs_ok (q4 l e).1.toNat (q4 l e).2.1 (q4 l e).2.2 h
  have g4 := sNum_ok (m := 4) (l := (q3 l e).2.1) (e := (q3 l e).2.2) g5.1
  have g3 := sText_ok (m := 524288) (l := (q2 l e).2.1) (e := (q2 l e).2.2) g4.1
  have g2 := sNum_ok (m := 2147483648) (l := (q1 l e).2.1) (e := (q1 l e).2.2) g3.1
  have g1 := sText_ok (m := 64) (l := l) (e := e) g2.1
  refine ⟨g1.1, ?_⟩
  have hw : eB (rdB l e).1 ++ (rdB l e).2.1 = eL (q1 l e).1 ++ (enc (q2 l e).1.toNat ++ (eL (q3 l e).1 ++ (enc (q4 l e).1.toNat ++ (((rdWs (q4 l e).1.toNat (q4 l e).2.1 (q4 l e).2.2).1.map eW).flatten ++ (rdWs (q4 l e).1.toNat (q4 l e).2.1 (q4 l e).2.2).2.1)))) := by
    simp only [rdB, eB, eT_str, rdWs_len, List.append_assoc]
  rw [encB_eq, hw, ← g5.2]
  have e4 : (q3 l e).2.1 = enc (q4 l e).1.toNat ++ (q4 l e).2.1 := g4.2
  have e3 : (q2 l e).2.1 = eL (q3 l e).1 ++ (q3 l e).2.1 := g3.2
  have e2 : (q1 l e).2.1 = enc (q2 l e).1.toNat ++ (q2 l e).2.1 := g2.2
  have e1 : l = eL (q1 l e).1 ++ (q1 l e).2.1 := g1.2
  rw [← e4, ← e3, ← e2]
  exact e1
theorem en_zero {l : List UInt8} {e : Int} (h : en l e = 0) : l = [] ∧ e = 0 := by
  unfold en at h
  by_cases h0 : e = 0
  · subst h0
    simp at h
    exact ⟨h, rfl⟩
  · have : (e == 0) = false := by simpa using h0
    rw [this] at h
    exact absurd h h0
theorem decB_inv {l : List UInt8} (h : (decB l).2 = 0) : mayB (decB l).1 = true ∧ encB (decB l).1 = l := by
  unfold decB at h ⊢
  by_cases h0 : en (rdB l 0).2.1 (rdB l 0).2.2 = 0
  · rw [if_pos h0] at h ⊢
    by_cases h1 : mayB (rdB l 0).1 = true
    · rw [if_pos h1] at h ⊢
      obtain ⟨e1, e2⟩ := en_zero h0
      have h2 := (rdB_ok l 0 e2).2
      rw [e1, List.append_nil] at h2
      exact ⟨h1, h2.symm⟩
    · rw [if_neg h1] at h
      exact absurd h (by decide)
  · rw [if_neg h0] at h
    exact absurd h h0
theorem decB_less {b : Bt} (h : mayB b = true) {p : List UInt8} {m : UInt8} (hp : encB b = p ++ [m]) : (decB p).2 ≠ 0 := by
  intro h0
  obtain ⟨h1, h2⟩ := decB_inv h0
  have h3 := rdB_back ((mayB_iff _).1 h1) [m]
  rw [h2, ← hp] at h3
  have h4 := rdB_back ((mayB_iff b).1 h) []
  rw [List.append_nil, h3] at h4
  simp at h4
end Go.Proofs.Ytomkoajhjijplaa
