/- The contract of Encode. -/
import Derived.Test.YtomkoajhjijplaaBI
import Derived.Test.YtomkoajhjijplaaBF
import Derived.Test.YtomkoajhjijplaaBH
namespace Go.Proofs.Ytomkoajhjijplaa
open Go.ChangeShapes Go.WideShapes Go.ChangeAt Go.RowKit
/-- A write that may be. -/
structure MayW (t : Wt) : Prop where
  b0 : 1 ≤ t.br.size
  b1 : t.br.size ≤ 64
  f1 : t.fk.size ≤ 64
  k0 : 0 ≤ t.kp
  k1 : t.kp ≤ 120
  a0 : 0 ≤ t.ta
  a1 : t.ta ≤ 120
  e1 : t.ev.length ≤ 120
  ee : ∀ e ∈ t.ev, 1 ≤ e.length ∧ e.length ≤ 4096
  mx : mixed t = false
/-- A batch that may be. -/
structure MayB (b : Bt) : Prop where
  k0 : 1 ≤ b.key.size
  k1 : b.key.size ≤ 64
  x0 : 0 ≤ b.ex
  x1 : b.ex ≤ 2147483648
  r1 : b.row.length ≤ 524288
  n1 : b.ws.length ≤ 4
  ww : ∀ t ∈ b.ws, MayW t
theorem hd_iff (r : Bool) (n a m : Int) : hd r n a m = true ↔ r = true ∧ a ≤ n ∧ n ≤ m := by
  unfold hd
  simp
theorem wyE_iff : ∀ (l : List (List UInt8)) (r : Bool), wyE sC r l = true ↔ r = true ∧ ∀ e ∈ l, 1 ≤ e.length ∧ e.length ≤ 4096
  | [], r => by simp [wyE]
  | e :: l, r => by
    have ih := wyE_iff l (hd r (e.length : Int) 1 4096)
    have h0 : wyE sC r (e :: l) = wyE sC (hd r (e.length : Int) 1 4096) l := rfl
    rw [h0, ih, hd_iff]
    constructor
    · rintro ⟨⟨h1, h2, h3⟩, h4⟩
      exact ⟨h1, fun x hx => by
        rcases List.mem_cons.1 hx with rfl | hx
        · omega
        · exact h4 x hx⟩
    · rintro ⟨h1, h2⟩
      have := h2 e (List.mem_cons_self ..)
      exact ⟨⟨h1, by omega, by omega⟩, fun x hx => h2 x (List.mem_cons_of_mem _ hx)⟩
theorem wyW_iff (r : Bool) (t : Wt) : (wyW sC r t = true ∧ mixed t = false) ↔ r = true ∧ MayW t := by
  have h0 : wy0 sC r t = hd (hd (hd (hd (hd r (t.br.size : Int) 1 64) (t.fk.size : Int) 0 64) t.kp 0 120) t.ta 0 120) (t.ev.length : Int) 0 120 := rfl
  unfold wyW
  rw [wyE_iff, h0, hd_iff, hd_iff, hd_iff, hd_iff, hd_iff]
  constructor
  · rintro ⟨⟨⟨⟨⟨⟨⟨h1, h2⟩, h3⟩, h4⟩, h5⟩, h6⟩, h7⟩, h8⟩
    exact ⟨h1, ⟨by omega, by omega, by omega, by omega, by omega, by omega, by omega, by omega, h7, h8⟩⟩
  · rintro ⟨h1, h⟩
    obtain ⟨b0, b1, f1, k0, k1, a0, a1, e1, ee, mx⟩ := h
    exact ⟨⟨⟨⟨⟨⟨⟨h1, by omega, by omega⟩, by omega, by omega⟩, by omega, by omega⟩, by omega, by omega⟩, by omega, by omega⟩, ee⟩, mx⟩
theorem byW_iff : ∀ (l : List Wt) (r : Bool), (byW sC r l = true ∧ l.any mixed = false) ↔ r = true ∧ ∀ t ∈ l, MayW t
  | [], r => by simp [byW]
  | t :: l, r => by
    have ih := byW_iff l (wyW sC r t)
    have h0 : byW sC r (t :: l) = byW sC (wyW sC r t) l := rfl
    have h1 : (t :: l).any mixed = (mixed t || l.any mixed) := rfl
    have hw := wyW_iff r t
    rw [h0, h1]
    constructor
    · rintro ⟨a, b⟩
      rw [Bool.or_eq_false_iff] at b
      obtain ⟨c, d⟩ := ih.1 ⟨a, b.2⟩
      obtain ⟨e, f⟩ := hw.1 ⟨c, b.1⟩
      exact ⟨e, fun x hx => by
        rcases List.mem_cons.1 hx with rfl | hx
        · exact f
        · exact d x hx⟩
    · rintro ⟨a, b⟩
      have c := hw.2 ⟨a, b t (List.mem_cons_self ..)⟩
      have d := ih.2 ⟨c.1, fun x hx => b x (List.mem_cons_of_mem _ hx)⟩
      exact ⟨d.1, by rw [Bool.or_eq_false_iff]; exact ⟨c.2, d.2⟩⟩
theorem mayB_iff (b : Bt) : mayB b = true ↔ MayB b := by
  have h0 : by0 sC true b = hd (hd (hd (hd true (b.key.size : Int) 1 64) b.ex 0 2147483648) (b.row.length : Int) 0 524288) (b.ws.length : Int) 0 4 := rfl
  have h1 := byW_iff b.ws (by0 sC true b)
  have h2 : mayB b = true ↔ (byW sC (by0 sC true b) b.ws = true ∧ b.ws.any mixed = false) := by
    unfold mayB byB
    simp
  rw [h2, h1, h0, hd_iff, hd_iff, hd_iff, hd_iff]
  constructor
  · rintro ⟨⟨⟨⟨⟨h1, h2⟩, h3⟩, h4⟩, h5⟩, h6⟩
    exact ⟨by omega, by omega, by omega, by omega, by omega, by omega, h6⟩
  · rintro ⟨k0, k1, x0, x1, r1, n1, ww⟩
    exact ⟨⟨⟨⟨⟨rfl, by omega, by omega⟩, by omega, by omega⟩, by omega, by omega⟩, by omega, by omega⟩, ww⟩
/-- What Encode's closures make of 'out'. -/
def sE : Ways (List UInt8) where
  N := fun o n _ => o ++ enc n.toNat
  T := fun o x _ _ => o ++ (enc x.size ++ x.data.toList)
  B := fun o l _ _ => o ++ (enc l.length ++ l)
  C := fun o n _ => o ++ enc n.toNat
  gN := fun o n => o.length ≤ 549755813888 ∧ n < 9223372036854775808
  gT := fun o x => o.length ≤ 549755813888 ∧ x.size ≤ 1073741824
  gB := fun o l => o.length ≤ 549755813888 ∧ l.length ≤ 1073741824
theorem clo_encode (lo go gp : Nat) : Clo lo 19 21 23 24 (.pointer (some ⟨gp, 0, none⟩)) (JE lo go gp) sE where
  below := fun _ _ _ h hb => h.below hb
  low := fun _ _ h => h.low
  num := fun st W a n most h g hp => enum_calls lo go gp st W a n most h hp g.1 g.2
  text := fun st W a x least most h g hp => etext_calls lo go gp st W a x least most h hp g.1 g.2
  bytes := fun st W a p n c l least most h g hp hh => ebytes_calls lo go gp st W a p n c l least most h hp (hh W (Fr.refl _ _)) g.1 g.2
  count := fun st W n most fv h g => ecount_calls lo go gp st W n most fv h g.1 g.2
/-- The bytes of a batch. -/
def encB (b : Bt) : List UInt8 := byB sE [] b
theorem lenE : ∀ (l : List (List UInt8)) (st : List UInt8), (∀ e ∈ l, 1 ≤ e.length ∧ e.length ≤ 4096) → (wyE sE st l).length ≤ st.length + l.length * 4105
  | [], st, _ => by simp [wyE]
  | e :: l, st, h => by
    have ih := lenE l (st ++ (enc e.length ++ e)) (fun x hx => h x (List.mem_cons_of_mem _ hx))
    have h0 : wyE sE st (e :: l) = wyE sE (st ++ (enc e.length ++ e)) l := rfl
    have h1 := h e (List.mem_cons_self ..)
    have h2 := enc_length e.length (by omega)
    rw [h0]
    simp only [List.length_append, List.length_cons, Nat.succ_mul] at ih ⊢
    omega
theorem len0 {t : Wt} (h : MayW t) (st : List UInt8) : (wy0 sE st t).length ≤ st.length + 200 := by
  have h0 : wy0 sE st t = st ++ (enc t.br.size ++ t.br.data.toList) ++ (enc t.fk.size ++ t.fk.data.toList) ++ enc t.kp.toNat ++ enc t.ta.toNat ++ enc (t.ev.length : Int).toNat := rfl
  obtain ⟨b0, b1, f1, k0, k1, a0, a1, e1, ee, mx⟩ := h
  have g1 := enc_length t.br.size (by omega)
  have g2 := enc_length t.fk.size (by omega)
  have g3 := enc_length t.kp.toNat (by omega)
  have g4 := enc_length t.ta.toNat (by omega)
  have g5 := enc_length (t.ev.length : Int).toNat (by omega)
  rw [h0]
  simp only [List.length_append, str_len]
  omega
theorem lenW {t : Wt} (h : MayW t) (st : List UInt8) : (wyW sE st t).length ≤ st.length + 600000 := by
  have h1 := len0 h st
  have h2 := lenE t.ev (wy0 sE st t) h.ee
  have h3 := h.e1
  have h4 : t.ev.length * 4105 ≤ 120 * 4105 := Nat.mul_le_mul_right _ h3
  unfold wyW
  omega
theorem lenBW : ∀ (l : List Wt) (st : List UInt8), (∀ t ∈ l, MayW t) → (byW sE st l).length ≤ st.length + l.length * 600000
  | [], st, _ => by simp [byW]
  | t :: l, st, h => by
    have ih := lenBW l (wyW sE st t) (fun x hx => h x (List.mem_cons_of_mem _ hx))
    have h0 : byW sE st (t :: l) = byW sE (wyW sE st t) l := rfl
    have h1 := lenW (h t (List.mem_cons_self ..)) st
    rw [h0]
    simp only [List.length_cons, Nat.succ_mul]
    omega
theorem take_mem {α : Type} {l : List α} {j : Nat} {x : α} (h : x ∈ l.take j) : x ∈ l := List.mem_of_mem_take h
theorem gw_encode {t : Wt} (h : MayW t) (st : List UInt8) (hs : st.length ≤ 100000000) : GW sE st t := by
  have g1 := enc_length t.br.size (by have := h.b1; omega)
  have g2 := enc_length t.fk.size (by have := h.f1; omega)
  have g3 := enc_length t.kp.toNat (by have := h.k1; omega)
  have g4 := enc_length t.ta.toNat (by have := h.a1; omega)
  have l0 := len0 h st
  have hE : ∀ j, (wyE sE (wy0 sE st t) (t.ev.take j)).length ≤ 549755813888 := fun j => by
    have := lenE (t.ev.take j) (wy0 sE st t) (fun e he => h.ee e (take_mem he))
    have h2 : (t.ev.take j).length ≤ 120 := Nat.le_trans (List.length_take_le' ..) h.e1
    have h3 : (t.ev.take j).length * 4105 ≤ 120 * 4105 := Nat.mul_le_mul_right _ h2
    omega
  obtain ⟨b0, b1, f1, k0, k1, a0, a1, e1, ee, mx⟩ := h
  have s1 : (sE.T st t.br 1 64).length ≤ st.length + 73 := by show (st ++ (enc t.br.size ++ t.br.data.toList)).length ≤ _; simp only [List.length_append, str_len]; omega
  have s2 : (sE.T (sE.T st t.br 1 64) t.fk 0 64).length ≤ st.length + 146 := by show (sE.T st t.br 1 64 ++ (enc t.fk.size ++ t.fk.data.toList)).length ≤ _; simp only [List.length_append, str_len]; omega
  have s3 : (sE.N (sE.T (sE.T st t.br 1 64) t.fk 0 64) t.kp 120).length ≤ st.length + 155 := by show (sE.T (sE.T st t.br 1 64) t.fk 0 64 ++ enc t.kp.toNat).length ≤ _; simp only [List.length_append]; omega
  have s4 : (sE.N (sE.N (sE.T (sE.T st t.br 1 64) t.fk 0 64) t.kp 120) t.ta 120).length ≤ st.length + 164 := by show (sE.N (sE.T (sE.T st t.br 1 64) t.fk 0 64) t.kp 120 ++ enc t.ta.toNat).length ≤ _; simp only [List.length_append]; omega
  exact ⟨⟨by omega, by omega⟩, ⟨by omega, by omega⟩, ⟨by omega, by omega⟩, ⟨by omega, by omega⟩, ⟨by omega, by omega⟩, fun j hj => ⟨hE j, by have := ee t.ev[j] (List.getElem_mem hj); omega⟩⟩
theorem gb_encode {b : Bt} (h : MayB b) : GB sE [] b := by
  obtain ⟨k0, k1, x0, x1, r1, n1, ww⟩ := h
  have g1 := enc_length b.key.size (by omega)
  have g2 := enc_length b.ex.toNat (by omega)
  have g3 := enc_length b.row.length (by omega)
  have g4 := enc_length (b.ws.length : Int).toNat (by omega)
  have s1 : (sE.T [] b.key 1 64).length ≤ 73 := by show ([] ++ (enc b.key.size ++ b.key.data.toList)).length ≤ _; simp only [List.nil_append, List.length_append, str_len]; omega
  have s2 : (sE.N (sE.T [] b.key 1 64) b.ex 2147483648).length ≤ 82 := by show (sE.T [] b.key 1 64 ++ enc b.ex.toNat).length ≤ _; simp only [List.length_append]; omega
  have s3 : (sE.B (sE.N (sE.T [] b.key 1 64) b.ex 2147483648) b.row 0 524288).length ≤ 524400 := by show (sE.N (sE.T [] b.key 1 64) b.ex 2147483648 ++ (enc b.row.length ++ b.row)).length ≤ _; simp only [List.length_append]; omega
  have s4 : (by0 sE [] b).length ≤ 524500 := by show (sE.B (sE.N (sE.T [] b.key 1 64) b.ex 2147483648) b.row 0 524288 ++ enc (b.ws.length : Int).toNat).length ≤ _; simp only [List.length_append]; omega
  refine ⟨⟨by simp, by omega⟩, ⟨by omega, by omega⟩, ⟨by omega, by omega⟩, ⟨by omega, by omega⟩, fun j hj => gw_encode (ww _ (List.getElem_mem hj)) _ ?_⟩
  have h1 := lenBW (b.ws.take j) (by0 sE [] b) (fun t ht => ww t (take_mem ht))
  have h2 : (b.ws.take j).length ≤ 4 := Nat.le_trans (List.length_take_le' ..) n1
  have h3 : (b.ws.take j).length * 600000 ≤ 4 * 600000 := Nat.mul_le_mul_right _ h2
  omega
end Go.Proofs.Ytomkoajhjijplaa
