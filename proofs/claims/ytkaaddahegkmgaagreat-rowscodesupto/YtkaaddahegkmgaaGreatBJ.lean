/- What a batch may be, in words. -/
import Derived.Test.YtkaaddahegkmgaaGreatMB
namespace Go.Proofs.YtkaaddahegkmgaaGreat
open Go.ChangeShapes Go.WideShapes Go.ChangeAt Go.RowKit
/-- A write that may be. -/
structure MayW (t : Wt) : Prop where
  b0 : 1 ≤ t.br.size
  b1 : t.br.size ≤ 64
  f1 : t.fk.size ≤ 64
  k0 : 0 ≤ t.kp
  k1 : t.kp ≤ 120
  a0 : 0 ≤ t.ta
  a1 : t.ta ≤ 120
  e1 : t.ev.length ≤ 120
  ee : ∀ e ∈ t.ev, 1 ≤ e.length ∧ e.length ≤ 4096
  mx : mixed t = false
/-- A batch that may be. -/
structure MayB (b : Bt) : Prop where
  k0 : 1 ≤ b.key.size
  k1 : b.key.size ≤ 64
  x0 : 0 ≤ b.ex
  x1 : b.ex ≤ 2147483648
  r1 : b.row.length ≤ 524288
  n1 : b.ws.length ≤ 4
  ww : ∀ t ∈ b.ws, MayW t
theorem hd_iff (r : Bool) (n a m : Int) : hd r n a m = true ↔ r = true ∧ a ≤ n ∧ n ≤ m := by
  unfold hd
  simp
theorem wyE_iff : ∀ (l : List (List UInt8)) (r : Bool), wyE sC r l = true ↔ r = true ∧ ∀ e ∈ l, 1 ≤ e.length ∧ e.length ≤ 4096
  | [], r => by simp [wyE]
  | e :: l, r => by
    have ih := wyE_iff l (hd r (e.length : Int) 1 4096)
    have h0 : wyE sC r (e :: l) = wyE sC (hd r (e.length : Int) 1 4096) l := rfl
    rw [h0, ih, hd_iff]
    constructor
    · rintro ⟨⟨h1, h2, h3⟩, h4⟩
      exact ⟨h1, fun x hx => by
        rcases List.mem_cons.1 hx with rfl | hx
        · omega
        · exact h4 x hx⟩
    · rintro ⟨h1, h2⟩
      have := h2 e (List.mem_cons_self ..)
      exact ⟨⟨h1, by omega, by omega⟩, fun x hx => h2 x (List.mem_cons_of_mem _ hx)⟩
theorem wyW_iff (r : Bool) (t : Wt) : (wyW sC r t = true ∧ mixed t = false) ↔ r = true ∧ MayW t := by
  have h0 : wy0 sC r t = hd (hd (hd (hd (hd r (t.br.size : Int) 1 64) (t.fk.size : Int) 0 64) t.kp 0 120) t.ta 0 120) (t.ev.length : Int) 0 120 := rfl
  unfold wyW
  rw [wyE_iff, h0, hd_iff, hd_iff, hd_iff, hd_iff, hd_iff]
  constructor
  · rintro ⟨⟨⟨⟨⟨⟨⟨h1, h2⟩, h3⟩, h4⟩, h5⟩, h6⟩, h7⟩, h8⟩
    exact ⟨h1, ⟨by omega, by omega, by omega, by omega, by omega, by omega, by omega, by omega, h7, h8⟩⟩
  · rintro ⟨h1, h⟩
    obtain ⟨b0, b1, f1, k0, k1, a0, a1, e1, ee, mx⟩ := h
    exact ⟨⟨⟨⟨⟨⟨⟨h1, by omega, by omega⟩, by omega, by omega⟩, by omega, by omega⟩, by omega, by omega⟩, by omega, by omega⟩, ee⟩, mx⟩
theorem byW_iff : ∀ (l : List Wt) (r : Bool), (byW sC r l = true ∧ l.any mixed = false) ↔ r = true ∧ ∀ t ∈ l, MayW t
  | [], r => by simp [byW]
  | t :: l, r => by
    have ih := byW_iff l (wyW sC r t)
    have h0 : byW sC r (t :: l) = byW sC (wyW sC r t) l := rfl
    have h1 : (t :: l).any mixed = (mixed t || l.any mixed) := rfl
    have hw := wyW_iff r t
    rw [h0, h1]
    constructor
    · rintro ⟨a, b⟩
      rw [Bool.or_eq_false_iff] at b
      obtain ⟨c, d⟩ := ih.1 ⟨a, b.2⟩
      obtain ⟨e, f⟩ := hw.1 ⟨c, b.1⟩
      exact ⟨e, fun x hx => by
        rcases List.mem_cons.1 hx with rfl | hx
        · exact f
        · exact d x hx⟩
    · rintro ⟨a, b⟩
      have c := hw.2 ⟨a, b t (List.mem_cons_self ..)⟩
      have d := ih.2 ⟨c.1, fun x hx => b x (List.mem_cons_of_mem _ hx)⟩
      exact ⟨d.1, by rw [Bool.or_eq_false_iff]; exact ⟨c.2, d.2⟩⟩
theorem mayB_iff (b : Bt) : mayB b = true ↔ MayB b := by
  have h0 : by0 sC true b = hd (hd (hd (hd true (b.key.size : Int) 1 64) b.ex 0 2147483648) (b.row.length : Int) 0 524288) (b.ws.length : Int) 0 4 := rfl
  have h1 := byW_iff b.ws (by0 sC true b)
  have h2 : mayB b = true ↔ (byW sC (by0 sC true b) b.ws = true ∧ b.ws.any mixed = false) := by
    unfold mayB byB
    simp
  rw [h2, h1, h0, hd_iff, hd_iff, hd_iff, hd_iff]
  constructor
  · rintro ⟨⟨⟨⟨⟨h1, h2⟩, h3⟩, h4⟩, h5⟩, h6⟩
    exact ⟨by omega, by omega, by omega, by omega, by omega, by omega, h6⟩
  · rintro ⟨k0, k1, x0, x1, r1, n1, ww⟩
    exact ⟨⟨⟨⟨⟨rfl, by omega, by omega⟩, by omega, by omega⟩, by omega, by omega⟩, by omega, by omega⟩, ww⟩
end Go.Proofs.YtkaaddahegkmgaaGreat
