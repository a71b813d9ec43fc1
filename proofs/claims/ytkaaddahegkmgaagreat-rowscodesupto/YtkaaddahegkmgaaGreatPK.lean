/- The contracts of pack's reader, in whatever state: Err, Fail, take, Left, End. -/
import Derived.Test.YtkaaddahegkmgaaGreatPM
namespace Go.Proofs.YtkaaddahegkmgaaGreat
open Go.ChangeShapes Go.WideShapes Go.ChangeAt Go.RowKit
theorem err_cells (g : Nat) (e : Int) (w : World) (a0 : w.cell? ⟨g, 0, none⟩ = some (.bool true)) (a2 : w.cell? ⟨g, 2, none⟩ = some (.int .i64 e)) : ErrIs (.pointer (some ⟨g, 0, none⟩)) e w := by
  unfold ErrIs
  go_enter Tryz.func43, Tryz.ntmps43
  go_wp2
  go_ret
  exact ⟨rfl, rfl⟩
theorem err_st {w : World} {g h : Nat} {l : List UInt8} {e : Int} (r : St w g h l e) : ErrIs (.pointer (some ⟨g, 0, none⟩)) e w := by
  rcases r with ⟨rfl, p, c, a0, _, a2, _⟩ | ⟨_, _, a0, a2⟩
  · exact err_cells g 0 w a0 a2
  · exact err_cells g e w a0 a2
theorem cell_other (w : World) (g o o' : Nat) (v : Value) (h : o ≠ o') : (w.setCell ⟨g, o, none⟩ v).cell? ⟨g, o', none⟩ = w.cell? ⟨g, o', none⟩ :=
  World.cell?_setCell_other _ _ _ _ (fun e => h (congrArg Addr.off e))
theorem fail_world (w : World) (g h c : Nat) (p : Option Addr) (l : List UInt8) (f : Int) (hf : (f != 0) = true) (r : Rd w g h p c l) :
    St ((w.setCell ⟨g, 2, none⟩ (.int .i64 f)).setCell ⟨g, 1, none⟩ (.slice none 0 0)) g h [] f ∧ KB g w ((w.setCell ⟨g, 2, none⟩ (.int .i64 f)).setCell ⟨g, 1, none⟩ (.slice none 0 0)) := by
  obtain ⟨a0, a1, a2, f1, f2, hl, hg, hb⟩ := r
  refine ⟨.inr ⟨hf, rfl, ?_, ?_⟩, (KB.setCell g w 2 _).trans (KB.setCell g _ 1 _)⟩
  · rw [cell_other _ g 1 0 _ (by decide), cell_other _ g 2 0 _ (by decide)]
    exact a0
  · rw [cell_other _ g 1 2 _ (by decide)]
    exact World.cell?_setCell_same _ _ _ a2
theorem fail_live (w : World) (g h c : Nat) (p : Option Addr) (l : List UInt8) (f : Int) (hf : (f != 0) = true) (r : Rd w g h p c l) :
    Calls Tryz.prog 72 #[.pointer (some ⟨g, 0, none⟩), .int .i64 f] w fun e w' => e = .returned (.tuple #[]) ∧ St w' g h [] f ∧ KB g w w' := by
  have R := fail_world w g h c p l f hf r
  have HR : Hid (_ ∧ _) := R
  obtain ⟨a0, a1, a2, f1, f2, hl, hg, hb⟩ := r
  have E := err_cells g 0 w a0 a2
  have HE : Hid (ErrIs _ _ _) := E
  have hf2 : (f == 0) = false := by simpa using hf
  clear R E hb
  go_enter Tryz.func72, Tryz.ntmps72
  go_wp2_with fail
  refine Calls.mono HE.out ?_
  rintro e w1 ⟨rfl, hw1⟩
  have hw2 := hw1.symm
  subst hw2
  go_wp2
  go_end0
  exact ⟨rfl, HR.out⟩
theorem fail_st (w : World) (g h : Nat) (l : List UInt8) (e f : Int) (r : St w g h l e) :
    Calls Tryz.prog 72 #[.pointer (some ⟨g, 0, none⟩), .int .i64 f] w fun r w' => r = .returned (.tuple #[]) ∧ St w' g h (if e == 0 && f != 0 then [] else l) (if e == 0 then f else e) ∧ KB g w w' := by
  rcases Classical.em (e = 0) with h0 | h0
  · subst h0
    rcases Classical.em (f = 0) with f0 | f0
    · subst f0
      have E := err_st r
      go_enter Tryz.func72, Tryz.ntmps72
      go_wp2
      first | go_end0 | refine bodyPost_ret (results_none rfl _ _ _) rfl ?_
      exact ⟨rfl, r, KB.refl _ _⟩
    · have hf : (f != 0) = true := by simpa using f0
      rcases r with ⟨_, p, c, r⟩ | ⟨he, _⟩
      · simp only [hf]
        exact fail_live w g h c p l f hf r
      · simp at he
  · have he : (e != 0) = true := by simpa using h0
    have he2 : (e == 0) = false := by simpa using h0
    refine (fail_dead _ e w (err_st r) he f).mono ?_
    rintro x w1 ⟨rfl, rfl⟩
    refine ⟨rfl, ?_, KB.refl _ _⟩
    rw [he2]
    exact r
theorem take_short (w : World) (g h c : Nat) (p : Option Addr) (l : List UInt8) (n : Nat) (hn : l.length < n) (r : Rd w g h p c l) :
    Calls Tryz.prog 99 #[.pointer (some ⟨g, 0, none⟩), .int .i64 (n : Int)] w fun e w' => e = .returned (.tuple #[.slice none 0 0, .bool false]) ∧ St w' g h [] 4 ∧ KB g w w' := by
  have FL : Hid (Calls _ _ _ _ _) := fail_live w g h c p l 4 rfl r
  obtain ⟨a0, a1, a2, f1, f2, hl, hg, hb⟩ := r
  have HE : Hid (ErrIs _ _ _) := err_cells g 0 w a0 a2
  clear hb
  go_enter Tryz.func99, Tryz.ntmps99
  go_wp2_with fail
  refine Calls.mono HE.out ?_
  rintro e w1 ⟨rfl, hw1⟩
  have hw2 := hw1.symm
  subst hw2
  go_wp2_with fail
  refine Calls.mono FL.out ?_
  rintro e w1 ⟨rfl, h1, h2⟩
  have H1 : Hid (St _ _ _ _ _) := h1
  have H2 : Hid (KB _ _ _) := h2
  clear h1 h2 a0 a1 a2 f1 f2
  go_wp2
  go_ret2
  exact ⟨rfl, H1.out, H2.out⟩
theorem take_world (w : World) (g h c : Nat) (p : Option Addr) (l : List UInt8) (n : Nat) (hn : n ≤ l.length) (r : Rd w g h p c l) :
    Rd (w.setCell ⟨g, 1, none⟩ (.slice (offA p c n) (l.length - n) (c - n))) g h (offA p c n) (c - n) (l.drop n) ∧ HBk (w.setCell ⟨g, 1, none⟩ (.slice (offA p c n) (l.length - n) (c - n))) h (headA p n) (l.take n) := by
  obtain ⟨a0, a1, a2, f1, f2, hl, hg, hb⟩ := r
  have hk := KB.setCell g w 1 (.slice (offA p c n) (l.length - n) (c - n))
  refine ⟨⟨?_, ?_, ?_, ?_, ?_, ?_, hg, (hb.drop hl n).kb hk hg⟩, (hb.take n).kb hk hg⟩
  · rw [cell_other _ g 1 0 _ (by decide)]; exact a0
  · rw [World.cell?_setCell_same _ _ _ a1, List.length_drop]
  · rw [cell_other _ g 1 2 _ (by decide)]; exact a2
  · rw [World.frozen?_setCell]; exact f1
  · rw [World.frozen?_setCell]; exact f2
  · rw [List.length_drop]; omega
theorem take_live (w : World) (g h c : Nat) (p : Option Addr) (l : List UInt8) (n : Nat) (hn : n ≤ l.length) (r : Rd w g h p c l) :
    Calls Tryz.prog 99 #[.pointer (some ⟨g, 0, none⟩), .int .i64 (n : Int)] w fun e w' => ∃ q, e = .returned (.tuple #[.slice q n n, .bool true]) ∧ St w' g h (l.drop n) 0 ∧ HBk w' h q (l.take n) ∧ KB g w w' := by
  obtain ⟨t1, t2⟩ := take_world w g h c p l n hn r
  have T1 : Hid (Rd _ _ _ _ _ _) := t1
  have T2 : Hid (HBk _ _ _ _) := t2
  have T3 : Hid (KB _ _ _) := KB.setCell g w 1 (.slice (offA p c n) (l.length - n) (c - n))
  obtain ⟨a0, a1, a2, f1, f2, hl, hg, hb⟩ := r
  have HE : Hid (ErrIs _ _ _) := err_cells g 0 w a0 a2
  have s1 := slice_from p l.length c n hn
  have s2 := slice_head3 p l.length c n (by omega)
  clear hb t1 t2
  go_enter Tryz.func99, Tryz.ntmps99
  go_wp2_with fail
  refine Calls.mono HE.out ?_
  rintro e w1 ⟨rfl, hw1⟩
  have hw2 := hw1.symm
  subst hw2
  go_wp2
  go_ret2
  exact ⟨_, rfl, .inl ⟨rfl, _, _, T1.out⟩, T2.out, T3.out⟩
theorem left_st (w : World) (g h : Nat) (l : List UInt8) (e : Int) (r : St w g h l e) :
    Calls Tryz.prog 44 #[.pointer (some ⟨g, 0, none⟩)] w fun x w' => x = .returned (.int .i64 (l.length : Int)) ∧ w' = w := by
  rcases r with ⟨rfl, p, c, a0, a1, a2, f1, f2, hl, hg, hb⟩ | ⟨he, rfl, a0, a2⟩
  · have HE : Hid (ErrIs _ _ _) := err_cells g 0 w a0 a2
    clear hb
    go_enter Tryz.func44, Tryz.ntmps44
    go_wp2_with fail
    refine Calls.mono HE.out ?_
    rintro e w1 ⟨rfl, hw1⟩
    have hw2 := hw1.symm
    subst hw2
    go_wp2
    go_ret
    exact ⟨rfl, rfl⟩
  · exact left_dead _ e w (err_cells g e w a0 a2) he
/-- End's answer. -/
def en (l : List UInt8) (e : Int) : Int := if e == 0 then (if l.length = 0 then 0 else 3) else e
theorem end_st (w : World) (g h : Nat) (l : List UInt8) (e : Int) (r : St w g h l e) :
    Calls Tryz.prog 18 #[.pointer (some ⟨g, 0, none⟩)] w fun x w' => x = .returned (.int .i64 (en l e)) ∧ w' = w := by
  rcases Classical.em (e = 0) with h0 | h0
  · subst h0
    have HE : Hid (ErrIs _ _ _) := err_st r
    have HL : Hid (Calls _ _ _ _ _) := left_st w g h l 0 r
    clear r
    by_cases hl : l.length = 0
    · have hk : en l 0 = 0 := by simp [en, hl]
      rw [hk]
      rw [hl] at HL
      go_enter Tryz.func18, Tryz.ntmps18
      go_wp2_with fail
      refine Calls.mono HE.out ?_
      rintro e w1 ⟨rfl, hw1⟩
      have hw2 := hw1.symm
      subst hw2
      go_wp2_with fail
      refine Calls.mono HL.out ?_
      rintro e w1 ⟨rfl, hw1⟩
      have hw2 := hw1.symm
      subst hw2
      go_wp2
      go_ret
      exact ⟨rfl, rfl⟩
    · have hk : en l 0 = 3 := by simp [en]; intro h; subst h; simp at hl
      rw [hk]
      have hp : (0 : Int) < (l.length : Int) := by omega
      go_enter Tryz.func18, Tryz.ntmps18
      go_wp2_with fail
      refine Calls.mono HE.out ?_
      rintro e w1 ⟨rfl, hw1⟩
      have hw2 := hw1.symm
      subst hw2
      go_wp2_with fail
      refine Calls.mono HL.out ?_
      rintro e w1 ⟨rfl, hw1⟩
      have hw2 := hw1.symm
      subst hw2
      go_wp2
      go_ret
      exact ⟨rfl, rfl⟩
  · have he : (e != 0) = true := by simpa using h0
    have he2 : (e == 0) = false := by simpa using h0
    have hk : en l e = e := by simp [en, he2]
    rw [hk]
    exact end_dead _ e w (err_st r) he
end Go.Proofs.YtkaaddahegkmgaaGreat
