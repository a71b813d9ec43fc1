/- The contracts of the reference's reader: Err, Left, End, Fail, take. -/
import Derived.Test.YtimiklekajelfaaPH
import Derived.Test.YtimiklekajelfaaPS
namespace Go.Proofs.Ytimiklekajelfaa
open Go.ChangeShapes Go.WideShapes Go.ChangeAt Go.RowKit
/-- The reference's reader at block g: what is left, in block h, and its error. -/
def RD (w : World) (g h : Nat) (p : Option Addr) (c : Nat) (l : List UInt8) (e : Int) : Prop :=
  w.cell? ⟨g, 0, none⟩ = some (.slice p l.length c) ∧ w.cell? ⟨g, 1, none⟩ = some (.int .i64 e) ∧ w.frozen? ⟨g, 0, none⟩ = false ∧ w.frozen? ⟨g, 1, none⟩ = false ∧ l.length ≤ c ∧ h ≠ g ∧ HBk w h p l ∧ (e ≠ 0 → l = [])
def RT (w : World) (g h : Nat) (l : List UInt8) (e : Int) : Prop := ∃ p c, RD w g h p c l e
theorem RD.kb {w w' : World} {g h g' c : Nat} {p : Option Addr} {l : List UInt8} {e : Int} (r : RD w g h p c l e) (k : KB g' w w') (h1 : g ≠ g') (h2 : h ≠ g') : RD w' g h p c l e := by
  obtain ⟨a0, a1, f0, f1, hl, hg, hb, he⟩ := r
  have hlt := World.block_lt_of_cell? w _ a0
  exact ⟨k.cell a0 h1, k.cell a1 h1, (k.frozen (a := ⟨g, 0, none⟩) hlt h1).trans f0, (k.frozen (a := ⟨g, 1, none⟩) hlt h1).trans f1, hl, hg, hb.kb k h2, he⟩
theorem RT.kb {w w' : World} {g h g' : Nat} {l : List UInt8} {e : Int} (r : RT w g h l e) (k : KB g' w w') (h1 : g ≠ g') (h2 : h ≠ g') : RT w' g h l e := by
  obtain ⟨p, c, r⟩ := r
  exact ⟨p, c, r.kb k h1 h2⟩
/-- What a call of the reference's reader at g leaves. -/
def Rr (w : World) (g h : Nat) (v : Value) (l : List UInt8) (e : Int) (x : Ending) (w' : World) : Prop := x = .returned v ∧ RT w' g h l e ∧ KB g w w'
theorem rerr_rt (w : World) (g h : Nat) (l : List UInt8) (e : Int) (r : RT w g h l e) :
    Calls Try.prog 27 #[.pointer (some ⟨g, 0, none⟩)] w fun x w' => x = .returned (.int .i64 e) ∧ w' = w := by
  obtain ⟨p, c, a0, a1, f0, f1, hl, hg, hb, he⟩ := r
  clear hb he
  go_enter Try.func27, Try.ntmps27
  go_wp2
  go_ret
  exact ⟨rfl, rfl⟩
theorem rleft_rt (w : World) (g h : Nat) (l : List UInt8) (e : Int) (r : RT w g h l e) :
    Calls Try.prog 36 #[.pointer (some ⟨g, 0, none⟩)] w fun x w' => x = .returned (.int .i64 (l.length : Int)) ∧ w' = w := by
  obtain ⟨p, c, a0, a1, f0, f1, hl, hg, hb, he⟩ := r
  clear hb he
  go_enter Try.func36, Try.ntmps36
  go_wp2
  go_ret
  exact ⟨rfl, rfl⟩
theorem rend_rt (w : World) (g h : Nat) (l : List UInt8) (e : Int) (r : RT w g h l e) :
    Calls Try.prog 28 #[.pointer (some ⟨g, 0, none⟩)] w fun x w' => x = .returned (.int .i64 (en l e)) ∧ w' = w := by
  obtain ⟨p, c, a0, a1, f0, f1, hl, hg, hb, he⟩ := r
  clear hb he
  rcases Classical.em (e = 0) with h0 | h0
  · subst h0
    by_cases hz : l.length = 0
    · have hk : en l 0 = 0 := by simp [en, hz]
      rw [hk]
      rw [hz] at a0
      go_enter Try.func28, Try.ntmps28
      go_wp2
      go_ret
      exact ⟨rfl, rfl⟩
    · have hk : en l 0 = 3 := by simp [en]; intro h; subst h; simp at hz
      rw [hk]
      have hp : (0 : Int) < (l.length : Int) := by omega
      go_enter Try.func28, Try.ntmps28
      go_wp2
      go_ret
      exact ⟨rfl, rfl⟩
  · have he2 : (e == 0) = false := by simpa using h0
    have hk : en l e = e := by simp [en, he2]
    rw [hk]
    clear hk h0
    go_enter Try.func28, Try.ntmps28
    go_wp2
    go_ret
    exact ⟨rfl, rfl⟩
theorem rfail_rt (w : World) (g h : Nat) (l : List UInt8) (e f : Int) (r : RT w g h l e) :
    Calls Try.prog 49 #[.pointer (some ⟨g, 0, none⟩), .int .i64 f] w (Rr w g h (.tuple #[]) (if e == 0 && f != 0 then [] else l) (if e == 0 then f else e)) := by
  obtain ⟨p, c, r⟩ := r
  have R := r
  obtain ⟨a0, a1, f0, f1, hl, hg, hb, he⟩ := r
  rcases Classical.em (e = 0) with h0 | h0
  · subst h0
    rcases Classical.em (f = 0) with hf | hf
    · subst hf
      have HR : Hid (RD w g h p c l 0) := R
      clear hb he R
      show Calls Try.prog 49 #[.pointer (some ⟨g, 0, none⟩), .int .i64 0] w (Rr w g h (.tuple #[]) l 0)
      go_enter Try.func49, Try.ntmps49
      go_wp2
      first | go_end0 | refine bodyPost_ret (results_none rfl _ _ _) rfl ?_
      exact ⟨rfl, ⟨_, _, HR.out⟩, KB.refl _ _⟩
    · have hfb : (f != 0) = true := by simpa using hf
      have HR : Hid (RT ((w.setCell ⟨g, 1, none⟩ (.int .i64 f)).setCell ⟨g, 0, none⟩ (.slice none 0 0)) g h [] f ∧ KB g w ((w.setCell ⟨g, 1, none⟩ (.int .i64 f)).setCell ⟨g, 0, none⟩ (.slice none 0 0))) := by
        refine ⟨⟨none, 0, ?_, ?_, ?_, ?_, Nat.le_refl _, hg, HBk.nil _ _ _, fun _ => rfl⟩, (KB.setCell g w 1 _).trans (KB.setCell g _ 0 _)⟩
        · exact World.cell?_setCell_same _ _ _ ((cell_other w g 1 0 _ (by decide)).trans a0)
        · rw [cell_other _ g 0 1 _ (by decide)]
          exact World.cell?_setCell_same _ _ _ a1
        · rw [World.frozen?_setCell, World.frozen?_setCell]; exact f0
        · rw [World.frozen?_setCell, World.frozen?_setCell]; exact f1
      have e1 : (if ((0 : Int) == 0 && f != 0) = true then ([] : List UInt8) else l) = [] := by rw [hfb]; rfl
      rw [e1]
      show Calls Try.prog 49 #[.pointer (some ⟨g, 0, none⟩), .int .i64 f] w (Rr w g h (.tuple #[]) [] f)
      clear hb he R hf e1
      go_enter Try.func49, Try.ntmps49
      go_wp2
      first | go_end0 | refine bodyPost_ret (results_none rfl _ _ _) rfl ?_
      exact ⟨rfl, HR.out⟩
  · have hl0 : l = [] := he h0
    subst hl0
    have he2 : (e == 0) = false := by simpa using h0
    have he3 : (e != 0) = true := by simpa using h0
    have HR : Hid (RT (w.setCell ⟨g, 0, none⟩ (.slice none 0 0)) g h [] e ∧ KB g w (w.setCell ⟨g, 0, none⟩ (.slice none 0 0))) := by
      refine ⟨⟨none, 0, ?_, ?_, ?_, ?_, Nat.le_refl _, hg, HBk.nil _ _ _, fun _ => rfl⟩, KB.setCell g w 0 _⟩
      · exact World.cell?_setCell_same _ _ _ a0
      · rw [cell_other _ g 0 1 _ (by decide)]; exact a1
      · rw [World.frozen?_setCell]; exact f0
      · rw [World.frozen?_setCell]; exact f1
    have e1 : (if (e == 0 && f != 0) = true then ([] : List UInt8) else []) = [] := by split <;> rfl
    have e2 : (if (e == 0) = true then f else e) = e := by rw [he2]; rfl
    rw [e1, e2]
    clear hb he R e1 e2 h0
    go_enter Try.func49, Try.ntmps49
    go_wp2
    first | go_end0 | refine bodyPost_ret (results_none rfl _ _ _) rfl ?_
    exact ⟨rfl, HR.out⟩
end Go.Proofs.Ytimiklekajelfaa
