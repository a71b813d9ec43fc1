/- What a reader in memory is, and that it stays while another block is written. Plain facts on worlds. -/
import Derived.Test.YtkaaddahegkmgaaGreatPD
namespace Go.Proofs.YtkaaddahegkmgaaGreat
open Go.ChangeShapes Go.WideShapes Go.ChangeAt Go.RowKit
/-- Of what was there, block g alone may have turned. -/
def KB (g : Nat) (w w' : World) : Prop := w'.os = w.os ∧ w'.tape = w.tape ∧ w'.output = w.output ∧ w.heap.size ≤ w'.heap.size ∧ ∀ k, k < w.heap.size → k ≠ g → w'.heap[k]? = w.heap[k]?
theorem KB.refl (g : Nat) (w : World) : KB g w w := ⟨rfl, rfl, rfl, Nat.le_refl _, fun _ _ _ => rfl⟩
theorem KB.trans {g : Nat} {a b c : World} (h : KB g a b) (k : KB g b c) : KB g a c :=
  ⟨k.1.trans h.1, k.2.1.trans h.2.1, k.2.2.1.trans h.2.2.1, Nat.le_trans h.2.2.2.1 k.2.2.2.1, fun i hi hg => (k.2.2.2.2 i (Nat.lt_of_lt_of_le hi h.2.2.2.1) hg).trans (h.2.2.2.2 i hi hg)⟩
theorem KB.setCell (g : Nat) (w : World) (o : Nat) (v : Value) : KB g w (w.setCell ⟨g, o, none⟩ v) :=
  ⟨rfl, rfl, rfl, by simp [World.setCell], fun k _ hg => Below.heap_setCell _ _ _ _ hg⟩
theorem KB.of_below {g : Nat} {w w' : World} (h : Below w.heap.size w w') : KB g w w' := ⟨h.os, h.tape, h.output, h.size, fun k hk _ => h.block k hk⟩
theorem KB.below {g B : Nat} {w w' : World} (h : KB g w w') (hg : B ≤ g) (hB : B ≤ w.heap.size) : Below B w w' :=
  ⟨h.1, h.2.1, h.2.2.1, h.2.2.2.1, fun k hk => h.2.2.2.2 k (by omega) (by omega)⟩
theorem KB.cell {g : Nat} {w w' : World} (h : KB g w w') {a : Addr} {v : Value} (hc : w.cell? a = some v) (ha : a.block ≠ g) : w'.cell? a = some v := by
  have hlt := World.block_lt_of_cell? w a hc
  rw [World.cell?_of_block (w := w) (h.2.2.2.2 a.block hlt ha)]
  exact hc
theorem KB.frozen {g : Nat} {w w' : World} (h : KB g w w') {a : Addr} (hlt : a.block < w.heap.size) (ha : a.block ≠ g) : w'.frozen? a = w.frozen? a :=
  World.frozen?_of_block (w := w) (h.2.2.2.2 a.block hlt ha)
/-- The bytes l lie in block h, at p. -/
def HBk (w : World) (h : Nat) (p : Option Addr) (l : List UInt8) : Prop :=
  l ≠ [] → ∃ o, p = some ⟨h, o, none⟩ ∧ ∀ (i : Nat) x, l[i]? = some x → w.cell? ⟨h, o + i, none⟩ = some (.int .u8 (x.toNat : Int))
theorem HBk.nil (w : World) (h : Nat) (p : Option Addr) : HBk w h p [] := fun h => absurd rfl h
theorem HBk.kb {g h : Nat} {w w' : World} {p : Option Addr} {l : List UInt8} (hb : HBk w h p l) (k : KB g w w') (hg : h ≠ g) : HBk w' h p l := by
  intro hl
  obtain ⟨o, hp, hc⟩ := hb hl
  exact ⟨o, hp, fun i x hx => k.cell (hc i x hx) hg⟩
theorem HBk.holds {h : Nat} {w : World} {p : Option Addr} {l : List UInt8} (hb : HBk w h p l) (c : Nat) : Lib.HoldsBytes w (.slice p l.length c) l := by
  refine ⟨p, c, rfl, ?_, ?_⟩
  · intro hp
    rcases Classical.em (l = []) with hl | hl
    · exact hl
    · obtain ⟨o, ho, _⟩ := hb hl
      rw [hp] at ho
      cases ho
  · intro a ha i x hx
    have hl : l ≠ [] := by intro e; subst e; simp at hx
    obtain ⟨o, ho, hc⟩ := hb hl
    rw [ho] at ha
    cases ha
    rw [add_plain]
    exact hc i x hx
/-- Where what is left begins. -/
def offA (p : Option Addr) (c n : Nat) : Option Addr := if c = n then p else p.map (·.add n)
def headA (p : Option Addr) (n : Nat) : Option Addr := if n = 0 then p else p.map (·.add 0)
theorem HBk.drop {h c : Nat} {w : World} {p : Option Addr} {l : List UInt8} (hb : HBk w h p l) (hc : l.length ≤ c) (n : Nat) : HBk w h (offA p c n) (l.drop n) := by
  intro hl
  have hn : n < l.length := by
    rcases Nat.lt_or_ge n l.length with h | h
    · exact h
    · exact absurd (List.drop_eq_nil_of_le h) hl
  obtain ⟨o, ho, hcell⟩ := hb (by intro e; subst e; simp at hn)
  refine ⟨o + n, ?_, ?_⟩
  · unfold offA
    rw [if_neg (by omega), ho, Option.map_some, add_plain]
  · intro i x hx
    rw [List.getElem?_drop] at hx
    rw [Nat.add_assoc]
    exact hcell (n + i) x hx
theorem HBk.take {h : Nat} {w : World} {p : Option Addr} {l : List UInt8} (hb : HBk w h p l) (n : Nat) : HBk w h (headA p n) (l.take n) := by
  intro hl
  obtain ⟨o, ho, hcell⟩ := hb (by intro e; subst e; simp at hl)
  have hn : n ≠ 0 := by intro e; subst e; simp at hl
  refine ⟨o, ?_, ?_⟩
  · unfold headA
    rw [if_neg hn, ho, Option.map_some, add_plain, Nat.add_zero]
  · intro i x hx
    rw [List.getElem?_take] at hx
    split at hx
    · exact hcell i x hx
    · cases hx
theorem slice_from (p : Option Addr) (L c n : Nat) (hn : n ≤ L) (w : World) : (Instr.slice 26 (.slice p L c) (some (.int .i64 (n : Int))) none none).run Tryz.prog w = .ok (.slice (offA p c n) (L - n) (c - n)) w := by
  have z5 : ∀ w, (Go.sizeOf 5).run Tryz.prog w = .ok 1 w := fun w => by kernel_rfl
  have he : Tryz.prog.elem 26 = 5 := by simp [Program.elem, Tryz.underlying26]
  rw [run_slice_l w 26 p L c (by rw [he]; exact Tryz.underlying26) .i64 _ (by omega) (by omega), he, z5]
  simp [Result.andThen, sliced, offA]
theorem slice_head3 (p : Option Addr) (L c n : Nat) (hn : n ≤ c) (w : World) : (Instr.slice 26 (.slice p L c) none (some (.int .i64 (n : Int))) (some (.int .i64 (n : Int)))).run Tryz.prog w = .ok (.slice (headA p n) n n) w := by
  have z5 : ∀ w, (Go.sizeOf 5).run Tryz.prog w = .ok 1 w := fun w => by kernel_rfl
  have he : Tryz.prog.elem 26 = 5 := by simp [Program.elem, Tryz.underlying26]
  rw [run_slice_hm w 26 p L c (by rw [he]; exact Tryz.underlying26) .i64 .i64 _ _ (by omega) (by omega) (by omega), he, z5]
  simp [Result.andThen, sliced, headA]
theorem slice_head (p : Option Addr) (L c n : Nat) (hn : n ≤ c) (w : World) : (Instr.slice 26 (.slice p L c) none (some (.int .i64 (n : Int))) none).run Tryz.prog w = .ok (.slice (headA p c) n c) w := by
  have z5 : ∀ w, (Go.sizeOf 5).run Tryz.prog w = .ok 1 w := fun w => by kernel_rfl
  have he : Tryz.prog.elem 26 = 5 := by simp [Program.elem, Tryz.underlying26]
  rw [run_slice_h w 26 p L c (by rw [he]; exact Tryz.underlying26) .i64 _ (by omega) (by omega), he, z5]
  simp [Result.andThen, sliced, headA]
/-- A reader of pack at block g, without an error: what is left is l, in block h. -/
def Rd (w : World) (g h : Nat) (p : Option Addr) (c : Nat) (l : List UInt8) : Prop :=
  w.cell? ⟨g, 0, none⟩ = some (.bool true) ∧ w.cell? ⟨g, 1, none⟩ = some (.slice p l.length c) ∧ w.cell? ⟨g, 2, none⟩ = some (.int .i64 0) ∧ w.frozen? ⟨g, 1, none⟩ = false ∧ w.frozen? ⟨g, 2, none⟩ = false ∧ l.length ≤ c ∧ h ≠ g ∧ HBk w h p l
/-- A reader of pack at block g: what is left, and its error. -/
def St (w : World) (g h : Nat) (l : List UInt8) (e : Int) : Prop :=
  (e = 0 ∧ ∃ p c, Rd w g h p c l) ∨ ((e != 0) = true ∧ l = [] ∧ w.cell? ⟨g, 0, none⟩ = some (.bool true) ∧ w.cell? ⟨g, 2, none⟩ = some (.int .i64 e))
theorem Rd.kb {w w' : World} {g h g' c : Nat} {p : Option Addr} {l : List UInt8} (r : Rd w g h p c l) (k : KB g' w w') (h1 : g ≠ g') (h2 : h ≠ g') : Rd w' g h p c l := by
  obtain ⟨a0, a1, a2, f1, f2, hl, hg, hb⟩ := r
  have hlt := World.block_lt_of_cell? w _ a0
  exact ⟨k.cell a0 h1, k.cell a1 h1, k.cell a2 h1, (k.frozen (a := ⟨g, 1, none⟩) hlt h1).trans f1, (k.frozen (a := ⟨g, 2, none⟩) hlt h1).trans f2, hl, hg, hb.kb k h2⟩
theorem St.kb {w w' : World} {g h g' : Nat} {l : List UInt8} {e : Int} (r : St w g h l e) (k : KB g' w w') (h1 : g ≠ g') (h2 : h ≠ g') : St w' g h l e := by
  rcases r with ⟨h0, p, c, r⟩ | ⟨h0, hl, a0, a2⟩
  · exact .inl ⟨h0, p, c, r.kb k h1 h2⟩
  · exact .inr ⟨h0, hl, k.cell a0 h1, k.cell a2 h1⟩
end Go.Proofs.YtkaaddahegkmgaaGreat
