/- A batch as plain data, and how it lies in memory; what stays while a field is held, or written behind other bytes. -/
import Derived.Test.YtkaaddahegkmgaaGreatPH
import Derived.Test.YtkaaddahegkmgaaGreatPI
import Derived.Test.YtkaaddahegkmgaaGreatPP
namespace Go.Proofs.YtkaaddahegkmgaaGreat
open Go.ChangeShapes Go.WideShapes Go.ChangeAt Go.RowKit
theorem bel1 (w : World) (o : Obj) : Below w.heap.size w (w.alloc o) := (Below.refl _ w).alloc (Nat.le_refl _) o
theorem bel2 {w w1 w2 : World} (h : Below w.heap.size w w1) (k : Below w1.heap.size w1 w2) : Below w.heap.size w w2 := h.trans (k.mono h.size)
theorem wr1 {j N : Nat} (h : j < N) (hN : N ≤ 9223372036854775807) : wrap64 ((j : Int) + 1) = ((j + 1 : Nat) : Int) := by unfold wrap64; omega
theorem meas {j N : Nat} {z : Int} (h : j < N) (hw : z = ((j + 1 : Nat) : Int)) : N - (intOf (.int .i64 z)).toNat < N - (intOf (.int .i64 (j : Int))).toNat := by
  subst hw
  simp only [intOf]
  omega
/-- A write: its branch, its fork, Keep, At, its events. -/
structure Wt where
  br : ByteArray
  fk : ByteArray
  kp : Int
  ta : Int
  ev : List (List UInt8)
/-- A batch: its key, Expect, its row, its writes. -/
structure Bt where
  key : ByteArray
  ex : Int
  row : List UInt8
  ws : List Wt
theorem cell_below {w w' : World} {a : Addr} {v : Value} (h : w.cell? a = some v) (hb : Below w.heap.size w w') : w'.cell? a = some v := (hb.cell (World.block_lt_of_cell? w _ h)).trans h
/-- The five cells at p of block B. -/
def At5 (w : World) (B p : Nat) (c0 c1 c2 c3 c4 : Value) : Prop :=
  w.cell? ⟨B, p, none⟩ = some c0 ∧ w.cell? ⟨B, p + 1, none⟩ = some c1 ∧ w.cell? ⟨B, p + 2, none⟩ = some c2 ∧ w.cell? ⟨B, p + 3, none⟩ = some c3 ∧ w.cell? ⟨B, p + 4, none⟩ = some c4
theorem At5.below {w w' : World} {B p : Nat} {c0 c1 c2 c3 c4 : Value} (h : At5 w B p c0 c1 c2 c3 c4) (hb : Below w.heap.size w w') : At5 w' B p c0 c1 c2 c3 c4 :=
  ⟨cell_below h.1 hb, cell_below h.2.1 hb, cell_below h.2.2.1 hb, cell_below h.2.2.2.1 hb, cell_below h.2.2.2.2 hb⟩
/-- v is the list of bytes ls. -/
def LR (w : World) (v : Value) (ls : List (List UInt8)) : Prop :=
  ∃ a c, v = .slice a ls.length c ∧ ls.length ≤ 9223372036854775807 ∧ ∀ (i : Nat) p, ls[i]? = some p → ∃ B o x, a = some ⟨B, o, none⟩ ∧ w.cell? ⟨B, o + i, none⟩ = some x ∧ Lib.HoldsBytes w x p
theorem LR.below {w w' : World} {v : Value} {ls : List (List UInt8)} (h : LR w v ls) (hb : Below w.heap.size w w') : LR w' v ls := by
  obtain ⟨a, c, hv, hl, h⟩ := h
  refine ⟨a, c, hv, hl, fun i p hp => ?_⟩
  obtain ⟨B, o, x, ha, h0, hx⟩ := h i p hp
  exact ⟨B, o, x, ha, cell_below h0 hb, holds_below hx hb⟩
theorem LR.shape {w : World} {v : Value} {ls : List (List UInt8)} (h : LR w v ls) : ∃ a c, v = .slice a ls.length c ∧ ls.length ≤ 9223372036854775807 := by
  obtain ⟨a, c, hv, hl, _⟩ := h; exact ⟨_, _, hv, hl⟩
/-- The writes ws lie at a, one behind the other. -/
def WR (w : World) (a : Option Addr) (ws : List Wt) : Prop :=
  ∀ (i : Nat) t, ws[i]? = some t → ∃ B o e, a = some ⟨B, o, none⟩ ∧ At5 w B (o + i * 5) (.string t.br) (.string t.fk) (.int .i64 t.kp) (.int .i64 t.ta) e ∧ LR w e t.ev
theorem WR.below {w w' : World} {a : Option Addr} {ws : List Wt} (h : WR w a ws) (hb : Below w.heap.size w w') : WR w' a ws := fun i t ht => by
  obtain ⟨B, o, e, ha, h5, hl⟩ := h i t ht
  exact ⟨B, o, e, ha, h5.below hb, hl.below hb⟩
/-- v is the batch b. -/
def BIs (w : World) (v : Value) (b : Bt) : Prop :=
  ∃ p n c a d, v = .agg #[.string b.key, .int .i64 b.ex, .slice p n c, .slice a b.ws.length d] ∧ Lib.HoldsBytes w (.slice p n c) b.row ∧ b.ws.length ≤ 9223372036854775807 ∧ WR w a b.ws
theorem BIs.below {w w' : World} {v : Value} {b : Bt} (h : BIs w v b) (hb : Below w.heap.size w w') : BIs w' v b := by
  obtain ⟨p, n, c, a, d, hv, hr, hl, hw⟩ := h
  exact ⟨p, n, c, a, d, hv, holds_below hr hb, hl, hw.below hb⟩
/-- All blocks of cells of these types are as they were. -/
def KT (S : TypeId → Prop) (w w' : World) : Prop := ∀ (k : Nat) (cur : Array Value) (t : TypeId) (fz : Nat × Nat), w.heap[k]? = some (Obj.cells cur t fz) → S t → w'.heap[k]? = some (Obj.cells cur t fz)
theorem KT.trans {S : TypeId → Prop} {a b c : World} (h : KT S a b) (k : KT S b c) : KT S a c := fun j cur t fz hj ht => k j cur t fz (h j cur t fz hj ht) ht
theorem KT.mono {S T : TypeId → Prop} {a b : World} (h : KT S a b) (hs : ∀ t, T t → S t) : KT T a b := fun j cur t fz hj ht => h j cur t fz hj (hs t ht)
theorem KT.below {S : TypeId → Prop} {a b : World} (h : Below a.heap.size a b) : KT S a b := fun j cur t fz hj _ => by
  have hlt : j < a.heap.size := by
    rcases Nat.lt_or_ge j a.heap.size with h | h
    · exact h
    · rw [Array.getElem?_eq_none h] at hj; cases hj
  rw [h.block j hlt, hj]
theorem KT.set {w : World} {g : Nat} {c : Array Value} {t0 : TypeId} {fz : Nat × Nat} (hg : w.heap[g]? = some (.cells c t0 fz)) (o : Nat) (u : Value) : KT (fun t => t ≠ t0) w (w.setCell ⟨g, o, none⟩ u) := fun j cur t fz hj ht => by
  rw [Below.heap_setCell _ _ _ _ (fun e => ?_), hj]
  subst e
  rw [hj] at hg
  injection hg with hg
  injection hg with _ h2 _
  exact ht h2
/-- The block g is the cells cs of the type t. -/
def Bk (w : World) (g : Nat) (cs : Array Value) (t : TypeId) : Prop := w.heap[g]? = some (.cells cs t (0, 0))
theorem Bk.kt {S : TypeId → Prop} {w w' : World} {g : Nat} {cs : Array Value} {t : TypeId} (h : Bk w g cs t) (k : KT S w w') (hs : S t) : Bk w' g cs t := k g cs t (0, 0) h hs
theorem Bk.lt {w : World} {g : Nat} {cs : Array Value} {t : TypeId} (h : Bk w g cs t) : g < w.heap.size := by
  rcases Nat.lt_or_ge g w.heap.size with h' | h'
  · exact h'
  · unfold Bk at h; rw [Array.getElem?_eq_none h'] at h; cases h
theorem Bk.below {w w' : World} {g : Nat} {cs : Array Value} {t : TypeId} (h : Bk w g cs t) (hb : Below w.heap.size w w') : Bk w' g cs t := (hb.block g h.lt).trans h
theorem Bk.new (w : World) (cs : Array Value) (t : TypeId) : Bk (w.alloc (.cells cs t)) w.heap.size cs t := by
  unfold Bk World.alloc
  simp
theorem Bk.cell {w : World} {g : Nat} {cs : Array Value} {t : TypeId} (h : Bk w g cs t) (i : Nat) : w.cell? ⟨g, i, none⟩ = cs[i]? := by
  unfold Bk at h
  simp [World.cell?, h]
theorem Bk.frozen {w : World} {g : Nat} {cs : Array Value} {t : TypeId} (h : Bk w g cs t) (i : Nat) : w.frozen? ⟨g, i, none⟩ = false := by
  unfold Bk at h
  simp [World.frozen?, h]
theorem Bk.set {w : World} {g : Nat} {cs : Array Value} {t : TypeId} (h : Bk w g cs t) (i : Nat) (v : Value) : Bk (w.setCell ⟨g, i, none⟩ v) g (cs.setIfInBounds i v) t := by
  have hl := h.lt
  unfold Bk at h ⊢
  simp [World.setCell, Array.getElem?_modify, h]
/-- What stays: all that is older than lo, and all blocks but those of bools, bytes, and lists of bytes. -/
def Fr (lo : Nat) (w w' : World) : Prop := Below lo w w' ∧ KT (fun t => t ≠ 4 ∧ t ≠ 5 ∧ t ≠ 26) w w'
theorem Fr.refl (lo : Nat) (w : World) : Fr lo w w := ⟨Below.refl _ _, fun _ _ _ _ h _ => h⟩
theorem Fr.trans {lo : Nat} {a b c : World} (h : Fr lo a b) (k : Fr lo b c) : Fr lo a c := ⟨h.1.trans k.1, h.2.trans k.2⟩
theorem Fr.below {lo : Nat} {a b : World} (h : Below a.heap.size a b) (hl : lo ≤ a.heap.size) : Fr lo a b := ⟨h.mono hl, KT.below h⟩
theorem Fr.bk {lo : Nat} {w w' : World} {g : Nat} {cs : Array Value} {t : TypeId} (h : Fr lo w w') (b : Bk w g cs t) (ht : t ≠ 4 ∧ t ≠ 5 ∧ t ≠ 26) : Bk w' g cs t := b.kt h.2 ht
end Go.Proofs.YtkaaddahegkmgaaGreat
