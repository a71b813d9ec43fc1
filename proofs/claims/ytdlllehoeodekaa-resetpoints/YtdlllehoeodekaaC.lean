/- An event in memory; the contracts of Same of both and of Clone; an event that came in (from the event seat). -/
import Derived.ChangeArms
import Derived.ChangeOld
import Derived.ChangeSame
import Derived.Deep.DeepCutAuto
import Derived.Deep.RegionHeld3
import Derived.Deep.WholeRow
import Derived.Lib.SmallJoins
import Derived.OpenShut
import Derived.ProofKit
import Derived.Test.YtdlllehoeodekaaB
import Derived.WalkKit
namespace Go.Proofs.Ytdlllehoeodekaa
open Go.ChangeAt Go.ChangeShapes Go.Deep Go.RowKit Go.WideShapes
theorem freshP (w : World) (M : Array Value) (t : TypeId) (o : Nat) : (w.alloc (.cells M t)).frozen? ⟨w.heap.size, o, none⟩ = false := by
  unfold World.frozen?
  rw [heap_alloc_last]
  simp
theorem cellB {w w' : World} {a : Addr} {v : Value} (h : w.cell? a = some v) (hb : Below w.heap.size w w') : w'.cell? a = some v := (hb.cell (World.block_lt_of_cell? w _ h)).trans h
/-- A yes or no, of which it is known when it is yes. -/
def FitP (P : Prop) (w : World) (e : Ending) (w' : World) : Prop := (∃ b : Bool, e = .returned (.bool b) ∧ (b = true ↔ P)) ∧ Below w.heap.size w w'
/-- The thirteen cells of block B. -/
def At13 (w : World) (B : Nat) (c0 c1 c2 c3 c4 c5 c6 c7 c8 c9 c10 c11 c12 : Value) : Prop := w.cell? ⟨B, 0, none⟩ = some (c0) ∧ w.cell? ⟨B, 1, none⟩ = some (c1) ∧ w.cell? ⟨B, 2, none⟩ = some (c2) ∧ w.cell? ⟨B, 3, none⟩ = some (c3) ∧ w.cell? ⟨B, 4, none⟩ = some (c4) ∧ w.cell? ⟨B, 5, none⟩ = some (c5) ∧ w.cell? ⟨B, 6, none⟩ = some (c6) ∧ w.cell? ⟨B, 7, none⟩ = some (c7) ∧ w.cell? ⟨B, 8, none⟩ = some (c8) ∧ w.cell? ⟨B, 9, none⟩ = some (c9) ∧ w.cell? ⟨B, 10, none⟩ = some (c10) ∧ w.cell? ⟨B, 11, none⟩ = some (c11) ∧ w.cell? ⟨B, 12, none⟩ = some (c12)
theorem At13.below {w w' : World} {B : Nat} {c0 c1 c2 c3 c4 c5 c6 c7 c8 c9 c10 c11 c12 : Value} (h : At13 w B c0 c1 c2 c3 c4 c5 c6 c7 c8 c9 c10 c11 c12) (hb : Below w.heap.size w w') : At13 w' B c0 c1 c2 c3 c4 c5 c6 c7 c8 c9 c10 c11 c12 := by
  obtain ⟨h0, h1, h2, h3, h4, h5, h6, h7, h8, h9, h10, h11, h12⟩ := h
  exact ⟨cellB h0 hb, cellB h1 hb, cellB h2 hb, cellB h3 hb, cellB h4 hb, cellB h5 hb, cellB h6 hb, cellB h7 hb, cellB h8 hb, cellB h9 hb, cellB h10 hb, cellB h11 hb, cellB h12 hb⟩
theorem At13.box (w : World) (c0 c1 c2 c3 c4 c5 c6 c7 c8 c9 c10 c11 c12 : Value) : At13 (w.alloc (.cells #[c0, c1, c2, c3, c4, c5, c6, c7, c8, c9, c10, c11, c12] 38)) w.heap.size c0 c1 c2 c3 c4 c5 c6 c7 c8 c9 c10 c11 c12 := by
  refine ⟨?_, ?_, ?_, ?_, ?_, ?_, ?_, ?_, ?_, ?_, ?_, ?_, ?_⟩ <;> simp
theorem At13.keep {w w' : World} {B : Nat} {c0 c1 c2 c3 c4 c5 c6 c7 c8 c9 c10 c11 c12 : Value} (h : At13 w B c0 c1 c2 c3 c4 c5 c6 c7 c8 c9 c10 c11 c12) (hk : w'.heap[B]? = w.heap[B]?) : At13 w' B c0 c1 c2 c3 c4 c5 c6 c7 c8 c9 c10 c11 c12 := by
  have f : ∀ o, w'.cell? ⟨B, o, none⟩ = w.cell? ⟨B, o, none⟩ := fun o => World.cell?_of_block hk
  obtain ⟨h0, h1, h2, h3, h4, h5, h6, h7, h8, h9, h10, h11, h12⟩ := h
  exact ⟨(f 0).trans h0, (f 1).trans h1, (f 2).trans h2, (f 3).trans h3, (f 4).trans h4, (f 5).trans h5, (f 6).trans h6, (f 7).trans h7, (f 8).trans h8, (f 9).trans h9, (f 10).trans h10, (f 11).trans h11, (f 12).trans h12⟩
theorem info29 : (Try.prog.info? 38).map (fun i => (i.zero, i.size, i.bytes)) = some (some (.agg #[.int .i64 0, .int .i64 0, .int .i64 0, .int .i64 0, .string ⟨#[]⟩, .int .i64 0, .int .i64 0, .int .u64 0, .string ⟨#[]⟩, .slice none 0 0, .int .i64 0, .int .u64 0, .int .i64 0]), 13, 136) := by kernel_rfl
theorem load13 {w : World} {g : Nat} {c0 c1 c2 c3 c4 c5 c6 c7 c8 c9 c10 c11 c12 : Value} (h : At13 w g c0 c1 c2 c3 c4 c5 c6 c7 c8 c9 c10 c11 c12) : (loadVar 38 ⟨g, 0, none⟩).run Try.prog w = .ok (.agg #[c0, c1, c2, c3, c4, c5, c6, c7, c8, c9, c10, c11, c12]) w := by
  have hl : (loadCells ⟨g, 0, none⟩ 13).run Try.prog w = .ok #[c0, c1, c2, c3, c4, c5, c6, c7, c8, c9, c10, c11, c12] w :=
    run_loadCells_list (P := Try.prog) w ⟨g, 0, none⟩ [c0, c1, c2, c3, c4, c5, c6, c7, c8, c9, c10, c11, c12] (fun j v hv => by
      rw [add_plain]
      obtain ⟨h0, h1, h2, h3, h4, h5, h6, h7, h8, h9, h10, h11, h12⟩ := h
      match j, hv with
      | 0, hv => cases hv; exact h0
      | 1, hv => cases hv; exact h1
      | 2, hv => cases hv; exact h2
      | 3, hv => cases hv; exact h3
      | 4, hv => cases hv; exact h4
      | 5, hv => cases hv; exact h5
      | 6, hv => cases hv; exact h6
      | 7, hv => cases hv; exact h7
      | 8, hv => cases hv; exact h8
      | 9, hv => cases hv; exact h9
      | 10, hv => cases hv; exact h10
      | 11, hv => cases hv; exact h11
      | 12, hv => cases hv; exact h12)
  obtain ⟨i0, hi, _, hz1, _⟩ := info_parts info29
  have hagg : (isAgg 38).run Try.prog w = .ok true w := by
    unfold isAgg
    rw [Sem.run_bind, run_underlying Try.underlying38 w]
    rfl
  simp [loadVar, Sem.run_bind, hagg, sizeOf, typeInfo, hi, hz1, hl]
theorem ret13 {fn : Func} {p : Tmp} (h : fn.results = #[.cell p 38]) (tmps : Array Value) {w : World} {g : Nat} {c0 c1 c2 c3 c4 c5 c6 c7 c8 c9 c10 c11 c12 : Value} (hp : tmps.getD p undef = .pointer (some ⟨g, 0, none⟩)) (h5 : At13 w g c0 c1 c2 c3 c4 c5 c6 c7 c8 c9 c10 c11 c12) :
    (results fn tmps).run Try.prog w = .ok (.agg #[c0, c1, c2, c3, c4, c5, c6, c7, c8, c9, c10, c11, c12]) w := by
  have hp' : tmps[p]?.getD undef = .pointer (some ⟨g, 0, none⟩) := by simpa using hp
  simp [results, h, hp', asAddr, load13 h5]
theorem cs13 (w : World) (B o o' : Nat) (u : Value) (h : o ≠ o') : (w.setCell ⟨B, o', none⟩ u).cell? ⟨B, o, none⟩ = w.cell? ⟨B, o, none⟩ :=
  World.cell?_setCell_other w _ _ u (fun e => h (by injection e with _ e2; exact e2.symm))
theorem At13.set0 {W : World} {q : Nat} {c0 c1 c2 c3 c4 c5 c6 c7 c8 c9 c10 c11 c12 : Value} (h : At13 W q c0 c1 c2 c3 c4 c5 c6 c7 c8 c9 c10 c11 c12) (u : Value) : At13 (W.setCell ⟨q, 0, none⟩ u) q u c1 c2 c3 c4 c5 c6 c7 c8 c9 c10 c11 c12 := by
  obtain ⟨h0, h1, h2, h3, h4, h5, h6, h7, h8, h9, h10, h11, h12⟩ := h
  exact ⟨World.cell?_setCell_same _ _ _ h0, (cs13 _ _ _ _ _ (by decide)).trans h1, (cs13 _ _ _ _ _ (by decide)).trans h2, (cs13 _ _ _ _ _ (by decide)).trans h3, (cs13 _ _ _ _ _ (by decide)).trans h4, (cs13 _ _ _ _ _ (by decide)).trans h5, (cs13 _ _ _ _ _ (by decide)).trans h6, (cs13 _ _ _ _ _ (by decide)).trans h7, (cs13 _ _ _ _ _ (by decide)).trans h8, (cs13 _ _ _ _ _ (by decide)).trans h9, (cs13 _ _ _ _ _ (by decide)).trans h10, (cs13 _ _ _ _ _ (by decide)).trans h11, (cs13 _ _ _ _ _ (by decide)).trans h12⟩
theorem At13.set1 {W : World} {q : Nat} {c0 c1 c2 c3 c4 c5 c6 c7 c8 c9 c10 c11 c12 : Value} (h : At13 W q c0 c1 c2 c3 c4 c5 c6 c7 c8 c9 c10 c11 c12) (u : Value) : At13 (W.setCell ⟨q, 1, none⟩ u) q c0 u c2 c3 c4 c5 c6 c7 c8 c9 c10 c11 c12 := by
  obtain ⟨h0, h1, h2, h3, h4, h5, h6, h7, h8, h9, h10, h11, h12⟩ := h
  exact ⟨(cs13 _ _ _ _ _ (by decide)).trans h0, World.cell?_setCell_same _ _ _ h1, (cs13 _ _ _ _ _ (by decide)).trans h2, (cs13 _ _ _ _ _ (by decide)).trans h3, (cs13 _ _ _ _ _ (by decide)).trans h4, (cs13 _ _ _ _ _ (by decide)).trans h5, (cs13 _ _ _ _ _ (by decide)).trans h6, (cs13 _ _ _ _ _ (by decide)).trans h7, (cs13 _ _ _ _ _ (by decide)).trans h8, (cs13 _ _ _ _ _ (by decide)).trans h9, (cs13 _ _ _ _ _ (by decide)).trans h10, (cs13 _ _ _ _ _ (by decide)).trans h11, (cs13 _ _ _ _ _ (by decide)).trans h12⟩
theorem At13.set2 {W : World} {q : Nat} {c0 c1 c2 c3 c4 c5 c6 c7 c8 c9 c10 c11 c12 : Value} (h : At13 W q c0 c1 c2 c3 c4 c5 c6 c7 c8 c9 c10 c11 c12) (u : Value) : At13 (W.setCell ⟨q, 2, none⟩ u) q c0 c1 u c3 c4 c5 c6 c7 c8 c9 c10 c11 c12 := by
  obtain ⟨h0, h1, h2, h3, h4, h5, h6, h7, h8, h9, h10, h11, h12⟩ := h
  exact ⟨(cs13 _ _ _ _ _ (by decide)).trans h0, (cs13 _ _ _ _ _ (by decide)).trans h1, World.cell?_setCell_same _ _ _ h2, (cs13 _ _ _ _ _ (by decide)).trans h3, (cs13 _ _ _ _ _ (by decide)).trans h4, (cs13 _ _ _ _ _ (by decide)).trans h5, (cs13 _ _ _ _ _ (by decide)).trans h6, (cs13 _ _ _ _ _ (by decide)).trans h7, (cs13 _ _ _ _ _ (by decide)).trans h8, (cs13 _ _ _ _ _ (by decide)).trans h9, (cs13 _ _ _ _ _ (by decide)).trans h10, (cs13 _ _ _ _ _ (by decide)).trans h11, (cs13 _ _ _ _ _ (by decide)).trans h12⟩
theorem At13.set3 {W : World} {q : Nat} {c0 c1 c2 c3 c4 c5 c6 c7 c8 c9 c10 c11 c12 : Value} (h : At13 W q c0 c1 c2 c3 c4 c5 c6 c7 c8 c9 c10 c11 c12) (u : Value) : At13 (W.setCell ⟨q, 3, none⟩ u) q c0 c1 c2 u c4 c5 c6 c7 c8 c9 c10 c11 c12 := by
  obtain ⟨h0, h1, h2, h3, h4, h5, h6, h7, h8, h9, h10, h11, h12⟩ := h
  exact ⟨(cs13 _ _ _ _ _ (by decide)).trans h0, (cs13 _ _ _ _ _ (by decide)).trans h1, (cs13 _ _ _ _ _ (by decide)).trans h2, World.cell?_setCell_same _ _ _ h3, (cs13 _ _ _ _ _ (by decide)).trans h4, (cs13 _ _ _ _ _ (by decide)).trans h5, (cs13 _ _ _ _ _ (by decide)).trans h6, (cs13 _ _ _ _ _ (by decide)).trans h7, (cs13 _ _ _ _ _ (by decide)).trans h8, (cs13 _ _ _ _ _ (by decide)).trans h9, (cs13 _ _ _ _ _ (by decide)).trans h10, (cs13 _ _ _ _ _ (by decide)).trans h11, (cs13 _ _ _ _ _ (by decide)).trans h12⟩
theorem At13.set4 {W : World} {q : Nat} {c0 c1 c2 c3 c4 c5 c6 c7 c8 c9 c10 c11 c12 : Value} (h : At13 W q c0 c1 c2 c3 c4 c5 c6 c7 c8 c9 c10 c11 c12) (u : Value) : At13 (W.setCell ⟨q, 4, none⟩ u) q c0 c1 c2 c3 u c5 c6 c7 c8 c9 c10 c11 c12 := by
  obtain ⟨h0, h1, h2, h3, h4, h5, h6, h7, h8, h9, h10, h11, h12⟩ := h
  exact ⟨(cs13 _ _ _ _ _ (by decide)).trans h0, (cs13 _ _ _ _ _ (by decide)).trans h1, (cs13 _ _ _ _ _ (by decide)).trans h2, (cs13 _ _ _ _ _ (by decide)).trans h3, World.cell?_setCell_same _ _ _ h4, (cs13 _ _ _ _ _ (by decide)).trans h5, (cs13 _ _ _ _ _ (by decide)).trans h6, (cs13 _ _ _ _ _ (by decide)).trans h7, (cs13 _ _ _ _ _ (by decide)).trans h8, (cs13 _ _ _ _ _ (by decide)).trans h9, (cs13 _ _ _ _ _ (by decide)).trans h10, (cs13 _ _ _ _ _ (by decide)).trans h11, (cs13 _ _ _ _ _ (by decide)).trans h12⟩
theorem At13.set5 {W : World} {q : Nat} {c0 c1 c2 c3 c4 c5 c6 c7 c8 c9 c10 c11 c12 : Value} (h : At13 W q c0 c1 c2 c3 c4 c5 c6 c7 c8 c9 c10 c11 c12) (u : Value) : At13 (W.setCell ⟨q, 5, none⟩ u) q c0 c1 c2 c3 c4 u c6 c7 c8 c9 c10 c11 c12 := by
  obtain ⟨h0, h1, h2, h3, h4, h5, h6, h7, h8, h9, h10, h11, h12⟩ := h
  exact ⟨(cs13 _ _ _ _ _ (by decide)).trans h0, (cs13 _ _ _ _ _ (by decide)).trans h1, (cs13 _ _ _ _ _ (by decide)).trans h2, (cs13 _ _ _ _ _ (by decide)).trans h3, (cs13 _ _ _ _ _ (by decide)).trans h4, World.cell?_setCell_same _ _ _ h5, (cs13 _ _ _ _ _ (by decide)).trans h6, (cs13 _ _ _ _ _ (by decide)).trans h7, (cs13 _ _ _ _ _ (by decide)).trans h8, (cs13 _ _ _ _ _ (by decide)).trans h9, (cs13 _ _ _ _ _ (by decide)).trans h10, (cs13 _ _ _ _ _ (by decide)).trans h11, (cs13 _ _ _ _ _ (by decide)).trans h12⟩
theorem At13.set6 {W : World} {q : Nat} {c0 c1 c2 c3 c4 c5 c6 c7 c8 c9 c10 c11 c12 : Value} (h : At13 W q c0 c1 c2 c3 c4 c5 c6 c7 c8 c9 c10 c11 c12) (u : Value) : At13 (W.setCell ⟨q, 6, none⟩ u) q c0 c1 c2 c3 c4 c5 u c7 c8 c9 c10 c11 c12 := by
  obtain ⟨h0, h1, h2, h3, h4, h5, h6, h7, h8, h9, h10, h11, h12⟩ := h
  exact ⟨(cs13 _ _ _ _ _ (by decide)).trans h0, (cs13 _ _ _ _ _ (by decide)).trans h1, (cs13 _ _ _ _ _ (by decide)).trans h2, (cs13 _ _ _ _ _ (by decide)).trans h3, (cs13 _ _ _ _ _ (by decide)).trans h4, (cs13 _ _ _ _ _ (by decide)).trans h5, World.cell?_setCell_same _ _ _ h6, (cs13 _ _ _ _ _ (by decide)).trans h7, (cs13 _ _ _ _ _ (by decide)).trans h8, (cs13 _ _ _ _ _ (by decide)).trans h9, (cs13 _ _ _ _ _ (by decide)).trans h10, (cs13 _ _ _ _ _ (by decide)).trans h11, (cs13 _ _ _ _ _ (by decide)).trans h12⟩
theorem At13.set7 {W : World} {q : Nat} {c0 c1 c2 c3 c4 c5 c6 c7 c8 c9 c10 c11 c12 : Value} (h : At13 W q c0 c1 c2 c3 c4 c5 c6 c7 c8 c9 c10 c11 c12) (u : Value) : At13 (W.setCell ⟨q, 7, none⟩ u) q c0 c1 c2 c3 c4 c5 c6 u c8 c9 c10 c11 c12 := by
  obtain ⟨h0, h1, h2, h3, h4, h5, h6, h7, h8, h9, h10, h11, h12⟩ := h
  exact ⟨(cs13 _ _ _ _ _ (by decide)).trans h0, (cs13 _ _ _ _ _ (by decide)).trans h1, (cs13 _ _ _ _ _ (by decide)).trans h2, (cs13 _ _ _ _ _ (by decide)).trans h3, (cs13 _ _ _ _ _ (by decide)).trans h4, (cs13 _ _ _ _ _ (by decide)).trans h5, (cs13 _ _ _ _ _ (by decide)).trans h6, World.cell?_setCell_same _ _ _ h7, (cs13 _ _ _ _ _ (by decide)).trans h8, (cs13 _ _ _ _ _ (by decide)).trans h9, (cs13 _ _ _ _ _ (by decide)).trans h10, (cs13 _ _ _ _ _ (by decide)).trans h11, (cs13 _ _ _ _ _ (by decide)).trans h12⟩
theorem At13.set8 {W : World} {q : Nat} {c0 c1 c2 c3 c4 c5 c6 c7 c8 c9 c10 c11 c12 : Value} (h : At13 W q c0 c1 c2 c3 c4 c5 c6 c7 c8 c9 c10 c11 c12) (u : Value) : At13 (W.setCell ⟨q, 8, none⟩ u) q c0 c1 c2 c3 c4 c5 c6 c7 u c9 c10 c11 c12 := by
  obtain ⟨h0, h1, h2, h3, h4, h5, h6, h7, h8, h9, h10, h11, h12⟩ := h
  exact ⟨(cs13 _ _ _ _ _ (by decide)).trans h0, (cs13 _ _ _ _ _ (by decide)).trans h1, (cs13 _ _ _ _ _ (by decide)).trans h2, (cs13 _ _ _ _ _ (by decide)).trans h3, (cs13 _ _ _ _ _ (by decide)).trans h4, (cs13 _ _ _ _ _ (by decide)).trans h5, (cs13 _ _ _ _ _ (by decide)).trans h6, (cs13 _ _ _ _ _ (by decide)).trans h7, World.cell?_setCell_same _ _ _ h8, (cs13 _ _ _ _ _ (by decide)).trans h9, (cs13 _ _ _ _ _ (by decide)).trans h10, (cs13 _ _ _ _ _ (by decide)).trans h11, (cs13 _ _ _ _ _ (by decide)).trans h12⟩
theorem At13.set9 {W : World} {q : Nat} {c0 c1 c2 c3 c4 c5 c6 c7 c8 c9 c10 c11 c12 : Value} (h : At13 W q c0 c1 c2 c3 c4 c5 c6 c7 c8 c9 c10 c11 c12) (u : Value) : At13 (W.setCell ⟨q, 9, none⟩ u) q c0 c1 c2 c3 c4 c5 c6 c7 c8 u c10 c11 c12 := by
  obtain ⟨h0, h1, h2, h3, h4, h5, h6, h7, h8, h9, h10, h11, h12⟩ := h
  exact ⟨(cs13 _ _ _ _ _ (by decide)).trans h0, (cs13 _ _ _ _ _ (by decide)).trans h1, (cs13 _ _ _ _ _ (by decide)).trans h2, (cs13 _ _ _ _ _ (by decide)).trans h3, (cs13 _ _ _ _ _ (by decide)).trans h4, (cs13 _ _ _ _ _ (by decide)).trans h5, (cs13 _ _ _ _ _ (by decide)).trans h6, (cs13 _ _ _ _ _ (by decide)).trans h7, (cs13 _ _ _ _ _ (by decide)).trans h8, World.cell?_setCell_same _ _ _ h9, (cs13 _ _ _ _ _ (by decide)).trans h10, (cs13 _ _ _ _ _ (by decide)).trans h11, (cs13 _ _ _ _ _ (by decide)).trans h12⟩
theorem At13.set10 {W : World} {q : Nat} {c0 c1 c2 c3 c4 c5 c6 c7 c8 c9 c10 c11 c12 : Value} (h : At13 W q c0 c1 c2 c3 c4 c5 c6 c7 c8 c9 c10 c11 c12) (u : Value) : At13 (W.setCell ⟨q, 10, none⟩ u) q c0 c1 c2 c3 c4 c5 c6 c7 c8 c9 u c11 c12 := by
  obtain ⟨h0, h1, h2, h3, h4, h5, h6, h7, h8, h9, h10, h11, h12⟩ := h
  exact ⟨(cs13 _ _ _ _ _ (by decide)).trans h0, (cs13 _ _ _ _ _ (by decide)).trans h1, (cs13 _ _ _ _ _ (by decide)).trans h2, (cs13 _ _ _ _ _ (by decide)).trans h3, (cs13 _ _ _ _ _ (by decide)).trans h4, (cs13 _ _ _ _ _ (by decide)).trans h5, (cs13 _ _ _ _ _ (by decide)).trans h6, (cs13 _ _ _ _ _ (by decide)).trans h7, (cs13 _ _ _ _ _ (by decide)).trans h8, (cs13 _ _ _ _ _ (by decide)).trans h9, World.cell?_setCell_same _ _ _ h10, (cs13 _ _ _ _ _ (by decide)).trans h11, (cs13 _ _ _ _ _ (by decide)).trans h12⟩
theorem At13.set11 {W : World} {q : Nat} {c0 c1 c2 c3 c4 c5 c6 c7 c8 c9 c10 c11 c12 : Value} (h : At13 W q c0 c1 c2 c3 c4 c5 c6 c7 c8 c9 c10 c11 c12) (u : Value) : At13 (W.setCell ⟨q, 11, none⟩ u) q c0 c1 c2 c3 c4 c5 c6 c7 c8 c9 c10 u c12 := by
  obtain ⟨h0, h1, h2, h3, h4, h5, h6, h7, h8, h9, h10, h11, h12⟩ := h
  exact ⟨(cs13 _ _ _ _ _ (by decide)).trans h0, (cs13 _ _ _ _ _ (by decide)).trans h1, (cs13 _ _ _ _ _ (by decide)).trans h2, (cs13 _ _ _ _ _ (by decide)).trans h3, (cs13 _ _ _ _ _ (by decide)).trans h4, (cs13 _ _ _ _ _ (by decide)).trans h5, (cs13 _ _ _ _ _ (by decide)).trans h6, (cs13 _ _ _ _ _ (by decide)).trans h7, (cs13 _ _ _ _ _ (by decide)).trans h8, (cs13 _ _ _ _ _ (by decide)).trans h9, (cs13 _ _ _ _ _ (by decide)).trans h10, World.cell?_setCell_same _ _ _ h11, (cs13 _ _ _ _ _ (by decide)).trans h12⟩
theorem At13.set12 {W : World} {q : Nat} {c0 c1 c2 c3 c4 c5 c6 c7 c8 c9 c10 c11 c12 : Value} (h : At13 W q c0 c1 c2 c3 c4 c5 c6 c7 c8 c9 c10 c11 c12) (u : Value) : At13 (W.setCell ⟨q, 12, none⟩ u) q c0 c1 c2 c3 c4 c5 c6 c7 c8 c9 c10 c11 u := by
  obtain ⟨h0, h1, h2, h3, h4, h5, h6, h7, h8, h9, h10, h11, h12⟩ := h
  exact ⟨(cs13 _ _ _ _ _ (by decide)).trans h0, (cs13 _ _ _ _ _ (by decide)).trans h1, (cs13 _ _ _ _ _ (by decide)).trans h2, (cs13 _ _ _ _ _ (by decide)).trans h3, (cs13 _ _ _ _ _ (by decide)).trans h4, (cs13 _ _ _ _ _ (by decide)).trans h5, (cs13 _ _ _ _ _ (by decide)).trans h6, (cs13 _ _ _ _ _ (by decide)).trans h7, (cs13 _ _ _ _ _ (by decide)).trans h8, (cs13 _ _ _ _ _ (by decide)).trans h9, (cs13 _ _ _ _ _ (by decide)).trans h10, (cs13 _ _ _ _ _ (by decide)).trans h11, World.cell?_setCell_same _ _ _ h12⟩
def set13 (w : World) (g : Nat) (c0 c1 c2 c3 c4 c5 c6 c7 c8 c9 c10 c11 c12 : Value) : World := ((((((((((((w.setCell ⟨g, 0, none⟩ c0).setCell ⟨g, 1, none⟩ c1).setCell ⟨g, 2, none⟩ c2).setCell ⟨g, 3, none⟩ c3).setCell ⟨g, 4, none⟩ c4).setCell ⟨g, 5, none⟩ c5).setCell ⟨g, 6, none⟩ c6).setCell ⟨g, 7, none⟩ c7).setCell ⟨g, 8, none⟩ c8).setCell ⟨g, 9, none⟩ c9).setCell ⟨g, 10, none⟩ c10).setCell ⟨g, 11, none⟩ c11).setCell ⟨g, 12, none⟩ c12
theorem set13_kb (w : World) (g : Nat) (c0 c1 c2 c3 c4 c5 c6 c7 c8 c9 c10 c11 c12 : Value) : KB g w (set13 w g c0 c1 c2 c3 c4 c5 c6 c7 c8 c9 c10 c11 c12) := ((((((((((((KB.setCell g w 0 c0).trans (KB.setCell g _ _ c1)).trans (KB.setCell g _ _ c2)).trans (KB.setCell g _ _ c3)).trans (KB.setCell g _ _ c4)).trans (KB.setCell g _ _ c5)).trans (KB.setCell g _ _ c6)).trans (KB.setCell g _ _ c7)).trans (KB.setCell g _ _ c8)).trans (KB.setCell g _ _ c9)).trans (KB.setCell g _ _ c10)).trans (KB.setCell g _ _ c11)).trans (KB.setCell g _ _ c12)
theorem set13_at {w : World} {g : Nat} {z0 z1 z2 z3 z4 z5 z6 z7 z8 z9 z10 z11 z12 : Value} (h : At13 w g z0 z1 z2 z3 z4 z5 z6 z7 z8 z9 z10 z11 z12) (c0 c1 c2 c3 c4 c5 c6 c7 c8 c9 c10 c11 c12 : Value) : At13 (set13 w g c0 c1 c2 c3 c4 c5 c6 c7 c8 c9 c10 c11 c12) g c0 c1 c2 c3 c4 c5 c6 c7 c8 c9 c10 c11 c12 := (((((((((((((h).set0 c0).set1 c1).set2 c2).set3 c3).set4 c4).set5 c5).set6 c6).set7 c7).set8 c8).set9 c9).set10 c10).set11 c11).set12 c12
theorem IsN.put {lo q i n : Nat} {W : World} {v : Value} {t : Tv} (hq : q < lo) (u : Value) (h : IsN lo W n v t) : IsN lo (W.setCell ⟨q, i, none⟩ u) n v t := IsN.kb (KB.setCell q W i u) hq h
theorem str_ne {s t : ByteArray} (h : s ≠ t) : (s.toList == t.toList) = false := by
  rw [beq_eq_false_iff_ne, ByteArray.toList_eq, ByteArray.toList_eq]
  intro e
  apply h
  apply ByteArray.ext
  exact Array.toList_inj.1 e
set_option maxHeartbeats 4000000 in
set_option maxRecDepth 100000 in
theorem evrsame_calls (nn : Nat) (tv tv2 : Tv) (k t n d : Int) (s : ByteArray) (vk vx vb : Int) (vs : ByteArray) (la : Option Addr) (ll lc : Nat) (f : Int) (c : Nat) (m : Int) (k2 t2 n2 d2 : Int) (s2 : ByteArray) (vk2 vx2 vb2 : Int) (vs2 : ByteArray) (la2 : Option Addr) (ll2 lc2 : Nat) (f2 : Int) (c2 : Nat) (m2 : Int) (w : World) (h : Is w (nn + 1) (.agg #[.int .i64 vk, .int .i64 vx, .int .u64 vb, .string vs, .slice la ll lc]) tv) (hh : Is w (nn + 1) (.agg #[.int .i64 vk2, .int .i64 vx2, .int .u64 vb2, .string vs2, .slice la2 ll2 lc2]) tv2) :
    Calls Try.prog 21 #[(.agg #[.int .i64 k, .int .i64 t, .int .i64 n, .int .i64 d, .string s, .int .i64 vk, .int .i64 vx, .int .u64 vb, .string vs, .slice la ll lc, .int .i64 f, .int .u64 (c : Int), .int .i64 m]), (.agg #[.int .i64 k2, .int .i64 t2, .int .i64 n2, .int .i64 d2, .string s2, .int .i64 vk2, .int .i64 vx2, .int .u64 vb2, .string vs2, .slice la2 ll2 lc2, .int .i64 f2, .int .u64 (c2 : Int), .int .i64 m2])] w (FitP (k = k2 ∧ t = t2 ∧ n = n2 ∧ d = d2 ∧ s = s2 ∧ tv = tv2 ∧ f = f2 ∧ c = c2 ∧ m = m2) w) := by
  have HF : Hid (∀ b w', (b = true ↔ (k = k2 ∧ t = t2 ∧ n = n2 ∧ d = d2 ∧ s = s2 ∧ tv = tv2 ∧ f = f2 ∧ c = c2 ∧ m = m2)) → Below w.heap.size w w' → FitP (k = k2 ∧ t = t2 ∧ n = n2 ∧ d = d2 ∧ s = s2 ∧ tv = tv2 ∧ f = f2 ∧ c = c2 ∧ m = m2) w (.returned (.bool b)) w') := fun b w' h1 h2 => ⟨⟨b, rfl, h1⟩, h2⟩
  have SC : Hid (∀ W, Below w.heap.size w W → _) := fun W hB => rsame_calls (nn + 1) (.agg #[.int .i64 vk, .int .i64 vx, .int .u64 vb, .string vs, .slice la ll lc]) tv (.agg #[.int .i64 vk2, .int .i64 vx2, .int .u64 vb2, .string vs2, .slice la2 ll2 lc2]) tv2 W (h.below hB) (hh.below hB)
  generalize FitP (k = k2 ∧ t = t2 ∧ n = n2 ∧ d = d2 ∧ s = s2 ∧ tv = tv2 ∧ f = f2 ∧ c = c2 ∧ m = m2) w = Q at HF ⊢
  clear h hh
  by_cases h0 : k = k2
  rotate_left
  · have d0 : (k == k2) = false := by simpa using h0
    go_enter Try.func21, Try.ntmps21
    go_wp2_with fail
    exact HF.out false _ (by simp [h0]) (bel2 (bel1 _ _) (bel1 _ _))
  subst h0
  by_cases h1 : t = t2
  rotate_left
  · have d1 : (t == t2) = false := by simpa using h1
    go_enter Try.func21, Try.ntmps21
    go_wp2_with fail
    exact HF.out false _ (by simp [h1]) (bel2 (bel1 _ _) (bel1 _ _))
  subst h1
  by_cases h2 : n = n2
  rotate_left
  · have d2 : (n == n2) = false := by simpa using h2
    go_enter Try.func21, Try.ntmps21
    go_wp2_with fail
    exact HF.out false _ (by simp [h2]) (bel2 (bel1 _ _) (bel1 _ _))
  subst h2
  by_cases h3 : d = d2
  rotate_left
  · have d3 : (d == d2) = false := by simpa using h3
    go_enter Try.func21, Try.ntmps21
    go_wp2_with fail
    exact HF.out false _ (by simp [h3]) (bel2 (bel1 _ _) (bel1 _ _))
  subst h3
  by_cases h4 : s = s2
  rotate_left
  · have d4 := str_ne h4
    go_enter Try.func21, Try.ntmps21
    go_wp2_with fail
    exact HF.out false _ (by simp [h4]) (bel2 (bel1 _ _) (bel1 _ _))
  subst h4
  have HX : Hid (At13 ((w.alloc (.cells #[.int .i64 k, .int .i64 t, .int .i64 n, .int .i64 d, .string s, .int .i64 vk, .int .i64 vx, .int .u64 vb, .string vs, .slice la ll lc, .int .i64 f, .int .u64 (c : Int), .int .i64 m] 38)).alloc (.cells #[.int .i64 k, .int .i64 t, .int .i64 n, .int .i64 d, .string s, .int .i64 vk2, .int .i64 vx2, .int .u64 vb2, .string vs2, .slice la2 ll2 lc2, .int .i64 f2, .int .u64 (c2 : Int), .int .i64 m2] 38)) w.heap.size (.int .i64 k) (.int .i64 t) (.int .i64 n) (.int .i64 d) (.string s) (.int .i64 vk) (.int .i64 vx) (.int .u64 vb) (.string vs) (.slice la ll lc) (.int .i64 f) (.int .u64 (c : Int)) (.int .i64 m)) := (At13.box w (.int .i64 k) (.int .i64 t) (.int .i64 n) (.int .i64 d) (.string s) (.int .i64 vk) (.int .i64 vx) (.int .u64 vb) (.string vs) (.slice la ll lc) (.int .i64 f) (.int .u64 (c : Int)) (.int .i64 m)).below (bel1 _ _)
  have HY : Hid (At13 ((w.alloc (.cells #[.int .i64 k, .int .i64 t, .int .i64 n, .int .i64 d, .string s, .int .i64 vk, .int .i64 vx, .int .u64 vb, .string vs, .slice la ll lc, .int .i64 f, .int .u64 (c : Int), .int .i64 m] 38)).alloc (.cells #[.int .i64 k, .int .i64 t, .int .i64 n, .int .i64 d, .string s, .int .i64 vk2, .int .i64 vx2, .int .u64 vb2, .string vs2, .slice la2 ll2 lc2, .int .i64 f2, .int .u64 (c2 : Int), .int .i64 m2] 38)) (w.heap.size + 1) (.int .i64 k) (.int .i64 t) (.int .i64 n) (.int .i64 d) (.string s) (.int .i64 vk2) (.int .i64 vx2) (.int .u64 vb2) (.string vs2) (.slice la2 ll2 lc2) (.int .i64 f2) (.int .u64 (c2 : Int)) (.int .i64 m2)) := by
    have := At13.box (w.alloc (.cells #[.int .i64 k, .int .i64 t, .int .i64 n, .int .i64 d, .string s, .int .i64 vk, .int .i64 vx, .int .u64 vb, .string vs, .slice la ll lc, .int .i64 f, .int .u64 (c : Int), .int .i64 m] 38)) (.int .i64 k) (.int .i64 t) (.int .i64 n) (.int .i64 d) (.string s) (.int .i64 vk2) (.int .i64 vx2) (.int .u64 vb2) (.string vs2) (.slice la2 ll2 lc2) (.int .i64 f2) (.int .u64 (c2 : Int)) (.int .i64 m2)
    have hz : (w.alloc (.cells #[.int .i64 k, .int .i64 t, .int .i64 n, .int .i64 d, .string s, .int .i64 vk, .int .i64 vx, .int .u64 vb, .string vs, .slice la ll lc, .int .i64 f, .int .u64 (c : Int), .int .i64 m] 38)).heap.size = w.heap.size + 1 := by simp
    rw [hz] at this
    exact this
  go_enter Try.func21, Try.ntmps21
  go_wp2_with fail
  refine Calls.mono (SC.out _ ?_) ?_
  · exact bel2 (bel1 _ _) (bel1 _ _)
  rintro e w1 ⟨⟨r, rfl, hr⟩, hb⟩
  have HB : Hid (Below w.heap.size w w1) := bel2 (bel2 (bel1 _ _) (bel1 _ _)) hb
  have HR : Hid (r = true ↔ tv = tv2) := hr
  obtain ⟨a0, a1, a2, a3, a4, a5, a6, a7, a8, a9, a10, a11, a12⟩ := HX.out.below hb
  obtain ⟨b0, b1, b2, b3, b4, b5, b6, b7, b8, b9, b10, b11, b12⟩ := HY.out.below hb
  clear hr hb
  cases r with
  | false =>
    go_wp2_with fail
    exact HF.out false _ (by have := HR.out; simp at this; simp [this]) HB.out
  | true =>
    have hv := HR.out.1 rfl
    clear HR
    go_wp2_with fail
    all_goals first
      | (refine HF.out true _ ?_ HB.out; refine ⟨fun _ => ⟨trivial, trivial, trivial, trivial, trivial, hv, ?_, ?_, ?_⟩, fun _ => rfl⟩ <;> (first | rfl | assumption | omega))
      | (refine HF.out false _ ?_ HB.out; simp_all; done)
      | (refine HF.out false _ ?_ HB.out; simp only [Bool.false_eq_true, false_iff]; rintro ⟨-, -, -, -, -, -, q1, q2, q3⟩; omega)
/-- The world while an event is cloned: its own box, and its result's. -/
structure Mc (w W : World) (c0 c1 c2 c3 c4 c5 c6 c7 c8 c9 c10 c11 c12 : Value) : Prop where
  q1 : w.heap.size + 1 < W.heap.size
  own : At13 W w.heap.size c0 c1 c2 c3 c4 c5 c6 c7 c8 c9 c10 c11 c12
  ofr : ∀ o, W.frozen? ⟨w.heap.size, o, none⟩ = false
  res : At13 W (w.heap.size + 1) (.int .i64 0) (.int .i64 0) (.int .i64 0) (.int .i64 0) (.string ⟨#[]⟩) (.int .i64 0) (.int .i64 0) (.int .u64 0) (.string ⟨#[]⟩) (.slice none 0 0) (.int .i64 0) (.int .u64 0) (.int .i64 0)
  rfr : ∀ o, W.frozen? ⟨w.heap.size + 1, o, none⟩ = false
  bel : Below w.heap.size w W
theorem Mc.step {w W w' : World} {c0 c1 c2 c3 c4 c5 c6 c7 c8 c9 c10 c11 c12 : Value} (m : Mc w W c0 c1 c2 c3 c4 c5 c6 c7 c8 c9 c10 c11 c12) (hb : Below W.heap.size W w') : Mc w w' c0 c1 c2 c3 c4 c5 c6 c7 c8 c9 c10 c11 c12 := by
  have b := m.q1
  have := hb.size
  exact ⟨by omega, m.own.below hb, fun o => (hb.frozen (p := ⟨w.heap.size, o, none⟩) (show w.heap.size < W.heap.size by omega)).trans (m.ofr o), m.res.below hb, fun o => (hb.frozen (p := ⟨w.heap.size + 1, o, none⟩) (show w.heap.size + 1 < W.heap.size by omega)).trans (m.rfr o), bel2 m.bel hb⟩
theorem Mc.put {w W : World} {i : Nat} {c0 c1 c2 c3 c4 c5 c6 c7 c8 c9 c10 c11 c12 d0 d1 d2 d3 d4 d5 d6 d7 d8 d9 d10 d11 d12 : Value} (m : Mc w W c0 c1 c2 c3 c4 c5 c6 c7 c8 c9 c10 c11 c12) (u : Value) (h5 : At13 (W.setCell ⟨w.heap.size, i, none⟩ u) w.heap.size d0 d1 d2 d3 d4 d5 d6 d7 d8 d9 d10 d11 d12) : Mc w (W.setCell ⟨w.heap.size, i, none⟩ u) d0 d1 d2 d3 d4 d5 d6 d7 d8 d9 d10 d11 d12 := by
  have b := m.q1
  have hb : ∀ B, B ≠ w.heap.size → (W.setCell ⟨w.heap.size, i, none⟩ u).heap[B]? = W.heap[B]? := fun B hB => Below.heap_setCell _ _ _ _ hB
  have hsz : (W.setCell ⟨w.heap.size, i, none⟩ u).heap.size = W.heap.size := by simp [World.setCell]
  exact ⟨by rw [hsz]; exact b, h5, fun o => (World.frozen?_setCell _ _ _ _).trans (m.ofr o), m.res.keep (hb _ (by omega)), fun o => (World.frozen?_setCell _ _ _ _).trans (m.rfr o), m.bel.trans ((KB.setCell w.heap.size W i u).below (Nat.le_refl _) (by omega))⟩
theorem Mc.first (w : World) (c0 c1 c2 c3 c4 c5 c6 c7 c8 c9 c10 c11 c12 : Value) : Mc w ((w.alloc (.cells #[c0, c1, c2, c3, c4, c5, c6, c7, c8, c9, c10, c11, c12] 38)).alloc (.cells #[.int .i64 0, .int .i64 0, .int .i64 0, .int .i64 0, .string ⟨#[]⟩, .int .i64 0, .int .i64 0, .int .u64 0, .string ⟨#[]⟩, .slice none 0 0, .int .i64 0, .int .u64 0, .int .i64 0] 38)) c0 c1 c2 c3 c4 c5 c6 c7 c8 c9 c10 c11 c12 := by
  have hz : (w.alloc (.cells #[c0, c1, c2, c3, c4, c5, c6, c7, c8, c9, c10, c11, c12] 38)).heap.size = w.heap.size + 1 := by simp
  have b1 := bel1 w (.cells #[c0, c1, c2, c3, c4, c5, c6, c7, c8, c9, c10, c11, c12] 38)
  have b2 := bel1 (w.alloc (.cells #[c0, c1, c2, c3, c4, c5, c6, c7, c8, c9, c10, c11, c12] 38)) (.cells #[.int .i64 0, .int .i64 0, .int .i64 0, .int .i64 0, .string ⟨#[]⟩, .int .i64 0, .int .i64 0, .int .u64 0, .string ⟨#[]⟩, .slice none 0 0, .int .i64 0, .int .u64 0, .int .i64 0] 38)
  refine ⟨by simp, (At13.box w c0 c1 c2 c3 c4 c5 c6 c7 c8 c9 c10 c11 c12).below b2, fun o => (b2.frozen (p := ⟨w.heap.size, o, none⟩) (by show w.heap.size < _; omega)).trans (freshP w _ _ o), ?_, fun o => ?_, bel2 b1 b2⟩
  · have := At13.box (w.alloc (.cells #[c0, c1, c2, c3, c4, c5, c6, c7, c8, c9, c10, c11, c12] 38)) (.int .i64 0) (.int .i64 0) (.int .i64 0) (.int .i64 0) (.string ⟨#[]⟩) (.int .i64 0) (.int .i64 0) (.int .u64 0) (.string ⟨#[]⟩) (.slice none 0 0) (.int .i64 0) (.int .u64 0) (.int .i64 0)
    rw [hz] at this
    exact this
  · have := freshP (w.alloc (.cells #[c0, c1, c2, c3, c4, c5, c6, c7, c8, c9, c10, c11, c12] 38)) #[.int .i64 0, .int .i64 0, .int .i64 0, .int .i64 0, .string ⟨#[]⟩, .int .i64 0, .int .i64 0, .int .u64 0, .string ⟨#[]⟩, .slice none 0 0, .int .i64 0, .int .u64 0, .int .i64 0] 38 o
    rw [hz] at this
    exact this
/-- What a clone is: the same event, whose value lies elsewhere. -/
def ClP (nn : Nat) (tv : Tv) (k t n d : Int) (s : ByteArray) (f : Int) (c : Nat) (m : Int) (w : World) (e : Ending) (w' : World) : Prop :=
  ∃ (vk2 vx2 vb2 : Int) (vs2 : ByteArray) (la2 : Option Addr) (ll2 lc2 : Nat), e = .returned (.agg #[.int .i64 k, .int .i64 t, .int .i64 n, .int .i64 d, .string s, .int .i64 vk2, .int .i64 vx2, .int .u64 vb2, .string vs2, .slice la2 ll2 lc2, .int .i64 f, .int .u64 (c : Int), .int .i64 m]) ∧ IsN w.heap.size w' (nn + 1) (.agg #[.int .i64 vk2, .int .i64 vx2, .int .u64 vb2, .string vs2, .slice la2 ll2 lc2]) tv ∧ Below w.heap.size w w'
set_option maxHeartbeats 4000000 in
set_option maxRecDepth 100000 in
theorem evclone_calls (nn : Nat) (tv : Tv) (k t n d : Int) (s : ByteArray) (vk vx vb : Int) (vs : ByteArray) (la : Option Addr) (ll lc : Nat) (f : Int) (c : Nat) (m : Int) (w : World) (h : Is w (nn + 1) (.agg #[.int .i64 vk, .int .i64 vx, .int .u64 vb, .string vs, .slice la ll lc]) tv) (hs : SmallW (nn + 1) tv) :
    Calls Try.prog 22 #[(.agg #[.int .i64 k, .int .i64 t, .int .i64 n, .int .i64 d, .string s, .int .i64 vk, .int .i64 vx, .int .u64 vb, .string vs, .slice la ll lc, .int .i64 f, .int .u64 (c : Int), .int .i64 m])] w (ClP nn tv k t n d s f c m w) := by
  have M0 : Hid (Mc w ((w.alloc (.cells #[.int .i64 k, .int .i64 t, .int .i64 n, .int .i64 d, .string s, .int .i64 vk, .int .i64 vx, .int .u64 vb, .string vs, .slice la ll lc, .int .i64 f, .int .u64 (c : Int), .int .i64 m] 38)).alloc (.cells #[.int .i64 0, .int .i64 0, .int .i64 0, .int .i64 0, .string ⟨#[]⟩, .int .i64 0, .int .i64 0, .int .u64 0, .string ⟨#[]⟩, .slice none 0 0, .int .i64 0, .int .u64 0, .int .i64 0] 38)) (.int .i64 k) (.int .i64 t) (.int .i64 n) (.int .i64 d) (.string s) (.int .i64 vk) (.int .i64 vx) (.int .u64 vb) (.string vs) (.slice la ll lc) (.int .i64 f) (.int .u64 (c : Int)) (.int .i64 m)) := Mc.first w (.int .i64 k) (.int .i64 t) (.int .i64 n) (.int .i64 d) (.string s) (.int .i64 vk) (.int .i64 vx) (.int .u64 vb) (.string vs) (.slice la ll lc) (.int .i64 f) (.int .u64 (c : Int)) (.int .i64 m)
  have C0 : Hid (∀ W, Below w.heap.size w W → _) := fun W hB => cloneW (nn + 1) (.agg #[.int .i64 vk, .int .i64 vx, .int .u64 vb, .string vs, .slice la ll lc]) tv W (h.below hB) hs
  clear h hs
  obtain ⟨W0, hW0⟩ : ∃ W0, W0 = ((w.alloc (.cells #[.int .i64 k, .int .i64 t, .int .i64 n, .int .i64 d, .string s, .int .i64 vk, .int .i64 vx, .int .u64 vb, .string vs, .slice la ll lc, .int .i64 f, .int .u64 (c : Int), .int .i64 m] 38)).alloc (.cells #[.int .i64 0, .int .i64 0, .int .i64 0, .int .i64 0, .string ⟨#[]⟩, .int .i64 0, .int .i64 0, .int .u64 0, .string ⟨#[]⟩, .slice none 0 0, .int .i64 0, .int .u64 0, .int .i64 0] 38)) := ⟨_, rfl⟩
  rw [← hW0] at M0
  have HW0 : Hid (W0 = ((w.alloc (.cells #[.int .i64 k, .int .i64 t, .int .i64 n, .int .i64 d, .string s, .int .i64 vk, .int .i64 vx, .int .u64 vb, .string vs, .slice la ll lc, .int .i64 f, .int .u64 (c : Int), .int .i64 m] 38)).alloc (.cells #[.int .i64 0, .int .i64 0, .int .i64 0, .int .i64 0, .string ⟨#[]⟩, .int .i64 0, .int .i64 0, .int .u64 0, .string ⟨#[]⟩, .slice none 0 0, .int .i64 0, .int .u64 0, .int .i64 0] 38))) := hW0
  clear hW0
  go_enter Try.func22, Try.ntmps22
  go_upto_region 1 with fail
  rw [← HW0.out]
  obtain ⟨a0, a1, a2, a3, a4, a5, a6, a7, a8, a9, a10, a11, a12⟩ := M0.out.own
  go_wp2_with fail
  refine Calls.mono (C0.out _ ?_) ?_
  · exact M0.out.bel
  rintro e w1 ⟨⟨v', rfl, hi⟩, hb⟩
  obtain ⟨vk2, vx2, vb2, vs2, la2, ll2, lc2, rfl⟩ := hi.shape
  have M1 := M0.out.step hb
  have M1x0 : Mc w (w1.setCell ⟨w.heap.size, 5, none⟩ (.int .i64 vk2)) (.int .i64 k) (.int .i64 t) (.int .i64 n) (.int .i64 d) (.string s) (.int .i64 vk2) (.int .i64 vx) (.int .u64 vb) (.string vs) (.slice la ll lc) (.int .i64 f) (.int .u64 (c : Int)) (.int .i64 m) := Mc.put M1 _ (M1.own.set5 _)
  have M1x1 : Mc w ((w1.setCell ⟨w.heap.size, 5, none⟩ (.int .i64 vk2)).setCell ⟨w.heap.size, 6, none⟩ (.int .i64 vx2)) (.int .i64 k) (.int .i64 t) (.int .i64 n) (.int .i64 d) (.string s) (.int .i64 vk2) (.int .i64 vx2) (.int .u64 vb) (.string vs) (.slice la ll lc) (.int .i64 f) (.int .u64 (c : Int)) (.int .i64 m) := Mc.put M1x0 _ (M1x0.own.set6 _)
  have M1x2 : Mc w (((w1.setCell ⟨w.heap.size, 5, none⟩ (.int .i64 vk2)).setCell ⟨w.heap.size, 6, none⟩ (.int .i64 vx2)).setCell ⟨w.heap.size, 7, none⟩ (.int .u64 vb2)) (.int .i64 k) (.int .i64 t) (.int .i64 n) (.int .i64 d) (.string s) (.int .i64 vk2) (.int .i64 vx2) (.int .u64 vb2) (.string vs) (.slice la ll lc) (.int .i64 f) (.int .u64 (c : Int)) (.int .i64 m) := Mc.put M1x1 _ (M1x1.own.set7 _)
  have M1x3 : Mc w ((((w1.setCell ⟨w.heap.size, 5, none⟩ (.int .i64 vk2)).setCell ⟨w.heap.size, 6, none⟩ (.int .i64 vx2)).setCell ⟨w.heap.size, 7, none⟩ (.int .u64 vb2)).setCell ⟨w.heap.size, 8, none⟩ (.string vs2)) (.int .i64 k) (.int .i64 t) (.int .i64 n) (.int .i64 d) (.string s) (.int .i64 vk2) (.int .i64 vx2) (.int .u64 vb2) (.string vs2) (.slice la ll lc) (.int .i64 f) (.int .u64 (c : Int)) (.int .i64 m) := Mc.put M1x2 _ (M1x2.own.set8 _)
  have M1x4 : Mc w (((((w1.setCell ⟨w.heap.size, 5, none⟩ (.int .i64 vk2)).setCell ⟨w.heap.size, 6, none⟩ (.int .i64 vx2)).setCell ⟨w.heap.size, 7, none⟩ (.int .u64 vb2)).setCell ⟨w.heap.size, 8, none⟩ (.string vs2)).setCell ⟨w.heap.size, 9, none⟩ (.slice la2 ll2 lc2)) (.int .i64 k) (.int .i64 t) (.int .i64 n) (.int .i64 d) (.string s) (.int .i64 vk2) (.int .i64 vx2) (.int .u64 vb2) (.string vs2) (.slice la2 ll2 lc2) (.int .i64 f) (.int .u64 (c : Int)) (.int .i64 m) := Mc.put M1x3 _ (M1x3.own.set9 _)
  have hi0 := M0.out.q1
  have I1 : Hid (IsN (w.heap.size + 1 + 1) (((((w1.setCell ⟨w.heap.size, 5, none⟩ (.int .i64 vk2)).setCell ⟨w.heap.size, 6, none⟩ (.int .i64 vx2)).setCell ⟨w.heap.size, 7, none⟩ (.int .u64 vb2)).setCell ⟨w.heap.size, 8, none⟩ (.string vs2)).setCell ⟨w.heap.size, 9, none⟩ (.slice la2 ll2 lc2)) (nn + 1) (.agg #[.int .i64 vk2, .int .i64 vx2, .int .u64 vb2, .string vs2, .slice la2 ll2 lc2]) tv) := IsN.put (by omega) _ (IsN.put (by omega) _ (IsN.put (by omega) _ (IsN.put (by omega) _ (IsN.put (by omega) _ (hi.lower (by omega))))))
  obtain ⟨W1, hW1⟩ : ∃ W1, W1 = (((((w1.setCell ⟨w.heap.size, 5, none⟩ (.int .i64 vk2)).setCell ⟨w.heap.size, 6, none⟩ (.int .i64 vx2)).setCell ⟨w.heap.size, 7, none⟩ (.int .u64 vb2)).setCell ⟨w.heap.size, 8, none⟩ (.string vs2)).setCell ⟨w.heap.size, 9, none⟩ (.slice la2 ll2 lc2)) := ⟨_, rfl⟩
  have M2 : Hid (Mc w W1 (.int .i64 k) (.int .i64 t) (.int .i64 n) (.int .i64 d) (.string s) (.int .i64 vk2) (.int .i64 vx2) (.int .u64 vb2) (.string vs2) (.slice la2 ll2 lc2) (.int .i64 f) (.int .u64 (c : Int)) (.int .i64 m)) := by rw [hW1]; exact M1x4
  rw [← hW1] at I1
  have HW1 : Hid (W1 = (((((w1.setCell ⟨w.heap.size, 5, none⟩ (.int .i64 vk2)).setCell ⟨w.heap.size, 6, none⟩ (.int .i64 vx2)).setCell ⟨w.heap.size, 7, none⟩ (.int .u64 vb2)).setCell ⟨w.heap.size, 8, none⟩ (.string vs2)).setCell ⟨w.heap.size, 9, none⟩ (.slice la2 ll2 lc2))) := hW1
  clear a0 a1 a2 a3 a4 a5 a6 a7 a8 a9 a10 a11 a12
  obtain ⟨a0, a1, a2, a3, a4, a5, a6, a7, a8, a9, a10, a11, a12⟩ := M1.own
  have f5 := M1.ofr 5
  have f6 := M1.ofr 6
  have f7 := M1.ofr 7
  have f8 := M1.ofr 8
  have f9 := M1.ofr 9
  clear hW1 M1 M1x0 M1x1 M1x2 M1x3 M1x4 hi hb hi0
  go_upto_region 2 with fail
  rw [← HW1.out]
  clear a0 a1 a2 a3 a4 a5 a6 a7 a8 a9 a10 a11 a12 f5 f6 f7 f8 f9
  obtain ⟨a0, a1, a2, a3, a4, a5, a6, a7, a8, a9, a10, a11, a12⟩ := M2.out.own
  obtain ⟨b0, b1, b2, b3, b4, b5, b6, b7, b8, b9, b10, b11, b12⟩ := M2.out.res
  have f0 := M2.out.rfr 0
  have f1 := M2.out.rfr 1
  have f2 := M2.out.rfr 2
  have f3 := M2.out.rfr 3
  have f4 := M2.out.rfr 4
  have f5 := M2.out.rfr 5
  have f6 := M2.out.rfr 6
  have f7 := M2.out.rfr 7
  have f8 := M2.out.rfr 8
  have f9 := M2.out.rfr 9
  have f10 := M2.out.rfr 10
  have f11 := M2.out.rfr 11
  have f12 := M2.out.rfr 12
  go_wp2_with fail
  refine bodyPost_ret (ret13 Try.results22 _ (g := w.heap.size + 1) rfl (set13_at M2.out.res (.int .i64 k) (.int .i64 t) (.int .i64 n) (.int .i64 d) (.string s) (.int .i64 vk2) (.int .i64 vx2) (.int .u64 vb2) (.string vs2) (.slice la2 ll2 lc2) (.int .i64 f) (.int .u64 (c : Int)) (.int .i64 m))) rfl ?_
  have hq := M2.out.q1
  have kb := set13_kb W1 (w.heap.size + 1) (.int .i64 k) (.int .i64 t) (.int .i64 n) (.int .i64 d) (.string s) (.int .i64 vk2) (.int .i64 vx2) (.int .u64 vb2) (.string vs2) (.slice la2 ll2 lc2) (.int .i64 f) (.int .u64 (c : Int)) (.int .i64 m)
  exact ⟨vk2, vx2, vb2, vs2, la2, ll2, lc2, rfl, (IsN.kb kb (by omega) I1.out).lower (by omega), M2.out.bel.trans (kb.below (by omega) (by omega))⟩
/-- The numbers of a policy fit their kinds. -/
structure PFit (f : Int) (c : Nat) (m : Int) : Prop where
  f0 : -9223372036854775808 ≤ f
  f1 : f ≤ 9223372036854775807
  c1 : c < 18446744073709551616
  m0 : -9223372036854775808 ≤ m
  m1 : m ≤ 9223372036854775807
theorem cells29 : Try.prog.cellsOf 38 = 13 := by kernel_rfl
theorem cells27 : Try.prog.cellsOf 36 = 3 := by kernel_rfl
theorem cells3' : Try.prog.cellsOf 3 = 1 := by kernel_rfl
theorem cells9' : Try.prog.cellsOf 9 = 1 := by kernel_rfl
theorem cells22' : Try.prog.cellsOf 31 = 1 := by kernel_rfl
theorem list13 {α : Type} : ∀ {l : List α}, l.length = 13 → ∃ e0 e1 e2 e3 e4 e5 e6 e7 e8 e9 e10 e11 e12, l = [e0, e1, e2, e3, e4, e5, e6, e7, e8, e9, e10, e11, e12]
  | [e0, e1, e2, e3, e4, e5, e6, e7, e8, e9, e10, e11, e12], _ => ⟨e0, e1, e2, e3, e4, e5, e6, e7, e8, e9, e10, e11, e12, rfl⟩
theorem list7 {α : Type} : ∀ {l : List α}, l.length = 7 → ∃ a b c d e f g, l = [a, b, c, d, e, f, g]
  | [a, b, c, d, e, f, g], _ => ⟨a, b, c, d, e, f, g, rfl⟩
theorem list3 {α : Type} : ∀ {l : List α}, l.length = 3 → ∃ a b c, l = [a, b, c]
  | [a, b, c], _ => ⟨a, b, c, rfl⟩
theorem open_po {H : Type} {enc : TypeId × Value → H} {W : World} {base : Nat} {spare : Nat → Bool} {held : Bool} (fuel : Nat) (cs : List Value) (x : DataW H × List MemPlace) (h : DataW.trod enc Try.prog W base spare held fuel 36 cs = some x) :
    ∃ (f : Int) (c : Nat) (m : Int), cs = [.int .i64 f, .int .u64 (c : Int), .int .i64 m] ∧ PFit f c m := by
  obtain ⟨xs, k, hk, hxy, hlen, hxl, hf⟩ := DataW.trod_struct Try.underlying36 h
  rw [cells27] at hlen
  obtain ⟨c0, c1, c2, rfl⟩ := list3 hlen
  obtain ⟨y0, y1, y2, rfl⟩ := list3 (l := xs) hxl
  have g0 := hf 0 _ rfl
  have g1 := hf 1 _ rfl
  have g2 := hf 2 _ rfl
  clear hf hxl hlen hxy h
  simp only [List.getElem?_cons_zero, List.getElem?_cons_succ] at g0 g1 g2
  obtain ⟨n0, e0, _, w0⟩ := DataW.trod_int Try.underlying3 g0
  obtain ⟨n1, e1, _, w1⟩ := DataW.trod_int Try.underlying31 g1
  obtain ⟨n2, e2, _, w2⟩ := DataW.trod_int Try.underlying3 g2
  cases e0; cases e1; cases e2
  have g0 := lo64 w0
  have g1 := lou64 w1
  have g2 := lo64 w2
  refine ⟨n0, n1.toNat, n2, ?_, ⟨g0.1, g0.2, by omega, g2.1, g2.2⟩⟩
  rw [Int.toNat_of_nonneg g1.1]
set_option maxRecDepth 100000 in
theorem open_evW {H : Type} {enc : TypeId × Value → H} {W : World} {base : Nat} {spare : Nat → Bool} {held : Bool} (fuel : Nat) (cs : List Value) (x : DataW H × List MemPlace) (h : DataW.trod enc Try.prog W base spare held fuel 38 cs = some x) (hwt : ∀ y ∈ x.1.weights Try.prog 38, y ≤ reachBytes) :
    ∃ (k t n d : Int) (s : ByteArray) (vk vx vb : Int) (vs : ByteArray) (la : Option Addr) (ll lc : Nat) (f : Int) (c : Nat) (m : Int) (nn : Nat) (tv : Tv), cs = [.int .i64 k, .int .i64 t, .int .i64 n, .int .i64 d, .string s, .int .i64 vk, .int .i64 vx, .int .u64 vb, .string vs, .slice la ll lc, .int .i64 f, .int .u64 (c : Int), .int .i64 m] ∧ Is W (nn + 1) (.agg #[.int .i64 vk, .int .i64 vx, .int .u64 vb, .string vs, .slice la ll lc]) tv ∧ SmallW (nn + 1) tv ∧ PFit f c m := by
  obtain ⟨xs, q, hk, hxy, hlen, hxl, hf⟩ := DataW.trod_struct Try.underlying38 h
  rw [cells29] at hlen
  obtain ⟨e0, e1, e2, e3, e4, e5, e6, e7, e8, e9, e10, e11, e12, rfl⟩ := list13 hlen
  obtain ⟨y0, y1, y2, y3, y4, y5, y6, rfl⟩ := list7 (l := xs) hxl
  have hw5 : ∀ y ∈ y5.1.weights Try.prog 34, y ≤ reachBytes := fun y hy => by
    apply hwt
    rw [hxy]
    simp only [DataW.weights, Try.underlying38]
    exact DataW.weights_mem_each (j := 5) rfl rfl y hy
  clear hwt
  have g0 := hf 0 _ rfl
  have g1 := hf 1 _ rfl
  have g2 := hf 2 _ rfl
  have g3 := hf 3 _ rfl
  have g4 := hf 4 _ rfl
  have g5 := hf 5 _ rfl
  have g6 := hf 6 _ rfl
  clear hf hxl hlen hxy h
  simp only [List.getElem?_cons_zero, List.getElem?_cons_succ] at g0 g1 g2 g3 g4 g5 g6
  obtain ⟨n0, p0, _, w0⟩ := DataW.trod_int Try.underlying3 g0
  obtain ⟨n1, p1, _, w1⟩ := DataW.trod_int Try.underlying3 g1
  obtain ⟨n2, p2, _, w2⟩ := DataW.trod_int Try.underlying3 g2
  obtain ⟨n3, p3, _, w3⟩ := DataW.trod_int Try.underlying3 g3
  obtain ⟨s4, p4, _, w4⟩ := DataW.trod_string Try.underlying9 g4
  cases p0; cases p1; cases p2; cases p3; cases p4
  obtain ⟨v0, v1, v2, v3, v4, tv, nn, p5, hi, hsm⟩ := open_valW q _ _ g5 hw5
  obtain ⟨f, c, m, p6, hp⟩ := open_po q _ _ g6
  cases p5
  cases p6
  cases nn with
  | zero => exact hi.elim
  | succ nn =>
    obtain ⟨vk, vx, vb, vs, la, ll, lc, rfl, rfl, rfl, rfl, rfl⟩ := hi.shape
    exact ⟨n0, n1, n2, n3, s4, vk, vx, vb, vs, la, ll, lc, f, c, m, nn, tv, rfl, hi, hsm, hp⟩
end Go.Proofs.Ytdlllehoeodekaa
