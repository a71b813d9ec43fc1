/- The contracts of readParts, Read and Decode. -/
import Derived.Test.YtacmlholbnddpaaGA
import Derived.Test.YtacmlholbnddpaaLN
import Derived.Test.YtacmlholbnddpaaXF
namespace Go.Proofs.Ytacmlholbnddpaa
open Go.ChangeShapes Go.WideShapes Go.ChangeAt Go.RowKit
theorem At13.keep {w w' : World} {B : Nat} {c0 c1 c2 c3 c4 c5 c6 c7 c8 c9 c10 c11 c12 : Value} (h : At13 w B c0 c1 c2 c3 c4 c5 c6 c7 c8 c9 c10 c11 c12) (hk : w'.heap[B]? = w.heap[B]?) : At13 w' B c0 c1 c2 c3 c4 c5 c6 c7 c8 c9 c10 c11 c12 := by
  have f : ∀ o, w'.cell? ⟨B, o, none⟩ = w.cell? ⟨B, o, none⟩ := fun o => World.cell?_of_block hk
  obtain ⟨h0, h1, h2, h3, h4, h5, h6, h7, h8, h9, h10, h11, h12⟩ := h
  exact ⟨(f 0).trans h0, (f 1).trans h1, (f 2).trans h2, (f 3).trans h3, (f 4).trans h4, (f 5).trans h5, (f 6).trans h6, (f 7).trans h7, (f 8).trans h8, (f 9).trans h9, (f 10).trans h10, (f 11).trans h11, (f 12).trans h12⟩
theorem info29 : (Try.prog.info? 39).map (fun i => (i.zero, i.size, i.bytes)) = some (some (.agg #[.int .i64 0, .int .i64 0, .int .i64 0, .int .i64 0, .string ⟨#[]⟩, .int .i64 0, .int .i64 0, .int .u64 0, .string ⟨#[]⟩, .slice none 0 0, .int .i64 0, .int .u64 0, .int .i64 0]), 13, 136) := by kernel_rfl
theorem load13 {w : World} {g : Nat} {c0 c1 c2 c3 c4 c5 c6 c7 c8 c9 c10 c11 c12 : Value} (h : At13 w g c0 c1 c2 c3 c4 c5 c6 c7 c8 c9 c10 c11 c12) : (loadVar 39 ⟨g, 0, none⟩).run Try.prog w = .ok (.agg #[c0, c1, c2, c3, c4, c5, c6, c7, c8, c9, c10, c11, c12]) w := by
  have hl : (loadCells ⟨g, 0, none⟩ 13).run Try.prog w = .ok #[c0, c1, c2, c3, c4, c5, c6, c7, c8, c9, c10, c11, c12] w :=
    run_loadCells_list (P := Try.prog) w ⟨g, 0, none⟩ [c0, c1, c2, c3, c4, c5, c6, c7, c8, c9, c10, c11, c12] (fun j v hv => by
      rw [add_plain]
      obtain ⟨h0, h1, h2, h3, h4, h5, h6, h7, h8, h9, h10, h11, h12⟩ := h
      match j, hv with
      | 0, hv => cases hv; exact h0
      | 1, hv => cases hv; exact h1
      | 2, hv => cases hv; exact h2
      | 3, hv => cases hv; exact h3
      | 4, hv => cases hv; exact h4
      | 5, hv => cases hv; exact h5
      | 6, hv => cases hv; exact h6
      | 7, hv => cases hv; exact h7
      | 8, hv => cases hv; exact h8
      | 9, hv => cases hv; exact h9
      | 10, hv => cases hv; exact h10
      | 11, hv => cases hv; exact h11
      | 12, hv => cases hv; exact h12)
  obtain ⟨i0, hi, _, hz1, _⟩ := info_parts info29
  have hagg : (isAgg 39).run Try.prog w = .ok true w := by
    unfold isAgg
    rw [Sem.run_bind, run_underlying Try.underlying39 w]
    rfl
  simp [loadVar, Sem.run_bind, hagg, sizeOf, typeInfo, hi, hz1, hl]
theorem ret13 {fn : Func} {p : Tmp} (h : fn.results = #[.cell p 39]) (tmps : Array Value) {w : World} {g : Nat} {c0 c1 c2 c3 c4 c5 c6 c7 c8 c9 c10 c11 c12 : Value} (hp : tmps.getD p undef = .pointer (some ⟨g, 0, none⟩)) (h5 : At13 w g c0 c1 c2 c3 c4 c5 c6 c7 c8 c9 c10 c11 c12) :
    (results fn tmps).run Try.prog w = .ok (.agg #[c0, c1, c2, c3, c4, c5, c6, c7, c8, c9, c10, c11, c12]) w := by
  have hp' : tmps[p]?.getD undef = .pointer (some ⟨g, 0, none⟩) := by simpa using hp
  simp [results, h, hp', asAddr, load13 h5]
theorem cs13 (w : World) (B o o' : Nat) (u : Value) (h : o ≠ o') : (w.setCell ⟨B, o', none⟩ u).cell? ⟨B, o, none⟩ = w.cell? ⟨B, o, none⟩ :=
  World.cell?_setCell_other w _ _ u (fun e => h (by injection e with _ e2; exact e2.symm))
theorem At13.set0 {W : World} {q : Nat} {c0 c1 c2 c3 c4 c5 c6 c7 c8 c9 c10 c11 c12 : Value} (h : At13 W q c0 c1 c2 c3 c4 c5 c6 c7 c8 c9 c10 c11 c12) (u : Value) : At13 (W.setCell ⟨q, 0, none⟩ u) q u c1 c2 c3 c4 c5 c6 c7 c8 c9 c10 c11 c12 := by
  obtain ⟨h0, h1, h2, h3, h4, h5, h6, h7, h8, h9, h10, h11, h12⟩ := h
  exact ⟨World.cell?_setCell_same _ _ _ h0, (cs13 _ _ _ _ _ (by decide)).trans h1, (cs13 _ _ _ _ _ (by decide)).trans h2, (cs13 _ _ _ _ _ (by decide)).trans h3, (cs13 _ _ _ _ _ (by decide)).trans h4, (cs13 _ _ _ _ _ (by decide)).trans h5, (cs13 _ _ _ _ _ (by decide)).trans h6, (cs13 _ _ _ _ _ (by decide)).trans h7, (cs13 _ _ _ _ _ (by decide)).trans h8, (cs13 _ _ _ _ _ (by decide)).trans h9, (cs13 _ _ _ _ _ (by decide)).trans h10, (cs13 _ _ _ _ _ (by decide)).trans h11, (cs13 _ _ _ _ _ (by decide)).trans h12⟩
theorem At13.set1 {W : World} {q : Nat} {c0 c1 c2 c3 c4 c5 c6 c7 c8 c9 c10 c11 c12 : Value} (h : At13 W q c0 c1 c2 c3 c4 c5 c6 c7 c8 c9 c10 c11 c12) (u : Value) : At13 (W.setCell ⟨q, 1, none⟩ u) q c0 u c2 c3 c4 c5 c6 c7 c8 c9 c10 c11 c12 := by
  obtain ⟨h0, h1, h2, h3, h4, h5, h6, h7, h8, h9, h10, h11, h12⟩ := h
  exact ⟨(cs13 _ _ _ _ _ (by decide)).trans h0, World.cell?_setCell_same _ _ _ h1, (cs13 _ _ _ _ _ (by decide)).trans h2, (cs13 _ _ _ _ _ (by decide)).trans h3, (cs13 _ _ _ _ _ (by decide)).trans h4, (cs13 _ _ _ _ _ (by decide)).trans h5, (cs13 _ _ _ _ _ (by decide)).trans h6, (cs13 _ _ _ _ _ (by decide)).trans h7, (cs13 _ _ _ _ _ (by decide)).trans h8, (cs13 _ _ _ _ _ (by decide)).trans h9, (cs13 _ _ _ _ _ (by decide)).trans h10, (cs13 _ _ _ _ _ (by decide)).trans h11, (cs13 _ _ _ _ _ (by decide)).trans h12⟩
theorem At13.set2 {W : World} {q : Nat} {c0 c1 c2 c3 c4 c5 c6 c7 c8 c9 c10 c11 c12 : Value} (h : At13 W q c0 c1 c2 c3 c4 c5 c6 c7 c8 c9 c10 c11 c12) (u : Value) : At13 (W.setCell ⟨q, 2, none⟩ u) q c0 c1 u c3 c4 c5 c6 c7 c8 c9 c10 c11 c12 := by
  obtain ⟨h0, h1, h2, h3, h4, h5, h6, h7, h8, h9, h10, h11, h12⟩ := h
  exact ⟨(cs13 _ _ _ _ _ (by decide)).trans h0, (cs13 _ _ _ _ _ (by decide)).trans h1, World.cell?_setCell_same _ _ _ h2, (cs13 _ _ _ _ _ (by decide)).trans h3, (cs13 _ _ _ _ _ (by decide)).trans h4, (cs13 _ _ _ _ _ (by decide)).trans h5, (cs13 _ _ _ _ _ (by decide)).trans h6, (cs13 _ _ _ _ _ (by decide)).trans h7, (cs13 _ _ _ _ _ (by decide)).trans h8, (cs13 _ _ _ _ _ (by decide)).trans h9, (cs13 _ _ _ _ _ (by decide)).trans h10, (cs13 _ _ _ _ _ (by decide)).trans h11, (cs13 _ _ _ _ _ (by decide)).trans h12⟩
theorem At13.set3 {W : World} {q : Nat} {c0 c1 c2 c3 c4 c5 c6 c7 c8 c9 c10 c11 c12 : Value} (h : At13 W q c0 c1 c2 c3 c4 c5 c6 c7 c8 c9 c10 c11 c12) (u : Value) : At13 (W.setCell ⟨q, 3, none⟩ u) q c0 c1 c2 u c4 c5 c6 c7 c8 c9 c10 c11 c12 := by
  obtain ⟨h0, h1, h2, h3, h4, h5, h6, h7, h8, h9, h10, h11, h12⟩ := h
  exact ⟨(cs13 _ _ _ _ _ (by decide)).trans h0, (cs13 _ _ _ _ _ (by decide)).trans h1, (cs13 _ _ _ _ _ (by decide)).trans h2, World.cell?_setCell_same _ _ _ h3, (cs13 _ _ _ _ _ (by decide)).trans h4, (cs13 _ _ _ _ _ (by decide)).trans h5, (cs13 _ _ _ _ _ (by decide)).trans h6, (cs13 _ _ _ _ _ (by decide)).trans h7, (cs13 _ _ _ _ _ (by decide)).trans h8, (cs13 _ _ _ _ _ (by decide)).trans h9, (cs13 _ _ _ _ _ (by decide)).trans h10, (cs13 _ _ _ _ _ (by decide)).trans h11, (cs13 _ _ _ _ _ (by decide)).trans h12⟩
theorem At13.set4 {W : World} {q : Nat} {c0 c1 c2 c3 c4 c5 c6 c7 c8 c9 c10 c11 c12 : Value} (h : At13 W q c0 c1 c2 c3 c4 c5 c6 c7 c8 c9 c10 c11 c12) (u : Value) : At13 (W.setCell ⟨q, 4, none⟩ u) q c0 c1 c2 c3 u c5 c6 c7 c8 c9 c10 c11 c12 := by
  obtain ⟨h0, h1, h2, h3, h4, h5, h6, h7, h8, h9, h10, h11, h12⟩ := h
  exact ⟨(cs13 _ _ _ _ _ (by decide)).trans h0, (cs13 _ _ _ _ _ (by decide)).trans h1, (cs13 _ _ _ _ _ (by decide)).trans h2, (cs13 _ _ _ _ _ (by decide)).trans h3, World.cell?_setCell_same _ _ _ h4, (cs13 _ _ _ _ _ (by decide)).trans h5, (cs13 _ _ _ _ _ (by decide)).trans h6, (cs13 _ _ _ _ _ (by decide)).trans h7, (cs13 _ _ _ _ _ (by decide)).trans h8, (cs13 _ _ _ _ _ (by decide)).trans h9, (cs13 _ _ _ _ _ (by decide)).trans h10, (cs13 _ _ _ _ _ (by decide)).trans h11, (cs13 _ _ _ _ _ (by decide)).trans h12⟩
theorem At13.set5 {W : World} {q : Nat} {c0 c1 c2 c3 c4 c5 c6 c7 c8 c9 c10 c11 c12 : Value} (h : At13 W q c0 c1 c2 c3 c4 c5 c6 c7 c8 c9 c10 c11 c12) (u : Value) : At13 (W.setCell ⟨q, 5, none⟩ u) q c0 c1 c2 c3 c4 u c6 c7 c8 c9 c10 c11 c12 := by
  obtain ⟨h0, h1, h2, h3, h4, h5, h6, h7, h8, h9, h10, h11, h12⟩ := h
  exact ⟨(cs13 _ _ _ _ _ (by decide)).trans h0, (cs13 _ _ _ _ _ (by decide)).trans h1, (cs13 _ _ _ _ _ (by decide)).trans h2, (cs13 _ _ _ _ _ (by decide)).trans h3, (cs13 _ _ _ _ _ (by decide)).trans h4, World.cell?_setCell_same _ _ _ h5, (cs13 _ _ _ _ _ (by decide)).trans h6, (cs13 _ _ _ _ _ (by decide)).trans h7, (cs13 _ _ _ _ _ (by decide)).trans h8, (cs13 _ _ _ _ _ (by decide)).trans h9, (cs13 _ _ _ _ _ (by decide)).trans h10, (cs13 _ _ _ _ _ (by decide)).trans h11, (cs13 _ _ _ _ _ (by decide)).trans h12⟩
theorem At13.set6 {W : World} {q : Nat} {c0 c1 c2 c3 c4 c5 c6 c7 c8 c9 c10 c11 c12 : Value} (h : At13 W q c0 c1 c2 c3 c4 c5 c6 c7 c8 c9 c10 c11 c12) (u : Value) : At13 (W.setCell ⟨q, 6, none⟩ u) q c0 c1 c2 c3 c4 c5 u c7 c8 c9 c10 c11 c12 := by
  obtain ⟨h0, h1, h2, h3, h4, h5, h6, h7, h8, h9, h10, h11, h12⟩ := h
  exact ⟨(cs13 _ _ _ _ _ (by decide)).trans h0, (cs13 _ _ _ _ _ (by decide)).trans h1, (cs13 _ _ _ _ _ (by decide)).trans h2, (cs13 _ _ _ _ _ (by decide)).trans h3, (cs13 _ _ _ _ _ (by decide)).trans h4, (cs13 _ _ _ _ _ (by decide)).trans h5, World.cell?_setCell_same _ _ _ h6, (cs13 _ _ _ _ _ (by decide)).trans h7, (cs13 _ _ _ _ _ (by decide)).trans h8, (cs13 _ _ _ _ _ (by decide)).trans h9, (cs13 _ _ _ _ _ (by decide)).trans h10, (cs13 _ _ _ _ _ (by decide)).trans h11, (cs13 _ _ _ _ _ (by decide)).trans h12⟩
theorem At13.set7 {W : World} {q : Nat} {c0 c1 c2 c3 c4 c5 c6 c7 c8 c9 c10 c11 c12 : Value} (h : At13 W q c0 c1 c2 c3 c4 c5 c6 c7 c8 c9 c10 c11 c12) (u : Value) : At13 (W.setCell ⟨q, 7, none⟩ u) q c0 c1 c2 c3 c4 c5 c6 u c8 c9 c10 c11 c12 := by
  obtain ⟨h0, h1, h2, h3, h4, h5, h6, h7, h8, h9, h10, h11, h12⟩ := h
  exact ⟨(cs13 _ _ _ _ _ (by decide)).trans h0, (cs13 _ _ _ _ _ (by decide)).trans h1, (cs13 _ _ _ _ _ (by decide)).trans h2, (cs13 _ _ _ _ _ (by decide)).trans h3, (cs13 _ _ _ _ _ (by decide)).trans h4, (cs13 _ _ _ _ _ (by decide)).trans h5, (cs13 _ _ _ _ _ (by decide)).trans h6, World.cell?_setCell_same _ _ _ h7, (cs13 _ _ _ _ _ (by decide)).trans h8, (cs13 _ _ _ _ _ (by decide)).trans h9, (cs13 _ _ _ _ _ (by decide)).trans h10, (cs13 _ _ _ _ _ (by decide)).trans h11, (cs13 _ _ _ _ _ (by decide)).trans h12⟩
theorem At13.set8 {W : World} {q : Nat} {c0 c1 c2 c3 c4 c5 c6 c7 c8 c9 c10 c11 c12 : Value} (h : At13 W q c0 c1 c2 c3 c4 c5 c6 c7 c8 c9 c10 c11 c12) (u : Value) : At13 (W.setCell ⟨q, 8, none⟩ u) q c0 c1 c2 c3 c4 c5 c6 c7 u c9 c10 c11 c12 := by
  obtain ⟨h0, h1, h2, h3, h4, h5, h6, h7, h8, h9, h10, h11, h12⟩ := h
  exact ⟨(cs13 _ _ _ _ _ (by decide)).trans h0, (cs13 _ _ _ _ _ (by decide)).trans h1, (cs13 _ _ _ _ _ (by decide)).trans h2, (cs13 _ _ _ _ _ (by decide)).trans h3, (cs13 _ _ _ _ _ (by decide)).trans h4, (cs13 _ _ _ _ _ (by decide)).trans h5, (cs13 _ _ _ _ _ (by decide)).trans h6, (cs13 _ _ _ _ _ (by decide)).trans h7, World.cell?_setCell_same _ _ _ h8, (cs13 _ _ _ _ _ (by decide)).trans h9, (cs13 _ _ _ _ _ (by decide)).trans h10, (cs13 _ _ _ _ _ (by decide)).trans h11, (cs13 _ _ _ _ _ (by decide)).trans h12⟩
theorem At13.set9 {W : World} {q : Nat} {c0 c1 c2 c3 c4 c5 c6 c7 c8 c9 c10 c11 c12 : Value} (h : At13 W q c0 c1 c2 c3 c4 c5 c6 c7 c8 c9 c10 c11 c12) (u : Value) : At13 (W.setCell ⟨q, 9, none⟩ u) q c0 c1 c2 c3 c4 c5 c6 c7 c8 u c10 c11 c12 := by
  obtain ⟨h0, h1, h2, h3, h4, h5, h6, h7, h8, h9, h10, h11, h12⟩ := h
  exact ⟨(cs13 _ _ _ _ _ (by decide)).trans h0, (cs13 _ _ _ _ _ (by decide)).trans h1, (cs13 _ _ _ _ _ (by decide)).trans h2, (cs13 _ _ _ _ _ (by decide)).trans h3, (cs13 _ _ _ _ _ (by decide)).trans h4, (cs13 _ _ _ _ _ (by decide)).trans h5, (cs13 _ _ _ _ _ (by decide)).trans h6, (cs13 _ _ _ _ _ (by decide)).trans h7, (cs13 _ _ _ _ _ (by decide)).trans h8, World.cell?_setCell_same _ _ _ h9, (cs13 _ _ _ _ _ (by decide)).trans h10, (cs13 _ _ _ _ _ (by decide)).trans h11, (cs13 _ _ _ _ _ (by decide)).trans h12⟩
theorem At13.set10 {W : World} {q : Nat} {c0 c1 c2 c3 c4 c5 c6 c7 c8 c9 c10 c11 c12 : Value} (h : At13 W q c0 c1 c2 c3 c4 c5 c6 c7 c8 c9 c10 c11 c12) (u : Value) : At13 (W.setCell ⟨q, 10, none⟩ u) q c0 c1 c2 c3 c4 c5 c6 c7 c8 c9 u c11 c12 := by
  obtain ⟨h0, h1, h2, h3, h4, h5, h6, h7, h8, h9, h10, h11, h12⟩ := h
  exact ⟨(cs13 _ _ _ _ _ (by decide)).trans h0, (cs13 _ _ _ _ _ (by decide)).trans h1, (cs13 _ _ _ _ _ (by decide)).trans h2, (cs13 _ _ _ _ _ (by decide)).trans h3, (cs13 _ _ _ _ _ (by decide)).trans h4, (cs13 _ _ _ _ _ (by decide)).trans h5, (cs13 _ _ _ _ _ (by decide)).trans h6, (cs13 _ _ _ _ _ (by decide)).trans h7, (cs13 _ _ _ _ _ (by decide)).trans h8, (cs13 _ _ _ _ _ (by decide)).trans h9, World.cell?_setCell_same _ _ _ h10, (cs13 _ _ _ _ _ (by decide)).trans h11, (cs13 _ _ _ _ _ (by decide)).trans h12⟩
theorem At13.set11 {W : World} {q : Nat} {c0 c1 c2 c3 c4 c5 c6 c7 c8 c9 c10 c11 c12 : Value} (h : At13 W q c0 c1 c2 c3 c4 c5 c6 c7 c8 c9 c10 c11 c12) (u : Value) : At13 (W.setCell ⟨q, 11, none⟩ u) q c0 c1 c2 c3 c4 c5 c6 c7 c8 c9 c10 u c12 := by
  obtain ⟨h0, h1, h2, h3, h4, h5, h6, h7, h8, h9, h10, h11, h12⟩ := h
  exact ⟨(cs13 _ _ _ _ _ (by decide)).trans h0, (cs13 _ _ _ _ _ (by decide)).trans h1, (cs13 _ _ _ _ _ (by decide)).trans h2, (cs13 _ _ _ _ _ (by decide)).trans h3, (cs13 _ _ _ _ _ (by decide)).trans h4, (cs13 _ _ _ _ _ (by decide)).trans h5, (cs13 _ _ _ _ _ (by decide)).trans h6, (cs13 _ _ _ _ _ (by decide)).trans h7, (cs13 _ _ _ _ _ (by decide)).trans h8, (cs13 _ _ _ _ _ (by decide)).trans h9, (cs13 _ _ _ _ _ (by decide)).trans h10, World.cell?_setCell_same _ _ _ h11, (cs13 _ _ _ _ _ (by decide)).trans h12⟩
theorem At13.set12 {W : World} {q : Nat} {c0 c1 c2 c3 c4 c5 c6 c7 c8 c9 c10 c11 c12 : Value} (h : At13 W q c0 c1 c2 c3 c4 c5 c6 c7 c8 c9 c10 c11 c12) (u : Value) : At13 (W.setCell ⟨q, 12, none⟩ u) q c0 c1 c2 c3 c4 c5 c6 c7 c8 c9 c10 c11 u := by
  obtain ⟨h0, h1, h2, h3, h4, h5, h6, h7, h8, h9, h10, h11, h12⟩ := h
  exact ⟨(cs13 _ _ _ _ _ (by decide)).trans h0, (cs13 _ _ _ _ _ (by decide)).trans h1, (cs13 _ _ _ _ _ (by decide)).trans h2, (cs13 _ _ _ _ _ (by decide)).trans h3, (cs13 _ _ _ _ _ (by decide)).trans h4, (cs13 _ _ _ _ _ (by decide)).trans h5, (cs13 _ _ _ _ _ (by decide)).trans h6, (cs13 _ _ _ _ _ (by decide)).trans h7, (cs13 _ _ _ _ _ (by decide)).trans h8, (cs13 _ _ _ _ _ (by decide)).trans h9, (cs13 _ _ _ _ _ (by decide)).trans h10, (cs13 _ _ _ _ _ (by decide)).trans h11, World.cell?_setCell_same _ _ _ h12⟩
def set13 (w : World) (g : Nat) (c0 c1 c2 c3 c4 c5 c6 c7 c8 c9 c10 c11 c12 : Value) : World := ((((((((((((w.setCell ⟨g, 0, none⟩ c0).setCell ⟨g, 1, none⟩ c1).setCell ⟨g, 2, none⟩ c2).setCell ⟨g, 3, none⟩ c3).setCell ⟨g, 4, none⟩ c4).setCell ⟨g, 5, none⟩ c5).setCell ⟨g, 6, none⟩ c6).setCell ⟨g, 7, none⟩ c7).setCell ⟨g, 8, none⟩ c8).setCell ⟨g, 9, none⟩ c9).setCell ⟨g, 10, none⟩ c10).setCell ⟨g, 11, none⟩ c11).setCell ⟨g, 12, none⟩ c12
theorem set13_kb (w : World) (g : Nat) (c0 c1 c2 c3 c4 c5 c6 c7 c8 c9 c10 c11 c12 : Value) : KB g w (set13 w g c0 c1 c2 c3 c4 c5 c6 c7 c8 c9 c10 c11 c12) := ((((((((((((KB.setCell g w 0 c0).trans (KB.setCell g _ _ c1)).trans (KB.setCell g _ _ c2)).trans (KB.setCell g _ _ c3)).trans (KB.setCell g _ _ c4)).trans (KB.setCell g _ _ c5)).trans (KB.setCell g _ _ c6)).trans (KB.setCell g _ _ c7)).trans (KB.setCell g _ _ c8)).trans (KB.setCell g _ _ c9)).trans (KB.setCell g _ _ c10)).trans (KB.setCell g _ _ c11)).trans (KB.setCell g _ _ c12)
theorem set13_at {w : World} {g : Nat} {z0 z1 z2 z3 z4 z5 z6 z7 z8 z9 z10 z11 z12 : Value} (h : At13 w g z0 z1 z2 z3 z4 z5 z6 z7 z8 z9 z10 z11 z12) (c0 c1 c2 c3 c4 c5 c6 c7 c8 c9 c10 c11 c12 : Value) : At13 (set13 w g c0 c1 c2 c3 c4 c5 c6 c7 c8 c9 c10 c11 c12) g c0 c1 c2 c3 c4 c5 c6 c7 c8 c9 c10 c11 c12 := (((((((((((((h).set0 c0).set1 c1).set2 c2).set3 c3).set4 c4).set5 c5).set6 c6).set7 c7).set8 c8).set9 c9).set10 c10).set11 c11).set12 c12
/-- The world while an event is read: its result's box, its own box, and the reader. -/
structure Me (w W : World) (g h : Nat) (l : List UInt8) (e : Int) (c0 c1 c2 c3 c4 c5 c6 c7 c8 c9 c10 c11 c12 : Value) : Prop where
  q1 : w.heap.size + 1 < W.heap.size
  gw : g < w.heap.size
  hw : h < w.heap.size
  res : At13 W w.heap.size (.int .i64 0) (.int .i64 0) (.int .i64 0) (.int .i64 0) (.string ⟨#[]⟩) (.int .i64 0) (.int .i64 0) (.int .u64 0) (.string ⟨#[]⟩) (.slice none 0 0) (.int .i64 0) (.int .u64 0) (.int .i64 0)
  rfr : ∀ o, W.frozen? ⟨w.heap.size, o, none⟩ = false
  own : At13 W (w.heap.size + 1) c0 c1 c2 c3 c4 c5 c6 c7 c8 c9 c10 c11 c12
  ofr : ∀ o, W.frozen? ⟨w.heap.size + 1, o, none⟩ = false
  st : St W g h l e
  kb : KB g w W
theorem Me.step {w W w' : World} {g h : Nat} {l l' : List UInt8} {e e' : Int} {c0 c1 c2 c3 c4 c5 c6 c7 c8 c9 c10 c11 c12 : Value} (m : Me w W g h l e c0 c1 c2 c3 c4 c5 c6 c7 c8 c9 c10 c11 c12) (s : St w' g h l' e') (k : KB g W w') : Me w w' g h l' e' c0 c1 c2 c3 c4 c5 c6 c7 c8 c9 c10 c11 c12 := by
  have b := m.q1
  have c := m.gw
  exact ⟨Nat.lt_of_lt_of_le b k.2.2.2.1, c, m.hw, m.res.keep (k.2.2.2.2 _ (by omega) (by omega)), fun o => (k.frozen (a := ⟨w.heap.size, o, none⟩) (show w.heap.size < W.heap.size by omega) (show w.heap.size ≠ g by omega)).trans (m.rfr o), m.own.keep (k.2.2.2.2 _ (by omega) (by omega)), fun o => (k.frozen (a := ⟨w.heap.size + 1, o, none⟩) b (show w.heap.size + 1 ≠ g by omega)).trans (m.ofr o), s, m.kb.trans k⟩
theorem Me.put {w W : World} {g h i : Nat} {l : List UInt8} {e : Int} {c0 c1 c2 c3 c4 c5 c6 c7 c8 c9 c10 c11 c12 d0 d1 d2 d3 d4 d5 d6 d7 d8 d9 d10 d11 d12 : Value} (m : Me w W g h l e c0 c1 c2 c3 c4 c5 c6 c7 c8 c9 c10 c11 c12) (u : Value) (h5 : At13 (W.setCell ⟨w.heap.size + 1, i, none⟩ u) (w.heap.size + 1) d0 d1 d2 d3 d4 d5 d6 d7 d8 d9 d10 d11 d12) : Me w (W.setCell ⟨w.heap.size + 1, i, none⟩ u) g h l e d0 d1 d2 d3 d4 d5 d6 d7 d8 d9 d10 d11 d12 := by
  have b := m.q1
  have c := m.gw
  have d := m.hw
  have hb : ∀ B, B ≠ w.heap.size + 1 → (W.setCell ⟨w.heap.size + 1, i, none⟩ u).heap[B]? = W.heap[B]? := fun B hB => Below.heap_setCell _ _ _ _ hB
  have hsz : (W.setCell ⟨w.heap.size + 1, i, none⟩ u).heap.size = W.heap.size := by simp [World.setCell]
  exact ⟨by rw [hsz]; exact b, c, d, m.res.keep (hb _ (by omega)), fun o => (World.frozen?_setCell _ _ _ _).trans (m.rfr o), h5, fun o => (World.frozen?_setCell _ _ _ _).trans (m.ofr o), m.st.keep2 (hb g (by omega)) (hb h (by omega)), kb_below m.kb ((KB.setCell (w.heap.size + 1) W i u).below (by omega) (by omega))⟩
theorem Me.first {w : World} {g h : Nat} {l : List UInt8} {e : Int} (s : St w g h l e) (hh : h < w.heap.size) : Me w ((w.alloc (.cells #[.int .i64 0, .int .i64 0, .int .i64 0, .int .i64 0, .string ⟨#[]⟩, .int .i64 0, .int .i64 0, .int .u64 0, .string ⟨#[]⟩, .slice none 0 0, .int .i64 0, .int .u64 0, .int .i64 0] 39)).alloc (.cells #[.int .i64 0, .int .i64 0, .int .i64 0, .int .i64 0, .string ⟨#[]⟩, .int .i64 0, .int .i64 0, .int .u64 0, .string ⟨#[]⟩, .slice none 0 0, .int .i64 0, .int .u64 0, .int .i64 0] 39)) g h l e (.int .i64 0) (.int .i64 0) (.int .i64 0) (.int .i64 0) (.string ⟨#[]⟩) (.int .i64 0) (.int .i64 0) (.int .u64 0) (.string ⟨#[]⟩) (.slice none 0 0) (.int .i64 0) (.int .u64 0) (.int .i64 0) := by
  have hg := s.lt
  have hz : (w.alloc (.cells #[.int .i64 0, .int .i64 0, .int .i64 0, .int .i64 0, .string ⟨#[]⟩, .int .i64 0, .int .i64 0, .int .u64 0, .string ⟨#[]⟩, .slice none 0 0, .int .i64 0, .int .u64 0, .int .i64 0] 39)).heap.size = w.heap.size + 1 := by simp
  have b1 := bel1 w (.cells #[.int .i64 0, .int .i64 0, .int .i64 0, .int .i64 0, .string ⟨#[]⟩, .int .i64 0, .int .i64 0, .int .u64 0, .string ⟨#[]⟩, .slice none 0 0, .int .i64 0, .int .u64 0, .int .i64 0] 39)
  have b2 := bel1 (w.alloc (.cells #[.int .i64 0, .int .i64 0, .int .i64 0, .int .i64 0, .string ⟨#[]⟩, .int .i64 0, .int .i64 0, .int .u64 0, .string ⟨#[]⟩, .slice none 0 0, .int .i64 0, .int .u64 0, .int .i64 0] 39)) (.cells #[.int .i64 0, .int .i64 0, .int .i64 0, .int .i64 0, .string ⟨#[]⟩, .int .i64 0, .int .i64 0, .int .u64 0, .string ⟨#[]⟩, .slice none 0 0, .int .i64 0, .int .u64 0, .int .i64 0] 39)
  have b3 := bel2 b1 b2
  refine ⟨by simp, hg, hh, At13.keep (w := w.alloc (.cells #[.int .i64 0, .int .i64 0, .int .i64 0, .int .i64 0, .string ⟨#[]⟩, .int .i64 0, .int .i64 0, .int .u64 0, .string ⟨#[]⟩, .slice none 0 0, .int .i64 0, .int .u64 0, .int .i64 0] 39)) (At13.box w (.int .i64 0) (.int .i64 0) (.int .i64 0) (.int .i64 0) (.string ⟨#[]⟩) (.int .i64 0) (.int .i64 0) (.int .u64 0) (.string ⟨#[]⟩) (.slice none 0 0) (.int .i64 0) (.int .u64 0) (.int .i64 0)) (b2.block _ (by omega)), fun o => (b2.frozen (p := ⟨w.heap.size, o, none⟩) (by show w.heap.size < _; omega)).trans (freshP w _ _ o), ?_, fun o => ?_, s.keep2 (b3.block g hg) (b3.block h hh), KB.of_below b3⟩
  · have := At13.box (w.alloc (.cells #[.int .i64 0, .int .i64 0, .int .i64 0, .int .i64 0, .string ⟨#[]⟩, .int .i64 0, .int .i64 0, .int .u64 0, .string ⟨#[]⟩, .slice none 0 0, .int .i64 0, .int .u64 0, .int .i64 0] 39)) (.int .i64 0) (.int .i64 0) (.int .i64 0) (.int .i64 0) (.string ⟨#[]⟩) (.int .i64 0) (.int .i64 0) (.int .u64 0) (.string ⟨#[]⟩) (.slice none 0 0) (.int .i64 0) (.int .u64 0) (.int .i64 0)
    rw [hz] at this
    exact this
  · have := freshP (w.alloc (.cells #[.int .i64 0, .int .i64 0, .int .i64 0, .int .i64 0, .string ⟨#[]⟩, .int .i64 0, .int .i64 0, .int .u64 0, .string ⟨#[]⟩, .slice none 0 0, .int .i64 0, .int .u64 0, .int .i64 0] 39)) #[.int .i64 0, .int .i64 0, .int .i64 0, .int .i64 0, .string ⟨#[]⟩, .int .i64 0, .int .i64 0, .int .u64 0, .string ⟨#[]⟩, .slice none 0 0, .int .i64 0, .int .u64 0, .int .i64 0] 39 o
    rw [hz] at this
    exact this
/-- What reading an event leaves: the event, what is left, the error. -/
def rpE (l : List UInt8) (e : Int) : Ev × List UInt8 × Int :=
  let a := sNum 19 l e
  let b := sNum 1099511627776 a.2.1 a.2.2
  let c := if hN a.1 then sNum (nm a.1) b.2.1 b.2.2 else (0, b.2)
  let d := if hD a.1 then sNum 2199023255552 c.2.1 c.2.2 else (0, c.2)
  let s := if hM a.1 then sText 24 d.2.1 d.2.2 else if hT a.1 then sText 200 d.2.1 d.2.2 else ([], d.2)
  let v := if hV a.1 then rdR s.2.1 s.2.2 else (zE, s.2)
  let p := if hP a.1 then rdP v.2.1 v.2.2 else ⟨0, 0, 0, v.2.1, v.2.2⟩
  (⟨a.1, b.1, c.1, d.1, str s.1, v.1, p.f, p.c, p.m⟩, p.l, p.e)
/-- Where an event, read, lies. -/
def ErP (w : World) (g h : Nat) (r : Ev × List UInt8 × Int) (x : Ending) (w' : World) : Prop :=
  ∃ vk vx vb vs la ll lc, x = .returned (.agg #[.int .i64 r.1.k, .int .i64 r.1.t, .int .i64 r.1.n, .int .i64 r.1.d, .string r.1.s, .int .i64 vk, .int .i64 vx, .int .u64 vb, .string vs, .slice la ll lc, .int .i64 r.1.f, .int .u64 (r.1.c : Int), .int .i64 r.1.m]) ∧ IsN w.heap.size w' 5 (.agg #[.int .i64 vk, .int .i64 vx, .int .u64 vb, .string vs, .slice la ll lc]) r.1.v ∧ St w' g h r.2.1 r.2.2 ∧ KB g w w'
theorem Me.fin {w W : World} {g h : Nat} {l : List UInt8} {e : Int} {c0 c1 c2 c3 c4 c5 c6 c7 c8 c9 c10 c11 c12 : Value} (m : Me w W g h l e c0 c1 c2 c3 c4 c5 c6 c7 c8 c9 c10 c11 c12) (k t n d : Int) (s : ByteArray) (vk vx vb : Int) (vs : ByteArray) (la : Option Addr) (ll lc : Nat) (f : Int) (c : Nat) (m0 : Int) (tv : Tv) (hi : IsN (w.heap.size + 1) W 5 (.agg #[.int .i64 vk, .int .i64 vx, .int .u64 vb, .string vs, .slice la ll lc]) tv) :
    ErP w g h (⟨k, t, n, d, s, tv, f, c, m0⟩, l, e) (.returned (.agg #[.int .i64 k, .int .i64 t, .int .i64 n, .int .i64 d, .string s, .int .i64 vk, .int .i64 vx, .int .u64 vb, .string vs, .slice la ll lc, .int .i64 f, .int .u64 (c : Int), .int .i64 m0])) (set13 W w.heap.size (.int .i64 k) (.int .i64 t) (.int .i64 n) (.int .i64 d) (.string s) (.int .i64 vk) (.int .i64 vx) (.int .u64 vb) (.string vs) (.slice la ll lc) (.int .i64 f) (.int .u64 (c : Int)) (.int .i64 m0)) := by
  have a := m.gw
  have b := m.hw
  have c1 := m.q1
  have kb := set13_kb W w.heap.size (.int .i64 k) (.int .i64 t) (.int .i64 n) (.int .i64 d) (.string s) (.int .i64 vk) (.int .i64 vx) (.int .u64 vb) (.string vs) (.slice la ll lc) (.int .i64 f) (.int .u64 (c : Int)) (.int .i64 m0)
  exact ⟨vk, vx, vb, vs, la, ll, lc, rfl, (IsN.kb kb (by omega) hi).lower (by omega), m.st.keep2 (kb.2.2.2.2 g (by omega) (by omega)) (kb.2.2.2.2 h (by omega) (by omega)), kb_below m.kb (kb.below (Nat.le_refl _) (by omega))⟩
end Go.Proofs.Ytacmlholbnddpaa
namespace Go.Proofs.Ytacmlholbnddpaa
open Go.ChangeShapes Go.WideShapes Go.ChangeAt Go.RowKit
theorem zE_isN (lo : Nat) (W : World) : IsN lo W 5 (.agg #[.int .i64 0, .int .i64 0, .int .u64 0, .string ⟨#[]⟩, .slice none 0 0]) zE := zT_is lo W 4
theorem str_none : str [] = ⟨#[]⟩ := rfl
theorem IsN.put {lo q i n : Nat} {W : World} {v : Value} {t : Tv} (hq : q < lo) (u : Value) (h : IsN lo W n v t) : IsN lo (W.setCell ⟨q, i, none⟩ u) n v t := IsN.kb (KB.setCell q W i u) hq h
set_option maxHeartbeats 4000000 in
set_option maxRecDepth 100000 in
theorem parts_r54 (w : World) (g h : Nat) (l : List UInt8) (e : Int) (r : St w g h l e) (hh : h < w.heap.size) (hl : l.length ≤ 281474976710656) (hk : pt (sNum 19 l e).1 = 54) :
    Calls Try.prog 40 #[.pointer (some ⟨g, 0, none⟩)] w (ErP w g h (rpE l e)) := by
  have M0 : Hid (Me w ((w.alloc (.cells #[.int .i64 0, .int .i64 0, .int .i64 0, .int .i64 0, .string ⟨#[]⟩, .int .i64 0, .int .i64 0, .int .u64 0, .string ⟨#[]⟩, .slice none 0 0, .int .i64 0, .int .u64 0, .int .i64 0] 39)).alloc (.cells #[.int .i64 0, .int .i64 0, .int .i64 0, .int .i64 0, .string ⟨#[]⟩, .int .i64 0, .int .i64 0, .int .u64 0, .string ⟨#[]⟩, .slice none 0 0, .int .i64 0, .int .u64 0, .int .i64 0] 39)) g h l e (.int .i64 0) (.int .i64 0) (.int .i64 0) (.int .i64 0) (.string ⟨#[]⟩) (.int .i64 0) (.int .i64 0) (.int .u64 0) (.string ⟨#[]⟩) (.slice none 0 0) (.int .i64 0) (.int .u64 0) (.int .i64 0)) := Me.first r hh
  obtain ⟨W0, hW0⟩ : ∃ W0, W0 = ((w.alloc (.cells #[.int .i64 0, .int .i64 0, .int .i64 0, .int .i64 0, .string ⟨#[]⟩, .int .i64 0, .int .i64 0, .int .u64 0, .string ⟨#[]⟩, .slice none 0 0, .int .i64 0, .int .u64 0, .int .i64 0] 39)).alloc (.cells #[.int .i64 0, .int .i64 0, .int .i64 0, .int .i64 0, .string ⟨#[]⟩, .int .i64 0, .int .i64 0, .int .u64 0, .string ⟨#[]⟩, .slice none 0 0, .int .i64 0, .int .u64 0, .int .i64 0] 39)) := ⟨_, rfl⟩
  rw [← hW0] at M0
  have HW0 : Hid (W0 = ((w.alloc (.cells #[.int .i64 0, .int .i64 0, .int .i64 0, .int .i64 0, .string ⟨#[]⟩, .int .i64 0, .int .i64 0, .int .u64 0, .string ⟨#[]⟩, .slice none 0 0, .int .i64 0, .int .u64 0, .int .i64 0] 39)).alloc (.cells #[.int .i64 0, .int .i64 0, .int .i64 0, .int .i64 0, .string ⟨#[]⟩, .int .i64 0, .int .i64 0, .int .u64 0, .string ⟨#[]⟩, .slice none 0 0, .int .i64 0, .int .u64 0, .int .i64 0] 39))) := hW0
  have N1 := num_st W0 g h l e 19 M0.out.st
  have hR : rpE l e = rpE l e := rfl
  conv at hR => rhs; unfold rpE
  have g1 := sNum_len 19 l e
  generalize sNum 19 l e = R1 at N1 hk hR g1
  obtain ⟨k, l1, e1⟩ := R1
  dsimp only at N1 hk hR g1
  have eN : hN k = false := by unfold hN; rw [hk]; decide
  have eD : hD k = true := by unfold hD; rw [hk]; decide
  have eM : hM k = true := by unfold hM; rw [hk]; decide
  have eT : hT k = false := by unfold hT; rw [hk]; decide
  have eV : hV k = true := by unfold hV; rw [hk]; decide
  have eP' : hP k = true := by unfold hP; rw [hk]; decide
  rw [eN, eD, eM, eT, eV, eP'] at hR
  simp only [Bool.false_eq_true, if_true, if_false] at hR
  have K1 : Hid (Calls Try.prog 52 #[.pointer (some ⟨g, 0, none⟩), .int .i64 19] W0 (Rs W0 g h (.int .i64 k) l1 e1)) := N1
  have N2 := fun W (s : St W g h l1 e1) => num_st W g h l1 e1 1099511627776 s
  have g2 := sNum_len 1099511627776 l1 e1
  generalize sNum 1099511627776 l1 e1 = R2 at N2 hR g2
  obtain ⟨t, l2, e2⟩ := R2
  dsimp only at N2 hR g2
  have K2 : Hid (∀ W, St W g h l1 e1 → Calls Try.prog 52 #[.pointer (some ⟨g, 0, none⟩), .int .i64 1099511627776] W (Rs W g h (.int .i64 t) l2 e2)) := N2
  have PC : Hid (∀ W, Calls Try.prog 25 #[.int .i64 k] W fun e w' => e = .returned (.int .i64 54) ∧ w' = W) := fun W => by have := parts_calls k W; rw [hk] at this; exact this
  have NL : Hid (∀ W, _) := fun W => numLimits_calls k W
  have N4 := fun W (s : St W g h l2 e2) => num_st W g h l2 e2 2199023255552 s
  have g4 := sNum_len 2199023255552 l2 e2
  generalize sNum 2199023255552 l2 e2 = R4 at N4 hR g4
  obtain ⟨d, l4, e4⟩ := R4
  dsimp only at N4 hR g4
  have K4 : Hid (∀ W, St W g h l2 e2 → Calls Try.prog 52 #[.pointer (some ⟨g, 0, none⟩), .int .i64 2199023255552] W (Rs W g h (.int .i64 d) l4 e4)) := N4
  have N5 := fun W (s : St W g h l4 e4) => text_st W g h l4 e4 24 s
  have g5 := sText_len 24 l4 e4
  generalize sText 24 l4 e4 = R5 at N5 hR g5
  obtain ⟨s5, l5, e5⟩ := R5
  dsimp only at N5 hR g5
  generalize str s5 = s at N5 hR
  have K5 : Hid (∀ W, St W g h l4 e4 → Calls Try.prog 53 #[.pointer (some ⟨g, 0, none⟩), .int .i64 24] W (Rs W g h (.string s) l5 e5)) := N5
  have N6 := fun W (s : St W g h l5 e5) (hh : h < W.heap.size) => readv_calls W g h l5 e5 s hh (by omega)
  generalize rdR l5 e5 = R6 at N6 hR
  obtain ⟨tv, l6, e6⟩ := R6
  dsimp only at N6 hR
  have K6 : Hid (∀ W, St W g h l5 e5 → h < W.heap.size → Calls Try.prog 54 #[.pointer (some ⟨g, 0, none⟩)] W (RdP W g h 5 (tv, l6, e6))) := N6
  have N7 := fun W (s : St W g h l6 e6) (hh : h < W.heap.size) => readp_calls W g h l6 e6 s hh
  generalize rdP l6 e6 = R7 at N7 hR
  obtain ⟨f, c, m, l7, e7⟩ := R7
  dsimp only at N7 hR
  have K7 : Hid (∀ W, St W g h l6 e6 → h < W.heap.size → Calls Try.prog 55 #[.pointer (some ⟨g, 0, none⟩)] W (PrP W g h ⟨f, c, m, l7, e7⟩)) := N7
  have HP : Hid (rpE l e = _) := hR
  have z1 : bits BinOp.and IntKind.i64 54 1 = 0 := by decide +kernel
  have z2 : bits BinOp.and IntKind.i64 54 2 = 2 := by decide +kernel
  have z4 : bits BinOp.and IntKind.i64 54 4 = 4 := by decide +kernel
  have z8 : bits BinOp.and IntKind.i64 54 8 = 0 := by decide +kernel
  have z16 : bits BinOp.and IntKind.i64 54 16 = 16 := by decide +kernel
  have z32 : bits BinOp.and IntKind.i64 54 32 = 32 := by decide +kernel
  clear hW0 r hh hl hk hR eN eD eM eT eV eP' g1 g2 g4 g5 N1 N2 N4 N5 N6 N7
  go_enter Try.func40, Try.ntmps40
  go_upto_region 2 with fail
  rw [← HW0.out]
  go_wp2_with fail
  refine (K1.out).mono ?_
  rintro x w1 ⟨rfl, s1, k1⟩
  have M1a := M0.out.step s1 k1
  have M1x0 : Me w ((w1).setCell ⟨w.heap.size + 1, 0, none⟩ (.int .i64 k)) g h l1 e1 (.int .i64 k) (.int .i64 0) (.int .i64 0) (.int .i64 0) (.string ⟨#[]⟩) (.int .i64 0) (.int .i64 0) (.int .u64 0) (.string ⟨#[]⟩) (.slice none 0 0) (.int .i64 0) (.int .u64 0) (.int .i64 0) := Me.put M1a _ ((M1a).own.set0 _)
  obtain ⟨W1, hW1⟩ : ∃ W1, W1 = (w1).setCell ⟨w.heap.size + 1, 0, none⟩ (.int .i64 k) := ⟨_, rfl⟩
  have M1 : Hid (Me w W1 g h l1 e1 (.int .i64 k) (.int .i64 0) (.int .i64 0) (.int .i64 0) (.string ⟨#[]⟩) (.int .i64 0) (.int .i64 0) (.int .u64 0) (.string ⟨#[]⟩) (.slice none 0 0) (.int .i64 0) (.int .u64 0) (.int .i64 0)) := by rw [hW1]; exact M1x0
  have HW1 : Hid (W1 = (w1).setCell ⟨w.heap.size + 1, 0, none⟩ (.int .i64 k)) := hW1
  obtain ⟨a0, a1, a2, a3, a4, a5, a6, a7, a8, a9, a10, a11, a12⟩ := M1a.own
  have f0 := M1a.ofr 0
  clear hW1 M1a M1x0 s1 k1
  go_upto_region 3 with fail
  rw [← HW1.out]
  clear a0 a1 a2 a3 a4 a5 a6 a7 a8 a9 a10 a11 a12 f0
  go_wp2_with fail
  refine (K2.out _ M1.out.st).mono ?_
  rintro x w2 ⟨rfl, s2, k2⟩
  have M2a := M1.out.step s2 k2
  have M2x1 : Me w ((w2).setCell ⟨w.heap.size + 1, 1, none⟩ (.int .i64 t)) g h l2 e2 (.int .i64 k) (.int .i64 t) (.int .i64 0) (.int .i64 0) (.string ⟨#[]⟩) (.int .i64 0) (.int .i64 0) (.int .u64 0) (.string ⟨#[]⟩) (.slice none 0 0) (.int .i64 0) (.int .u64 0) (.int .i64 0) := Me.put M2a _ ((M2a).own.set1 _)
  obtain ⟨W2, hW2⟩ : ∃ W2, W2 = (w2).setCell ⟨w.heap.size + 1, 1, none⟩ (.int .i64 t) := ⟨_, rfl⟩
  have M2 : Hid (Me w W2 g h l2 e2 (.int .i64 k) (.int .i64 t) (.int .i64 0) (.int .i64 0) (.string ⟨#[]⟩) (.int .i64 0) (.int .i64 0) (.int .u64 0) (.string ⟨#[]⟩) (.slice none 0 0) (.int .i64 0) (.int .u64 0) (.int .i64 0)) := by rw [hW2]; exact M2x1
  have HW2 : Hid (W2 = (w2).setCell ⟨w.heap.size + 1, 1, none⟩ (.int .i64 t)) := hW2
  obtain ⟨a0, a1, a2, a3, a4, a5, a6, a7, a8, a9, a10, a11, a12⟩ := M2a.own
  have f1 := M2a.ofr 1
  clear hW2 M2a M2x1 s2 k2
  go_upto_region 4 with fail
  rw [← HW2.out]
  clear a0 a1 a2 a3 a4 a5 a6 a7 a8 a9 a10 a11 a12 f1
  obtain ⟨a0, a1, a2, a3, a4, a5, a6, a7, a8, a9, a10, a11, a12⟩ := M2.out.own
  go_wp2_with fail
  refine (PC.out _).mono ?_
  rintro x w9 ⟨rfl, hw9⟩
  have hw9' := hw9.symm
  subst hw9'
  clear hw9
  clear a0 a1 a2 a3 a4 a5 a6 a7 a8 a9 a10 a11 a12
  go_wp2_with fail
  refine (K4.out _ M2.out.st).mono ?_
  rintro x w3 ⟨rfl, s3, k3⟩
  have M3a := M2.out.step s3 k3
  have M3x3 : Me w ((w3).setCell ⟨w.heap.size + 1, 3, none⟩ (.int .i64 d)) g h l4 e4 (.int .i64 k) (.int .i64 t) (.int .i64 0) (.int .i64 d) (.string ⟨#[]⟩) (.int .i64 0) (.int .i64 0) (.int .u64 0) (.string ⟨#[]⟩) (.slice none 0 0) (.int .i64 0) (.int .u64 0) (.int .i64 0) := Me.put M3a _ ((M3a).own.set3 _)
  obtain ⟨W3, hW3⟩ : ∃ W3, W3 = (w3).setCell ⟨w.heap.size + 1, 3, none⟩ (.int .i64 d) := ⟨_, rfl⟩
  have M3 : Hid (Me w W3 g h l4 e4 (.int .i64 k) (.int .i64 t) (.int .i64 0) (.int .i64 d) (.string ⟨#[]⟩) (.int .i64 0) (.int .i64 0) (.int .u64 0) (.string ⟨#[]⟩) (.slice none 0 0) (.int .i64 0) (.int .u64 0) (.int .i64 0)) := by rw [hW3]; exact M3x3
  have HW3 : Hid (W3 = (w3).setCell ⟨w.heap.size + 1, 3, none⟩ (.int .i64 d)) := hW3
  obtain ⟨a0, a1, a2, a3, a4, a5, a6, a7, a8, a9, a10, a11, a12⟩ := M3a.own
  have f3 := M3a.ofr 3
  clear hW3 M3a M3x3 s3 k3
  go_upto_region 10 with fail
  rw [← HW3.out]
  clear a0 a1 a2 a3 a4 a5 a6 a7 a8 a9 a10 a11 a12 f3
  go_wp2_with fail
  refine (K5.out _ M3.out.st).mono ?_
  rintro x w4 ⟨rfl, s4, k4⟩
  have M4a := M3.out.step s4 k4
  have M4x4 : Me w ((w4).setCell ⟨w.heap.size + 1, 4, none⟩ (.string s)) g h l5 e5 (.int .i64 k) (.int .i64 t) (.int .i64 0) (.int .i64 d) (.string s) (.int .i64 0) (.int .i64 0) (.int .u64 0) (.string ⟨#[]⟩) (.slice none 0 0) (.int .i64 0) (.int .u64 0) (.int .i64 0) := Me.put M4a _ ((M4a).own.set4 _)
  obtain ⟨W4, hW4⟩ : ∃ W4, W4 = (w4).setCell ⟨w.heap.size + 1, 4, none⟩ (.string s) := ⟨_, rfl⟩
  have M4 : Hid (Me w W4 g h l5 e5 (.int .i64 k) (.int .i64 t) (.int .i64 0) (.int .i64 d) (.string s) (.int .i64 0) (.int .i64 0) (.int .u64 0) (.string ⟨#[]⟩) (.slice none 0 0) (.int .i64 0) (.int .u64 0) (.int .i64 0)) := by rw [hW4]; exact M4x4
  have HW4 : Hid (W4 = (w4).setCell ⟨w.heap.size + 1, 4, none⟩ (.string s)) := hW4
  obtain ⟨a0, a1, a2, a3, a4, a5, a6, a7, a8, a9, a10, a11, a12⟩ := M4a.own
  have f4 := M4a.ofr 4
  clear hW4 M4a M4x4 s4 k4
  go_upto_region 12 with fail
  rw [← HW4.out]
  clear a0 a1 a2 a3 a4 a5 a6 a7 a8 a9 a10 a11 a12 f4
  go_wp2_with fail
  refine (K6.out _ M4.out.st (by have := M4.out.hw; have := M4.out.q1; omega)).mono ?_
  rintro x w5 ⟨v5, rfl, hi5, s5, k5⟩
  dsimp only at hi5 s5
  obtain ⟨vk, vx, vb, vs, la, ll, lc, rfl⟩ := hi5.shape
  have M5a := M4.out.step s5 k5
  have M5x5 : Me w ((w5).setCell ⟨w.heap.size + 1, 5, none⟩ (.int .i64 vk)) g h l6 e6 (.int .i64 k) (.int .i64 t) (.int .i64 0) (.int .i64 d) (.string s) (.int .i64 vk) (.int .i64 0) (.int .u64 0) (.string ⟨#[]⟩) (.slice none 0 0) (.int .i64 0) (.int .u64 0) (.int .i64 0) := Me.put M5a _ ((M5a).own.set5 _)
  have M5x6 : Me w (((w5).setCell ⟨w.heap.size + 1, 5, none⟩ (.int .i64 vk)).setCell ⟨w.heap.size + 1, 6, none⟩ (.int .i64 vx)) g h l6 e6 (.int .i64 k) (.int .i64 t) (.int .i64 0) (.int .i64 d) (.string s) (.int .i64 vk) (.int .i64 vx) (.int .u64 0) (.string ⟨#[]⟩) (.slice none 0 0) (.int .i64 0) (.int .u64 0) (.int .i64 0) := Me.put M5x5 _ ((M5x5).own.set6 _)
  have M5x7 : Me w ((((w5).setCell ⟨w.heap.size + 1, 5, none⟩ (.int .i64 vk)).setCell ⟨w.heap.size + 1, 6, none⟩ (.int .i64 vx)).setCell ⟨w.heap.size + 1, 7, none⟩ (.int .u64 vb)) g h l6 e6 (.int .i64 k) (.int .i64 t) (.int .i64 0) (.int .i64 d) (.string s) (.int .i64 vk) (.int .i64 vx) (.int .u64 vb) (.string ⟨#[]⟩) (.slice none 0 0) (.int .i64 0) (.int .u64 0) (.int .i64 0) := Me.put M5x6 _ ((M5x6).own.set7 _)
  have M5x8 : Me w (((((w5).setCell ⟨w.heap.size + 1, 5, none⟩ (.int .i64 vk)).setCell ⟨w.heap.size + 1, 6, none⟩ (.int .i64 vx)).setCell ⟨w.heap.size + 1, 7, none⟩ (.int .u64 vb)).setCell ⟨w.heap.size + 1, 8, none⟩ (.string vs)) g h l6 e6 (.int .i64 k) (.int .i64 t) (.int .i64 0) (.int .i64 d) (.string s) (.int .i64 vk) (.int .i64 vx) (.int .u64 vb) (.string vs) (.slice none 0 0) (.int .i64 0) (.int .u64 0) (.int .i64 0) := Me.put M5x7 _ ((M5x7).own.set8 _)
  have M5x9 : Me w ((((((w5).setCell ⟨w.heap.size + 1, 5, none⟩ (.int .i64 vk)).setCell ⟨w.heap.size + 1, 6, none⟩ (.int .i64 vx)).setCell ⟨w.heap.size + 1, 7, none⟩ (.int .u64 vb)).setCell ⟨w.heap.size + 1, 8, none⟩ (.string vs)).setCell ⟨w.heap.size + 1, 9, none⟩ (.slice la ll lc)) g h l6 e6 (.int .i64 k) (.int .i64 t) (.int .i64 0) (.int .i64 d) (.string s) (.int .i64 vk) (.int .i64 vx) (.int .u64 vb) (.string vs) (.slice la ll lc) (.int .i64 0) (.int .u64 0) (.int .i64 0) := Me.put M5x8 _ ((M5x8).own.set9 _)
  obtain ⟨W5, hW5⟩ : ∃ W5, W5 = (((((w5).setCell ⟨w.heap.size + 1, 5, none⟩ (.int .i64 vk)).setCell ⟨w.heap.size + 1, 6, none⟩ (.int .i64 vx)).setCell ⟨w.heap.size + 1, 7, none⟩ (.int .u64 vb)).setCell ⟨w.heap.size + 1, 8, none⟩ (.string vs)).setCell ⟨w.heap.size + 1, 9, none⟩ (.slice la ll lc) := ⟨_, rfl⟩
  have M5 : Hid (Me w W5 g h l6 e6 (.int .i64 k) (.int .i64 t) (.int .i64 0) (.int .i64 d) (.string s) (.int .i64 vk) (.int .i64 vx) (.int .u64 vb) (.string vs) (.slice la ll lc) (.int .i64 0) (.int .u64 0) (.int .i64 0)) := by rw [hW5]; exact M5x9
  have HW5 : Hid (W5 = (((((w5).setCell ⟨w.heap.size + 1, 5, none⟩ (.int .i64 vk)).setCell ⟨w.heap.size + 1, 6, none⟩ (.int .i64 vx)).setCell ⟨w.heap.size + 1, 7, none⟩ (.int .u64 vb)).setCell ⟨w.heap.size + 1, 8, none⟩ (.string vs)).setCell ⟨w.heap.size + 1, 9, none⟩ (.slice la ll lc)) := hW5
  obtain ⟨a0, a1, a2, a3, a4, a5, a6, a7, a8, a9, a10, a11, a12⟩ := M5a.own
  have f5 := M5a.ofr 5
  have f6 := M5a.ofr 6
  have f7 := M5a.ofr 7
  have f8 := M5a.ofr 8
  have f9 := M5a.ofr 9
  have I5 : Hid (IsN (w.heap.size + 1 + 1) W5 5 (.agg #[.int .i64 vk, .int .i64 vx, .int .u64 vb, .string vs, .slice la ll lc]) tv) := by
    rw [hW5]
    have hz := M4.out.q1
    exact IsN.put (by omega) _ (IsN.put (by omega) _ (IsN.put (by omega) _ (IsN.put (by omega) _ (IsN.put (by omega) _ (hi5.lower (by omega))))))
  clear hW5 M5a M5x5 M5x6 M5x7 M5x8 M5x9 s5 k5 hi5
  go_upto_region 16 with fail
  rw [← HW5.out]
  clear a0 a1 a2 a3 a4 a5 a6 a7 a8 a9 a10 a11 a12 f5 f6 f7 f8 f9
  go_wp2_with fail
  refine (K7.out _ M5.out.st (by have := M5.out.hw; have := M5.out.q1; omega)).mono ?_
  rintro x w6 ⟨rfl, s6, k6⟩
  have M6a := M5.out.step s6 k6
  have M6x10 : Me w ((w6).setCell ⟨w.heap.size + 1, 10, none⟩ (.int .i64 f)) g h l7 e7 (.int .i64 k) (.int .i64 t) (.int .i64 0) (.int .i64 d) (.string s) (.int .i64 vk) (.int .i64 vx) (.int .u64 vb) (.string vs) (.slice la ll lc) (.int .i64 f) (.int .u64 0) (.int .i64 0) := Me.put M6a _ ((M6a).own.set10 _)
  have M6x11 : Me w (((w6).setCell ⟨w.heap.size + 1, 10, none⟩ (.int .i64 f)).setCell ⟨w.heap.size + 1, 11, none⟩ (.int .u64 (c : Int))) g h l7 e7 (.int .i64 k) (.int .i64 t) (.int .i64 0) (.int .i64 d) (.string s) (.int .i64 vk) (.int .i64 vx) (.int .u64 vb) (.string vs) (.slice la ll lc) (.int .i64 f) (.int .u64 (c : Int)) (.int .i64 0) := Me.put M6x10 _ ((M6x10).own.set11 _)
  have M6x12 : Me w ((((w6).setCell ⟨w.heap.size + 1, 10, none⟩ (.int .i64 f)).setCell ⟨w.heap.size + 1, 11, none⟩ (.int .u64 (c : Int))).setCell ⟨w.heap.size + 1, 12, none⟩ (.int .i64 m)) g h l7 e7 (.int .i64 k) (.int .i64 t) (.int .i64 0) (.int .i64 d) (.string s) (.int .i64 vk) (.int .i64 vx) (.int .u64 vb) (.string vs) (.slice la ll lc) (.int .i64 f) (.int .u64 (c : Int)) (.int .i64 m) := Me.put M6x11 _ ((M6x11).own.set12 _)
  obtain ⟨W6, hW6⟩ : ∃ W6, W6 = (((w6).setCell ⟨w.heap.size + 1, 10, none⟩ (.int .i64 f)).setCell ⟨w.heap.size + 1, 11, none⟩ (.int .u64 (c : Int))).setCell ⟨w.heap.size + 1, 12, none⟩ (.int .i64 m) := ⟨_, rfl⟩
  have M6 : Hid (Me w W6 g h l7 e7 (.int .i64 k) (.int .i64 t) (.int .i64 0) (.int .i64 d) (.string s) (.int .i64 vk) (.int .i64 vx) (.int .u64 vb) (.string vs) (.slice la ll lc) (.int .i64 f) (.int .u64 (c : Int)) (.int .i64 m)) := by rw [hW6]; exact M6x12
  have HW6 : Hid (W6 = (((w6).setCell ⟨w.heap.size + 1, 10, none⟩ (.int .i64 f)).setCell ⟨w.heap.size + 1, 11, none⟩ (.int .u64 (c : Int))).setCell ⟨w.heap.size + 1, 12, none⟩ (.int .i64 m)) := hW6
  obtain ⟨a0, a1, a2, a3, a4, a5, a6, a7, a8, a9, a10, a11, a12⟩ := M6a.own
  have f10 := M6a.ofr 10
  have f11 := M6a.ofr 11
  have f12 := M6a.ofr 12
  have I6 : Hid (IsN (w.heap.size + 1 + 1) W6 5 (.agg #[.int .i64 vk, .int .i64 vx, .int .u64 vb, .string vs, .slice la ll lc]) tv) := by
    rw [hW6]
    have hg := M5.out.gw
    exact IsN.put (by omega) _ (IsN.put (by omega) _ (IsN.put (by omega) _ (IsN.kb k6 (by omega) I5.out)))
  clear hW6 M6a M6x10 M6x11 M6x12 s6 k6
  go_upto_region 18 with fail
  rw [← HW6.out]
  clear a0 a1 a2 a3 a4 a5 a6 a7 a8 a9 a10 a11 a12 f10 f11 f12
  obtain ⟨a0, a1, a2, a3, a4, a5, a6, a7, a8, a9, a10, a11, a12⟩ := M6.out.own
  obtain ⟨b0, b1, b2, b3, b4, b5, b6, b7, b8, b9, b10, b11, b12⟩ := M6.out.res
  have f0 := M6.out.rfr 0
  have f1 := M6.out.rfr 1
  have f2 := M6.out.rfr 2
  have f3 := M6.out.rfr 3
  have f4 := M6.out.rfr 4
  have f5 := M6.out.rfr 5
  have f6 := M6.out.rfr 6
  have f7 := M6.out.rfr 7
  have f8 := M6.out.rfr 8
  have f9 := M6.out.rfr 9
  have f10 := M6.out.rfr 10
  have f11 := M6.out.rfr 11
  have f12 := M6.out.rfr 12
  go_wp2_with fail
  refine bodyPost_ret (ret13 Try.results40 _ (g := w.heap.size) rfl (set13_at M6.out.res (.int .i64 k) (.int .i64 t) (.int .i64 0) (.int .i64 d) (.string s) (.int .i64 vk) (.int .i64 vx) (.int .u64 vb) (.string vs) (.slice la ll lc) (.int .i64 f) (.int .u64 (c : Int)) (.int .i64 m))) rfl ?_
  rw [HP.out]
  exact M6.out.fin k t 0 d s vk vx vb vs la ll lc f c m tv (I6.out.lower (by omega))
set_option maxHeartbeats 4000000 in
set_option maxRecDepth 100000 in
theorem parts_r20 (w : World) (g h : Nat) (l : List UInt8) (e : Int) (r : St w g h l e) (hh : h < w.heap.size) (hl : l.length ≤ 281474976710656) (hk : pt (sNum 19 l e).1 = 20) :
    Calls Try.prog 40 #[.pointer (some ⟨g, 0, none⟩)] w (ErP w g h (rpE l e)) := by
  have M0 : Hid (Me w ((w.alloc (.cells #[.int .i64 0, .int .i64 0, .int .i64 0, .int .i64 0, .string ⟨#[]⟩, .int .i64 0, .int .i64 0, .int .u64 0, .string ⟨#[]⟩, .slice none 0 0, .int .i64 0, .int .u64 0, .int .i64 0] 39)).alloc (.cells #[.int .i64 0, .int .i64 0, .int .i64 0, .int .i64 0, .string ⟨#[]⟩, .int .i64 0, .int .i64 0, .int .u64 0, .string ⟨#[]⟩, .slice none 0 0, .int .i64 0, .int .u64 0, .int .i64 0] 39)) g h l e (.int .i64 0) (.int .i64 0) (.int .i64 0) (.int .i64 0) (.string ⟨#[]⟩) (.int .i64 0) (.int .i64 0) (.int .u64 0) (.string ⟨#[]⟩) (.slice none 0 0) (.int .i64 0) (.int .u64 0) (.int .i64 0)) := Me.first r hh
  obtain ⟨W0, hW0⟩ : ∃ W0, W0 = ((w.alloc (.cells #[.int .i64 0, .int .i64 0, .int .i64 0, .int .i64 0, .string ⟨#[]⟩, .int .i64 0, .int .i64 0, .int .u64 0, .string ⟨#[]⟩, .slice none 0 0, .int .i64 0, .int .u64 0, .int .i64 0] 39)).alloc (.cells #[.int .i64 0, .int .i64 0, .int .i64 0, .int .i64 0, .string ⟨#[]⟩, .int .i64 0, .int .i64 0, .int .u64 0, .string ⟨#[]⟩, .slice none 0 0, .int .i64 0, .int .u64 0, .int .i64 0] 39)) := ⟨_, rfl⟩
  rw [← hW0] at M0
  have HW0 : Hid (W0 = ((w.alloc (.cells #[.int .i64 0, .int .i64 0, .int .i64 0, .int .i64 0, .string ⟨#[]⟩, .int .i64 0, .int .i64 0, .int .u64 0, .string ⟨#[]⟩, .slice none 0 0, .int .i64 0, .int .u64 0, .int .i64 0] 39)).alloc (.cells #[.int .i64 0, .int .i64 0, .int .i64 0, .int .i64 0, .string ⟨#[]⟩, .int .i64 0, .int .i64 0, .int .u64 0, .string ⟨#[]⟩, .slice none 0 0, .int .i64 0, .int .u64 0, .int .i64 0] 39))) := hW0
  have N1 := num_st W0 g h l e 19 M0.out.st
  have hR : rpE l e = rpE l e := rfl
  conv at hR => rhs; unfold rpE
  have g1 := sNum_len 19 l e
  generalize sNum 19 l e = R1 at N1 hk hR g1
  obtain ⟨k, l1, e1⟩ := R1
  dsimp only at N1 hk hR g1
  have eN : hN k = false := by unfold hN; rw [hk]; decide
  have eD : hD k = false := by unfold hD; rw [hk]; decide
  have eM : hM k = true := by unfold hM; rw [hk]; decide
  have eT : hT k = false := by unfold hT; rw [hk]; decide
  have eV : hV k = true := by unfold hV; rw [hk]; decide
  have eP' : hP k = false := by unfold hP; rw [hk]; decide
  rw [eN, eD, eM, eT, eV, eP'] at hR
  simp only [Bool.false_eq_true, if_true, if_false] at hR
  have K1 : Hid (Calls Try.prog 52 #[.pointer (some ⟨g, 0, none⟩), .int .i64 19] W0 (Rs W0 g h (.int .i64 k) l1 e1)) := N1
  have N2 := fun W (s : St W g h l1 e1) => num_st W g h l1 e1 1099511627776 s
  have g2 := sNum_len 1099511627776 l1 e1
  generalize sNum 1099511627776 l1 e1 = R2 at N2 hR g2
  obtain ⟨t, l2, e2⟩ := R2
  dsimp only at N2 hR g2
  have K2 : Hid (∀ W, St W g h l1 e1 → Calls Try.prog 52 #[.pointer (some ⟨g, 0, none⟩), .int .i64 1099511627776] W (Rs W g h (.int .i64 t) l2 e2)) := N2
  have PC : Hid (∀ W, Calls Try.prog 25 #[.int .i64 k] W fun e w' => e = .returned (.int .i64 20) ∧ w' = W) := fun W => by have := parts_calls k W; rw [hk] at this; exact this
  have NL : Hid (∀ W, _) := fun W => numLimits_calls k W
  have N5 := fun W (s : St W g h l2 e2) => text_st W g h l2 e2 24 s
  have g5 := sText_len 24 l2 e2
  generalize sText 24 l2 e2 = R5 at N5 hR g5
  obtain ⟨s5, l5, e5⟩ := R5
  dsimp only at N5 hR g5
  generalize str s5 = s at N5 hR
  have K5 : Hid (∀ W, St W g h l2 e2 → Calls Try.prog 53 #[.pointer (some ⟨g, 0, none⟩), .int .i64 24] W (Rs W g h (.string s) l5 e5)) := N5
  have N6 := fun W (s : St W g h l5 e5) (hh : h < W.heap.size) => readv_calls W g h l5 e5 s hh (by omega)
  generalize rdR l5 e5 = R6 at N6 hR
  obtain ⟨tv, l6, e6⟩ := R6
  dsimp only at N6 hR
  have K6 : Hid (∀ W, St W g h l5 e5 → h < W.heap.size → Calls Try.prog 54 #[.pointer (some ⟨g, 0, none⟩)] W (RdP W g h 5 (tv, l6, e6))) := N6
  have HP : Hid (rpE l e = _) := hR
  have z1 : bits BinOp.and IntKind.i64 20 1 = 0 := by decide +kernel
  have z2 : bits BinOp.and IntKind.i64 20 2 = 0 := by decide +kernel
  have z4 : bits BinOp.and IntKind.i64 20 4 = 4 := by decide +kernel
  have z8 : bits BinOp.and IntKind.i64 20 8 = 0 := by decide +kernel
  have z16 : bits BinOp.and IntKind.i64 20 16 = 16 := by decide +kernel
  have z32 : bits BinOp.and IntKind.i64 20 32 = 0 := by decide +kernel
  clear hW0 r hh hl hk hR eN eD eM eT eV eP' g1 g2 g5 N1 N2 N5 N6
  go_enter Try.func40, Try.ntmps40
  go_upto_region 2 with fail
  rw [← HW0.out]
  go_wp2_with fail
  refine (K1.out).mono ?_
  rintro x w1 ⟨rfl, s1, k1⟩
  have M1a := M0.out.step s1 k1
  have M1x0 : Me w ((w1).setCell ⟨w.heap.size + 1, 0, none⟩ (.int .i64 k)) g h l1 e1 (.int .i64 k) (.int .i64 0) (.int .i64 0) (.int .i64 0) (.string ⟨#[]⟩) (.int .i64 0) (.int .i64 0) (.int .u64 0) (.string ⟨#[]⟩) (.slice none 0 0) (.int .i64 0) (.int .u64 0) (.int .i64 0) := Me.put M1a _ ((M1a).own.set0 _)
  obtain ⟨W1, hW1⟩ : ∃ W1, W1 = (w1).setCell ⟨w.heap.size + 1, 0, none⟩ (.int .i64 k) := ⟨_, rfl⟩
  have M1 : Hid (Me w W1 g h l1 e1 (.int .i64 k) (.int .i64 0) (.int .i64 0) (.int .i64 0) (.string ⟨#[]⟩) (.int .i64 0) (.int .i64 0) (.int .u64 0) (.string ⟨#[]⟩) (.slice none 0 0) (.int .i64 0) (.int .u64 0) (.int .i64 0)) := by rw [hW1]; exact M1x0
  have HW1 : Hid (W1 = (w1).setCell ⟨w.heap.size + 1, 0, none⟩ (.int .i64 k)) := hW1
  obtain ⟨a0, a1, a2, a3, a4, a5, a6, a7, a8, a9, a10, a11, a12⟩ := M1a.own
  have f0 := M1a.ofr 0
  clear hW1 M1a M1x0 s1 k1
  go_upto_region 3 with fail
  rw [← HW1.out]
  clear a0 a1 a2 a3 a4 a5 a6 a7 a8 a9 a10 a11 a12 f0
  go_wp2_with fail
  refine (K2.out _ M1.out.st).mono ?_
  rintro x w2 ⟨rfl, s2, k2⟩
  have M2a := M1.out.step s2 k2
  have M2x1 : Me w ((w2).setCell ⟨w.heap.size + 1, 1, none⟩ (.int .i64 t)) g h l2 e2 (.int .i64 k) (.int .i64 t) (.int .i64 0) (.int .i64 0) (.string ⟨#[]⟩) (.int .i64 0) (.int .i64 0) (.int .u64 0) (.string ⟨#[]⟩) (.slice none 0 0) (.int .i64 0) (.int .u64 0) (.int .i64 0) := Me.put M2a _ ((M2a).own.set1 _)
  obtain ⟨W2, hW2⟩ : ∃ W2, W2 = (w2).setCell ⟨w.heap.size + 1, 1, none⟩ (.int .i64 t) := ⟨_, rfl⟩
  have M2 : Hid (Me w W2 g h l2 e2 (.int .i64 k) (.int .i64 t) (.int .i64 0) (.int .i64 0) (.string ⟨#[]⟩) (.int .i64 0) (.int .i64 0) (.int .u64 0) (.string ⟨#[]⟩) (.slice none 0 0) (.int .i64 0) (.int .u64 0) (.int .i64 0)) := by rw [hW2]; exact M2x1
  have HW2 : Hid (W2 = (w2).setCell ⟨w.heap.size + 1, 1, none⟩ (.int .i64 t)) := hW2
  obtain ⟨a0, a1, a2, a3, a4, a5, a6, a7, a8, a9, a10, a11, a12⟩ := M2a.own
  have f1 := M2a.ofr 1
  clear hW2 M2a M2x1 s2 k2
  go_upto_region 4 with fail
  rw [← HW2.out]
  clear a0 a1 a2 a3 a4 a5 a6 a7 a8 a9 a10 a11 a12 f1
  obtain ⟨a0, a1, a2, a3, a4, a5, a6, a7, a8, a9, a10, a11, a12⟩ := M2.out.own
  go_wp2_with fail
  refine (PC.out _).mono ?_
  rintro x w9 ⟨rfl, hw9⟩
  have hw9' := hw9.symm
  subst hw9'
  clear hw9
  clear a0 a1 a2 a3 a4 a5 a6 a7 a8 a9 a10 a11 a12
  go_wp2_with fail
  refine (K5.out _ M2.out.st).mono ?_
  rintro x w3 ⟨rfl, s3, k3⟩
  have M3a := M2.out.step s3 k3
  have M3x4 : Me w ((w3).setCell ⟨w.heap.size + 1, 4, none⟩ (.string s)) g h l5 e5 (.int .i64 k) (.int .i64 t) (.int .i64 0) (.int .i64 0) (.string s) (.int .i64 0) (.int .i64 0) (.int .u64 0) (.string ⟨#[]⟩) (.slice none 0 0) (.int .i64 0) (.int .u64 0) (.int .i64 0) := Me.put M3a _ ((M3a).own.set4 _)
  obtain ⟨W3, hW3⟩ : ∃ W3, W3 = (w3).setCell ⟨w.heap.size + 1, 4, none⟩ (.string s) := ⟨_, rfl⟩
  have M3 : Hid (Me w W3 g h l5 e5 (.int .i64 k) (.int .i64 t) (.int .i64 0) (.int .i64 0) (.string s) (.int .i64 0) (.int .i64 0) (.int .u64 0) (.string ⟨#[]⟩) (.slice none 0 0) (.int .i64 0) (.int .u64 0) (.int .i64 0)) := by rw [hW3]; exact M3x4
  have HW3 : Hid (W3 = (w3).setCell ⟨w.heap.size + 1, 4, none⟩ (.string s)) := hW3
  obtain ⟨a0, a1, a2, a3, a4, a5, a6, a7, a8, a9, a10, a11, a12⟩ := M3a.own
  have f4 := M3a.ofr 4
  clear hW3 M3a M3x4 s3 k3
  go_upto_region 12 with fail
  rw [← HW3.out]
  clear a0 a1 a2 a3 a4 a5 a6 a7 a8 a9 a10 a11 a12 f4
  go_wp2_with fail
  refine (K6.out _ M3.out.st (by have := M3.out.hw; have := M3.out.q1; omega)).mono ?_
  rintro x w4 ⟨v4, rfl, hi4, s4, k4⟩
  dsimp only at hi4 s4
  obtain ⟨vk, vx, vb, vs, la, ll, lc, rfl⟩ := hi4.shape
  have M4a := M3.out.step s4 k4
  have M4x5 : Me w ((w4).setCell ⟨w.heap.size + 1, 5, none⟩ (.int .i64 vk)) g h l6 e6 (.int .i64 k) (.int .i64 t) (.int .i64 0) (.int .i64 0) (.string s) (.int .i64 vk) (.int .i64 0) (.int .u64 0) (.string ⟨#[]⟩) (.slice none 0 0) (.int .i64 0) (.int .u64 0) (.int .i64 0) := Me.put M4a _ ((M4a).own.set5 _)
  have M4x6 : Me w (((w4).setCell ⟨w.heap.size + 1, 5, none⟩ (.int .i64 vk)).setCell ⟨w.heap.size + 1, 6, none⟩ (.int .i64 vx)) g h l6 e6 (.int .i64 k) (.int .i64 t) (.int .i64 0) (.int .i64 0) (.string s) (.int .i64 vk) (.int .i64 vx) (.int .u64 0) (.string ⟨#[]⟩) (.slice none 0 0) (.int .i64 0) (.int .u64 0) (.int .i64 0) := Me.put M4x5 _ ((M4x5).own.set6 _)
  have M4x7 : Me w ((((w4).setCell ⟨w.heap.size + 1, 5, none⟩ (.int .i64 vk)).setCell ⟨w.heap.size + 1, 6, none⟩ (.int .i64 vx)).setCell ⟨w.heap.size + 1, 7, none⟩ (.int .u64 vb)) g h l6 e6 (.int .i64 k) (.int .i64 t) (.int .i64 0) (.int .i64 0) (.string s) (.int .i64 vk) (.int .i64 vx) (.int .u64 vb) (.string ⟨#[]⟩) (.slice none 0 0) (.int .i64 0) (.int .u64 0) (.int .i64 0) := Me.put M4x6 _ ((M4x6).own.set7 _)
  have M4x8 : Me w (((((w4).setCell ⟨w.heap.size + 1, 5, none⟩ (.int .i64 vk)).setCell ⟨w.heap.size + 1, 6, none⟩ (.int .i64 vx)).setCell ⟨w.heap.size + 1, 7, none⟩ (.int .u64 vb)).setCell ⟨w.heap.size + 1, 8, none⟩ (.string vs)) g h l6 e6 (.int .i64 k) (.int .i64 t) (.int .i64 0) (.int .i64 0) (.string s) (.int .i64 vk) (.int .i64 vx) (.int .u64 vb) (.string vs) (.slice none 0 0) (.int .i64 0) (.int .u64 0) (.int .i64 0) := Me.put M4x7 _ ((M4x7).own.set8 _)
  have M4x9 : Me w ((((((w4).setCell ⟨w.heap.size + 1, 5, none⟩ (.int .i64 vk)).setCell ⟨w.heap.size + 1, 6, none⟩ (.int .i64 vx)).setCell ⟨w.heap.size + 1, 7, none⟩ (.int .u64 vb)).setCell ⟨w.heap.size + 1, 8, none⟩ (.string vs)).setCell ⟨w.heap.size + 1, 9, none⟩ (.slice la ll lc)) g h l6 e6 (.int .i64 k) (.int .i64 t) (.int .i64 0) (.int .i64 0) (.string s) (.int .i64 vk) (.int .i64 vx) (.int .u64 vb) (.string vs) (.slice la ll lc) (.int .i64 0) (.int .u64 0) (.int .i64 0) := Me.put M4x8 _ ((M4x8).own.set9 _)
  obtain ⟨W4, hW4⟩ : ∃ W4, W4 = (((((w4).setCell ⟨w.heap.size + 1, 5, none⟩ (.int .i64 vk)).setCell ⟨w.heap.size + 1, 6, none⟩ (.int .i64 vx)).setCell ⟨w.heap.size + 1, 7, none⟩ (.int .u64 vb)).setCell ⟨w.heap.size + 1, 8, none⟩ (.string vs)).setCell ⟨w.heap.size + 1, 9, none⟩ (.slice la ll lc) := ⟨_, rfl⟩
  have M4 : Hid (Me w W4 g h l6 e6 (.int .i64 k) (.int .i64 t) (.int .i64 0) (.int .i64 0) (.string s) (.int .i64 vk) (.int .i64 vx) (.int .u64 vb) (.string vs) (.slice la ll lc) (.int .i64 0) (.int .u64 0) (.int .i64 0)) := by rw [hW4]; exact M4x9
  have HW4 : Hid (W4 = (((((w4).setCell ⟨w.heap.size + 1, 5, none⟩ (.int .i64 vk)).setCell ⟨w.heap.size + 1, 6, none⟩ (.int .i64 vx)).setCell ⟨w.heap.size + 1, 7, none⟩ (.int .u64 vb)).setCell ⟨w.heap.size + 1, 8, none⟩ (.string vs)).setCell ⟨w.heap.size + 1, 9, none⟩ (.slice la ll lc)) := hW4
  obtain ⟨a0, a1, a2, a3, a4, a5, a6, a7, a8, a9, a10, a11, a12⟩ := M4a.own
  have f5 := M4a.ofr 5
  have f6 := M4a.ofr 6
  have f7 := M4a.ofr 7
  have f8 := M4a.ofr 8
  have f9 := M4a.ofr 9
  have I4 : Hid (IsN (w.heap.size + 1 + 1) W4 5 (.agg #[.int .i64 vk, .int .i64 vx, .int .u64 vb, .string vs, .slice la ll lc]) tv) := by
    rw [hW4]
    have hz := M3.out.q1
    exact IsN.put (by omega) _ (IsN.put (by omega) _ (IsN.put (by omega) _ (IsN.put (by omega) _ (IsN.put (by omega) _ (hi4.lower (by omega))))))
  clear hW4 M4a M4x5 M4x6 M4x7 M4x8 M4x9 s4 k4 hi4
  go_upto_region 16 with fail
  rw [← HW4.out]
  clear a0 a1 a2 a3 a4 a5 a6 a7 a8 a9 a10 a11 a12 f5 f6 f7 f8 f9
  obtain ⟨a0, a1, a2, a3, a4, a5, a6, a7, a8, a9, a10, a11, a12⟩ := M4.out.own
  obtain ⟨b0, b1, b2, b3, b4, b5, b6, b7, b8, b9, b10, b11, b12⟩ := M4.out.res
  have f0 := M4.out.rfr 0
  have f1 := M4.out.rfr 1
  have f2 := M4.out.rfr 2
  have f3 := M4.out.rfr 3
  have f4 := M4.out.rfr 4
  have f5 := M4.out.rfr 5
  have f6 := M4.out.rfr 6
  have f7 := M4.out.rfr 7
  have f8 := M4.out.rfr 8
  have f9 := M4.out.rfr 9
  have f10 := M4.out.rfr 10
  have f11 := M4.out.rfr 11
  have f12 := M4.out.rfr 12
  go_wp2_with fail
  refine bodyPost_ret (ret13 Try.results40 _ (g := w.heap.size) rfl (set13_at M4.out.res (.int .i64 k) (.int .i64 t) (.int .i64 0) (.int .i64 0) (.string s) (.int .i64 vk) (.int .i64 vx) (.int .u64 vb) (.string vs) (.slice la ll lc) (.int .i64 0) (.int .u64 0) (.int .i64 0))) rfl ?_
  rw [HP.out]
  exact M4.out.fin k t 0 0 s vk vx vb vs la ll lc 0 0 0 tv (I4.out.lower (by omega))
set_option maxHeartbeats 4000000 in
set_option maxRecDepth 100000 in
theorem parts_r16 (w : World) (g h : Nat) (l : List UInt8) (e : Int) (r : St w g h l e) (hh : h < w.heap.size) (hl : l.length ≤ 281474976710656) (hk : pt (sNum 19 l e).1 = 16) :
    Calls Try.prog 40 #[.pointer (some ⟨g, 0, none⟩)] w (ErP w g h (rpE l e)) := by
  have M0 : Hid (Me w ((w.alloc (.cells #[.int .i64 0, .int .i64 0, .int .i64 0, .int .i64 0, .string ⟨#[]⟩, .int .i64 0, .int .i64 0, .int .u64 0, .string ⟨#[]⟩, .slice none 0 0, .int .i64 0, .int .u64 0, .int .i64 0] 39)).alloc (.cells #[.int .i64 0, .int .i64 0, .int .i64 0, .int .i64 0, .string ⟨#[]⟩, .int .i64 0, .int .i64 0, .int .u64 0, .string ⟨#[]⟩, .slice none 0 0, .int .i64 0, .int .u64 0, .int .i64 0] 39)) g h l e (.int .i64 0) (.int .i64 0) (.int .i64 0) (.int .i64 0) (.string ⟨#[]⟩) (.int .i64 0) (.int .i64 0) (.int .u64 0) (.string ⟨#[]⟩) (.slice none 0 0) (.int .i64 0) (.int .u64 0) (.int .i64 0)) := Me.first r hh
  obtain ⟨W0, hW0⟩ : ∃ W0, W0 = ((w.alloc (.cells #[.int .i64 0, .int .i64 0, .int .i64 0, .int .i64 0, .string ⟨#[]⟩, .int .i64 0, .int .i64 0, .int .u64 0, .string ⟨#[]⟩, .slice none 0 0, .int .i64 0, .int .u64 0, .int .i64 0] 39)).alloc (.cells #[.int .i64 0, .int .i64 0, .int .i64 0, .int .i64 0, .string ⟨#[]⟩, .int .i64 0, .int .i64 0, .int .u64 0, .string ⟨#[]⟩, .slice none 0 0, .int .i64 0, .int .u64 0, .int .i64 0] 39)) := ⟨_, rfl⟩
  rw [← hW0] at M0
  have HW0 : Hid (W0 = ((w.alloc (.cells #[.int .i64 0, .int .i64 0, .int .i64 0, .int .i64 0, .string ⟨#[]⟩, .int .i64 0, .int .i64 0, .int .u64 0, .string ⟨#[]⟩, .slice none 0 0, .int .i64 0, .int .u64 0, .int .i64 0] 39)).alloc (.cells #[.int .i64 0, .int .i64 0, .int .i64 0, .int .i64 0, .string ⟨#[]⟩, .int .i64 0, .int .i64 0, .int .u64 0, .string ⟨#[]⟩, .slice none 0 0, .int .i64 0, .int .u64 0, .int .i64 0] 39))) := hW0
  have N1 := num_st W0 g h l e 19 M0.out.st
  have hR : rpE l e = rpE l e := rfl
  conv at hR => rhs; unfold rpE
  have g1 := sNum_len 19 l e
  generalize sNum 19 l e = R1 at N1 hk hR g1
  obtain ⟨k, l1, e1⟩ := R1
  dsimp only at N1 hk hR g1
  have eN : hN k = false := by unfold hN; rw [hk]; decide
  have eD : hD k = false := by unfold hD; rw [hk]; decide
  have eM : hM k = false := by unfold hM; rw [hk]; decide
  have eT : hT k = false := by unfold hT; rw [hk]; decide
  have eV : hV k = true := by unfold hV; rw [hk]; decide
  have eP' : hP k = false := by unfold hP; rw [hk]; decide
  rw [eN, eD, eM, eT, eV, eP'] at hR
  simp only [Bool.false_eq_true, if_true, if_false] at hR
  have K1 : Hid (Calls Try.prog 52 #[.pointer (some ⟨g, 0, none⟩), .int .i64 19] W0 (Rs W0 g h (.int .i64 k) l1 e1)) := N1
  have N2 := fun W (s : St W g h l1 e1) => num_st W g h l1 e1 1099511627776 s
  have g2 := sNum_len 1099511627776 l1 e1
  generalize sNum 1099511627776 l1 e1 = R2 at N2 hR g2
  obtain ⟨t, l2, e2⟩ := R2
  dsimp only at N2 hR g2
  have K2 : Hid (∀ W, St W g h l1 e1 → Calls Try.prog 52 #[.pointer (some ⟨g, 0, none⟩), .int .i64 1099511627776] W (Rs W g h (.int .i64 t) l2 e2)) := N2
  have PC : Hid (∀ W, Calls Try.prog 25 #[.int .i64 k] W fun e w' => e = .returned (.int .i64 16) ∧ w' = W) := fun W => by have := parts_calls k W; rw [hk] at this; exact this
  have NL : Hid (∀ W, _) := fun W => numLimits_calls k W
  rw [str_none] at hR
  have N6 := fun W (s : St W g h l2 e2) (hh : h < W.heap.size) => readv_calls W g h l2 e2 s hh (by omega)
  generalize rdR l2 e2 = R6 at N6 hR
  obtain ⟨tv, l6, e6⟩ := R6
  dsimp only at N6 hR
  have K6 : Hid (∀ W, St W g h l2 e2 → h < W.heap.size → Calls Try.prog 54 #[.pointer (some ⟨g, 0, none⟩)] W (RdP W g h 5 (tv, l6, e6))) := N6
  have HP : Hid (rpE l e = _) := hR
  have z1 : bits BinOp.and IntKind.i64 16 1 = 0 := by decide +kernel
  have z2 : bits BinOp.and IntKind.i64 16 2 = 0 := by decide +kernel
  have z4 : bits BinOp.and IntKind.i64 16 4 = 0 := by decide +kernel
  have z8 : bits BinOp.and IntKind.i64 16 8 = 0 := by decide +kernel
  have z16 : bits BinOp.and IntKind.i64 16 16 = 16 := by decide +kernel
  have z32 : bits BinOp.and IntKind.i64 16 32 = 0 := by decide +kernel
  clear hW0 r hh hl hk hR eN eD eM eT eV eP' g1 g2 N1 N2 N6
  go_enter Try.func40, Try.ntmps40
  go_upto_region 2 with fail
  rw [← HW0.out]
  go_wp2_with fail
  refine (K1.out).mono ?_
  rintro x w1 ⟨rfl, s1, k1⟩
  have M1a := M0.out.step s1 k1
  have M1x0 : Me w ((w1).setCell ⟨w.heap.size + 1, 0, none⟩ (.int .i64 k)) g h l1 e1 (.int .i64 k) (.int .i64 0) (.int .i64 0) (.int .i64 0) (.string ⟨#[]⟩) (.int .i64 0) (.int .i64 0) (.int .u64 0) (.string ⟨#[]⟩) (.slice none 0 0) (.int .i64 0) (.int .u64 0) (.int .i64 0) := Me.put M1a _ ((M1a).own.set0 _)
  obtain ⟨W1, hW1⟩ : ∃ W1, W1 = (w1).setCell ⟨w.heap.size + 1, 0, none⟩ (.int .i64 k) := ⟨_, rfl⟩
  have M1 : Hid (Me w W1 g h l1 e1 (.int .i64 k) (.int .i64 0) (.int .i64 0) (.int .i64 0) (.string ⟨#[]⟩) (.int .i64 0) (.int .i64 0) (.int .u64 0) (.string ⟨#[]⟩) (.slice none 0 0) (.int .i64 0) (.int .u64 0) (.int .i64 0)) := by rw [hW1]; exact M1x0
  have HW1 : Hid (W1 = (w1).setCell ⟨w.heap.size + 1, 0, none⟩ (.int .i64 k)) := hW1
  obtain ⟨a0, a1, a2, a3, a4, a5, a6, a7, a8, a9, a10, a11, a12⟩ := M1a.own
  have f0 := M1a.ofr 0
  clear hW1 M1a M1x0 s1 k1
  go_upto_region 3 with fail
  rw [← HW1.out]
  clear a0 a1 a2 a3 a4 a5 a6 a7 a8 a9 a10 a11 a12 f0
  go_wp2_with fail
  refine (K2.out _ M1.out.st).mono ?_
  rintro x w2 ⟨rfl, s2, k2⟩
  have M2a := M1.out.step s2 k2
  have M2x1 : Me w ((w2).setCell ⟨w.heap.size + 1, 1, none⟩ (.int .i64 t)) g h l2 e2 (.int .i64 k) (.int .i64 t) (.int .i64 0) (.int .i64 0) (.string ⟨#[]⟩) (.int .i64 0) (.int .i64 0) (.int .u64 0) (.string ⟨#[]⟩) (.slice none 0 0) (.int .i64 0) (.int .u64 0) (.int .i64 0) := Me.put M2a _ ((M2a).own.set1 _)
  obtain ⟨W2, hW2⟩ : ∃ W2, W2 = (w2).setCell ⟨w.heap.size + 1, 1, none⟩ (.int .i64 t) := ⟨_, rfl⟩
  have M2 : Hid (Me w W2 g h l2 e2 (.int .i64 k) (.int .i64 t) (.int .i64 0) (.int .i64 0) (.string ⟨#[]⟩) (.int .i64 0) (.int .i64 0) (.int .u64 0) (.string ⟨#[]⟩) (.slice none 0 0) (.int .i64 0) (.int .u64 0) (.int .i64 0)) := by rw [hW2]; exact M2x1
  have HW2 : Hid (W2 = (w2).setCell ⟨w.heap.size + 1, 1, none⟩ (.int .i64 t)) := hW2
  obtain ⟨a0, a1, a2, a3, a4, a5, a6, a7, a8, a9, a10, a11, a12⟩ := M2a.own
  have f1 := M2a.ofr 1
  clear hW2 M2a M2x1 s2 k2
  go_upto_region 4 with fail
  rw [← HW2.out]
  clear a0 a1 a2 a3 a4 a5 a6 a7 a8 a9 a10 a11 a12 f1
  obtain ⟨a0, a1, a2, a3, a4, a5, a6, a7, a8, a9, a10, a11, a12⟩ := M2.out.own
  go_wp2_with fail
  refine (PC.out _).mono ?_
  rintro x w9 ⟨rfl, hw9⟩
  have hw9' := hw9.symm
  subst hw9'
  clear hw9
  clear a0 a1 a2 a3 a4 a5 a6 a7 a8 a9 a10 a11 a12
  go_wp2_with fail
  refine (K6.out _ M2.out.st (by have := M2.out.hw; have := M2.out.q1; omega)).mono ?_
  rintro x w3 ⟨v3, rfl, hi3, s3, k3⟩
  dsimp only at hi3 s3
  obtain ⟨vk, vx, vb, vs, la, ll, lc, rfl⟩ := hi3.shape
  have M3a := M2.out.step s3 k3
  have M3x5 : Me w ((w3).setCell ⟨w.heap.size + 1, 5, none⟩ (.int .i64 vk)) g h l6 e6 (.int .i64 k) (.int .i64 t) (.int .i64 0) (.int .i64 0) (.string ⟨#[]⟩) (.int .i64 vk) (.int .i64 0) (.int .u64 0) (.string ⟨#[]⟩) (.slice none 0 0) (.int .i64 0) (.int .u64 0) (.int .i64 0) := Me.put M3a _ ((M3a).own.set5 _)
  have M3x6 : Me w (((w3).setCell ⟨w.heap.size + 1, 5, none⟩ (.int .i64 vk)).setCell ⟨w.heap.size + 1, 6, none⟩ (.int .i64 vx)) g h l6 e6 (.int .i64 k) (.int .i64 t) (.int .i64 0) (.int .i64 0) (.string ⟨#[]⟩) (.int .i64 vk) (.int .i64 vx) (.int .u64 0) (.string ⟨#[]⟩) (.slice none 0 0) (.int .i64 0) (.int .u64 0) (.int .i64 0) := Me.put M3x5 _ ((M3x5).own.set6 _)
  have M3x7 : Me w ((((w3).setCell ⟨w.heap.size + 1, 5, none⟩ (.int .i64 vk)).setCell ⟨w.heap.size + 1, 6, none⟩ (.int .i64 vx)).setCell ⟨w.heap.size + 1, 7, none⟩ (.int .u64 vb)) g h l6 e6 (.int .i64 k) (.int .i64 t) (.int .i64 0) (.int .i64 0) (.string ⟨#[]⟩) (.int .i64 vk) (.int .i64 vx) (.int .u64 vb) (.string ⟨#[]⟩) (.slice none 0 0) (.int .i64 0) (.int .u64 0) (.int .i64 0) := Me.put M3x6 _ ((M3x6).own.set7 _)
  have M3x8 : Me w (((((w3).setCell ⟨w.heap.size + 1, 5, none⟩ (.int .i64 vk)).setCell ⟨w.heap.size + 1, 6, none⟩ (.int .i64 vx)).setCell ⟨w.heap.size + 1, 7, none⟩ (.int .u64 vb)).setCell ⟨w.heap.size + 1, 8, none⟩ (.string vs)) g h l6 e6 (.int .i64 k) (.int .i64 t) (.int .i64 0) (.int .i64 0) (.string ⟨#[]⟩) (.int .i64 vk) (.int .i64 vx) (.int .u64 vb) (.string vs) (.slice none 0 0) (.int .i64 0) (.int .u64 0) (.int .i64 0) := Me.put M3x7 _ ((M3x7).own.set8 _)
  have M3x9 : Me w ((((((w3).setCell ⟨w.heap.size + 1, 5, none⟩ (.int .i64 vk)).setCell ⟨w.heap.size + 1, 6, none⟩ (.int .i64 vx)).setCell ⟨w.heap.size + 1, 7, none⟩ (.int .u64 vb)).setCell ⟨w.heap.size + 1, 8, none⟩ (.string vs)).setCell ⟨w.heap.size + 1, 9, none⟩ (.slice la ll lc)) g h l6 e6 (.int .i64 k) (.int .i64 t) (.int .i64 0) (.int .i64 0) (.string ⟨#[]⟩) (.int .i64 vk) (.int .i64 vx) (.int .u64 vb) (.string vs) (.slice la ll lc) (.int .i64 0) (.int .u64 0) (.int .i64 0) := Me.put M3x8 _ ((M3x8).own.set9 _)
  obtain ⟨W3, hW3⟩ : ∃ W3, W3 = (((((w3).setCell ⟨w.heap.size + 1, 5, none⟩ (.int .i64 vk)).setCell ⟨w.heap.size + 1, 6, none⟩ (.int .i64 vx)).setCell ⟨w.heap.size + 1, 7, none⟩ (.int .u64 vb)).setCell ⟨w.heap.size + 1, 8, none⟩ (.string vs)).setCell ⟨w.heap.size + 1, 9, none⟩ (.slice la ll lc) := ⟨_, rfl⟩
  have M3 : Hid (Me w W3 g h l6 e6 (.int .i64 k) (.int .i64 t) (.int .i64 0) (.int .i64 0) (.string ⟨#[]⟩) (.int .i64 vk) (.int .i64 vx) (.int .u64 vb) (.string vs) (.slice la ll lc) (.int .i64 0) (.int .u64 0) (.int .i64 0)) := by rw [hW3]; exact M3x9
  have HW3 : Hid (W3 = (((((w3).setCell ⟨w.heap.size + 1, 5, none⟩ (.int .i64 vk)).setCell ⟨w.heap.size + 1, 6, none⟩ (.int .i64 vx)).setCell ⟨w.heap.size + 1, 7, none⟩ (.int .u64 vb)).setCell ⟨w.heap.size + 1, 8, none⟩ (.string vs)).setCell ⟨w.heap.size + 1, 9, none⟩ (.slice la ll lc)) := hW3
  obtain ⟨a0, a1, a2, a3, a4, a5, a6, a7, a8, a9, a10, a11, a12⟩ := M3a.own
  have f5 := M3a.ofr 5
  have f6 := M3a.ofr 6
  have f7 := M3a.ofr 7
  have f8 := M3a.ofr 8
  have f9 := M3a.ofr 9
  have I3 : Hid (IsN (w.heap.size + 1 + 1) W3 5 (.agg #[.int .i64 vk, .int .i64 vx, .int .u64 vb, .string vs, .slice la ll lc]) tv) := by
    rw [hW3]
    have hz := M2.out.q1
    exact IsN.put (by omega) _ (IsN.put (by omega) _ (IsN.put (by omega) _ (IsN.put (by omega) _ (IsN.put (by omega) _ (hi3.lower (by omega))))))
  clear hW3 M3a M3x5 M3x6 M3x7 M3x8 M3x9 s3 k3 hi3
  go_upto_region 16 with fail
  rw [← HW3.out]
  clear a0 a1 a2 a3 a4 a5 a6 a7 a8 a9 a10 a11 a12 f5 f6 f7 f8 f9
  obtain ⟨a0, a1, a2, a3, a4, a5, a6, a7, a8, a9, a10, a11, a12⟩ := M3.out.own
  obtain ⟨b0, b1, b2, b3, b4, b5, b6, b7, b8, b9, b10, b11, b12⟩ := M3.out.res
  have f0 := M3.out.rfr 0
  have f1 := M3.out.rfr 1
  have f2 := M3.out.rfr 2
  have f3 := M3.out.rfr 3
  have f4 := M3.out.rfr 4
  have f5 := M3.out.rfr 5
  have f6 := M3.out.rfr 6
  have f7 := M3.out.rfr 7
  have f8 := M3.out.rfr 8
  have f9 := M3.out.rfr 9
  have f10 := M3.out.rfr 10
  have f11 := M3.out.rfr 11
  have f12 := M3.out.rfr 12
  go_wp2_with fail
  refine bodyPost_ret (ret13 Try.results40 _ (g := w.heap.size) rfl (set13_at M3.out.res (.int .i64 k) (.int .i64 t) (.int .i64 0) (.int .i64 0) (.string ⟨#[]⟩) (.int .i64 vk) (.int .i64 vx) (.int .u64 vb) (.string vs) (.slice la ll lc) (.int .i64 0) (.int .u64 0) (.int .i64 0))) rfl ?_
  rw [HP.out]
  exact M3.out.fin k t 0 0 ⟨#[]⟩ vk vx vb vs la ll lc 0 0 0 tv (I3.out.lower (by omega))
set_option maxHeartbeats 4000000 in
set_option maxRecDepth 100000 in
theorem parts_r3 (w : World) (g h : Nat) (l : List UInt8) (e : Int) (r : St w g h l e) (hh : h < w.heap.size) (_hl : l.length ≤ 281474976710656) (hk : pt (sNum 19 l e).1 = 3) :
    Calls Try.prog 40 #[.pointer (some ⟨g, 0, none⟩)] w (ErP w g h (rpE l e)) := by
  have M0 : Hid (Me w ((w.alloc (.cells #[.int .i64 0, .int .i64 0, .int .i64 0, .int .i64 0, .string ⟨#[]⟩, .int .i64 0, .int .i64 0, .int .u64 0, .string ⟨#[]⟩, .slice none 0 0, .int .i64 0, .int .u64 0, .int .i64 0] 39)).alloc (.cells #[.int .i64 0, .int .i64 0, .int .i64 0, .int .i64 0, .string ⟨#[]⟩, .int .i64 0, .int .i64 0, .int .u64 0, .string ⟨#[]⟩, .slice none 0 0, .int .i64 0, .int .u64 0, .int .i64 0] 39)) g h l e (.int .i64 0) (.int .i64 0) (.int .i64 0) (.int .i64 0) (.string ⟨#[]⟩) (.int .i64 0) (.int .i64 0) (.int .u64 0) (.string ⟨#[]⟩) (.slice none 0 0) (.int .i64 0) (.int .u64 0) (.int .i64 0)) := Me.first r hh
  obtain ⟨W0, hW0⟩ : ∃ W0, W0 = ((w.alloc (.cells #[.int .i64 0, .int .i64 0, .int .i64 0, .int .i64 0, .string ⟨#[]⟩, .int .i64 0, .int .i64 0, .int .u64 0, .string ⟨#[]⟩, .slice none 0 0, .int .i64 0, .int .u64 0, .int .i64 0] 39)).alloc (.cells #[.int .i64 0, .int .i64 0, .int .i64 0, .int .i64 0, .string ⟨#[]⟩, .int .i64 0, .int .i64 0, .int .u64 0, .string ⟨#[]⟩, .slice none 0 0, .int .i64 0, .int .u64 0, .int .i64 0] 39)) := ⟨_, rfl⟩
  rw [← hW0] at M0
  have HW0 : Hid (W0 = ((w.alloc (.cells #[.int .i64 0, .int .i64 0, .int .i64 0, .int .i64 0, .string ⟨#[]⟩, .int .i64 0, .int .i64 0, .int .u64 0, .string ⟨#[]⟩, .slice none 0 0, .int .i64 0, .int .u64 0, .int .i64 0] 39)).alloc (.cells #[.int .i64 0, .int .i64 0, .int .i64 0, .int .i64 0, .string ⟨#[]⟩, .int .i64 0, .int .i64 0, .int .u64 0, .string ⟨#[]⟩, .slice none 0 0, .int .i64 0, .int .u64 0, .int .i64 0] 39))) := hW0
  have N1 := num_st W0 g h l e 19 M0.out.st
  have hR : rpE l e = rpE l e := rfl
  conv at hR => rhs; unfold rpE
  have g1 := sNum_len 19 l e
  generalize sNum 19 l e = R1 at N1 hk hR g1
  obtain ⟨k, l1, e1⟩ := R1
  dsimp only at N1 hk hR g1
  have eN : hN k = true := by unfold hN; rw [hk]; decide
  have eD : hD k = true := by unfold hD; rw [hk]; decide
  have eM : hM k = false := by unfold hM; rw [hk]; decide
  have eT : hT k = false := by unfold hT; rw [hk]; decide
  have eV : hV k = false := by unfold hV; rw [hk]; decide
  have eP' : hP k = false := by unfold hP; rw [hk]; decide
  rw [eN, eD, eM, eT, eV, eP'] at hR
  simp only [Bool.false_eq_true, if_true, if_false] at hR
  have K1 : Hid (Calls Try.prog 52 #[.pointer (some ⟨g, 0, none⟩), .int .i64 19] W0 (Rs W0 g h (.int .i64 k) l1 e1)) := N1
  have N2 := fun W (s : St W g h l1 e1) => num_st W g h l1 e1 1099511627776 s
  have g2 := sNum_len 1099511627776 l1 e1
  generalize sNum 1099511627776 l1 e1 = R2 at N2 hR g2
  obtain ⟨t, l2, e2⟩ := R2
  dsimp only at N2 hR g2
  have K2 : Hid (∀ W, St W g h l1 e1 → Calls Try.prog 52 #[.pointer (some ⟨g, 0, none⟩), .int .i64 1099511627776] W (Rs W g h (.int .i64 t) l2 e2)) := N2
  have PC : Hid (∀ W, Calls Try.prog 25 #[.int .i64 k] W fun e w' => e = .returned (.int .i64 3) ∧ w' = W) := fun W => by have := parts_calls k W; rw [hk] at this; exact this
  have NL : Hid (∀ W, _) := fun W => numLimits_calls k W
  have N3 := fun W (s : St W g h l2 e2) => num_st W g h l2 e2 (nm k) s
  have g3 := sNum_len (nm k) l2 e2
  generalize sNum (nm k) l2 e2 = R3 at N3 hR g3
  obtain ⟨n, l3, e3⟩ := R3
  dsimp only at N3 hR g3
  generalize nm k = b at NL N3
  generalize nl k = a at NL
  have K3 : Hid (∀ W, St W g h l2 e2 → Calls Try.prog 52 #[.pointer (some ⟨g, 0, none⟩), .int .i64 b] W (Rs W g h (.int .i64 n) l3 e3)) := N3
  have N4 := fun W (s : St W g h l3 e3) => num_st W g h l3 e3 2199023255552 s
  have g4 := sNum_len 2199023255552 l3 e3
  generalize sNum 2199023255552 l3 e3 = R4 at N4 hR g4
  obtain ⟨d, l4, e4⟩ := R4
  dsimp only at N4 hR g4
  have K4 : Hid (∀ W, St W g h l3 e3 → Calls Try.prog 52 #[.pointer (some ⟨g, 0, none⟩), .int .i64 2199023255552] W (Rs W g h (.int .i64 d) l4 e4)) := N4
  rw [str_none] at hR
  have HP : Hid (rpE l e = _) := hR
  have z1 : bits BinOp.and IntKind.i64 3 1 = 1 := by decide +kernel
  have z2 : bits BinOp.and IntKind.i64 3 2 = 2 := by decide +kernel
  have z4 : bits BinOp.and IntKind.i64 3 4 = 0 := by decide +kernel
  have z8 : bits BinOp.and IntKind.i64 3 8 = 0 := by decide +kernel
  have z16 : bits BinOp.and IntKind.i64 3 16 = 0 := by decide +kernel
  have z32 : bits BinOp.and IntKind.i64 3 32 = 0 := by decide +kernel
  clear hW0 r hh hk hR eN eD eM eT eV eP' g1 g2 g3 g4 N1 N2 N3 N4
  go_enter Try.func40, Try.ntmps40
  go_upto_region 2 with fail
  rw [← HW0.out]
  go_wp2_with fail
  refine (K1.out).mono ?_
  rintro x w1 ⟨rfl, s1, k1⟩
  have M1a := M0.out.step s1 k1
  have M1x0 : Me w ((w1).setCell ⟨w.heap.size + 1, 0, none⟩ (.int .i64 k)) g h l1 e1 (.int .i64 k) (.int .i64 0) (.int .i64 0) (.int .i64 0) (.string ⟨#[]⟩) (.int .i64 0) (.int .i64 0) (.int .u64 0) (.string ⟨#[]⟩) (.slice none 0 0) (.int .i64 0) (.int .u64 0) (.int .i64 0) := Me.put M1a _ ((M1a).own.set0 _)
  obtain ⟨W1, hW1⟩ : ∃ W1, W1 = (w1).setCell ⟨w.heap.size + 1, 0, none⟩ (.int .i64 k) := ⟨_, rfl⟩
  have M1 : Hid (Me w W1 g h l1 e1 (.int .i64 k) (.int .i64 0) (.int .i64 0) (.int .i64 0) (.string ⟨#[]⟩) (.int .i64 0) (.int .i64 0) (.int .u64 0) (.string ⟨#[]⟩) (.slice none 0 0) (.int .i64 0) (.int .u64 0) (.int .i64 0)) := by rw [hW1]; exact M1x0
  have HW1 : Hid (W1 = (w1).setCell ⟨w.heap.size + 1, 0, none⟩ (.int .i64 k)) := hW1
  obtain ⟨a0, a1, a2, a3, a4, a5, a6, a7, a8, a9, a10, a11, a12⟩ := M1a.own
  have f0 := M1a.ofr 0
  clear hW1 M1a M1x0 s1 k1
  go_upto_region 3 with fail
  rw [← HW1.out]
  clear a0 a1 a2 a3 a4 a5 a6 a7 a8 a9 a10 a11 a12 f0
  go_wp2_with fail
  refine (K2.out _ M1.out.st).mono ?_
  rintro x w2 ⟨rfl, s2, k2⟩
  have M2a := M1.out.step s2 k2
  have M2x1 : Me w ((w2).setCell ⟨w.heap.size + 1, 1, none⟩ (.int .i64 t)) g h l2 e2 (.int .i64 k) (.int .i64 t) (.int .i64 0) (.int .i64 0) (.string ⟨#[]⟩) (.int .i64 0) (.int .i64 0) (.int .u64 0) (.string ⟨#[]⟩) (.slice none 0 0) (.int .i64 0) (.int .u64 0) (.int .i64 0) := Me.put M2a _ ((M2a).own.set1 _)
  obtain ⟨W2, hW2⟩ : ∃ W2, W2 = (w2).setCell ⟨w.heap.size + 1, 1, none⟩ (.int .i64 t) := ⟨_, rfl⟩
  have M2 : Hid (Me w W2 g h l2 e2 (.int .i64 k) (.int .i64 t) (.int .i64 0) (.int .i64 0) (.string ⟨#[]⟩) (.int .i64 0) (.int .i64 0) (.int .u64 0) (.string ⟨#[]⟩) (.slice none 0 0) (.int .i64 0) (.int .u64 0) (.int .i64 0)) := by rw [hW2]; exact M2x1
  have HW2 : Hid (W2 = (w2).setCell ⟨w.heap.size + 1, 1, none⟩ (.int .i64 t)) := hW2
  obtain ⟨a0, a1, a2, a3, a4, a5, a6, a7, a8, a9, a10, a11, a12⟩ := M2a.own
  have f1 := M2a.ofr 1
  clear hW2 M2a M2x1 s2 k2
  go_upto_region 4 with fail
  rw [← HW2.out]
  clear a0 a1 a2 a3 a4 a5 a6 a7 a8 a9 a10 a11 a12 f1
  obtain ⟨a0, a1, a2, a3, a4, a5, a6, a7, a8, a9, a10, a11, a12⟩ := M2.out.own
  go_wp2_with fail
  refine (PC.out _).mono ?_
  rintro x w9 ⟨rfl, hw9⟩
  have hw9' := hw9.symm
  subst hw9'
  clear hw9
  go_wp2_with fail
  refine (NL.out _).mono ?_
  rintro x w9 ⟨rfl, hw9⟩
  have hw9' := hw9.symm
  subst hw9'
  clear hw9 a0 a1 a2 a3 a4 a5 a6 a7 a8 a9 a10 a11 a12
  go_wp2_with fail
  refine (K3.out _ M2.out.st).mono ?_
  rintro x w3 ⟨rfl, s3, k3⟩
  have M3a := M2.out.step s3 k3
  have M3x2 : Me w ((w3).setCell ⟨w.heap.size + 1, 2, none⟩ (.int .i64 n)) g h l3 e3 (.int .i64 k) (.int .i64 t) (.int .i64 n) (.int .i64 0) (.string ⟨#[]⟩) (.int .i64 0) (.int .i64 0) (.int .u64 0) (.string ⟨#[]⟩) (.slice none 0 0) (.int .i64 0) (.int .u64 0) (.int .i64 0) := Me.put M3a _ ((M3a).own.set2 _)
  obtain ⟨W3, hW3⟩ : ∃ W3, W3 = (w3).setCell ⟨w.heap.size + 1, 2, none⟩ (.int .i64 n) := ⟨_, rfl⟩
  have M3 : Hid (Me w W3 g h l3 e3 (.int .i64 k) (.int .i64 t) (.int .i64 n) (.int .i64 0) (.string ⟨#[]⟩) (.int .i64 0) (.int .i64 0) (.int .u64 0) (.string ⟨#[]⟩) (.slice none 0 0) (.int .i64 0) (.int .u64 0) (.int .i64 0)) := by rw [hW3]; exact M3x2
  have HW3 : Hid (W3 = (w3).setCell ⟨w.heap.size + 1, 2, none⟩ (.int .i64 n)) := hW3
  obtain ⟨a0, a1, a2, a3, a4, a5, a6, a7, a8, a9, a10, a11, a12⟩ := M3a.own
  have f2 := M3a.ofr 2
  clear hW3 M3a M3x2 s3 k3
  go_upto_region 8 with fail
  rw [← HW3.out]
  clear a0 a1 a2 a3 a4 a5 a6 a7 a8 a9 a10 a11 a12 f2
  go_wp2_with fail
  refine (K4.out _ M3.out.st).mono ?_
  rintro x w4 ⟨rfl, s4, k4⟩
  have M4a := M3.out.step s4 k4
  have M4x3 : Me w ((w4).setCell ⟨w.heap.size + 1, 3, none⟩ (.int .i64 d)) g h l4 e4 (.int .i64 k) (.int .i64 t) (.int .i64 n) (.int .i64 d) (.string ⟨#[]⟩) (.int .i64 0) (.int .i64 0) (.int .u64 0) (.string ⟨#[]⟩) (.slice none 0 0) (.int .i64 0) (.int .u64 0) (.int .i64 0) := Me.put M4a _ ((M4a).own.set3 _)
  obtain ⟨W4, hW4⟩ : ∃ W4, W4 = (w4).setCell ⟨w.heap.size + 1, 3, none⟩ (.int .i64 d) := ⟨_, rfl⟩
  have M4 : Hid (Me w W4 g h l4 e4 (.int .i64 k) (.int .i64 t) (.int .i64 n) (.int .i64 d) (.string ⟨#[]⟩) (.int .i64 0) (.int .i64 0) (.int .u64 0) (.string ⟨#[]⟩) (.slice none 0 0) (.int .i64 0) (.int .u64 0) (.int .i64 0)) := by rw [hW4]; exact M4x3
  have HW4 : Hid (W4 = (w4).setCell ⟨w.heap.size + 1, 3, none⟩ (.int .i64 d)) := hW4
  obtain ⟨a0, a1, a2, a3, a4, a5, a6, a7, a8, a9, a10, a11, a12⟩ := M4a.own
  have f3 := M4a.ofr 3
  clear hW4 M4a M4x3 s4 k4
  go_upto_region 10 with fail
  rw [← HW4.out]
  clear a0 a1 a2 a3 a4 a5 a6 a7 a8 a9 a10 a11 a12 f3
  obtain ⟨a0, a1, a2, a3, a4, a5, a6, a7, a8, a9, a10, a11, a12⟩ := M4.out.own
  obtain ⟨b0, b1, b2, b3, b4, b5, b6, b7, b8, b9, b10, b11, b12⟩ := M4.out.res
  have f0 := M4.out.rfr 0
  have f1 := M4.out.rfr 1
  have f2 := M4.out.rfr 2
  have f3 := M4.out.rfr 3
  have f4 := M4.out.rfr 4
  have f5 := M4.out.rfr 5
  have f6 := M4.out.rfr 6
  have f7 := M4.out.rfr 7
  have f8 := M4.out.rfr 8
  have f9 := M4.out.rfr 9
  have f10 := M4.out.rfr 10
  have f11 := M4.out.rfr 11
  have f12 := M4.out.rfr 12
  go_wp2_with fail
  refine bodyPost_ret (ret13 Try.results40 _ (g := w.heap.size) rfl (set13_at M4.out.res (.int .i64 k) (.int .i64 t) (.int .i64 n) (.int .i64 d) (.string ⟨#[]⟩) (.int .i64 0) (.int .i64 0) (.int .u64 0) (.string ⟨#[]⟩) (.slice none 0 0) (.int .i64 0) (.int .u64 0) (.int .i64 0))) rfl ?_
  rw [HP.out]
  exact M4.out.fin k t n d ⟨#[]⟩ 0 0 0 ⟨#[]⟩ none 0 0 0 0 0 zE (zE_isN _ _)
set_option maxHeartbeats 4000000 in
set_option maxRecDepth 100000 in
theorem parts_r2 (w : World) (g h : Nat) (l : List UInt8) (e : Int) (r : St w g h l e) (hh : h < w.heap.size) (_hl : l.length ≤ 281474976710656) (hk : pt (sNum 19 l e).1 = 2) :
    Calls Try.prog 40 #[.pointer (some ⟨g, 0, none⟩)] w (ErP w g h (rpE l e)) := by
  have M0 : Hid (Me w ((w.alloc (.cells #[.int .i64 0, .int .i64 0, .int .i64 0, .int .i64 0, .string ⟨#[]⟩, .int .i64 0, .int .i64 0, .int .u64 0, .string ⟨#[]⟩, .slice none 0 0, .int .i64 0, .int .u64 0, .int .i64 0] 39)).alloc (.cells #[.int .i64 0, .int .i64 0, .int .i64 0, .int .i64 0, .string ⟨#[]⟩, .int .i64 0, .int .i64 0, .int .u64 0, .string ⟨#[]⟩, .slice none 0 0, .int .i64 0, .int .u64 0, .int .i64 0] 39)) g h l e (.int .i64 0) (.int .i64 0) (.int .i64 0) (.int .i64 0) (.string ⟨#[]⟩) (.int .i64 0) (.int .i64 0) (.int .u64 0) (.string ⟨#[]⟩) (.slice none 0 0) (.int .i64 0) (.int .u64 0) (.int .i64 0)) := Me.first r hh
  obtain ⟨W0, hW0⟩ : ∃ W0, W0 = ((w.alloc (.cells #[.int .i64 0, .int .i64 0, .int .i64 0, .int .i64 0, .string ⟨#[]⟩, .int .i64 0, .int .i64 0, .int .u64 0, .string ⟨#[]⟩, .slice none 0 0, .int .i64 0, .int .u64 0, .int .i64 0] 39)).alloc (.cells #[.int .i64 0, .int .i64 0, .int .i64 0, .int .i64 0, .string ⟨#[]⟩, .int .i64 0, .int .i64 0, .int .u64 0, .string ⟨#[]⟩, .slice none 0 0, .int .i64 0, .int .u64 0, .int .i64 0] 39)) := ⟨_, rfl⟩
  rw [← hW0] at M0
  have HW0 : Hid (W0 = ((w.alloc (.cells #[.int .i64 0, .int .i64 0, .int .i64 0, .int .i64 0, .string ⟨#[]⟩, .int .i64 0, .int .i64 0, .int .u64 0, .string ⟨#[]⟩, .slice none 0 0, .int .i64 0, .int .u64 0, .int .i64 0] 39)).alloc (.cells #[.int .i64 0, .int .i64 0, .int .i64 0, .int .i64 0, .string ⟨#[]⟩, .int .i64 0, .int .i64 0, .int .u64 0, .string ⟨#[]⟩, .slice none 0 0, .int .i64 0, .int .u64 0, .int .i64 0] 39))) := hW0
  have N1 := num_st W0 g h l e 19 M0.out.st
  have hR : rpE l e = rpE l e := rfl
  conv at hR => rhs; unfold rpE
  have g1 := sNum_len 19 l e
  generalize sNum 19 l e = R1 at N1 hk hR g1
  obtain ⟨k, l1, e1⟩ := R1
  dsimp only at N1 hk hR g1
  have eN : hN k = false := by unfold hN; rw [hk]; decide
  have eD : hD k = true := by unfold hD; rw [hk]; decide
  have eM : hM k = false := by unfold hM; rw [hk]; decide
  have eT : hT k = false := by unfold hT; rw [hk]; decide
  have eV : hV k = false := by unfold hV; rw [hk]; decide
  have eP' : hP k = false := by unfold hP; rw [hk]; decide
  rw [eN, eD, eM, eT, eV, eP'] at hR
  simp only [Bool.false_eq_true, if_true, if_false] at hR
  have K1 : Hid (Calls Try.prog 52 #[.pointer (some ⟨g, 0, none⟩), .int .i64 19] W0 (Rs W0 g h (.int .i64 k) l1 e1)) := N1
  have N2 := fun W (s : St W g h l1 e1) => num_st W g h l1 e1 1099511627776 s
  have g2 := sNum_len 1099511627776 l1 e1
  generalize sNum 1099511627776 l1 e1 = R2 at N2 hR g2
  obtain ⟨t, l2, e2⟩ := R2
  dsimp only at N2 hR g2
  have K2 : Hid (∀ W, St W g h l1 e1 → Calls Try.prog 52 #[.pointer (some ⟨g, 0, none⟩), .int .i64 1099511627776] W (Rs W g h (.int .i64 t) l2 e2)) := N2
  have PC : Hid (∀ W, Calls Try.prog 25 #[.int .i64 k] W fun e w' => e = .returned (.int .i64 2) ∧ w' = W) := fun W => by have := parts_calls k W; rw [hk] at this; exact this
  have NL : Hid (∀ W, _) := fun W => numLimits_calls k W
  have N4 := fun W (s : St W g h l2 e2) => num_st W g h l2 e2 2199023255552 s
  have g4 := sNum_len 2199023255552 l2 e2
  generalize sNum 2199023255552 l2 e2 = R4 at N4 hR g4
  obtain ⟨d, l4, e4⟩ := R4
  dsimp only at N4 hR g4
  have K4 : Hid (∀ W, St W g h l2 e2 → Calls Try.prog 52 #[.pointer (some ⟨g, 0, none⟩), .int .i64 2199023255552] W (Rs W g h (.int .i64 d) l4 e4)) := N4
  rw [str_none] at hR
  have HP : Hid (rpE l e = _) := hR
  have z1 : bits BinOp.and IntKind.i64 2 1 = 0 := by decide +kernel
  have z2 : bits BinOp.and IntKind.i64 2 2 = 2 := by decide +kernel
  have z4 : bits BinOp.and IntKind.i64 2 4 = 0 := by decide +kernel
  have z8 : bits BinOp.and IntKind.i64 2 8 = 0 := by decide +kernel
  have z16 : bits BinOp.and IntKind.i64 2 16 = 0 := by decide +kernel
  have z32 : bits BinOp.and IntKind.i64 2 32 = 0 := by decide +kernel
  clear hW0 r hh hk hR eN eD eM eT eV eP' g1 g2 g4 N1 N2 N4
  go_enter Try.func40, Try.ntmps40
  go_upto_region 2 with fail
  rw [← HW0.out]
  go_wp2_with fail
  refine (K1.out).mono ?_
  rintro x w1 ⟨rfl, s1, k1⟩
  have M1a := M0.out.step s1 k1
  have M1x0 : Me w ((w1).setCell ⟨w.heap.size + 1, 0, none⟩ (.int .i64 k)) g h l1 e1 (.int .i64 k) (.int .i64 0) (.int .i64 0) (.int .i64 0) (.string ⟨#[]⟩) (.int .i64 0) (.int .i64 0) (.int .u64 0) (.string ⟨#[]⟩) (.slice none 0 0) (.int .i64 0) (.int .u64 0) (.int .i64 0) := Me.put M1a _ ((M1a).own.set0 _)
  obtain ⟨W1, hW1⟩ : ∃ W1, W1 = (w1).setCell ⟨w.heap.size + 1, 0, none⟩ (.int .i64 k) := ⟨_, rfl⟩
  have M1 : Hid (Me w W1 g h l1 e1 (.int .i64 k) (.int .i64 0) (.int .i64 0) (.int .i64 0) (.string ⟨#[]⟩) (.int .i64 0) (.int .i64 0) (.int .u64 0) (.string ⟨#[]⟩) (.slice none 0 0) (.int .i64 0) (.int .u64 0) (.int .i64 0)) := by rw [hW1]; exact M1x0
  have HW1 : Hid (W1 = (w1).setCell ⟨w.heap.size + 1, 0, none⟩ (.int .i64 k)) := hW1
  obtain ⟨a0, a1, a2, a3, a4, a5, a6, a7, a8, a9, a10, a11, a12⟩ := M1a.own
  have f0 := M1a.ofr 0
  clear hW1 M1a M1x0 s1 k1
  go_upto_region 3 with fail
  rw [← HW1.out]
  clear a0 a1 a2 a3 a4 a5 a6 a7 a8 a9 a10 a11 a12 f0
  go_wp2_with fail
  refine (K2.out _ M1.out.st).mono ?_
  rintro x w2 ⟨rfl, s2, k2⟩
  have M2a := M1.out.step s2 k2
  have M2x1 : Me w ((w2).setCell ⟨w.heap.size + 1, 1, none⟩ (.int .i64 t)) g h l2 e2 (.int .i64 k) (.int .i64 t) (.int .i64 0) (.int .i64 0) (.string ⟨#[]⟩) (.int .i64 0) (.int .i64 0) (.int .u64 0) (.string ⟨#[]⟩) (.slice none 0 0) (.int .i64 0) (.int .u64 0) (.int .i64 0) := Me.put M2a _ ((M2a).own.set1 _)
  obtain ⟨W2, hW2⟩ : ∃ W2, W2 = (w2).setCell ⟨w.heap.size + 1, 1, none⟩ (.int .i64 t) := ⟨_, rfl⟩
  have M2 : Hid (Me w W2 g h l2 e2 (.int .i64 k) (.int .i64 t) (.int .i64 0) (.int .i64 0) (.string ⟨#[]⟩) (.int .i64 0) (.int .i64 0) (.int .u64 0) (.string ⟨#[]⟩) (.slice none 0 0) (.int .i64 0) (.int .u64 0) (.int .i64 0)) := by rw [hW2]; exact M2x1
  have HW2 : Hid (W2 = (w2).setCell ⟨w.heap.size + 1, 1, none⟩ (.int .i64 t)) := hW2
  obtain ⟨a0, a1, a2, a3, a4, a5, a6, a7, a8, a9, a10, a11, a12⟩ := M2a.own
  have f1 := M2a.ofr 1
  clear hW2 M2a M2x1 s2 k2
  go_upto_region 4 with fail
  rw [← HW2.out]
  clear a0 a1 a2 a3 a4 a5 a6 a7 a8 a9 a10 a11 a12 f1
  obtain ⟨a0, a1, a2, a3, a4, a5, a6, a7, a8, a9, a10, a11, a12⟩ := M2.out.own
  go_wp2_with fail
  refine (PC.out _).mono ?_
  rintro x w9 ⟨rfl, hw9⟩
  have hw9' := hw9.symm
  subst hw9'
  clear hw9
  clear a0 a1 a2 a3 a4 a5 a6 a7 a8 a9 a10 a11 a12
  go_wp2_with fail
  refine (K4.out _ M2.out.st).mono ?_
  rintro x w3 ⟨rfl, s3, k3⟩
  have M3a := M2.out.step s3 k3
  have M3x3 : Me w ((w3).setCell ⟨w.heap.size + 1, 3, none⟩ (.int .i64 d)) g h l4 e4 (.int .i64 k) (.int .i64 t) (.int .i64 0) (.int .i64 d) (.string ⟨#[]⟩) (.int .i64 0) (.int .i64 0) (.int .u64 0) (.string ⟨#[]⟩) (.slice none 0 0) (.int .i64 0) (.int .u64 0) (.int .i64 0) := Me.put M3a _ ((M3a).own.set3 _)
  obtain ⟨W3, hW3⟩ : ∃ W3, W3 = (w3).setCell ⟨w.heap.size + 1, 3, none⟩ (.int .i64 d) := ⟨_, rfl⟩
  have M3 : Hid (Me w W3 g h l4 e4 (.int .i64 k) (.int .i64 t) (.int .i64 0) (.int .i64 d) (.string ⟨#[]⟩) (.int .i64 0) (.int .i64 0) (.int .u64 0) (.string ⟨#[]⟩) (.slice none 0 0) (.int .i64 0) (.int .u64 0) (.int .i64 0)) := by rw [hW3]; exact M3x3
  have HW3 : Hid (W3 = (w3).setCell ⟨w.heap.size + 1, 3, none⟩ (.int .i64 d)) := hW3
  obtain ⟨a0, a1, a2, a3, a4, a5, a6, a7, a8, a9, a10, a11, a12⟩ := M3a.own
  have f3 := M3a.ofr 3
  clear hW3 M3a M3x3 s3 k3
  go_upto_region 10 with fail
  rw [← HW3.out]
  clear a0 a1 a2 a3 a4 a5 a6 a7 a8 a9 a10 a11 a12 f3
  obtain ⟨a0, a1, a2, a3, a4, a5, a6, a7, a8, a9, a10, a11, a12⟩ := M3.out.own
  obtain ⟨b0, b1, b2, b3, b4, b5, b6, b7, b8, b9, b10, b11, b12⟩ := M3.out.res
  have f0 := M3.out.rfr 0
  have f1 := M3.out.rfr 1
  have f2 := M3.out.rfr 2
  have f3 := M3.out.rfr 3
  have f4 := M3.out.rfr 4
  have f5 := M3.out.rfr 5
  have f6 := M3.out.rfr 6
  have f7 := M3.out.rfr 7
  have f8 := M3.out.rfr 8
  have f9 := M3.out.rfr 9
  have f10 := M3.out.rfr 10
  have f11 := M3.out.rfr 11
  have f12 := M3.out.rfr 12
  go_wp2_with fail
  refine bodyPost_ret (ret13 Try.results40 _ (g := w.heap.size) rfl (set13_at M3.out.res (.int .i64 k) (.int .i64 t) (.int .i64 0) (.int .i64 d) (.string ⟨#[]⟩) (.int .i64 0) (.int .i64 0) (.int .u64 0) (.string ⟨#[]⟩) (.slice none 0 0) (.int .i64 0) (.int .u64 0) (.int .i64 0))) rfl ?_
  rw [HP.out]
  exact M3.out.fin k t 0 d ⟨#[]⟩ 0 0 0 ⟨#[]⟩ none 0 0 0 0 0 zE (zE_isN _ _)
set_option maxHeartbeats 4000000 in
set_option maxRecDepth 100000 in
theorem parts_r6 (w : World) (g h : Nat) (l : List UInt8) (e : Int) (r : St w g h l e) (hh : h < w.heap.size) (_hl : l.length ≤ 281474976710656) (hk : pt (sNum 19 l e).1 = 6) :
    Calls Try.prog 40 #[.pointer (some ⟨g, 0, none⟩)] w (ErP w g h (rpE l e)) := by
  have M0 : Hid (Me w ((w.alloc (.cells #[.int .i64 0, .int .i64 0, .int .i64 0, .int .i64 0, .string ⟨#[]⟩, .int .i64 0, .int .i64 0, .int .u64 0, .string ⟨#[]⟩, .slice none 0 0, .int .i64 0, .int .u64 0, .int .i64 0] 39)).alloc (.cells #[.int .i64 0, .int .i64 0, .int .i64 0, .int .i64 0, .string ⟨#[]⟩, .int .i64 0, .int .i64 0, .int .u64 0, .string ⟨#[]⟩, .slice none 0 0, .int .i64 0, .int .u64 0, .int .i64 0] 39)) g h l e (.int .i64 0) (.int .i64 0) (.int .i64 0) (.int .i64 0) (.string ⟨#[]⟩) (.int .i64 0) (.int .i64 0) (.int .u64 0) (.string ⟨#[]⟩) (.slice none 0 0) (.int .i64 0) (.int .u64 0) (.int .i64 0)) := Me.first r hh
  obtain ⟨W0, hW0⟩ : ∃ W0, W0 = ((w.alloc (.cells #[.int .i64 0, .int .i64 0, .int .i64 0, .int .i64 0, .string ⟨#[]⟩, .int .i64 0, .int .i64 0, .int .u64 0, .string ⟨#[]⟩, .slice none 0 0, .int .i64 0, .int .u64 0, .int .i64 0] 39)).alloc (.cells #[.int .i64 0, .int .i64 0, .int .i64 0, .int .i64 0, .string ⟨#[]⟩, .int .i64 0, .int .i64 0, .int .u64 0, .string ⟨#[]⟩, .slice none 0 0, .int .i64 0, .int .u64 0, .int .i64 0] 39)) := ⟨_, rfl⟩
  rw [← hW0] at M0
  have HW0 : Hid (W0 = ((w.alloc (.cells #[.int .i64 0, .int .i64 0, .int .i64 0, .int .i64 0, .string ⟨#[]⟩, .int .i64 0, .int .i64 0, .int .u64 0, .string ⟨#[]⟩, .slice none 0 0, .int .i64 0, .int .u64 0, .int .i64 0] 39)).alloc (.cells #[.int .i64 0, .int .i64 0, .int .i64 0, .int .i64 0, .string ⟨#[]⟩, .int .i64 0, .int .i64 0, .int .u64 0, .string ⟨#[]⟩, .slice none 0 0, .int .i64 0, .int .u64 0, .int .i64 0] 39))) := hW0
  have N1 := num_st W0 g h l e 19 M0.out.st
  have hR : rpE l e = rpE l e := rfl
  conv at hR => rhs; unfold rpE
  have g1 := sNum_len 19 l e
  generalize sNum 19 l e = R1 at N1 hk hR g1
  obtain ⟨k, l1, e1⟩ := R1
  dsimp only at N1 hk hR g1
  have eN : hN k = false := by unfold hN; rw [hk]; decide
  have eD : hD k = true := by unfold hD; rw [hk]; decide
  have eM : hM k = true := by unfold hM; rw [hk]; decide
  have eT : hT k = false := by unfold hT; rw [hk]; decide
  have eV : hV k = false := by unfold hV; rw [hk]; decide
  have eP' : hP k = false := by unfold hP; rw [hk]; decide
  rw [eN, eD, eM, eT, eV, eP'] at hR
  simp only [Bool.false_eq_true, if_true, if_false] at hR
  have K1 : Hid (Calls Try.prog 52 #[.pointer (some ⟨g, 0, none⟩), .int .i64 19] W0 (Rs W0 g h (.int .i64 k) l1 e1)) := N1
  have N2 := fun W (s : St W g h l1 e1) => num_st W g h l1 e1 1099511627776 s
  have g2 := sNum_len 1099511627776 l1 e1
  generalize sNum 1099511627776 l1 e1 = R2 at N2 hR g2
  obtain ⟨t, l2, e2⟩ := R2
  dsimp only at N2 hR g2
  have K2 : Hid (∀ W, St W g h l1 e1 → Calls Try.prog 52 #[.pointer (some ⟨g, 0, none⟩), .int .i64 1099511627776] W (Rs W g h (.int .i64 t) l2 e2)) := N2
  have PC : Hid (∀ W, Calls Try.prog 25 #[.int .i64 k] W fun e w' => e = .returned (.int .i64 6) ∧ w' = W) := fun W => by have := parts_calls k W; rw [hk] at this; exact this
  have NL : Hid (∀ W, _) := fun W => numLimits_calls k W
  have N4 := fun W (s : St W g h l2 e2) => num_st W g h l2 e2 2199023255552 s
  have g4 := sNum_len 2199023255552 l2 e2
  generalize sNum 2199023255552 l2 e2 = R4 at N4 hR g4
  obtain ⟨d, l4, e4⟩ := R4
  dsimp only at N4 hR g4
  have K4 : Hid (∀ W, St W g h l2 e2 → Calls Try.prog 52 #[.pointer (some ⟨g, 0, none⟩), .int .i64 2199023255552] W (Rs W g h (.int .i64 d) l4 e4)) := N4
  have N5 := fun W (s : St W g h l4 e4) => text_st W g h l4 e4 24 s
  have g5 := sText_len 24 l4 e4
  generalize sText 24 l4 e4 = R5 at N5 hR g5
  obtain ⟨s5, l5, e5⟩ := R5
  dsimp only at N5 hR g5
  generalize str s5 = s at N5 hR
  have K5 : Hid (∀ W, St W g h l4 e4 → Calls Try.prog 53 #[.pointer (some ⟨g, 0, none⟩), .int .i64 24] W (Rs W g h (.string s) l5 e5)) := N5
  have HP : Hid (rpE l e = _) := hR
  have z1 : bits BinOp.and IntKind.i64 6 1 = 0 := by decide +kernel
  have z2 : bits BinOp.and IntKind.i64 6 2 = 2 := by decide +kernel
  have z4 : bits BinOp.and IntKind.i64 6 4 = 4 := by decide +kernel
  have z8 : bits BinOp.and IntKind.i64 6 8 = 0 := by decide +kernel
  have z16 : bits BinOp.and IntKind.i64 6 16 = 0 := by decide +kernel
  have z32 : bits BinOp.and IntKind.i64 6 32 = 0 := by decide +kernel
  clear hW0 r hh hk hR eN eD eM eT eV eP' g1 g2 g4 g5 N1 N2 N4 N5
  go_enter Try.func40, Try.ntmps40
  go_upto_region 2 with fail
  rw [← HW0.out]
  go_wp2_with fail
  refine (K1.out).mono ?_
  rintro x w1 ⟨rfl, s1, k1⟩
  have M1a := M0.out.step s1 k1
  have M1x0 : Me w ((w1).setCell ⟨w.heap.size + 1, 0, none⟩ (.int .i64 k)) g h l1 e1 (.int .i64 k) (.int .i64 0) (.int .i64 0) (.int .i64 0) (.string ⟨#[]⟩) (.int .i64 0) (.int .i64 0) (.int .u64 0) (.string ⟨#[]⟩) (.slice none 0 0) (.int .i64 0) (.int .u64 0) (.int .i64 0) := Me.put M1a _ ((M1a).own.set0 _)
  obtain ⟨W1, hW1⟩ : ∃ W1, W1 = (w1).setCell ⟨w.heap.size + 1, 0, none⟩ (.int .i64 k) := ⟨_, rfl⟩
  have M1 : Hid (Me w W1 g h l1 e1 (.int .i64 k) (.int .i64 0) (.int .i64 0) (.int .i64 0) (.string ⟨#[]⟩) (.int .i64 0) (.int .i64 0) (.int .u64 0) (.string ⟨#[]⟩) (.slice none 0 0) (.int .i64 0) (.int .u64 0) (.int .i64 0)) := by rw [hW1]; exact M1x0
  have HW1 : Hid (W1 = (w1).setCell ⟨w.heap.size + 1, 0, none⟩ (.int .i64 k)) := hW1
  obtain ⟨a0, a1, a2, a3, a4, a5, a6, a7, a8, a9, a10, a11, a12⟩ := M1a.own
  have f0 := M1a.ofr 0
  clear hW1 M1a M1x0 s1 k1
  go_upto_region 3 with fail
  rw [← HW1.out]
  clear a0 a1 a2 a3 a4 a5 a6 a7 a8 a9 a10 a11 a12 f0
  go_wp2_with fail
  refine (K2.out _ M1.out.st).mono ?_
  rintro x w2 ⟨rfl, s2, k2⟩
  have M2a := M1.out.step s2 k2
  have M2x1 : Me w ((w2).setCell ⟨w.heap.size + 1, 1, none⟩ (.int .i64 t)) g h l2 e2 (.int .i64 k) (.int .i64 t) (.int .i64 0) (.int .i64 0) (.string ⟨#[]⟩) (.int .i64 0) (.int .i64 0) (.int .u64 0) (.string ⟨#[]⟩) (.slice none 0 0) (.int .i64 0) (.int .u64 0) (.int .i64 0) := Me.put M2a _ ((M2a).own.set1 _)
  obtain ⟨W2, hW2⟩ : ∃ W2, W2 = (w2).setCell ⟨w.heap.size + 1, 1, none⟩ (.int .i64 t) := ⟨_, rfl⟩
  have M2 : Hid (Me w W2 g h l2 e2 (.int .i64 k) (.int .i64 t) (.int .i64 0) (.int .i64 0) (.string ⟨#[]⟩) (.int .i64 0) (.int .i64 0) (.int .u64 0) (.string ⟨#[]⟩) (.slice none 0 0) (.int .i64 0) (.int .u64 0) (.int .i64 0)) := by rw [hW2]; exact M2x1
  have HW2 : Hid (W2 = (w2).setCell ⟨w.heap.size + 1, 1, none⟩ (.int .i64 t)) := hW2
  obtain ⟨a0, a1, a2, a3, a4, a5, a6, a7, a8, a9, a10, a11, a12⟩ := M2a.own
  have f1 := M2a.ofr 1
  clear hW2 M2a M2x1 s2 k2
  go_upto_region 4 with fail
  rw [← HW2.out]
  clear a0 a1 a2 a3 a4 a5 a6 a7 a8 a9 a10 a11 a12 f1
  obtain ⟨a0, a1, a2, a3, a4, a5, a6, a7, a8, a9, a10, a11, a12⟩ := M2.out.own
  go_wp2_with fail
  refine (PC.out _).mono ?_
  rintro x w9 ⟨rfl, hw9⟩
  have hw9' := hw9.symm
  subst hw9'
  clear hw9
  clear a0 a1 a2 a3 a4 a5 a6 a7 a8 a9 a10 a11 a12
  go_wp2_with fail
  refine (K4.out _ M2.out.st).mono ?_
  rintro x w3 ⟨rfl, s3, k3⟩
  have M3a := M2.out.step s3 k3
  have M3x3 : Me w ((w3).setCell ⟨w.heap.size + 1, 3, none⟩ (.int .i64 d)) g h l4 e4 (.int .i64 k) (.int .i64 t) (.int .i64 0) (.int .i64 d) (.string ⟨#[]⟩) (.int .i64 0) (.int .i64 0) (.int .u64 0) (.string ⟨#[]⟩) (.slice none 0 0) (.int .i64 0) (.int .u64 0) (.int .i64 0) := Me.put M3a _ ((M3a).own.set3 _)
  obtain ⟨W3, hW3⟩ : ∃ W3, W3 = (w3).setCell ⟨w.heap.size + 1, 3, none⟩ (.int .i64 d) := ⟨_, rfl⟩
  have M3 : Hid (Me w W3 g h l4 e4 (.int .i64 k) (.int .i64 t) (.int .i64 0) (.int .i64 d) (.string ⟨#[]⟩) (.int .i64 0) (.int .i64 0) (.int .u64 0) (.string ⟨#[]⟩) (.slice none 0 0) (.int .i64 0) (.int .u64 0) (.int .i64 0)) := by rw [hW3]; exact M3x3
  have HW3 : Hid (W3 = (w3).setCell ⟨w.heap.size + 1, 3, none⟩ (.int .i64 d)) := hW3
  obtain ⟨a0, a1, a2, a3, a4, a5, a6, a7, a8, a9, a10, a11, a12⟩ := M3a.own
  have f3 := M3a.ofr 3
  clear hW3 M3a M3x3 s3 k3
  go_upto_region 10 with fail
  rw [← HW3.out]
  clear a0 a1 a2 a3 a4 a5 a6 a7 a8 a9 a10 a11 a12 f3
  go_wp2_with fail
  refine (K5.out _ M3.out.st).mono ?_
  rintro x w4 ⟨rfl, s4, k4⟩
  have M4a := M3.out.step s4 k4
  have M4x4 : Me w ((w4).setCell ⟨w.heap.size + 1, 4, none⟩ (.string s)) g h l5 e5 (.int .i64 k) (.int .i64 t) (.int .i64 0) (.int .i64 d) (.string s) (.int .i64 0) (.int .i64 0) (.int .u64 0) (.string ⟨#[]⟩) (.slice none 0 0) (.int .i64 0) (.int .u64 0) (.int .i64 0) := Me.put M4a _ ((M4a).own.set4 _)
  obtain ⟨W4, hW4⟩ : ∃ W4, W4 = (w4).setCell ⟨w.heap.size + 1, 4, none⟩ (.string s) := ⟨_, rfl⟩
  have M4 : Hid (Me w W4 g h l5 e5 (.int .i64 k) (.int .i64 t) (.int .i64 0) (.int .i64 d) (.string s) (.int .i64 0) (.int .i64 0) (.int .u64 0) (.string ⟨#[]⟩) (.slice none 0 0) (.int .i64 0) (.int .u64 0) (.int .i64 0)) := by rw [hW4]; exact M4x4
  have HW4 : Hid (W4 = (w4).setCell ⟨w.heap.size + 1, 4, none⟩ (.string s)) := hW4
  obtain ⟨a0, a1, a2, a3, a4, a5, a6, a7, a8, a9, a10, a11, a12⟩ := M4a.own
  have f4 := M4a.ofr 4
  clear hW4 M4a M4x4 s4 k4
  go_upto_region 12 with fail
  rw [← HW4.out]
  clear a0 a1 a2 a3 a4 a5 a6 a7 a8 a9 a10 a11 a12 f4
  obtain ⟨a0, a1, a2, a3, a4, a5, a6, a7, a8, a9, a10, a11, a12⟩ := M4.out.own
  obtain ⟨b0, b1, b2, b3, b4, b5, b6, b7, b8, b9, b10, b11, b12⟩ := M4.out.res
  have f0 := M4.out.rfr 0
  have f1 := M4.out.rfr 1
  have f2 := M4.out.rfr 2
  have f3 := M4.out.rfr 3
  have f4 := M4.out.rfr 4
  have f5 := M4.out.rfr 5
  have f6 := M4.out.rfr 6
  have f7 := M4.out.rfr 7
  have f8 := M4.out.rfr 8
  have f9 := M4.out.rfr 9
  have f10 := M4.out.rfr 10
  have f11 := M4.out.rfr 11
  have f12 := M4.out.rfr 12
  go_wp2_with fail
  refine bodyPost_ret (ret13 Try.results40 _ (g := w.heap.size) rfl (set13_at M4.out.res (.int .i64 k) (.int .i64 t) (.int .i64 0) (.int .i64 d) (.string s) (.int .i64 0) (.int .i64 0) (.int .u64 0) (.string ⟨#[]⟩) (.slice none 0 0) (.int .i64 0) (.int .u64 0) (.int .i64 0))) rfl ?_
  rw [HP.out]
  exact M4.out.fin k t 0 d s 0 0 0 ⟨#[]⟩ none 0 0 0 0 0 zE (zE_isN _ _)
set_option maxHeartbeats 4000000 in
set_option maxRecDepth 100000 in
theorem parts_r4 (w : World) (g h : Nat) (l : List UInt8) (e : Int) (r : St w g h l e) (hh : h < w.heap.size) (_hl : l.length ≤ 281474976710656) (hk : pt (sNum 19 l e).1 = 4) :
    Calls Try.prog 40 #[.pointer (some ⟨g, 0, none⟩)] w (ErP w g h (rpE l e)) := by
  have M0 : Hid (Me w ((w.alloc (.cells #[.int .i64 0, .int .i64 0, .int .i64 0, .int .i64 0, .string ⟨#[]⟩, .int .i64 0, .int .i64 0, .int .u64 0, .string ⟨#[]⟩, .slice none 0 0, .int .i64 0, .int .u64 0, .int .i64 0] 39)).alloc (.cells #[.int .i64 0, .int .i64 0, .int .i64 0, .int .i64 0, .string ⟨#[]⟩, .int .i64 0, .int .i64 0, .int .u64 0, .string ⟨#[]⟩, .slice none 0 0, .int .i64 0, .int .u64 0, .int .i64 0] 39)) g h l e (.int .i64 0) (.int .i64 0) (.int .i64 0) (.int .i64 0) (.string ⟨#[]⟩) (.int .i64 0) (.int .i64 0) (.int .u64 0) (.string ⟨#[]⟩) (.slice none 0 0) (.int .i64 0) (.int .u64 0) (.int .i64 0)) := Me.first r hh
  obtain ⟨W0, hW0⟩ : ∃ W0, W0 = ((w.alloc (.cells #[.int .i64 0, .int .i64 0, .int .i64 0, .int .i64 0, .string ⟨#[]⟩, .int .i64 0, .int .i64 0, .int .u64 0, .string ⟨#[]⟩, .slice none 0 0, .int .i64 0, .int .u64 0, .int .i64 0] 39)).alloc (.cells #[.int .i64 0, .int .i64 0, .int .i64 0, .int .i64 0, .string ⟨#[]⟩, .int .i64 0, .int .i64 0, .int .u64 0, .string ⟨#[]⟩, .slice none 0 0, .int .i64 0, .int .u64 0, .int .i64 0] 39)) := ⟨_, rfl⟩
  rw [← hW0] at M0
  have HW0 : Hid (W0 = ((w.alloc (.cells #[.int .i64 0, .int .i64 0, .int .i64 0, .int .i64 0, .string ⟨#[]⟩, .int .i64 0, .int .i64 0, .int .u64 0, .string ⟨#[]⟩, .slice none 0 0, .int .i64 0, .int .u64 0, .int .i64 0] 39)).alloc (.cells #[.int .i64 0, .int .i64 0, .int .i64 0, .int .i64 0, .string ⟨#[]⟩, .int .i64 0, .int .i64 0, .int .u64 0, .string ⟨#[]⟩, .slice none 0 0, .int .i64 0, .int .u64 0, .int .i64 0] 39))) := hW0
  have N1 := num_st W0 g h l e 19 M0.out.st
  have hR : rpE l e = rpE l e := rfl
  conv at hR => rhs; unfold rpE
  have g1 := sNum_len 19 l e
  generalize sNum 19 l e = R1 at N1 hk hR g1
  obtain ⟨k, l1, e1⟩ := R1
  dsimp only at N1 hk hR g1
  have eN : hN k = false := by unfold hN; rw [hk]; decide
  have eD : hD k = false := by unfold hD; rw [hk]; decide
  have eM : hM k = true := by unfold hM; rw [hk]; decide
  have eT : hT k = false := by unfold hT; rw [hk]; decide
  have eV : hV k = false := by unfold hV; rw [hk]; decide
  have eP' : hP k = false := by unfold hP; rw [hk]; decide
  rw [eN, eD, eM, eT, eV, eP'] at hR
  simp only [Bool.false_eq_true, if_true, if_false] at hR
  have K1 : Hid (Calls Try.prog 52 #[.pointer (some ⟨g, 0, none⟩), .int .i64 19] W0 (Rs W0 g h (.int .i64 k) l1 e1)) := N1
  have N2 := fun W (s : St W g h l1 e1) => num_st W g h l1 e1 1099511627776 s
  have g2 := sNum_len 1099511627776 l1 e1
  generalize sNum 1099511627776 l1 e1 = R2 at N2 hR g2
  obtain ⟨t, l2, e2⟩ := R2
  dsimp only at N2 hR g2
  have K2 : Hid (∀ W, St W g h l1 e1 → Calls Try.prog 52 #[.pointer (some ⟨g, 0, none⟩), .int .i64 1099511627776] W (Rs W g h (.int .i64 t) l2 e2)) := N2
  have PC : Hid (∀ W, Calls Try.prog 25 #[.int .i64 k] W fun e w' => e = .returned (.int .i64 4) ∧ w' = W) := fun W => by have := parts_calls k W; rw [hk] at this; exact this
  have NL : Hid (∀ W, _) := fun W => numLimits_calls k W
  have N5 := fun W (s : St W g h l2 e2) => text_st W g h l2 e2 24 s
  have g5 := sText_len 24 l2 e2
  generalize sText 24 l2 e2 = R5 at N5 hR g5
  obtain ⟨s5, l5, e5⟩ := R5
  dsimp only at N5 hR g5
  generalize str s5 = s at N5 hR
  have K5 : Hid (∀ W, St W g h l2 e2 → Calls Try.prog 53 #[.pointer (some ⟨g, 0, none⟩), .int .i64 24] W (Rs W g h (.string s) l5 e5)) := N5
  have HP : Hid (rpE l e = _) := hR
  have z1 : bits BinOp.and IntKind.i64 4 1 = 0 := by decide +kernel
  have z2 : bits BinOp.and IntKind.i64 4 2 = 0 := by decide +kernel
  have z4 : bits BinOp.and IntKind.i64 4 4 = 4 := by decide +kernel
  have z8 : bits BinOp.and IntKind.i64 4 8 = 0 := by decide +kernel
  have z16 : bits BinOp.and IntKind.i64 4 16 = 0 := by decide +kernel
  have z32 : bits BinOp.and IntKind.i64 4 32 = 0 := by decide +kernel
  clear hW0 r hh hk hR eN eD eM eT eV eP' g1 g2 g5 N1 N2 N5
  go_enter Try.func40, Try.ntmps40
  go_upto_region 2 with fail
  rw [← HW0.out]
  go_wp2_with fail
  refine (K1.out).mono ?_
  rintro x w1 ⟨rfl, s1, k1⟩
  have M1a := M0.out.step s1 k1
  have M1x0 : Me w ((w1).setCell ⟨w.heap.size + 1, 0, none⟩ (.int .i64 k)) g h l1 e1 (.int .i64 k) (.int .i64 0) (.int .i64 0) (.int .i64 0) (.string ⟨#[]⟩) (.int .i64 0) (.int .i64 0) (.int .u64 0) (.string ⟨#[]⟩) (.slice none 0 0) (.int .i64 0) (.int .u64 0) (.int .i64 0) := Me.put M1a _ ((M1a).own.set0 _)
  obtain ⟨W1, hW1⟩ : ∃ W1, W1 = (w1).setCell ⟨w.heap.size + 1, 0, none⟩ (.int .i64 k) := ⟨_, rfl⟩
  have M1 : Hid (Me w W1 g h l1 e1 (.int .i64 k) (.int .i64 0) (.int .i64 0) (.int .i64 0) (.string ⟨#[]⟩) (.int .i64 0) (.int .i64 0) (.int .u64 0) (.string ⟨#[]⟩) (.slice none 0 0) (.int .i64 0) (.int .u64 0) (.int .i64 0)) := by rw [hW1]; exact M1x0
  have HW1 : Hid (W1 = (w1).setCell ⟨w.heap.size + 1, 0, none⟩ (.int .i64 k)) := hW1
  obtain ⟨a0, a1, a2, a3, a4, a5, a6, a7, a8, a9, a10, a11, a12⟩ := M1a.own
  have f0 := M1a.ofr 0
  clear hW1 M1a M1x0 s1 k1
  go_upto_region 3 with fail
  rw [← HW1.out]
  clear a0 a1 a2 a3 a4 a5 a6 a7 a8 a9 a10 a11 a12 f0
  go_wp2_with fail
  refine (K2.out _ M1.out.st).mono ?_
  rintro x w2 ⟨rfl, s2, k2⟩
  have M2a := M1.out.step s2 k2
  have M2x1 : Me w ((w2).setCell ⟨w.heap.size + 1, 1, none⟩ (.int .i64 t)) g h l2 e2 (.int .i64 k) (.int .i64 t) (.int .i64 0) (.int .i64 0) (.string ⟨#[]⟩) (.int .i64 0) (.int .i64 0) (.int .u64 0) (.string ⟨#[]⟩) (.slice none 0 0) (.int .i64 0) (.int .u64 0) (.int .i64 0) := Me.put M2a _ ((M2a).own.set1 _)
  obtain ⟨W2, hW2⟩ : ∃ W2, W2 = (w2).setCell ⟨w.heap.size + 1, 1, none⟩ (.int .i64 t) := ⟨_, rfl⟩
  have M2 : Hid (Me w W2 g h l2 e2 (.int .i64 k) (.int .i64 t) (.int .i64 0) (.int .i64 0) (.string ⟨#[]⟩) (.int .i64 0) (.int .i64 0) (.int .u64 0) (.string ⟨#[]⟩) (.slice none 0 0) (.int .i64 0) (.int .u64 0) (.int .i64 0)) := by rw [hW2]; exact M2x1
  have HW2 : Hid (W2 = (w2).setCell ⟨w.heap.size + 1, 1, none⟩ (.int .i64 t)) := hW2
  obtain ⟨a0, a1, a2, a3, a4, a5, a6, a7, a8, a9, a10, a11, a12⟩ := M2a.own
  have f1 := M2a.ofr 1
  clear hW2 M2a M2x1 s2 k2
  go_upto_region 4 with fail
  rw [← HW2.out]
  clear a0 a1 a2 a3 a4 a5 a6 a7 a8 a9 a10 a11 a12 f1
  obtain ⟨a0, a1, a2, a3, a4, a5, a6, a7, a8, a9, a10, a11, a12⟩ := M2.out.own
  go_wp2_with fail
  refine (PC.out _).mono ?_
  rintro x w9 ⟨rfl, hw9⟩
  have hw9' := hw9.symm
  subst hw9'
  clear hw9
  clear a0 a1 a2 a3 a4 a5 a6 a7 a8 a9 a10 a11 a12
  go_wp2_with fail
  refine (K5.out _ M2.out.st).mono ?_
  rintro x w3 ⟨rfl, s3, k3⟩
  have M3a := M2.out.step s3 k3
  have M3x4 : Me w ((w3).setCell ⟨w.heap.size + 1, 4, none⟩ (.string s)) g h l5 e5 (.int .i64 k) (.int .i64 t) (.int .i64 0) (.int .i64 0) (.string s) (.int .i64 0) (.int .i64 0) (.int .u64 0) (.string ⟨#[]⟩) (.slice none 0 0) (.int .i64 0) (.int .u64 0) (.int .i64 0) := Me.put M3a _ ((M3a).own.set4 _)
  obtain ⟨W3, hW3⟩ : ∃ W3, W3 = (w3).setCell ⟨w.heap.size + 1, 4, none⟩ (.string s) := ⟨_, rfl⟩
  have M3 : Hid (Me w W3 g h l5 e5 (.int .i64 k) (.int .i64 t) (.int .i64 0) (.int .i64 0) (.string s) (.int .i64 0) (.int .i64 0) (.int .u64 0) (.string ⟨#[]⟩) (.slice none 0 0) (.int .i64 0) (.int .u64 0) (.int .i64 0)) := by rw [hW3]; exact M3x4
  have HW3 : Hid (W3 = (w3).setCell ⟨w.heap.size + 1, 4, none⟩ (.string s)) := hW3
  obtain ⟨a0, a1, a2, a3, a4, a5, a6, a7, a8, a9, a10, a11, a12⟩ := M3a.own
  have f4 := M3a.ofr 4
  clear hW3 M3a M3x4 s3 k3
  go_upto_region 12 with fail
  rw [← HW3.out]
  clear a0 a1 a2 a3 a4 a5 a6 a7 a8 a9 a10 a11 a12 f4
  obtain ⟨a0, a1, a2, a3, a4, a5, a6, a7, a8, a9, a10, a11, a12⟩ := M3.out.own
  obtain ⟨b0, b1, b2, b3, b4, b5, b6, b7, b8, b9, b10, b11, b12⟩ := M3.out.res
  have f0 := M3.out.rfr 0
  have f1 := M3.out.rfr 1
  have f2 := M3.out.rfr 2
  have f3 := M3.out.rfr 3
  have f4 := M3.out.rfr 4
  have f5 := M3.out.rfr 5
  have f6 := M3.out.rfr 6
  have f7 := M3.out.rfr 7
  have f8 := M3.out.rfr 8
  have f9 := M3.out.rfr 9
  have f10 := M3.out.rfr 10
  have f11 := M3.out.rfr 11
  have f12 := M3.out.rfr 12
  go_wp2_with fail
  refine bodyPost_ret (ret13 Try.results40 _ (g := w.heap.size) rfl (set13_at M3.out.res (.int .i64 k) (.int .i64 t) (.int .i64 0) (.int .i64 0) (.string s) (.int .i64 0) (.int .i64 0) (.int .u64 0) (.string ⟨#[]⟩) (.slice none 0 0) (.int .i64 0) (.int .u64 0) (.int .i64 0))) rfl ?_
  rw [HP.out]
  exact M3.out.fin k t 0 0 s 0 0 0 ⟨#[]⟩ none 0 0 0 0 0 zE (zE_isN _ _)
set_option maxHeartbeats 4000000 in
set_option maxRecDepth 100000 in
theorem parts_r9 (w : World) (g h : Nat) (l : List UInt8) (e : Int) (r : St w g h l e) (hh : h < w.heap.size) (_hl : l.length ≤ 281474976710656) (hk : pt (sNum 19 l e).1 = 9) :
    Calls Try.prog 40 #[.pointer (some ⟨g, 0, none⟩)] w (ErP w g h (rpE l e)) := by
  have M0 : Hid (Me w ((w.alloc (.cells #[.int .i64 0, .int .i64 0, .int .i64 0, .int .i64 0, .string ⟨#[]⟩, .int .i64 0, .int .i64 0, .int .u64 0, .string ⟨#[]⟩, .slice none 0 0, .int .i64 0, .int .u64 0, .int .i64 0] 39)).alloc (.cells #[.int .i64 0, .int .i64 0, .int .i64 0, .int .i64 0, .string ⟨#[]⟩, .int .i64 0, .int .i64 0, .int .u64 0, .string ⟨#[]⟩, .slice none 0 0, .int .i64 0, .int .u64 0, .int .i64 0] 39)) g h l e (.int .i64 0) (.int .i64 0) (.int .i64 0) (.int .i64 0) (.string ⟨#[]⟩) (.int .i64 0) (.int .i64 0) (.int .u64 0) (.string ⟨#[]⟩) (.slice none 0 0) (.int .i64 0) (.int .u64 0) (.int .i64 0)) := Me.first r hh
  obtain ⟨W0, hW0⟩ : ∃ W0, W0 = ((w.alloc (.cells #[.int .i64 0, .int .i64 0, .int .i64 0, .int .i64 0, .string ⟨#[]⟩, .int .i64 0, .int .i64 0, .int .u64 0, .string ⟨#[]⟩, .slice none 0 0, .int .i64 0, .int .u64 0, .int .i64 0] 39)).alloc (.cells #[.int .i64 0, .int .i64 0, .int .i64 0, .int .i64 0, .string ⟨#[]⟩, .int .i64 0, .int .i64 0, .int .u64 0, .string ⟨#[]⟩, .slice none 0 0, .int .i64 0, .int .u64 0, .int .i64 0] 39)) := ⟨_, rfl⟩
  rw [← hW0] at M0
  have HW0 : Hid (W0 = ((w.alloc (.cells #[.int .i64 0, .int .i64 0, .int .i64 0, .int .i64 0, .string ⟨#[]⟩, .int .i64 0, .int .i64 0, .int .u64 0, .string ⟨#[]⟩, .slice none 0 0, .int .i64 0, .int .u64 0, .int .i64 0] 39)).alloc (.cells #[.int .i64 0, .int .i64 0, .int .i64 0, .int .i64 0, .string ⟨#[]⟩, .int .i64 0, .int .i64 0, .int .u64 0, .string ⟨#[]⟩, .slice none 0 0, .int .i64 0, .int .u64 0, .int .i64 0] 39))) := hW0
  have N1 := num_st W0 g h l e 19 M0.out.st
  have hR : rpE l e = rpE l e := rfl
  conv at hR => rhs; unfold rpE
  have g1 := sNum_len 19 l e
  generalize sNum 19 l e = R1 at N1 hk hR g1
  obtain ⟨k, l1, e1⟩ := R1
  dsimp only at N1 hk hR g1
  have eN : hN k = true := by unfold hN; rw [hk]; decide
  have eD : hD k = false := by unfold hD; rw [hk]; decide
  have eM : hM k = false := by unfold hM; rw [hk]; decide
  have eT : hT k = true := by unfold hT; rw [hk]; decide
  have eV : hV k = false := by unfold hV; rw [hk]; decide
  have eP' : hP k = false := by unfold hP; rw [hk]; decide
  rw [eN, eD, eM, eT, eV, eP'] at hR
  simp only [Bool.false_eq_true, if_true, if_false] at hR
  have K1 : Hid (Calls Try.prog 52 #[.pointer (some ⟨g, 0, none⟩), .int .i64 19] W0 (Rs W0 g h (.int .i64 k) l1 e1)) := N1
  have N2 := fun W (s : St W g h l1 e1) => num_st W g h l1 e1 1099511627776 s
  have g2 := sNum_len 1099511627776 l1 e1
  generalize sNum 1099511627776 l1 e1 = R2 at N2 hR g2
  obtain ⟨t, l2, e2⟩ := R2
  dsimp only at N2 hR g2
  have K2 : Hid (∀ W, St W g h l1 e1 → Calls Try.prog 52 #[.pointer (some ⟨g, 0, none⟩), .int .i64 1099511627776] W (Rs W g h (.int .i64 t) l2 e2)) := N2
  have PC : Hid (∀ W, Calls Try.prog 25 #[.int .i64 k] W fun e w' => e = .returned (.int .i64 9) ∧ w' = W) := fun W => by have := parts_calls k W; rw [hk] at this; exact this
  have NL : Hid (∀ W, _) := fun W => numLimits_calls k W
  have N3 := fun W (s : St W g h l2 e2) => num_st W g h l2 e2 (nm k) s
  have g3 := sNum_len (nm k) l2 e2
  generalize sNum (nm k) l2 e2 = R3 at N3 hR g3
  obtain ⟨n, l3, e3⟩ := R3
  dsimp only at N3 hR g3
  generalize nm k = b at NL N3
  generalize nl k = a at NL
  have K3 : Hid (∀ W, St W g h l2 e2 → Calls Try.prog 52 #[.pointer (some ⟨g, 0, none⟩), .int .i64 b] W (Rs W g h (.int .i64 n) l3 e3)) := N3
  have N5 := fun W (s : St W g h l3 e3) => text_st W g h l3 e3 200 s
  have g5 := sText_len 200 l3 e3
  generalize sText 200 l3 e3 = R5 at N5 hR g5
  obtain ⟨s5, l5, e5⟩ := R5
  dsimp only at N5 hR g5
  generalize str s5 = s at N5 hR
  have K5 : Hid (∀ W, St W g h l3 e3 → Calls Try.prog 53 #[.pointer (some ⟨g, 0, none⟩), .int .i64 200] W (Rs W g h (.string s) l5 e5)) := N5
  have HP : Hid (rpE l e = _) := hR
  have z1 : bits BinOp.and IntKind.i64 9 1 = 1 := by decide +kernel
  have z2 : bits BinOp.and IntKind.i64 9 2 = 0 := by decide +kernel
  have z4 : bits BinOp.and IntKind.i64 9 4 = 0 := by decide +kernel
  have z8 : bits BinOp.and IntKind.i64 9 8 = 8 := by decide +kernel
  have z16 : bits BinOp.and IntKind.i64 9 16 = 0 := by decide +kernel
  have z32 : bits BinOp.and IntKind.i64 9 32 = 0 := by decide +kernel
  clear hW0 r hh hk hR eN eD eM eT eV eP' g1 g2 g3 g5 N1 N2 N3 N5
  go_enter Try.func40, Try.ntmps40
  go_upto_region 2 with fail
  rw [← HW0.out]
  go_wp2_with fail
  refine (K1.out).mono ?_
  rintro x w1 ⟨rfl, s1, k1⟩
  have M1a := M0.out.step s1 k1
  have M1x0 : Me w ((w1).setCell ⟨w.heap.size + 1, 0, none⟩ (.int .i64 k)) g h l1 e1 (.int .i64 k) (.int .i64 0) (.int .i64 0) (.int .i64 0) (.string ⟨#[]⟩) (.int .i64 0) (.int .i64 0) (.int .u64 0) (.string ⟨#[]⟩) (.slice none 0 0) (.int .i64 0) (.int .u64 0) (.int .i64 0) := Me.put M1a _ ((M1a).own.set0 _)
  obtain ⟨W1, hW1⟩ : ∃ W1, W1 = (w1).setCell ⟨w.heap.size + 1, 0, none⟩ (.int .i64 k) := ⟨_, rfl⟩
  have M1 : Hid (Me w W1 g h l1 e1 (.int .i64 k) (.int .i64 0) (.int .i64 0) (.int .i64 0) (.string ⟨#[]⟩) (.int .i64 0) (.int .i64 0) (.int .u64 0) (.string ⟨#[]⟩) (.slice none 0 0) (.int .i64 0) (.int .u64 0) (.int .i64 0)) := by rw [hW1]; exact M1x0
  have HW1 : Hid (W1 = (w1).setCell ⟨w.heap.size + 1, 0, none⟩ (.int .i64 k)) := hW1
  obtain ⟨a0, a1, a2, a3, a4, a5, a6, a7, a8, a9, a10, a11, a12⟩ := M1a.own
  have f0 := M1a.ofr 0
  clear hW1 M1a M1x0 s1 k1
  go_upto_region 3 with fail
  rw [← HW1.out]
  clear a0 a1 a2 a3 a4 a5 a6 a7 a8 a9 a10 a11 a12 f0
  go_wp2_with fail
  refine (K2.out _ M1.out.st).mono ?_
  rintro x w2 ⟨rfl, s2, k2⟩
  have M2a := M1.out.step s2 k2
  have M2x1 : Me w ((w2).setCell ⟨w.heap.size + 1, 1, none⟩ (.int .i64 t)) g h l2 e2 (.int .i64 k) (.int .i64 t) (.int .i64 0) (.int .i64 0) (.string ⟨#[]⟩) (.int .i64 0) (.int .i64 0) (.int .u64 0) (.string ⟨#[]⟩) (.slice none 0 0) (.int .i64 0) (.int .u64 0) (.int .i64 0) := Me.put M2a _ ((M2a).own.set1 _)
  obtain ⟨W2, hW2⟩ : ∃ W2, W2 = (w2).setCell ⟨w.heap.size + 1, 1, none⟩ (.int .i64 t) := ⟨_, rfl⟩
  have M2 : Hid (Me w W2 g h l2 e2 (.int .i64 k) (.int .i64 t) (.int .i64 0) (.int .i64 0) (.string ⟨#[]⟩) (.int .i64 0) (.int .i64 0) (.int .u64 0) (.string ⟨#[]⟩) (.slice none 0 0) (.int .i64 0) (.int .u64 0) (.int .i64 0)) := by rw [hW2]; exact M2x1
  have HW2 : Hid (W2 = (w2).setCell ⟨w.heap.size + 1, 1, none⟩ (.int .i64 t)) := hW2
  obtain ⟨a0, a1, a2, a3, a4, a5, a6, a7, a8, a9, a10, a11, a12⟩ := M2a.own
  have f1 := M2a.ofr 1
  clear hW2 M2a M2x1 s2 k2
  go_upto_region 4 with fail
  rw [← HW2.out]
  clear a0 a1 a2 a3 a4 a5 a6 a7 a8 a9 a10 a11 a12 f1
  obtain ⟨a0, a1, a2, a3, a4, a5, a6, a7, a8, a9, a10, a11, a12⟩ := M2.out.own
  go_wp2_with fail
  refine (PC.out _).mono ?_
  rintro x w9 ⟨rfl, hw9⟩
  have hw9' := hw9.symm
  subst hw9'
  clear hw9
  go_wp2_with fail
  refine (NL.out _).mono ?_
  rintro x w9 ⟨rfl, hw9⟩
  have hw9' := hw9.symm
  subst hw9'
  clear hw9 a0 a1 a2 a3 a4 a5 a6 a7 a8 a9 a10 a11 a12
  go_wp2_with fail
  refine (K3.out _ M2.out.st).mono ?_
  rintro x w3 ⟨rfl, s3, k3⟩
  have M3a := M2.out.step s3 k3
  have M3x2 : Me w ((w3).setCell ⟨w.heap.size + 1, 2, none⟩ (.int .i64 n)) g h l3 e3 (.int .i64 k) (.int .i64 t) (.int .i64 n) (.int .i64 0) (.string ⟨#[]⟩) (.int .i64 0) (.int .i64 0) (.int .u64 0) (.string ⟨#[]⟩) (.slice none 0 0) (.int .i64 0) (.int .u64 0) (.int .i64 0) := Me.put M3a _ ((M3a).own.set2 _)
  obtain ⟨W3, hW3⟩ : ∃ W3, W3 = (w3).setCell ⟨w.heap.size + 1, 2, none⟩ (.int .i64 n) := ⟨_, rfl⟩
  have M3 : Hid (Me w W3 g h l3 e3 (.int .i64 k) (.int .i64 t) (.int .i64 n) (.int .i64 0) (.string ⟨#[]⟩) (.int .i64 0) (.int .i64 0) (.int .u64 0) (.string ⟨#[]⟩) (.slice none 0 0) (.int .i64 0) (.int .u64 0) (.int .i64 0)) := by rw [hW3]; exact M3x2
  have HW3 : Hid (W3 = (w3).setCell ⟨w.heap.size + 1, 2, none⟩ (.int .i64 n)) := hW3
  obtain ⟨a0, a1, a2, a3, a4, a5, a6, a7, a8, a9, a10, a11, a12⟩ := M3a.own
  have f2 := M3a.ofr 2
  clear hW3 M3a M3x2 s3 k3
  go_upto_region 8 with fail
  rw [← HW3.out]
  clear a0 a1 a2 a3 a4 a5 a6 a7 a8 a9 a10 a11 a12 f2
  go_wp2_with fail
  refine (K5.out _ M3.out.st).mono ?_
  rintro x w4 ⟨rfl, s4, k4⟩
  have M4a := M3.out.step s4 k4
  have M4x4 : Me w ((w4).setCell ⟨w.heap.size + 1, 4, none⟩ (.string s)) g h l5 e5 (.int .i64 k) (.int .i64 t) (.int .i64 n) (.int .i64 0) (.string s) (.int .i64 0) (.int .i64 0) (.int .u64 0) (.string ⟨#[]⟩) (.slice none 0 0) (.int .i64 0) (.int .u64 0) (.int .i64 0) := Me.put M4a _ ((M4a).own.set4 _)
  obtain ⟨W4, hW4⟩ : ∃ W4, W4 = (w4).setCell ⟨w.heap.size + 1, 4, none⟩ (.string s) := ⟨_, rfl⟩
  have M4 : Hid (Me w W4 g h l5 e5 (.int .i64 k) (.int .i64 t) (.int .i64 n) (.int .i64 0) (.string s) (.int .i64 0) (.int .i64 0) (.int .u64 0) (.string ⟨#[]⟩) (.slice none 0 0) (.int .i64 0) (.int .u64 0) (.int .i64 0)) := by rw [hW4]; exact M4x4
  have HW4 : Hid (W4 = (w4).setCell ⟨w.heap.size + 1, 4, none⟩ (.string s)) := hW4
  obtain ⟨a0, a1, a2, a3, a4, a5, a6, a7, a8, a9, a10, a11, a12⟩ := M4a.own
  have f4 := M4a.ofr 4
  clear hW4 M4a M4x4 s4 k4
  go_upto_region 14 with fail
  rw [← HW4.out]
  clear a0 a1 a2 a3 a4 a5 a6 a7 a8 a9 a10 a11 a12 f4
  obtain ⟨a0, a1, a2, a3, a4, a5, a6, a7, a8, a9, a10, a11, a12⟩ := M4.out.own
  obtain ⟨b0, b1, b2, b3, b4, b5, b6, b7, b8, b9, b10, b11, b12⟩ := M4.out.res
  have f0 := M4.out.rfr 0
  have f1 := M4.out.rfr 1
  have f2 := M4.out.rfr 2
  have f3 := M4.out.rfr 3
  have f4 := M4.out.rfr 4
  have f5 := M4.out.rfr 5
  have f6 := M4.out.rfr 6
  have f7 := M4.out.rfr 7
  have f8 := M4.out.rfr 8
  have f9 := M4.out.rfr 9
  have f10 := M4.out.rfr 10
  have f11 := M4.out.rfr 11
  have f12 := M4.out.rfr 12
  go_wp2_with fail
  refine bodyPost_ret (ret13 Try.results40 _ (g := w.heap.size) rfl (set13_at M4.out.res (.int .i64 k) (.int .i64 t) (.int .i64 n) (.int .i64 0) (.string s) (.int .i64 0) (.int .i64 0) (.int .u64 0) (.string ⟨#[]⟩) (.slice none 0 0) (.int .i64 0) (.int .u64 0) (.int .i64 0))) rfl ?_
  rw [HP.out]
  exact M4.out.fin k t n 0 s 0 0 0 ⟨#[]⟩ none 0 0 0 0 0 zE (zE_isN _ _)
set_option maxHeartbeats 4000000 in
set_option maxRecDepth 100000 in
theorem parts_r8 (w : World) (g h : Nat) (l : List UInt8) (e : Int) (r : St w g h l e) (hh : h < w.heap.size) (_hl : l.length ≤ 281474976710656) (hk : pt (sNum 19 l e).1 = 8) :
    Calls Try.prog 40 #[.pointer (some ⟨g, 0, none⟩)] w (ErP w g h (rpE l e)) := by
  have M0 : Hid (Me w ((w.alloc (.cells #[.int .i64 0, .int .i64 0, .int .i64 0, .int .i64 0, .string ⟨#[]⟩, .int .i64 0, .int .i64 0, .int .u64 0, .string ⟨#[]⟩, .slice none 0 0, .int .i64 0, .int .u64 0, .int .i64 0] 39)).alloc (.cells #[.int .i64 0, .int .i64 0, .int .i64 0, .int .i64 0, .string ⟨#[]⟩, .int .i64 0, .int .i64 0, .int .u64 0, .string ⟨#[]⟩, .slice none 0 0, .int .i64 0, .int .u64 0, .int .i64 0] 39)) g h l e (.int .i64 0) (.int .i64 0) (.int .i64 0) (.int .i64 0) (.string ⟨#[]⟩) (.int .i64 0) (.int .i64 0) (.int .u64 0) (.string ⟨#[]⟩) (.slice none 0 0) (.int .i64 0) (.int .u64 0) (.int .i64 0)) := Me.first r hh
  obtain ⟨W0, hW0⟩ : ∃ W0, W0 = ((w.alloc (.cells #[.int .i64 0, .int .i64 0, .int .i64 0, .int .i64 0, .string ⟨#[]⟩, .int .i64 0, .int .i64 0, .int .u64 0, .string ⟨#[]⟩, .slice none 0 0, .int .i64 0, .int .u64 0, .int .i64 0] 39)).alloc (.cells #[.int .i64 0, .int .i64 0, .int .i64 0, .int .i64 0, .string ⟨#[]⟩, .int .i64 0, .int .i64 0, .int .u64 0, .string ⟨#[]⟩, .slice none 0 0, .int .i64 0, .int .u64 0, .int .i64 0] 39)) := ⟨_, rfl⟩
  rw [← hW0] at M0
  have HW0 : Hid (W0 = ((w.alloc (.cells #[.int .i64 0, .int .i64 0, .int .i64 0, .int .i64 0, .string ⟨#[]⟩, .int .i64 0, .int .i64 0, .int .u64 0, .string ⟨#[]⟩, .slice none 0 0, .int .i64 0, .int .u64 0, .int .i64 0] 39)).alloc (.cells #[.int .i64 0, .int .i64 0, .int .i64 0, .int .i64 0, .string ⟨#[]⟩, .int .i64 0, .int .i64 0, .int .u64 0, .string ⟨#[]⟩, .slice none 0 0, .int .i64 0, .int .u64 0, .int .i64 0] 39))) := hW0
  have N1 := num_st W0 g h l e 19 M0.out.st
  have hR : rpE l e = rpE l e := rfl
  conv at hR => rhs; unfold rpE
  have g1 := sNum_len 19 l e
  generalize sNum 19 l e = R1 at N1 hk hR g1
  obtain ⟨k, l1, e1⟩ := R1
  dsimp only at N1 hk hR g1
  have eN : hN k = false := by unfold hN; rw [hk]; decide
  have eD : hD k = false := by unfold hD; rw [hk]; decide
  have eM : hM k = false := by unfold hM; rw [hk]; decide
  have eT : hT k = true := by unfold hT; rw [hk]; decide
  have eV : hV k = false := by unfold hV; rw [hk]; decide
  have eP' : hP k = false := by unfold hP; rw [hk]; decide
  rw [eN, eD, eM, eT, eV, eP'] at hR
  simp only [Bool.false_eq_true, if_true, if_false] at hR
  have K1 : Hid (Calls Try.prog 52 #[.pointer (some ⟨g, 0, none⟩), .int .i64 19] W0 (Rs W0 g h (.int .i64 k) l1 e1)) := N1
  have N2 := fun W (s : St W g h l1 e1) => num_st W g h l1 e1 1099511627776 s
  have g2 := sNum_len 1099511627776 l1 e1
  generalize sNum 1099511627776 l1 e1 = R2 at N2 hR g2
  obtain ⟨t, l2, e2⟩ := R2
  dsimp only at N2 hR g2
  have K2 : Hid (∀ W, St W g h l1 e1 → Calls Try.prog 52 #[.pointer (some ⟨g, 0, none⟩), .int .i64 1099511627776] W (Rs W g h (.int .i64 t) l2 e2)) := N2
  have PC : Hid (∀ W, Calls Try.prog 25 #[.int .i64 k] W fun e w' => e = .returned (.int .i64 8) ∧ w' = W) := fun W => by have := parts_calls k W; rw [hk] at this; exact this
  have NL : Hid (∀ W, _) := fun W => numLimits_calls k W
  have N5 := fun W (s : St W g h l2 e2) => text_st W g h l2 e2 200 s
  have g5 := sText_len 200 l2 e2
  generalize sText 200 l2 e2 = R5 at N5 hR g5
  obtain ⟨s5, l5, e5⟩ := R5
  dsimp only at N5 hR g5
  generalize str s5 = s at N5 hR
  have K5 : Hid (∀ W, St W g h l2 e2 → Calls Try.prog 53 #[.pointer (some ⟨g, 0, none⟩), .int .i64 200] W (Rs W g h (.string s) l5 e5)) := N5
  have HP : Hid (rpE l e = _) := hR
  have z1 : bits BinOp.and IntKind.i64 8 1 = 0 := by decide +kernel
  have z2 : bits BinOp.and IntKind.i64 8 2 = 0 := by decide +kernel
  have z4 : bits BinOp.and IntKind.i64 8 4 = 0 := by decide +kernel
  have z8 : bits BinOp.and IntKind.i64 8 8 = 8 := by decide +kernel
  have z16 : bits BinOp.and IntKind.i64 8 16 = 0 := by decide +kernel
  have z32 : bits BinOp.and IntKind.i64 8 32 = 0 := by decide +kernel
  clear hW0 r hh hk hR eN eD eM eT eV eP' g1 g2 g5 N1 N2 N5
  go_enter Try.func40, Try.ntmps40
  go_upto_region 2 with fail
  rw [← HW0.out]
  go_wp2_with fail
  refine (K1.out).mono ?_
  rintro x w1 ⟨rfl, s1, k1⟩
  have M1a := M0.out.step s1 k1
  have M1x0 : Me w ((w1).setCell ⟨w.heap.size + 1, 0, none⟩ (.int .i64 k)) g h l1 e1 (.int .i64 k) (.int .i64 0) (.int .i64 0) (.int .i64 0) (.string ⟨#[]⟩) (.int .i64 0) (.int .i64 0) (.int .u64 0) (.string ⟨#[]⟩) (.slice none 0 0) (.int .i64 0) (.int .u64 0) (.int .i64 0) := Me.put M1a _ ((M1a).own.set0 _)
  obtain ⟨W1, hW1⟩ : ∃ W1, W1 = (w1).setCell ⟨w.heap.size + 1, 0, none⟩ (.int .i64 k) := ⟨_, rfl⟩
  have M1 : Hid (Me w W1 g h l1 e1 (.int .i64 k) (.int .i64 0) (.int .i64 0) (.int .i64 0) (.string ⟨#[]⟩) (.int .i64 0) (.int .i64 0) (.int .u64 0) (.string ⟨#[]⟩) (.slice none 0 0) (.int .i64 0) (.int .u64 0) (.int .i64 0)) := by rw [hW1]; exact M1x0
  have HW1 : Hid (W1 = (w1).setCell ⟨w.heap.size + 1, 0, none⟩ (.int .i64 k)) := hW1
  obtain ⟨a0, a1, a2, a3, a4, a5, a6, a7, a8, a9, a10, a11, a12⟩ := M1a.own
  have f0 := M1a.ofr 0
  clear hW1 M1a M1x0 s1 k1
  go_upto_region 3 with fail
  rw [← HW1.out]
  clear a0 a1 a2 a3 a4 a5 a6 a7 a8 a9 a10 a11 a12 f0
  go_wp2_with fail
  refine (K2.out _ M1.out.st).mono ?_
  rintro x w2 ⟨rfl, s2, k2⟩
  have M2a := M1.out.step s2 k2
  have M2x1 : Me w ((w2).setCell ⟨w.heap.size + 1, 1, none⟩ (.int .i64 t)) g h l2 e2 (.int .i64 k) (.int .i64 t) (.int .i64 0) (.int .i64 0) (.string ⟨#[]⟩) (.int .i64 0) (.int .i64 0) (.int .u64 0) (.string ⟨#[]⟩) (.slice none 0 0) (.int .i64 0) (.int .u64 0) (.int .i64 0) := Me.put M2a _ ((M2a).own.set1 _)
  obtain ⟨W2, hW2⟩ : ∃ W2, W2 = (w2).setCell ⟨w.heap.size + 1, 1, none⟩ (.int .i64 t) := ⟨_, rfl⟩
  have M2 : Hid (Me w W2 g h l2 e2 (.int .i64 k) (.int .i64 t) (.int .i64 0) (.int .i64 0) (.string ⟨#[]⟩) (.int .i64 0) (.int .i64 0) (.int .u64 0) (.string ⟨#[]⟩) (.slice none 0 0) (.int .i64 0) (.int .u64 0) (.int .i64 0)) := by rw [hW2]; exact M2x1
  have HW2 : Hid (W2 = (w2).setCell ⟨w.heap.size + 1, 1, none⟩ (.int .i64 t)) := hW2
  obtain ⟨a0, a1, a2, a3, a4, a5, a6, a7, a8, a9, a10, a11, a12⟩ := M2a.own
  have f1 := M2a.ofr 1
  clear hW2 M2a M2x1 s2 k2
  go_upto_region 4 with fail
  rw [← HW2.out]
  clear a0 a1 a2 a3 a4 a5 a6 a7 a8 a9 a10 a11 a12 f1
  obtain ⟨a0, a1, a2, a3, a4, a5, a6, a7, a8, a9, a10, a11, a12⟩ := M2.out.own
  go_wp2_with fail
  refine (PC.out _).mono ?_
  rintro x w9 ⟨rfl, hw9⟩
  have hw9' := hw9.symm
  subst hw9'
  clear hw9
  clear a0 a1 a2 a3 a4 a5 a6 a7 a8 a9 a10 a11 a12
  go_wp2_with fail
  refine (K5.out _ M2.out.st).mono ?_
  rintro x w3 ⟨rfl, s3, k3⟩
  have M3a := M2.out.step s3 k3
  have M3x4 : Me w ((w3).setCell ⟨w.heap.size + 1, 4, none⟩ (.string s)) g h l5 e5 (.int .i64 k) (.int .i64 t) (.int .i64 0) (.int .i64 0) (.string s) (.int .i64 0) (.int .i64 0) (.int .u64 0) (.string ⟨#[]⟩) (.slice none 0 0) (.int .i64 0) (.int .u64 0) (.int .i64 0) := Me.put M3a _ ((M3a).own.set4 _)
  obtain ⟨W3, hW3⟩ : ∃ W3, W3 = (w3).setCell ⟨w.heap.size + 1, 4, none⟩ (.string s) := ⟨_, rfl⟩
  have M3 : Hid (Me w W3 g h l5 e5 (.int .i64 k) (.int .i64 t) (.int .i64 0) (.int .i64 0) (.string s) (.int .i64 0) (.int .i64 0) (.int .u64 0) (.string ⟨#[]⟩) (.slice none 0 0) (.int .i64 0) (.int .u64 0) (.int .i64 0)) := by rw [hW3]; exact M3x4
  have HW3 : Hid (W3 = (w3).setCell ⟨w.heap.size + 1, 4, none⟩ (.string s)) := hW3
  obtain ⟨a0, a1, a2, a3, a4, a5, a6, a7, a8, a9, a10, a11, a12⟩ := M3a.own
  have f4 := M3a.ofr 4
  clear hW3 M3a M3x4 s3 k3
  go_upto_region 14 with fail
  rw [← HW3.out]
  clear a0 a1 a2 a3 a4 a5 a6 a7 a8 a9 a10 a11 a12 f4
  obtain ⟨a0, a1, a2, a3, a4, a5, a6, a7, a8, a9, a10, a11, a12⟩ := M3.out.own
  obtain ⟨b0, b1, b2, b3, b4, b5, b6, b7, b8, b9, b10, b11, b12⟩ := M3.out.res
  have f0 := M3.out.rfr 0
  have f1 := M3.out.rfr 1
  have f2 := M3.out.rfr 2
  have f3 := M3.out.rfr 3
  have f4 := M3.out.rfr 4
  have f5 := M3.out.rfr 5
  have f6 := M3.out.rfr 6
  have f7 := M3.out.rfr 7
  have f8 := M3.out.rfr 8
  have f9 := M3.out.rfr 9
  have f10 := M3.out.rfr 10
  have f11 := M3.out.rfr 11
  have f12 := M3.out.rfr 12
  go_wp2_with fail
  refine bodyPost_ret (ret13 Try.results40 _ (g := w.heap.size) rfl (set13_at M3.out.res (.int .i64 k) (.int .i64 t) (.int .i64 0) (.int .i64 0) (.string s) (.int .i64 0) (.int .i64 0) (.int .u64 0) (.string ⟨#[]⟩) (.slice none 0 0) (.int .i64 0) (.int .u64 0) (.int .i64 0))) rfl ?_
  rw [HP.out]
  exact M3.out.fin k t 0 0 s 0 0 0 ⟨#[]⟩ none 0 0 0 0 0 zE (zE_isN _ _)
set_option maxHeartbeats 4000000 in
set_option maxRecDepth 100000 in
theorem parts_r0 (w : World) (g h : Nat) (l : List UInt8) (e : Int) (r : St w g h l e) (hh : h < w.heap.size) (_hl : l.length ≤ 281474976710656) (hk : pt (sNum 19 l e).1 = 0) :
    Calls Try.prog 40 #[.pointer (some ⟨g, 0, none⟩)] w (ErP w g h (rpE l e)) := by
  have M0 : Hid (Me w ((w.alloc (.cells #[.int .i64 0, .int .i64 0, .int .i64 0, .int .i64 0, .string ⟨#[]⟩, .int .i64 0, .int .i64 0, .int .u64 0, .string ⟨#[]⟩, .slice none 0 0, .int .i64 0, .int .u64 0, .int .i64 0] 39)).alloc (.cells #[.int .i64 0, .int .i64 0, .int .i64 0, .int .i64 0, .string ⟨#[]⟩, .int .i64 0, .int .i64 0, .int .u64 0, .string ⟨#[]⟩, .slice none 0 0, .int .i64 0, .int .u64 0, .int .i64 0] 39)) g h l e (.int .i64 0) (.int .i64 0) (.int .i64 0) (.int .i64 0) (.string ⟨#[]⟩) (.int .i64 0) (.int .i64 0) (.int .u64 0) (.string ⟨#[]⟩) (.slice none 0 0) (.int .i64 0) (.int .u64 0) (.int .i64 0)) := Me.first r hh
  obtain ⟨W0, hW0⟩ : ∃ W0, W0 = ((w.alloc (.cells #[.int .i64 0, .int .i64 0, .int .i64 0, .int .i64 0, .string ⟨#[]⟩, .int .i64 0, .int .i64 0, .int .u64 0, .string ⟨#[]⟩, .slice none 0 0, .int .i64 0, .int .u64 0, .int .i64 0] 39)).alloc (.cells #[.int .i64 0, .int .i64 0, .int .i64 0, .int .i64 0, .string ⟨#[]⟩, .int .i64 0, .int .i64 0, .int .u64 0, .string ⟨#[]⟩, .slice none 0 0, .int .i64 0, .int .u64 0, .int .i64 0] 39)) := ⟨_, rfl⟩
  rw [← hW0] at M0
  have HW0 : Hid (W0 = ((w.alloc (.cells #[.int .i64 0, .int .i64 0, .int .i64 0, .int .i64 0, .string ⟨#[]⟩, .int .i64 0, .int .i64 0, .int .u64 0, .string ⟨#[]⟩, .slice none 0 0, .int .i64 0, .int .u64 0, .int .i64 0] 39)).alloc (.cells #[.int .i64 0, .int .i64 0, .int .i64 0, .int .i64 0, .string ⟨#[]⟩, .int .i64 0, .int .i64 0, .int .u64 0, .string ⟨#[]⟩, .slice none 0 0, .int .i64 0, .int .u64 0, .int .i64 0] 39))) := hW0
  have N1 := num_st W0 g h l e 19 M0.out.st
  have hR : rpE l e = rpE l e := rfl
  conv at hR => rhs; unfold rpE
  have g1 := sNum_len 19 l e
  generalize sNum 19 l e = R1 at N1 hk hR g1
  obtain ⟨k, l1, e1⟩ := R1
  dsimp only at N1 hk hR g1
  have eN : hN k = false := by unfold hN; rw [hk]; decide
  have eD : hD k = false := by unfold hD; rw [hk]; decide
  have eM : hM k = false := by unfold hM; rw [hk]; decide
  have eT : hT k = false := by unfold hT; rw [hk]; decide
  have eV : hV k = false := by unfold hV; rw [hk]; decide
  have eP' : hP k = false := by unfold hP; rw [hk]; decide
  rw [eN, eD, eM, eT, eV, eP'] at hR
  simp only [Bool.false_eq_true, if_false] at hR
  have K1 : Hid (Calls Try.prog 52 #[.pointer (some ⟨g, 0, none⟩), .int .i64 19] W0 (Rs W0 g h (.int .i64 k) l1 e1)) := N1
  have N2 := fun W (s : St W g h l1 e1) => num_st W g h l1 e1 1099511627776 s
  have g2 := sNum_len 1099511627776 l1 e1
  generalize sNum 1099511627776 l1 e1 = R2 at N2 hR g2
  obtain ⟨t, l2, e2⟩ := R2
  dsimp only at N2 hR g2
  have K2 : Hid (∀ W, St W g h l1 e1 → Calls Try.prog 52 #[.pointer (some ⟨g, 0, none⟩), .int .i64 1099511627776] W (Rs W g h (.int .i64 t) l2 e2)) := N2
  have PC : Hid (∀ W, Calls Try.prog 25 #[.int .i64 k] W fun e w' => e = .returned (.int .i64 0) ∧ w' = W) := fun W => by have := parts_calls k W; rw [hk] at this; exact this
  have NL : Hid (∀ W, _) := fun W => numLimits_calls k W
  rw [str_none] at hR
  have HP : Hid (rpE l e = _) := hR
  have z1 : bits BinOp.and IntKind.i64 0 1 = 0 := by decide +kernel
  have z2 : bits BinOp.and IntKind.i64 0 2 = 0 := by decide +kernel
  have z4 : bits BinOp.and IntKind.i64 0 4 = 0 := by decide +kernel
  have z8 : bits BinOp.and IntKind.i64 0 8 = 0 := by decide +kernel
  have z16 : bits BinOp.and IntKind.i64 0 16 = 0 := by decide +kernel
  have z32 : bits BinOp.and IntKind.i64 0 32 = 0 := by decide +kernel
  clear hW0 r hh hk hR eN eD eM eT eV eP' g1 g2 N1 N2
  go_enter Try.func40, Try.ntmps40
  go_upto_region 2 with fail
  rw [← HW0.out]
  go_wp2_with fail
  refine (K1.out).mono ?_
  rintro x w1 ⟨rfl, s1, k1⟩
  have M1a := M0.out.step s1 k1
  have M1x0 : Me w ((w1).setCell ⟨w.heap.size + 1, 0, none⟩ (.int .i64 k)) g h l1 e1 (.int .i64 k) (.int .i64 0) (.int .i64 0) (.int .i64 0) (.string ⟨#[]⟩) (.int .i64 0) (.int .i64 0) (.int .u64 0) (.string ⟨#[]⟩) (.slice none 0 0) (.int .i64 0) (.int .u64 0) (.int .i64 0) := Me.put M1a _ ((M1a).own.set0 _)
  obtain ⟨W1, hW1⟩ : ∃ W1, W1 = (w1).setCell ⟨w.heap.size + 1, 0, none⟩ (.int .i64 k) := ⟨_, rfl⟩
  have M1 : Hid (Me w W1 g h l1 e1 (.int .i64 k) (.int .i64 0) (.int .i64 0) (.int .i64 0) (.string ⟨#[]⟩) (.int .i64 0) (.int .i64 0) (.int .u64 0) (.string ⟨#[]⟩) (.slice none 0 0) (.int .i64 0) (.int .u64 0) (.int .i64 0)) := by rw [hW1]; exact M1x0
  have HW1 : Hid (W1 = (w1).setCell ⟨w.heap.size + 1, 0, none⟩ (.int .i64 k)) := hW1
  obtain ⟨a0, a1, a2, a3, a4, a5, a6, a7, a8, a9, a10, a11, a12⟩ := M1a.own
  have f0 := M1a.ofr 0
  clear hW1 M1a M1x0 s1 k1
  go_upto_region 3 with fail
  rw [← HW1.out]
  clear a0 a1 a2 a3 a4 a5 a6 a7 a8 a9 a10 a11 a12 f0
  go_wp2_with fail
  refine (K2.out _ M1.out.st).mono ?_
  rintro x w2 ⟨rfl, s2, k2⟩
  have M2a := M1.out.step s2 k2
  have M2x1 : Me w ((w2).setCell ⟨w.heap.size + 1, 1, none⟩ (.int .i64 t)) g h l2 e2 (.int .i64 k) (.int .i64 t) (.int .i64 0) (.int .i64 0) (.string ⟨#[]⟩) (.int .i64 0) (.int .i64 0) (.int .u64 0) (.string ⟨#[]⟩) (.slice none 0 0) (.int .i64 0) (.int .u64 0) (.int .i64 0) := Me.put M2a _ ((M2a).own.set1 _)
  obtain ⟨W2, hW2⟩ : ∃ W2, W2 = (w2).setCell ⟨w.heap.size + 1, 1, none⟩ (.int .i64 t) := ⟨_, rfl⟩
  have M2 : Hid (Me w W2 g h l2 e2 (.int .i64 k) (.int .i64 t) (.int .i64 0) (.int .i64 0) (.string ⟨#[]⟩) (.int .i64 0) (.int .i64 0) (.int .u64 0) (.string ⟨#[]⟩) (.slice none 0 0) (.int .i64 0) (.int .u64 0) (.int .i64 0)) := by rw [hW2]; exact M2x1
  have HW2 : Hid (W2 = (w2).setCell ⟨w.heap.size + 1, 1, none⟩ (.int .i64 t)) := hW2
  obtain ⟨a0, a1, a2, a3, a4, a5, a6, a7, a8, a9, a10, a11, a12⟩ := M2a.own
  have f1 := M2a.ofr 1
  clear hW2 M2a M2x1 s2 k2
  go_upto_region 4 with fail
  rw [← HW2.out]
  clear a0 a1 a2 a3 a4 a5 a6 a7 a8 a9 a10 a11 a12 f1
  obtain ⟨a0, a1, a2, a3, a4, a5, a6, a7, a8, a9, a10, a11, a12⟩ := M2.out.own
  go_wp2_with fail
  refine (PC.out _).mono ?_
  rintro x w9 ⟨rfl, hw9⟩
  have hw9' := hw9.symm
  subst hw9'
  clear hw9
  clear a0 a1 a2 a3 a4 a5 a6 a7 a8 a9 a10 a11 a12
  obtain ⟨a0, a1, a2, a3, a4, a5, a6, a7, a8, a9, a10, a11, a12⟩ := M2.out.own
  obtain ⟨b0, b1, b2, b3, b4, b5, b6, b7, b8, b9, b10, b11, b12⟩ := M2.out.res
  have f0 := M2.out.rfr 0
  have f1 := M2.out.rfr 1
  have f2 := M2.out.rfr 2
  have f3 := M2.out.rfr 3
  have f4 := M2.out.rfr 4
  have f5 := M2.out.rfr 5
  have f6 := M2.out.rfr 6
  have f7 := M2.out.rfr 7
  have f8 := M2.out.rfr 8
  have f9 := M2.out.rfr 9
  have f10 := M2.out.rfr 10
  have f11 := M2.out.rfr 11
  have f12 := M2.out.rfr 12
  go_wp2_with fail
  refine bodyPost_ret (ret13 Try.results40 _ (g := w.heap.size) rfl (set13_at M2.out.res (.int .i64 k) (.int .i64 t) (.int .i64 0) (.int .i64 0) (.string ⟨#[]⟩) (.int .i64 0) (.int .i64 0) (.int .u64 0) (.string ⟨#[]⟩) (.slice none 0 0) (.int .i64 0) (.int .u64 0) (.int .i64 0))) rfl ?_
  rw [HP.out]
  exact M2.out.fin k t 0 0 ⟨#[]⟩ 0 0 0 ⟨#[]⟩ none 0 0 0 0 0 zE (zE_isN _ _)
theorem readParts_calls (w : World) (g h : Nat) (l : List UInt8) (e : Int) (r : St w g h l e) (hh : h < w.heap.size) (hl : l.length ≤ 281474976710656) :
    Calls Try.prog 40 #[.pointer (some ⟨g, 0, none⟩)] w (ErP w g h (rpE l e)) := by
  rcases pt_set (sNum 19 l e).1 with hk | hk | hk | hk | hk | hk | hk | hk | hk | hk
  · exact parts_r54 w g h l e r hh hl hk
  · exact parts_r20 w g h l e r hh hl hk
  · exact parts_r16 w g h l e r hh hl hk
  · exact parts_r3 w g h l e r hh hl hk
  · exact parts_r2 w g h l e r hh hl hk
  · exact parts_r6 w g h l e r hh hl hk
  · exact parts_r4 w g h l e r hh hl hk
  · exact parts_r9 w g h l e r hh hl hk
  · exact parts_r8 w g h l e r hh hl hk
  · exact parts_r0 w g h l e r hh hl hk
end Go.Proofs.Ytacmlholbnddpaa
namespace Go.Proofs.Ytacmlholbnddpaa
open Go.ChangeShapes Go.WideShapes Go.ChangeAt Go.RowKit
/-- Where Read stands when all is read: its result's box, its own box at q, and the reader. -/
structure Mr (w W : World) (g h q : Nat) (l : List UInt8) (e : Int) (c0 c1 c2 c3 c4 c5 c6 c7 c8 c9 c10 c11 c12 : Value) : Prop where
  q0 : w.heap.size < q
  q1 : q < W.heap.size
  gw : g < w.heap.size
  hw : h < w.heap.size
  res : At13 W w.heap.size (.int .i64 0) (.int .i64 0) (.int .i64 0) (.int .i64 0) (.string ⟨#[]⟩) (.int .i64 0) (.int .i64 0) (.int .u64 0) (.string ⟨#[]⟩) (.slice none 0 0) (.int .i64 0) (.int .u64 0) (.int .i64 0)
  rfr : ∀ o, W.frozen? ⟨w.heap.size, o, none⟩ = false
  own : At13 W q c0 c1 c2 c3 c4 c5 c6 c7 c8 c9 c10 c11 c12
  st : St W g h l e
  kb : KB g w W
theorem Mr.step {w W w' : World} {g h q : Nat} {l l' : List UInt8} {e e' : Int} {c0 c1 c2 c3 c4 c5 c6 c7 c8 c9 c10 c11 c12 : Value} (m : Mr w W g h q l e c0 c1 c2 c3 c4 c5 c6 c7 c8 c9 c10 c11 c12) (s : St w' g h l' e') (k : KB g W w') : Mr w w' g h q l' e' c0 c1 c2 c3 c4 c5 c6 c7 c8 c9 c10 c11 c12 := by
  have a := m.q0
  have b := m.q1
  have c := m.gw
  exact ⟨a, Nat.lt_of_lt_of_le b k.2.2.2.1, c, m.hw, m.res.keep (k.2.2.2.2 _ (by omega) (by omega)), fun o => (k.frozen (a := ⟨w.heap.size, o, none⟩) (show w.heap.size < W.heap.size by omega) (show w.heap.size ≠ g by omega)).trans (m.rfr o), m.own.keep (k.2.2.2.2 _ (by omega) (by omega)), s, m.kb.trans k⟩
theorem Mr.below {w W w' : World} {g h q : Nat} {l : List UInt8} {e : Int} {c0 c1 c2 c3 c4 c5 c6 c7 c8 c9 c10 c11 c12 : Value} (m : Mr w W g h q l e c0 c1 c2 c3 c4 c5 c6 c7 c8 c9 c10 c11 c12) (hb : Below W.heap.size W w') : Mr w w' g h q l e c0 c1 c2 c3 c4 c5 c6 c7 c8 c9 c10 c11 c12 := by
  have a := m.q0
  have b := m.q1
  have c := m.gw
  have d := m.hw
  exact m.step (m.st.keep2 (hb.block g (by omega)) (hb.block h (by omega))) (KB.of_below hb)
theorem Mr.box {w w2 : World} {g h : Nat} {l : List UInt8} {e : Int} {c0 c1 c2 c3 c4 c5 c6 c7 c8 c9 c10 c11 c12 : Value} (hg : g < w.heap.size) (hh : h < w.heap.size) (s : St w2 g h l e) (kb : KB g (w.alloc (.cells #[.int .i64 0, .int .i64 0, .int .i64 0, .int .i64 0, .string ⟨#[]⟩, .int .i64 0, .int .i64 0, .int .u64 0, .string ⟨#[]⟩, .slice none 0 0, .int .i64 0, .int .u64 0, .int .i64 0] 39)) w2) : Mr w (w2.alloc (.cells #[c0, c1, c2, c3, c4, c5, c6, c7, c8, c9, c10, c11, c12] 39)) g h w2.heap.size l e c0 c1 c2 c3 c4 c5 c6 c7 c8 c9 c10 c11 c12 := by
  have hz : (w.alloc (.cells #[.int .i64 0, .int .i64 0, .int .i64 0, .int .i64 0, .string ⟨#[]⟩, .int .i64 0, .int .i64 0, .int .u64 0, .string ⟨#[]⟩, .slice none 0 0, .int .i64 0, .int .u64 0, .int .i64 0] 39)).heap.size = w.heap.size + 1 := by simp
  have hz2 := kb.2.2.2.1
  have b := bel1 w2 (.cells #[c0, c1, c2, c3, c4, c5, c6, c7, c8, c9, c10, c11, c12] 39)
  have r1 : At13 w2 w.heap.size (.int .i64 0) (.int .i64 0) (.int .i64 0) (.int .i64 0) (.string ⟨#[]⟩) (.int .i64 0) (.int .i64 0) (.int .u64 0) (.string ⟨#[]⟩) (.slice none 0 0) (.int .i64 0) (.int .u64 0) (.int .i64 0) := (At13.box w (.int .i64 0) (.int .i64 0) (.int .i64 0) (.int .i64 0) (.string ⟨#[]⟩) (.int .i64 0) (.int .i64 0) (.int .u64 0) (.string ⟨#[]⟩) (.slice none 0 0) (.int .i64 0) (.int .u64 0) (.int .i64 0)).keep (kb.2.2.2.2 _ (by omega) (by omega))
  have r2 : ∀ o, w2.frozen? ⟨w.heap.size, o, none⟩ = false := fun o => (kb.frozen (a := ⟨w.heap.size, o, none⟩) (show w.heap.size < _ by omega) (show w.heap.size ≠ g by omega)).trans (freshP w _ _ o)
  refine ⟨by omega, by simp, hg, hh, r1.below b, fun o => (b.frozen (p := ⟨w.heap.size, o, none⟩) (show w.heap.size < w2.heap.size by omega)).trans (r2 o), At13.box w2 c0 c1 c2 c3 c4 c5 c6 c7 c8 c9 c10 c11 c12, s.keep2 (b.block g (by omega)) (b.block h (by omega)), ?_⟩
  exact kb_below (a := w2) ⟨kb.1, kb.2.1, kb.2.2.1, by omega, fun i hi hne => (kb.2.2.2.2 i (by omega) hne).trans ((bel1 w _).block i hi)⟩ (b.mono (by omega))
theorem Mr.fin {w W : World} {g h q : Nat} {l : List UInt8} {e : Int} {c0 c1 c2 c3 c4 c5 c6 c7 c8 c9 c10 c11 c12 : Value} (m : Mr w W g h q l e c0 c1 c2 c3 c4 c5 c6 c7 c8 c9 c10 c11 c12) (k t n d : Int) (s : ByteArray) (vk vx vb : Int) (vs : ByteArray) (la : Option Addr) (ll lc : Nat) (f : Int) (c : Nat) (m0 : Int) (tv : Tv) (hi : IsN (w.heap.size + 1) W 5 (.agg #[.int .i64 vk, .int .i64 vx, .int .u64 vb, .string vs, .slice la ll lc]) tv) :
    ErP w g h (⟨k, t, n, d, s, tv, f, c, m0⟩, l, e) (.returned (.agg #[.int .i64 k, .int .i64 t, .int .i64 n, .int .i64 d, .string s, .int .i64 vk, .int .i64 vx, .int .u64 vb, .string vs, .slice la ll lc, .int .i64 f, .int .u64 (c : Int), .int .i64 m0])) (set13 W w.heap.size (.int .i64 k) (.int .i64 t) (.int .i64 n) (.int .i64 d) (.string s) (.int .i64 vk) (.int .i64 vx) (.int .u64 vb) (.string vs) (.slice la ll lc) (.int .i64 f) (.int .u64 (c : Int)) (.int .i64 m0)) := by
  have a := m.gw
  have b := m.hw
  have c1 := m.q1
  have c0 := m.q0
  have kb := set13_kb W w.heap.size (.int .i64 k) (.int .i64 t) (.int .i64 n) (.int .i64 d) (.string s) (.int .i64 vk) (.int .i64 vx) (.int .u64 vb) (.string vs) (.slice la ll lc) (.int .i64 f) (.int .u64 (c : Int)) (.int .i64 m0)
  exact ⟨vk, vx, vb, vs, la, ll, lc, rfl, (IsN.kb kb (by omega) hi).lower (by omega), m.st.keep2 (kb.2.2.2.2 g (by omega) (by omega)) (kb.2.2.2.2 h (by omega) (by omega)), kb_below m.kb (kb.below (Nat.le_refl _) (by omega))⟩
/-- The zero event. -/
def zEv : Ev := ⟨0, 0, 0, 0, ⟨#[]⟩, zE, 0, 0, 0⟩
/-- What Read leaves. -/
def ReP (w : World) (g h : Nat) (R : Ev × List UInt8 × Int) (x : Ending) (w' : World) : Prop :=
  (MayE 5 R.1 ∧ R.2.2 = 0 → ErP w g h R x w') ∧ (¬ (MayE 5 R.1 ∧ R.2.2 = 0) → ∃ l' e', e' ≠ 0 ∧ ErP w g h (zEv, l', e') x w')
theorem rdP_c (l : List UInt8) (e : Int) : (rdP l e).c < 18446744073709551616 := by
  unfold rdP pr3
  dsimp only
  have := sBits_lt (sNum 1073741824 l e).2.1 (sNum 1073741824 l e).2.2
  split
  · exact this
  · show (0 : Nat) < _
    decide
theorem rpE_c (l : List UInt8) (e : Int) : (rpE l e).1.c < 18446744073709551616 := by
  unfold rpE
  dsimp only
  split
  · exact rdP_c _ _
  · show (0 : Nat) < _
    decide
set_option maxHeartbeats 4000000 in
set_option maxRecDepth 100000 in
theorem read_calls_a (w : World) (g h : Nat) (l : List UInt8) (e : Int) (k t n d : Int) (s : ByteArray) (tv : Tv) (f : Int) (c : Nat) (m : Int) (l1 : List UInt8) (e1 : Int) (r : St w g h l e) (hh : h < w.heap.size) (hl : l.length ≤ 281474976710656) (hR : rpE l e = (⟨k, t, n, d, s, tv, f, c, m⟩, l1, e1)) (hm : MayE 5 ⟨k, t, n, d, s, tv, f, c, m⟩) (h0 : e1 = 0) :
    Calls Try.prog 23 #[.pointer (some ⟨g, 0, none⟩)] w (ReP w g h (⟨k, t, n, d, s, tv, f, c, m⟩, l1, e1)) := by
  have hg := r.lt
  have hcb := rpE_c l e
  rw [hR] at hcb
  have HCB : Hid (c < 18446744073709551616) := hcb
  have s0 : St (w.alloc (.cells #[.int .i64 0, .int .i64 0, .int .i64 0, .int .i64 0, .string ⟨#[]⟩, .int .i64 0, .int .i64 0, .int .u64 0, .string ⟨#[]⟩, .slice none 0 0, .int .i64 0, .int .u64 0, .int .i64 0] 39)) g h l e := r.keep2 ((bel1 w _).block g hg) ((bel1 w _).block h hh)
  have RC : Hid (Calls Try.prog 40 #[.pointer (some ⟨g, 0, none⟩)] (w.alloc (.cells #[.int .i64 0, .int .i64 0, .int .i64 0, .int .i64 0, .string ⟨#[]⟩, .int .i64 0, .int .i64 0, .int .u64 0, .string ⟨#[]⟩, .slice none 0 0, .int .i64 0, .int .u64 0, .int .i64 0] 39)) (ErP (w.alloc (.cells #[.int .i64 0, .int .i64 0, .int .i64 0, .int .i64 0, .string ⟨#[]⟩, .int .i64 0, .int .i64 0, .int .u64 0, .string ⟨#[]⟩, .slice none 0 0, .int .i64 0, .int .u64 0, .int .i64 0] 39)) g h (⟨k, t, n, d, s, tv, f, c, m⟩, l1, e1))) := by
    have := readParts_calls (w.alloc (.cells #[.int .i64 0, .int .i64 0, .int .i64 0, .int .i64 0, .string ⟨#[]⟩, .int .i64 0, .int .i64 0, .int .u64 0, .string ⟨#[]⟩, .slice none 0 0, .int .i64 0, .int .u64 0, .int .i64 0] 39)) g h l e s0 (by simp; omega) hl
    rw [hR] at this
    exact this
  have HGH : Hid (g < w.heap.size ∧ h < w.heap.size) := ⟨hg, hh⟩
  subst h0
  have HGo : Hid (∀ x w', ErP w g h (⟨k, t, n, d, s, tv, f, c, m⟩, l1, 0) x w' → ReP w g h (⟨k, t, n, d, s, tv, f, c, m⟩, l1, 0) x w') := fun x w' h2 => ⟨fun _ => h2, fun hh => absurd ⟨hm, rfl⟩ hh⟩
  have HNM : Hid (MayE 5 ⟨k, t, n, d, s, tv, f, c, m⟩) := hm
  generalize ReP w g h (⟨k, t, n, d, s, tv, f, c, m⟩, l1, 0) = Q at HGo ⊢
  clear hR s0 r hg hh hl hcb hm
  go_enter Try.func23, Try.ntmps23
  go_wp2_with fail
  refine RC.out.mono ?_
  rintro x w1 ⟨vk, vx, vb, vs, la, ll, lc, rfl, hi, s1, k1⟩
  dsimp only at hi s1
  have M1 : Hid (Mr w (w1.alloc (.cells #[.int .i64 k, .int .i64 t, .int .i64 n, .int .i64 d, .string s, .int .i64 vk, .int .i64 vx, .int .u64 vb, .string vs, .slice la ll lc, .int .i64 f, .int .u64 (c : Int), .int .i64 m] 39)) g h w1.heap.size l1 0 (.int .i64 k) (.int .i64 t) (.int .i64 n) (.int .i64 d) (.string s) (.int .i64 vk) (.int .i64 vx) (.int .u64 vb) (.string vs) (.slice la ll lc) (.int .i64 f) (.int .u64 (c : Int)) (.int .i64 m)) := Mr.box HGH.out.1 HGH.out.2 s1 k1
  have I1 : Hid (IsN (w.heap.size + 1) (w1.alloc (.cells #[.int .i64 k, .int .i64 t, .int .i64 n, .int .i64 d, .string s, .int .i64 vk, .int .i64 vx, .int .u64 vb, .string vs, .slice la ll lc, .int .i64 f, .int .u64 (c : Int), .int .i64 m] 39)) 5 (.agg #[.int .i64 vk, .int .i64 vx, .int .u64 vb, .string vs, .slice la ll lc]) tv) := by
    have hz : (w.alloc (.cells #[.int .i64 0, .int .i64 0, .int .i64 0, .int .i64 0, .string ⟨#[]⟩, .int .i64 0, .int .i64 0, .int .u64 0, .string ⟨#[]⟩, .slice none 0 0, .int .i64 0, .int .u64 0, .int .i64 0] 39)).heap.size = w.heap.size + 1 := by simp
    rw [hz] at hi
    exact IsN.kb (KB.of_below (g := 0) (bel1 w1 _)) (by omega) hi
  obtain ⟨W2, hW2⟩ : ∃ W2, W2 = w1.alloc (.cells #[.int .i64 k, .int .i64 t, .int .i64 n, .int .i64 d, .string s, .int .i64 vk, .int .i64 vx, .int .u64 vb, .string vs, .slice la ll lc, .int .i64 f, .int .u64 (c : Int), .int .i64 m] 39) := ⟨_, rfl⟩
  obtain ⟨q, hq⟩ : ∃ q, q = w1.heap.size := ⟨_, rfl⟩
  rw [← hW2] at M1 I1
  rw [← hq] at M1
  have HW2 : Hid (W2 = _) := hW2
  have HQ : Hid (q = w1.heap.size) := hq
  clear hi s1 k1 hW2 hq
  go_upto_region 2 with fail
  rw [← HW2.out, ← HQ.out]
  have CK : Hid (Calls Try.prog 10 #[(.agg #[.int .i64 k, .int .i64 t, .int .i64 n, .int .i64 d, .string s, .int .i64 vk, .int .i64 vx, .int .u64 vb, .string vs, .slice la ll lc, .int .i64 f, .int .u64 (c : Int), .int .i64 m])] W2 (CkP (MayE 5 ⟨k, t, n, d, s, tv, f, c, m⟩) W2)) := evcheck_calls 4 tv k t n d s vk vx vb vs la ll lc f c m HCB.out W2 I1.out.is
  obtain ⟨a0, a1, a2, a3, a4, a5, a6, a7, a8, a9, a10, a11, a12⟩ := M1.out.own
  go_wp2_with fail
  refine CK.out.mono ?_
  rintro x w3 ⟨r, rfl, r1, r2, hb3⟩
  have M3 : Hid (Mr w w3 g h q l1 0 (.int .i64 k) (.int .i64 t) (.int .i64 n) (.int .i64 d) (.string s) (.int .i64 vk) (.int .i64 vx) (.int .u64 vb) (.string vs) (.slice la ll lc) (.int .i64 f) (.int .u64 (c : Int)) (.int .i64 m)) := M1.out.below hb3
  have I3 : Hid (IsN (w.heap.size + 1) w3 5 (.agg #[.int .i64 vk, .int .i64 vx, .int .u64 vb, .string vs, .slice la ll lc]) tv) := IsN.kb (KB.of_below (g := 0) hb3) (by omega) I1.out
  have hr : r = 0 := r1 HNM.out
  subst hr
  clear r1 r2 hb3 a0 a1 a2 a3 a4 a5 a6 a7 a8 a9 a10 a11 a12
  have EC : Hid (Calls Try.prog 42 #[.pointer (some ⟨g, 0, none⟩)] w3 _) := err_st M3.out.st
  go_wp2_with fail
  refine EC.out.mono ?_
  rintro x w5 ⟨rfl, hw5⟩
  have hw5' := hw5.symm
  subst hw5'
  clear hw5
  obtain ⟨a0, a1, a2, a3, a4, a5, a6, a7, a8, a9, a10, a11, a12⟩ := M3.out.own
  obtain ⟨b0, b1, b2, b3, b4, b5, b6, b7, b8, b9, b10, b11, b12⟩ := M3.out.res
  have f0 := M3.out.rfr 0
  have f1 := M3.out.rfr 1
  have f2 := M3.out.rfr 2
  have f3 := M3.out.rfr 3
  have f4 := M3.out.rfr 4
  have f5 := M3.out.rfr 5
  have f6 := M3.out.rfr 6
  have f7 := M3.out.rfr 7
  have f8 := M3.out.rfr 8
  have f9 := M3.out.rfr 9
  have f10 := M3.out.rfr 10
  have f11 := M3.out.rfr 11
  have f12 := M3.out.rfr 12
  go_wp2_with fail
  refine bodyPost_ret (ret13 Try.results23 _ (g := w.heap.size) rfl (set13_at M3.out.res (.int .i64 k) (.int .i64 t) (.int .i64 n) (.int .i64 d) (.string s) (.int .i64 vk) (.int .i64 vx) (.int .u64 vb) (.string vs) (.slice la ll lc) (.int .i64 f) (.int .u64 (c : Int)) (.int .i64 m))) rfl ?_
  exact HGo.out _ _ (M3.out.fin k t n d s vk vx vb vs la ll lc f c m tv I3.out)
set_option maxHeartbeats 4000000 in
set_option maxRecDepth 100000 in
theorem read_calls_b (w : World) (g h : Nat) (l : List UInt8) (e : Int) (k t n d : Int) (s : ByteArray) (tv : Tv) (f : Int) (c : Nat) (m : Int) (l1 : List UInt8) (e1 : Int) (r : St w g h l e) (hh : h < w.heap.size) (hl : l.length ≤ 281474976710656) (hR : rpE l e = (⟨k, t, n, d, s, tv, f, c, m⟩, l1, e1)) (hm : MayE 5 ⟨k, t, n, d, s, tv, f, c, m⟩) (h0 : e1 ≠ 0) :
    Calls Try.prog 23 #[.pointer (some ⟨g, 0, none⟩)] w (ReP w g h (⟨k, t, n, d, s, tv, f, c, m⟩, l1, e1)) := by
  have hg := r.lt
  have hcb := rpE_c l e
  rw [hR] at hcb
  have HCB : Hid (c < 18446744073709551616) := hcb
  have s0 : St (w.alloc (.cells #[.int .i64 0, .int .i64 0, .int .i64 0, .int .i64 0, .string ⟨#[]⟩, .int .i64 0, .int .i64 0, .int .u64 0, .string ⟨#[]⟩, .slice none 0 0, .int .i64 0, .int .u64 0, .int .i64 0] 39)) g h l e := r.keep2 ((bel1 w _).block g hg) ((bel1 w _).block h hh)
  have RC : Hid (Calls Try.prog 40 #[.pointer (some ⟨g, 0, none⟩)] (w.alloc (.cells #[.int .i64 0, .int .i64 0, .int .i64 0, .int .i64 0, .string ⟨#[]⟩, .int .i64 0, .int .i64 0, .int .u64 0, .string ⟨#[]⟩, .slice none 0 0, .int .i64 0, .int .u64 0, .int .i64 0] 39)) (ErP (w.alloc (.cells #[.int .i64 0, .int .i64 0, .int .i64 0, .int .i64 0, .string ⟨#[]⟩, .int .i64 0, .int .i64 0, .int .u64 0, .string ⟨#[]⟩, .slice none 0 0, .int .i64 0, .int .u64 0, .int .i64 0] 39)) g h (⟨k, t, n, d, s, tv, f, c, m⟩, l1, e1))) := by
    have := readParts_calls (w.alloc (.cells #[.int .i64 0, .int .i64 0, .int .i64 0, .int .i64 0, .string ⟨#[]⟩, .int .i64 0, .int .i64 0, .int .u64 0, .string ⟨#[]⟩, .slice none 0 0, .int .i64 0, .int .u64 0, .int .i64 0] 39)) g h l e s0 (by simp; omega) hl
    rw [hR] at this
    exact this
  have HGH : Hid (g < w.heap.size ∧ h < w.heap.size) := ⟨hg, hh⟩
  have HGo : Hid (∀ x w' l' e', e' ≠ 0 → ErP w g h (zEv, l', e') x w' → ReP w g h (⟨k, t, n, d, s, tv, f, c, m⟩, l1, e1) x w') := fun x w' l' e' h1 h2 => ⟨fun hh => absurd hh (fun hc => h0 hc.2), fun _ => ⟨l', e', h1, h2⟩⟩
  have HNM : Hid (MayE 5 ⟨k, t, n, d, s, tv, f, c, m⟩) := hm
  have dE : (e1 != 0) = true := by simpa using h0
  generalize ReP w g h (⟨k, t, n, d, s, tv, f, c, m⟩, l1, e1) = Q at HGo ⊢
  clear hR s0 r hg hh hl hcb hm h0
  go_enter Try.func23, Try.ntmps23
  go_wp2_with fail
  refine RC.out.mono ?_
  rintro x w1 ⟨vk, vx, vb, vs, la, ll, lc, rfl, hi, s1, k1⟩
  dsimp only at hi s1
  have M1 : Hid (Mr w (w1.alloc (.cells #[.int .i64 k, .int .i64 t, .int .i64 n, .int .i64 d, .string s, .int .i64 vk, .int .i64 vx, .int .u64 vb, .string vs, .slice la ll lc, .int .i64 f, .int .u64 (c : Int), .int .i64 m] 39)) g h w1.heap.size l1 e1 (.int .i64 k) (.int .i64 t) (.int .i64 n) (.int .i64 d) (.string s) (.int .i64 vk) (.int .i64 vx) (.int .u64 vb) (.string vs) (.slice la ll lc) (.int .i64 f) (.int .u64 (c : Int)) (.int .i64 m)) := Mr.box HGH.out.1 HGH.out.2 s1 k1
  have I1 : Hid (IsN (w.heap.size + 1) (w1.alloc (.cells #[.int .i64 k, .int .i64 t, .int .i64 n, .int .i64 d, .string s, .int .i64 vk, .int .i64 vx, .int .u64 vb, .string vs, .slice la ll lc, .int .i64 f, .int .u64 (c : Int), .int .i64 m] 39)) 5 (.agg #[.int .i64 vk, .int .i64 vx, .int .u64 vb, .string vs, .slice la ll lc]) tv) := by
    have hz : (w.alloc (.cells #[.int .i64 0, .int .i64 0, .int .i64 0, .int .i64 0, .string ⟨#[]⟩, .int .i64 0, .int .i64 0, .int .u64 0, .string ⟨#[]⟩, .slice none 0 0, .int .i64 0, .int .u64 0, .int .i64 0] 39)).heap.size = w.heap.size + 1 := by simp
    rw [hz] at hi
    exact IsN.kb (KB.of_below (g := 0) (bel1 w1 _)) (by omega) hi
  obtain ⟨W2, hW2⟩ : ∃ W2, W2 = w1.alloc (.cells #[.int .i64 k, .int .i64 t, .int .i64 n, .int .i64 d, .string s, .int .i64 vk, .int .i64 vx, .int .u64 vb, .string vs, .slice la ll lc, .int .i64 f, .int .u64 (c : Int), .int .i64 m] 39) := ⟨_, rfl⟩
  obtain ⟨q, hq⟩ : ∃ q, q = w1.heap.size := ⟨_, rfl⟩
  rw [← hW2] at M1 I1
  rw [← hq] at M1
  have HW2 : Hid (W2 = _) := hW2
  have HQ : Hid (q = w1.heap.size) := hq
  clear hi s1 k1 hW2 hq
  go_upto_region 2 with fail
  rw [← HW2.out, ← HQ.out]
  have CK : Hid (Calls Try.prog 10 #[(.agg #[.int .i64 k, .int .i64 t, .int .i64 n, .int .i64 d, .string s, .int .i64 vk, .int .i64 vx, .int .u64 vb, .string vs, .slice la ll lc, .int .i64 f, .int .u64 (c : Int), .int .i64 m])] W2 (CkP (MayE 5 ⟨k, t, n, d, s, tv, f, c, m⟩) W2)) := evcheck_calls 4 tv k t n d s vk vx vb vs la ll lc f c m HCB.out W2 I1.out.is
  obtain ⟨a0, a1, a2, a3, a4, a5, a6, a7, a8, a9, a10, a11, a12⟩ := M1.out.own
  go_wp2_with fail
  refine CK.out.mono ?_
  rintro x w3 ⟨r, rfl, r1, r2, hb3⟩
  have M3 : Hid (Mr w w3 g h q l1 e1 (.int .i64 k) (.int .i64 t) (.int .i64 n) (.int .i64 d) (.string s) (.int .i64 vk) (.int .i64 vx) (.int .u64 vb) (.string vs) (.slice la ll lc) (.int .i64 f) (.int .u64 (c : Int)) (.int .i64 m)) := M1.out.below hb3
  have I3 : Hid (IsN (w.heap.size + 1) w3 5 (.agg #[.int .i64 vk, .int .i64 vx, .int .u64 vb, .string vs, .slice la ll lc]) tv) := IsN.kb (KB.of_below (g := 0) hb3) (by omega) I1.out
  have hr : r = 0 := r1 HNM.out
  subst hr
  clear r1 r2 hb3 a0 a1 a2 a3 a4 a5 a6 a7 a8 a9 a10 a11 a12
  have EC : Hid (Calls Try.prog 42 #[.pointer (some ⟨g, 0, none⟩)] w3 _) := err_st M3.out.st
  go_wp2_with fail
  refine EC.out.mono ?_
  rintro x w5 ⟨rfl, hw5⟩
  have hw5' := hw5.symm
  subst hw5'
  clear hw5
  obtain ⟨a0, a1, a2, a3, a4, a5, a6, a7, a8, a9, a10, a11, a12⟩ := M3.out.own
  obtain ⟨b0, b1, b2, b3, b4, b5, b6, b7, b8, b9, b10, b11, b12⟩ := M3.out.res
  have f0 := M3.out.rfr 0
  have f1 := M3.out.rfr 1
  have f2 := M3.out.rfr 2
  have f3 := M3.out.rfr 3
  have f4 := M3.out.rfr 4
  have f5 := M3.out.rfr 5
  have f6 := M3.out.rfr 6
  have f7 := M3.out.rfr 7
  have f8 := M3.out.rfr 8
  have f9 := M3.out.rfr 9
  have f10 := M3.out.rfr 10
  have f11 := M3.out.rfr 11
  have f12 := M3.out.rfr 12
  go_wp2_with fail
  refine bodyPost_ret (ret13 Try.results23 _ (g := w.heap.size) rfl (set13_at M3.out.res (.int .i64 0) (.int .i64 0) (.int .i64 0) (.int .i64 0) (.string ⟨#[]⟩) (.int .i64 0) (.int .i64 0) (.int .u64 0) (.string ⟨#[]⟩) (.slice none 0 0) (.int .i64 0) (.int .u64 0) (.int .i64 0))) rfl ?_
  exact HGo.out _ _ _ _ (by simpa using dE) (M3.out.fin 0 0 0 0 ⟨#[]⟩ 0 0 0 ⟨#[]⟩ none 0 0 0 0 0 zE (zE_isN _ _))
set_option maxHeartbeats 4000000 in
set_option maxRecDepth 100000 in
theorem read_calls_c (w : World) (g h : Nat) (l : List UInt8) (e : Int) (k t n d : Int) (s : ByteArray) (tv : Tv) (f : Int) (c : Nat) (m : Int) (l1 : List UInt8) (e1 : Int) (r : St w g h l e) (hh : h < w.heap.size) (hl : l.length ≤ 281474976710656) (hR : rpE l e = (⟨k, t, n, d, s, tv, f, c, m⟩, l1, e1)) (hm : ¬ MayE 5 ⟨k, t, n, d, s, tv, f, c, m⟩) :
    Calls Try.prog 23 #[.pointer (some ⟨g, 0, none⟩)] w (ReP w g h (⟨k, t, n, d, s, tv, f, c, m⟩, l1, e1)) := by
  have hg := r.lt
  have hcb := rpE_c l e
  rw [hR] at hcb
  have HCB : Hid (c < 18446744073709551616) := hcb
  have s0 : St (w.alloc (.cells #[.int .i64 0, .int .i64 0, .int .i64 0, .int .i64 0, .string ⟨#[]⟩, .int .i64 0, .int .i64 0, .int .u64 0, .string ⟨#[]⟩, .slice none 0 0, .int .i64 0, .int .u64 0, .int .i64 0] 39)) g h l e := r.keep2 ((bel1 w _).block g hg) ((bel1 w _).block h hh)
  have RC : Hid (Calls Try.prog 40 #[.pointer (some ⟨g, 0, none⟩)] (w.alloc (.cells #[.int .i64 0, .int .i64 0, .int .i64 0, .int .i64 0, .string ⟨#[]⟩, .int .i64 0, .int .i64 0, .int .u64 0, .string ⟨#[]⟩, .slice none 0 0, .int .i64 0, .int .u64 0, .int .i64 0] 39)) (ErP (w.alloc (.cells #[.int .i64 0, .int .i64 0, .int .i64 0, .int .i64 0, .string ⟨#[]⟩, .int .i64 0, .int .i64 0, .int .u64 0, .string ⟨#[]⟩, .slice none 0 0, .int .i64 0, .int .u64 0, .int .i64 0] 39)) g h (⟨k, t, n, d, s, tv, f, c, m⟩, l1, e1))) := by
    have := readParts_calls (w.alloc (.cells #[.int .i64 0, .int .i64 0, .int .i64 0, .int .i64 0, .string ⟨#[]⟩, .int .i64 0, .int .i64 0, .int .u64 0, .string ⟨#[]⟩, .slice none 0 0, .int .i64 0, .int .u64 0, .int .i64 0] 39)) g h l e s0 (by simp; omega) hl
    rw [hR] at this
    exact this
  have HGH : Hid (g < w.heap.size ∧ h < w.heap.size) := ⟨hg, hh⟩
  have HGo : Hid (∀ x w' l' e', e' ≠ 0 → ErP w g h (zEv, l', e') x w' → ReP w g h (⟨k, t, n, d, s, tv, f, c, m⟩, l1, e1) x w') := fun x w' l' e' h1 h2 => ⟨fun hh => absurd hh (fun hc => hm hc.1), fun _ => ⟨l', e', h1, h2⟩⟩
  have HNM : Hid (¬ MayE 5 ⟨k, t, n, d, s, tv, f, c, m⟩) := hm
  generalize ReP w g h (⟨k, t, n, d, s, tv, f, c, m⟩, l1, e1) = Q at HGo ⊢
  clear hR s0 r hg hh hl hcb hm
  go_enter Try.func23, Try.ntmps23
  go_wp2_with fail
  refine RC.out.mono ?_
  rintro x w1 ⟨vk, vx, vb, vs, la, ll, lc, rfl, hi, s1, k1⟩
  dsimp only at hi s1
  have M1 : Hid (Mr w (w1.alloc (.cells #[.int .i64 k, .int .i64 t, .int .i64 n, .int .i64 d, .string s, .int .i64 vk, .int .i64 vx, .int .u64 vb, .string vs, .slice la ll lc, .int .i64 f, .int .u64 (c : Int), .int .i64 m] 39)) g h w1.heap.size l1 e1 (.int .i64 k) (.int .i64 t) (.int .i64 n) (.int .i64 d) (.string s) (.int .i64 vk) (.int .i64 vx) (.int .u64 vb) (.string vs) (.slice la ll lc) (.int .i64 f) (.int .u64 (c : Int)) (.int .i64 m)) := Mr.box HGH.out.1 HGH.out.2 s1 k1
  have I1 : Hid (IsN (w.heap.size + 1) (w1.alloc (.cells #[.int .i64 k, .int .i64 t, .int .i64 n, .int .i64 d, .string s, .int .i64 vk, .int .i64 vx, .int .u64 vb, .string vs, .slice la ll lc, .int .i64 f, .int .u64 (c : Int), .int .i64 m] 39)) 5 (.agg #[.int .i64 vk, .int .i64 vx, .int .u64 vb, .string vs, .slice la ll lc]) tv) := by
    have hz : (w.alloc (.cells #[.int .i64 0, .int .i64 0, .int .i64 0, .int .i64 0, .string ⟨#[]⟩, .int .i64 0, .int .i64 0, .int .u64 0, .string ⟨#[]⟩, .slice none 0 0, .int .i64 0, .int .u64 0, .int .i64 0] 39)).heap.size = w.heap.size + 1 := by simp
    rw [hz] at hi
    exact IsN.kb (KB.of_below (g := 0) (bel1 w1 _)) (by omega) hi
  obtain ⟨W2, hW2⟩ : ∃ W2, W2 = w1.alloc (.cells #[.int .i64 k, .int .i64 t, .int .i64 n, .int .i64 d, .string s, .int .i64 vk, .int .i64 vx, .int .u64 vb, .string vs, .slice la ll lc, .int .i64 f, .int .u64 (c : Int), .int .i64 m] 39) := ⟨_, rfl⟩
  obtain ⟨q, hq⟩ : ∃ q, q = w1.heap.size := ⟨_, rfl⟩
  rw [← hW2] at M1 I1
  rw [← hq] at M1
  have HW2 : Hid (W2 = _) := hW2
  have HQ : Hid (q = w1.heap.size) := hq
  clear hi s1 k1 hW2 hq
  go_upto_region 2 with fail
  rw [← HW2.out, ← HQ.out]
  have CK : Hid (Calls Try.prog 10 #[(.agg #[.int .i64 k, .int .i64 t, .int .i64 n, .int .i64 d, .string s, .int .i64 vk, .int .i64 vx, .int .u64 vb, .string vs, .slice la ll lc, .int .i64 f, .int .u64 (c : Int), .int .i64 m])] W2 (CkP (MayE 5 ⟨k, t, n, d, s, tv, f, c, m⟩) W2)) := evcheck_calls 4 tv k t n d s vk vx vb vs la ll lc f c m HCB.out W2 I1.out.is
  obtain ⟨a0, a1, a2, a3, a4, a5, a6, a7, a8, a9, a10, a11, a12⟩ := M1.out.own
  go_wp2_with fail
  refine CK.out.mono ?_
  rintro x w3 ⟨r, rfl, r1, r2, hb3⟩
  have M3 : Hid (Mr w w3 g h q l1 e1 (.int .i64 k) (.int .i64 t) (.int .i64 n) (.int .i64 d) (.string s) (.int .i64 vk) (.int .i64 vx) (.int .u64 vb) (.string vs) (.slice la ll lc) (.int .i64 f) (.int .u64 (c : Int)) (.int .i64 m)) := M1.out.below hb3
  have I3 : Hid (IsN (w.heap.size + 1) w3 5 (.agg #[.int .i64 vk, .int .i64 vx, .int .u64 vb, .string vs, .slice la ll lc]) tv) := IsN.kb (KB.of_below (g := 0) hb3) (by omega) I1.out
  have hr : r = 1 := r2 HNM.out
  subst hr
  clear r1 r2 hb3 a0 a1 a2 a3 a4 a5 a6 a7 a8 a9 a10 a11 a12
  have FC : Hid (Calls Try.prog 41 #[.pointer (some ⟨g, 0, none⟩), .int .i64 3] w3 fun r w' => r = .returned (.tuple #[]) ∧ St w' g h (flL l1 e1) (flE e1 3) ∧ KB g w3 w') := by
    have := fail_st w3 g h l1 e1 3 M3.out.st
    rwa [fl_l l1 e1 3 (by decide), fl_e e1 3] at this
  go_wp2_with fail
  refine FC.out.mono ?_
  rintro x w4 ⟨rfl, s4, k4⟩
  have M4 : Hid (Mr w w4 g h q (flL l1 e1) (flE e1 3) (.int .i64 k) (.int .i64 t) (.int .i64 n) (.int .i64 d) (.string s) (.int .i64 vk) (.int .i64 vx) (.int .u64 vb) (.string vs) (.slice la ll lc) (.int .i64 f) (.int .u64 (c : Int)) (.int .i64 m)) := M3.out.step s4 k4
  have dE : (flE e1 3 != 0) = true := by simpa using flE_ne (e := e1) (f := 3) (by decide)
  clear s4 k4 FC
  have EC : Hid (Calls Try.prog 42 #[.pointer (some ⟨g, 0, none⟩)] w4 _) := err_st M4.out.st
  go_wp2_with fail
  refine EC.out.mono ?_
  rintro x w5 ⟨rfl, hw5⟩
  have hw5' := hw5.symm
  subst hw5'
  clear hw5
  obtain ⟨a0, a1, a2, a3, a4, a5, a6, a7, a8, a9, a10, a11, a12⟩ := M4.out.own
  obtain ⟨b0, b1, b2, b3, b4, b5, b6, b7, b8, b9, b10, b11, b12⟩ := M4.out.res
  have f0 := M4.out.rfr 0
  have f1 := M4.out.rfr 1
  have f2 := M4.out.rfr 2
  have f3 := M4.out.rfr 3
  have f4 := M4.out.rfr 4
  have f5 := M4.out.rfr 5
  have f6 := M4.out.rfr 6
  have f7 := M4.out.rfr 7
  have f8 := M4.out.rfr 8
  have f9 := M4.out.rfr 9
  have f10 := M4.out.rfr 10
  have f11 := M4.out.rfr 11
  have f12 := M4.out.rfr 12
  go_wp2_with fail
  refine bodyPost_ret (ret13 Try.results23 _ (g := w.heap.size) rfl (set13_at M4.out.res (.int .i64 0) (.int .i64 0) (.int .i64 0) (.int .i64 0) (.string ⟨#[]⟩) (.int .i64 0) (.int .i64 0) (.int .u64 0) (.string ⟨#[]⟩) (.slice none 0 0) (.int .i64 0) (.int .u64 0) (.int .i64 0))) rfl ?_
  exact HGo.out _ _ _ _ (by simpa using dE) (M4.out.fin 0 0 0 0 ⟨#[]⟩ 0 0 0 ⟨#[]⟩ none 0 0 0 0 0 zE (zE_isN _ _))
theorem evread_calls (w : World) (g h : Nat) (l : List UInt8) (e : Int) (r : St w g h l e) (hh : h < w.heap.size) (hl : l.length ≤ 281474976710656) :
    Calls Try.prog 23 #[.pointer (some ⟨g, 0, none⟩)] w (ReP w g h (rpE l e)) := by
  obtain ⟨k, t, n, d, s, tv, f, c, m, l1, e1, hR⟩ : ∃ k t n d s tv f c m l1 e1, rpE l e = (⟨k, t, n, d, s, tv, f, c, m⟩, l1, e1) := ⟨_, _, _, _, _, _, _, _, _, _, _, rfl⟩
  rw [hR]
  by_cases hm : MayE 5 ⟨k, t, n, d, s, tv, f, c, m⟩
  · by_cases h0 : e1 = 0
    · exact read_calls_a w g h l e k t n d s tv f c m l1 e1 r hh hl hR hm h0
    · exact read_calls_b w g h l e k t n d s tv f c m l1 e1 r hh hl hR hm h0
  · exact read_calls_c w g h l e k t n d s tv f c m l1 e1 r hh hl hR hm
end Go.Proofs.Ytacmlholbnddpaa
namespace Go.Proofs.Ytacmlholbnddpaa
open Go.ChangeShapes Go.WideShapes Go.ChangeAt Go.RowKit
theorem ret12 (tmps : Array Value) {w : World} {g : Nat} {c0 c1 c2 c3 c4 c5 c6 c7 c8 c9 c10 c11 c12 y : Value} (hp : tmps.getD 2 undef = .pointer (some ⟨g, 0, none⟩)) (hq : tmps.getD 3 undef = y) (h5 : At13 w g c0 c1 c2 c3 c4 c5 c6 c7 c8 c9 c10 c11 c12) :
    (results Try.f13 tmps).run Try.prog w = .ok (.tuple #[.agg #[c0, c1, c2, c3, c4, c5, c6, c7, c8, c9, c10, c11, c12], y]) w := by
  have hp' : tmps[2]?.getD undef = .pointer (some ⟨g, 0, none⟩) := by simpa using hp
  have hq' : tmps[3]?.getD undef = y := by simpa using hq
  simp [results, hp', hq', asAddr, load13 h5]
/-- Where Decode stands when the event is read. -/
structure Pm (w W : World) (g h q : Nat) (l : List UInt8) (e : Int) (c0 c1 c2 c3 c4 c5 c6 c7 c8 c9 c10 c11 c12 : Value) : Prop where
  q0 : w.heap.size < q
  q1 : q < W.heap.size
  res : At13 W w.heap.size (.int .i64 0) (.int .i64 0) (.int .i64 0) (.int .i64 0) (.string ⟨#[]⟩) (.int .i64 0) (.int .i64 0) (.int .u64 0) (.string ⟨#[]⟩) (.slice none 0 0) (.int .i64 0) (.int .u64 0) (.int .i64 0)
  rfr : ∀ o, W.frozen? ⟨w.heap.size, o, none⟩ = false
  own : At13 W q c0 c1 c2 c3 c4 c5 c6 c7 c8 c9 c10 c11 c12
  st : St W g h l e
  bel : Below w.heap.size w W
theorem Pm.box {w w1 w2 : World} {g h : Nat} {l : List UInt8} {e : Int} {c0 c1 c2 c3 c4 c5 c6 c7 c8 c9 c10 c11 c12 : Value} (hg : w.heap.size < g) (hg1 : g < w1.heap.size) (hh1 : h < w1.heap.size) (b1 : Below (w.alloc (.cells #[.int .i64 0, .int .i64 0, .int .i64 0, .int .i64 0, .string ⟨#[]⟩, .int .i64 0, .int .i64 0, .int .u64 0, .string ⟨#[]⟩, .slice none 0 0, .int .i64 0, .int .u64 0, .int .i64 0] 39)).heap.size (w.alloc (.cells #[.int .i64 0, .int .i64 0, .int .i64 0, .int .i64 0, .string ⟨#[]⟩, .int .i64 0, .int .i64 0, .int .u64 0, .string ⟨#[]⟩, .slice none 0 0, .int .i64 0, .int .u64 0, .int .i64 0] 39)) w1) (s : St w2 g h l e) (kb : KB g w1 w2) : Pm w (w2.alloc (.cells #[c0, c1, c2, c3, c4, c5, c6, c7, c8, c9, c10, c11, c12] 39)) g h w2.heap.size l e c0 c1 c2 c3 c4 c5 c6 c7 c8 c9 c10 c11 c12 := by
  have hz : (w.alloc (.cells #[.int .i64 0, .int .i64 0, .int .i64 0, .int .i64 0, .string ⟨#[]⟩, .int .i64 0, .int .i64 0, .int .u64 0, .string ⟨#[]⟩, .slice none 0 0, .int .i64 0, .int .u64 0, .int .i64 0] 39)).heap.size = w.heap.size + 1 := by simp
  have hz1 := b1.size
  have hz2 := kb.2.2.2.1
  have b := bel1 w2 (.cells #[c0, c1, c2, c3, c4, c5, c6, c7, c8, c9, c10, c11, c12] 39)
  have r1 : At13 w2 w.heap.size (.int .i64 0) (.int .i64 0) (.int .i64 0) (.int .i64 0) (.string ⟨#[]⟩) (.int .i64 0) (.int .i64 0) (.int .u64 0) (.string ⟨#[]⟩) (.slice none 0 0) (.int .i64 0) (.int .u64 0) (.int .i64 0) := ((At13.box w (.int .i64 0) (.int .i64 0) (.int .i64 0) (.int .i64 0) (.string ⟨#[]⟩) (.int .i64 0) (.int .i64 0) (.int .u64 0) (.string ⟨#[]⟩) (.slice none 0 0) (.int .i64 0) (.int .u64 0) (.int .i64 0)).keep (b1.block _ (by omega))).keep (kb.2.2.2.2 _ (by omega) (by omega))
  have r2 : ∀ o, w2.frozen? ⟨w.heap.size, o, none⟩ = false := fun o => (kb.frozen (a := ⟨w.heap.size, o, none⟩) (show w.heap.size < _ by omega) (show w.heap.size ≠ g by omega)).trans ((b1.frozen (p := ⟨w.heap.size, o, none⟩) (show w.heap.size < _ by omega)).trans (freshP w _ _ o))
  have bl : Below w.heap.size w w2 := (bel2 (bel1 w _) b1).trans (kb.below (by omega) (by omega))
  exact ⟨by omega, by simp, r1.below b, fun o => (b.frozen (p := ⟨w.heap.size, o, none⟩) (show w.heap.size < w2.heap.size by omega)).trans (r2 o), At13.box w2 c0 c1 c2 c3 c4 c5 c6 c7 c8 c9 c10 c11 c12, s.keep2 (b.block g (by omega)) (b.block h (by omega)), bl.trans (b.mono (by omega))⟩
/-- What Decode answers. -/
def DcP (w : World) (R : Ev × List UInt8 × Int) (x : Ending) (w' : World) : Prop :=
  (MayE 5 R.1 ∧ R.2.2 = 0 ∧ R.2.1 = [] → ∃ vk vx vb vs la ll lc, x = .returned (.tuple #[.agg #[.int .i64 R.1.k, .int .i64 R.1.t, .int .i64 R.1.n, .int .i64 R.1.d, .string R.1.s, .int .i64 vk, .int .i64 vx, .int .u64 vb, .string vs, .slice la ll lc, .int .i64 R.1.f, .int .u64 (R.1.c : Int), .int .i64 R.1.m], .int .i64 0]) ∧ IsN w.heap.size w' 5 (.agg #[.int .i64 vk, .int .i64 vx, .int .u64 vb, .string vs, .slice la ll lc]) R.1.v ∧ Below w.heap.size w w') ∧
  (¬ (MayE 5 R.1 ∧ R.2.2 = 0 ∧ R.2.1 = []) → ∃ code : Int, code ≠ 0 ∧ x = .returned (.tuple #[.agg #[.int .i64 0, .int .i64 0, .int .i64 0, .int .i64 0, .string ⟨#[]⟩, .int .i64 0, .int .i64 0, .int .u64 0, .string ⟨#[]⟩, .slice none 0 0, .int .i64 0, .int .u64 0, .int .i64 0], .int .i64 code]) ∧ Below w.heap.size w w')
theorem en_zero (l : List UInt8) (e : Int) : en l e = 0 ↔ e = 0 ∧ l = [] := by
  unfold en
  by_cases h : e = 0
  · subst h
    cases l <;> simp
  · simp [h]
theorem er_shape {w : World} {g h : Nat} {R : Ev × List UInt8 × Int} {x : Ending} {w' : World} (hR : ReP w g h R x w') : ∃ Y : Ev × List UInt8 × Int, ErP w g h Y x w' ∧ (MayE 5 R.1 ∧ R.2.2 = 0 → Y = R) ∧ (¬ (MayE 5 R.1 ∧ R.2.2 = 0) → Y.2.2 ≠ 0) := by
  by_cases hm : MayE 5 R.1 ∧ R.2.2 = 0
  · exact ⟨R, hR.1 hm, fun _ => rfl, fun hh => absurd hm hh⟩
  · obtain ⟨l', e', h1, h2⟩ := hR.2 hm
    exact ⟨_, h2, fun hh => absurd hh hm, fun _ => h1⟩
set_option maxHeartbeats 4000000 in
set_option maxRecDepth 100000 in
theorem decode_calls (b : Value) (l : List UInt8) (w : World) (hv : Lib.HoldsBytes w b l) (hl : l.length ≤ 281474976710656) :
    Calls Try.prog 13 #[b] w (DcP w (rpE l 0)) := by
  obtain ⟨bp, bc, rfl, hb1, hb2⟩ := hv
  have OC : Hid (Calls Try.prog 22 #[.slice bp l.length bc] (w.alloc (.cells #[.int .i64 0, .int .i64 0, .int .i64 0, .int .i64 0, .string ⟨#[]⟩, .int .i64 0, .int .i64 0, .int .u64 0, .string ⟨#[]⟩, .slice none 0 0, .int .i64 0, .int .u64 0, .int .i64 0] 39)) _) := open_calls (.slice bp l.length bc) l (w.alloc (.cells #[.int .i64 0, .int .i64 0, .int .i64 0, .int .i64 0, .string ⟨#[]⟩, .int .i64 0, .int .i64 0, .int .u64 0, .string ⟨#[]⟩, .slice none 0 0, .int .i64 0, .int .u64 0, .int .i64 0] 39)) (holds_below ⟨bp, bc, rfl, hb1, hb2⟩ (bel1 w _)) hl
  have HL : Hid (l.length ≤ 281474976710656) := hl
  have HR : Hid (∀ (R : Ev × List UInt8 × Int), R = rpE l 0 → DcP w R = DcP w (rpE l 0)) := fun R h => by rw [h]
  generalize hRR : rpE l 0 = R at HR ⊢
  have HRR : Hid (rpE l 0 = R) := hRR
  have HG1 : Hid (∀ x w' Y, (MayE 5 R.1 ∧ R.2.2 = 0 → Y = R) → (¬ (MayE 5 R.1 ∧ R.2.2 = 0) → Y.2.2 ≠ 0) → en Y.2.1 Y.2.2 = 0 → (∃ vk vx vb vs la ll lc, x = .returned (.tuple #[.agg #[.int .i64 Y.1.k, .int .i64 Y.1.t, .int .i64 Y.1.n, .int .i64 Y.1.d, .string Y.1.s, .int .i64 vk, .int .i64 vx, .int .u64 vb, .string vs, .slice la ll lc, .int .i64 Y.1.f, .int .u64 (Y.1.c : Int), .int .i64 Y.1.m], .int .i64 0]) ∧ IsN w.heap.size w' 5 (.agg #[.int .i64 vk, .int .i64 vx, .int .u64 vb, .string vs, .slice la ll lc]) Y.1.v ∧ Below w.heap.size w w') → DcP w R x w') := fun x w' Y h1 h2 h3 h4 => by
    have hz := (en_zero _ _).1 h3
    by_cases hm : MayE 5 R.1 ∧ R.2.2 = 0
    · have e := h1 hm
      subst e
      exact ⟨fun _ => h4, fun hh => absurd ⟨hm.1, hm.2, hz.2⟩ hh⟩
    · exact absurd hz.1 (h2 hm)
  have HG2 : Hid (∀ x w' (Y : Ev × List UInt8 × Int), (MayE 5 R.1 ∧ R.2.2 = 0 → Y = R) → en Y.2.1 Y.2.2 ≠ 0 → x = .returned (.tuple #[.agg #[.int .i64 0, .int .i64 0, .int .i64 0, .int .i64 0, .string ⟨#[]⟩, .int .i64 0, .int .i64 0, .int .u64 0, .string ⟨#[]⟩, .slice none 0 0, .int .i64 0, .int .u64 0, .int .i64 0], .int .i64 (en Y.2.1 Y.2.2)]) → Below w.heap.size w w' → DcP w R x w') := fun x w' Y h1 h3 h4 h5 => by
    refine ⟨fun hh => ?_, fun _ => ⟨_, h3, h4, h5⟩⟩
    have e := h1 ⟨hh.1, hh.2.1⟩
    subst e
    exact absurd ((en_zero _ _).2 ⟨hh.2.1, hh.2.2⟩) h3
  generalize DcP w R = Q at HG1 HG2 ⊢
  clear hb1 hb2 hl hRR HR
  go_enter Try.func13, Try.ntmps13
  go_wp2_with fail
  refine OC.out.mono ?_
  rintro x w1 ⟨g, h, rfl, q1, q2, q3, s1, b1⟩
  have hz : (w.alloc (.cells #[.int .i64 0, .int .i64 0, .int .i64 0, .int .i64 0, .string ⟨#[]⟩, .int .i64 0, .int .i64 0, .int .u64 0, .string ⟨#[]⟩, .slice none 0 0, .int .i64 0, .int .u64 0, .int .i64 0] 39)).heap.size = w.heap.size + 1 := by simp
  have HGG : Hid (w.heap.size < g ∧ g < w1.heap.size ∧ h < w1.heap.size) := ⟨by omega, q3, by omega⟩
  have HB1 : Hid (Below (w.alloc (.cells #[.int .i64 0, .int .i64 0, .int .i64 0, .int .i64 0, .string ⟨#[]⟩, .int .i64 0, .int .i64 0, .int .u64 0, .string ⟨#[]⟩, .slice none 0 0, .int .i64 0, .int .u64 0, .int .i64 0] 39)).heap.size (w.alloc (.cells #[.int .i64 0, .int .i64 0, .int .i64 0, .int .i64 0, .string ⟨#[]⟩, .int .i64 0, .int .i64 0, .int .u64 0, .string ⟨#[]⟩, .slice none 0 0, .int .i64 0, .int .u64 0, .int .i64 0] 39)) w1) := b1
  have RC : Hid (Calls Try.prog 23 #[.pointer (some ⟨g, 0, none⟩)] w1 (ReP w1 g h R)) := by
    have := evread_calls w1 g h l 0 s1 (by omega) HL.out
    rwa [HRR.out] at this
  clear q1 q2 q3 s1 b1 hz
  go_wp2_with fail
  refine RC.out.mono ?_
  intro x w2 hre
  obtain ⟨⟨⟨k, t, n, d, s, tv, f, c, m⟩, l2, e2⟩, ⟨vk, vx, vb, vs, la, ll, lc, rfl, hi, s2, k2⟩, y1, y2⟩ := er_shape hre
  dsimp only at hi s2
  have HY : Hid ((MayE 5 R.1 ∧ R.2.2 = 0 → (⟨k, t, n, d, s, tv, f, c, m⟩, l2, e2) = R) ∧ (¬ (MayE 5 R.1 ∧ R.2.2 = 0) → e2 ≠ 0)) := ⟨y1, y2⟩
  have M1 : Hid (Pm w (w2.alloc (.cells #[.int .i64 k, .int .i64 t, .int .i64 n, .int .i64 d, .string s, .int .i64 vk, .int .i64 vx, .int .u64 vb, .string vs, .slice la ll lc, .int .i64 f, .int .u64 (c : Int), .int .i64 m] 39)) g h w2.heap.size l2 e2 (.int .i64 k) (.int .i64 t) (.int .i64 n) (.int .i64 d) (.string s) (.int .i64 vk) (.int .i64 vx) (.int .u64 vb) (.string vs) (.slice la ll lc) (.int .i64 f) (.int .u64 (c : Int)) (.int .i64 m)) := Pm.box HGG.out.1 HGG.out.2.1 HGG.out.2.2 HB1.out s2 k2
  have I1 : Hid (IsN (w.heap.size + 1) (w2.alloc (.cells #[.int .i64 k, .int .i64 t, .int .i64 n, .int .i64 d, .string s, .int .i64 vk, .int .i64 vx, .int .u64 vb, .string vs, .slice la ll lc, .int .i64 f, .int .u64 (c : Int), .int .i64 m] 39)) 5 (.agg #[.int .i64 vk, .int .i64 vx, .int .u64 vb, .string vs, .slice la ll lc]) tv) := by
    have hz : (w.alloc (.cells #[.int .i64 0, .int .i64 0, .int .i64 0, .int .i64 0, .string ⟨#[]⟩, .int .i64 0, .int .i64 0, .int .u64 0, .string ⟨#[]⟩, .slice none 0 0, .int .i64 0, .int .u64 0, .int .i64 0] 39)).heap.size = w.heap.size + 1 := by simp
    have := HB1.out.size
    exact IsN.kb (KB.of_below (g := 0) (bel1 w2 _)) (by omega) (hi.lower (by omega))
  obtain ⟨W3, hW3⟩ : ∃ W3, W3 = w2.alloc (.cells #[.int .i64 k, .int .i64 t, .int .i64 n, .int .i64 d, .string s, .int .i64 vk, .int .i64 vx, .int .u64 vb, .string vs, .slice la ll lc, .int .i64 f, .int .u64 (c : Int), .int .i64 m] 39) := ⟨_, rfl⟩
  obtain ⟨q, hq⟩ : ∃ q, q = w2.heap.size := ⟨_, rfl⟩
  rw [← hW3] at M1 I1
  rw [← hq] at M1
  have HW3 : Hid (W3 = _) := hW3
  have HQ : Hid (q = w2.heap.size) := hq
  clear hi s2 k2 hW3 hq y1 y2 hre
  go_upto_region 3 with fail
  rw [← HW3.out, ← HQ.out]
  have EC : Hid (Calls Try.prog 24 #[.pointer (some ⟨g, 0, none⟩)] W3 _) := end_st W3 g h l2 e2 M1.out.st
  obtain ⟨E, hE⟩ : ∃ E, E = en l2 e2 := ⟨_, rfl⟩
  rw [← hE] at EC
  have HE : Hid (E = en l2 e2) := hE
  clear hE
  go_wp2_with fail
  refine EC.out.mono ?_
  rintro x w5 ⟨rfl, hw5⟩
  have hw5' := hw5.symm
  subst hw5'
  clear hw5
  obtain ⟨a0, a1, a2, a3, a4, a5, a6, a7, a8, a9, a10, a11, a12⟩ := M1.out.own
  obtain ⟨b0, b1, b2, b3, b4, b5, b6, b7, b8, b9, b10, b11, b12⟩ := M1.out.res
  have f0 := M1.out.rfr 0
  have f1 := M1.out.rfr 1
  have f2 := M1.out.rfr 2
  have f3 := M1.out.rfr 3
  have f4 := M1.out.rfr 4
  have f5 := M1.out.rfr 5
  have f6 := M1.out.rfr 6
  have f7 := M1.out.rfr 7
  have f8 := M1.out.rfr 8
  have f9 := M1.out.rfr 9
  have f10 := M1.out.rfr 10
  have f11 := M1.out.rfr 11
  have f12 := M1.out.rfr 12
  by_cases h0 : E = 0
  · have HE0 : Hid (en l2 e2 = 0) := by show _ = _; rw [← HE.out]; exact h0
    have dE : (E != 0) = false := by simpa using h0
    clear h0
    go_wp2_with fail
    refine bodyPost_ret (ret12 _ (g := w.heap.size) rfl rfl (set13_at M1.out.res (.int .i64 k) (.int .i64 t) (.int .i64 n) (.int .i64 d) (.string s) (.int .i64 vk) (.int .i64 vx) (.int .u64 vb) (.string vs) (.slice la ll lc) (.int .i64 f) (.int .u64 (c : Int)) (.int .i64 m))) rfl ?_
    have kb := set13_kb W3 w.heap.size (.int .i64 k) (.int .i64 t) (.int .i64 n) (.int .i64 d) (.string s) (.int .i64 vk) (.int .i64 vx) (.int .u64 vb) (.string vs) (.slice la ll lc) (.int .i64 f) (.int .u64 (c : Int)) (.int .i64 m)
    have c0 := M1.out.q0
    have c1 := M1.out.q1
    exact HG1.out _ _ (⟨k, t, n, d, s, tv, f, c, m⟩, l2, e2) HY.out.1 HY.out.2 HE0.out ⟨vk, vx, vb, vs, la, ll, lc, rfl, (IsN.kb kb (by omega) I1.out).lower (by omega), M1.out.bel.trans (kb.below (Nat.le_refl _) (by omega))⟩
  · have HE0 : Hid (en l2 e2 ≠ 0) := by show _ ≠ _; rw [← HE.out]; exact h0
    have dE : (E != 0) = true := by simpa using h0
    clear h0
    go_wp2_with fail
    refine bodyPost_ret (ret12 _ (g := w.heap.size) rfl rfl (set13_at M1.out.res (.int .i64 0) (.int .i64 0) (.int .i64 0) (.int .i64 0) (.string ⟨#[]⟩) (.int .i64 0) (.int .i64 0) (.int .u64 0) (.string ⟨#[]⟩) (.slice none 0 0) (.int .i64 0) (.int .u64 0) (.int .i64 0))) rfl ?_
    have kb := set13_kb W3 w.heap.size (.int .i64 0) (.int .i64 0) (.int .i64 0) (.int .i64 0) (.string ⟨#[]⟩) (.int .i64 0) (.int .i64 0) (.int .u64 0) (.string ⟨#[]⟩) (.slice none 0 0) (.int .i64 0) (.int .u64 0) (.int .i64 0)
    have c0 := M1.out.q0
    have c1 := M1.out.q1
    exact HG2.out _ _ (⟨k, t, n, d, s, tv, f, c, m⟩, l2, e2) HY.out.1 HE0.out (by rw [← HE.out]; rfl) (M1.out.bel.trans (kb.below (Nat.le_refl _) (by omega)))
end Go.Proofs.Ytacmlholbnddpaa
