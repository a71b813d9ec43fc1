/- The contracts of cloneAll and Clone: the same value, whose lists lie in new memory. Condition: no list has more than 500 values. -/
import Derived.Test.YtjmonkhkcmcfiaaVF
namespace Go.Proofs.Ytjmonkhkcmcfiaa
open Go.ChangeShapes Go.WideShapes Go.ChangeAt Go.RowKit
theorem IsN.shape {lo : Nat} {w : World} : ∀ {n : Nat} {v : Value} {t : Tv}, IsN lo w n v t → ∃ k x b s a m c, v = .agg #[.int .i64 k, .int .i64 x, .int .u64 b, .string s, .slice a m c]
  | 0, _, _, h => h.elim
  | _ + 1, _, .mk k x b s l, ⟨a, c, hv, _, _⟩ => ⟨k, x, b, s, a, l.length, c, hv⟩
/-- The zero value. -/
def zV : Value := .agg #[.int .i64 0, .int .i64 0, .int .u64 0, .string ⟨#[]⟩, .slice none 0 0]
theorem make_vals (k : Nat) (h : k ≤ 500) (w : World) : (Instr.makeSlice 23 (.int .i64 (k : Int)) (.int .i64 (k : Int))).run Try.prog w = .ok (.slice (some ⟨w.heap.size, 0, none⟩) k k) (w.alloc (.cells (madeCells zV.cells (k * 5)) 25)) := by
  obtain ⟨i0, hi, hz0, hz1, hz2⟩ := info_parts info25
  rw [run_make (P := Try.prog) w 23 25 i0 zV Try.underlying23 hi hz0 .i64 .i64 k k (by omega) (by omega) (by rw [hz2]; omega) (by omega)]
  rw [Int.toNat_natCast, hz1]
theorem made_at (w : World) (k i : Nat) (h : i < k) : At5 (w.alloc (.cells (madeCells zV.cells (k * 5)) 25)) w.heap.size (i * 5) (.int .i64 0) (.int .i64 0) (.int .u64 0) (.string ⟨#[]⟩) (.slice none 0 0) := by
  have f : ∀ r, r < 5 → (w.alloc (.cells (madeCells zV.cells (k * 5)) 25)).cell? ⟨w.heap.size, i * 5 + r, none⟩ = zV.cells[r]? := by
    intro r hr
    rw [cell_of_row _ w.heap.size (i * 5 + r) _ 25 (0, 0) (heap_alloc_last w _)]
    have hz : zV.cells.size = 5 := rfl
    have hm : (i * 5 + r) % 5 = r := by omega
    simp only [madeCells]
    rw [Array.getElem?_map, Array.getElem?_range, if_pos (by omega)]
    simp only [Option.map_some, hz, hm]
    rw [getElem!_pos _ _ (by omega)]
    exact (Array.getElem?_eq_getElem (by omega)).symm
  exact ⟨f 0 (by omega), f 1 (by omega), f 2 (by omega), f 3 (by omega), f 4 (by omega)⟩
theorem fresh (w : World) (M : Array Value) (o : Nat) : (w.alloc (.cells M 25)).frozen? ⟨w.heap.size, o, none⟩ = false := by
  unfold World.frozen?
  rw [heap_alloc_last]
  simp
theorem box_at' (w : World) (g : Nat) (hg : w.heap.size = g) (c0 c1 c2 c3 c4 : Value) : At5 (w.alloc (.cells #[c0, c1, c2, c3, c4] 25)) g 0 c0 c1 c2 c3 c4 := by
  subst hg
  have f : ∀ r, (w.alloc (.cells #[c0, c1, c2, c3, c4] 25)).cell? ⟨w.heap.size, r, none⟩ = #[c0, c1, c2, c3, c4][r]? := fun r => cell_of_row _ w.heap.size r _ 25 (0, 0) (heap_alloc_last w _)
  exact ⟨f 0, f 1, f 2, f 3, f 4⟩
theorem box_at (w : World) (c0 c1 c2 c3 c4 : Value) : At5 (w.alloc (.cells #[c0, c1, c2, c3, c4] 25)) w.heap.size 0 c0 c1 c2 c3 c4 := box_at' w _ rfl _ _ _ _ _
theorem fresh' (w : World) (g : Nat) (hg : w.heap.size = g) (M : Array Value) (o : Nat) : (w.alloc (.cells M 25)).frozen? ⟨g, o, none⟩ = false := by
  subst hg
  exact fresh w M o
theorem load5 {w : World} {g p : Nat} {c0 c1 c2 c3 c4 : Value} (h : At5 w g p c0 c1 c2 c3 c4) : (loadVar 25 ⟨g, p, none⟩).run Try.prog w = .ok (.agg #[c0, c1, c2, c3, c4]) w := by
  have hl : (loadCells ⟨g, p, none⟩ 5).run Try.prog w = .ok #[c0, c1, c2, c3, c4] w :=
    run_loadCells_list (P := Try.prog) w ⟨g, p, none⟩ [c0, c1, c2, c3, c4] (fun j v hv => by
      rw [add_plain]
      obtain ⟨h0, h1, h2, h3, h4⟩ := h
      match j, hv with
      | 0, hv => cases hv; exact h0
      | 1, hv => cases hv; exact h1
      | 2, hv => cases hv; exact h2
      | 3, hv => cases hv; exact h3
      | 4, hv => cases hv; exact h4)
  obtain ⟨i0, hi, _, hz1, _⟩ := info_parts info25
  have hagg : (isAgg 25).run Try.prog w = .ok true w := by
    unfold isAgg
    rw [Sem.run_bind, run_underlying Try.underlying25 w]
    rfl
  simp [loadVar, Sem.run_bind, hagg, sizeOf, typeInfo, hi, hz1, hl]
theorem ret5 {fn : Func} {p : Tmp} (h : fn.results = #[.cell p 25]) (tmps : Array Value) {w : World} {g : Nat} {c0 c1 c2 c3 c4 : Value} (hp : tmps.getD p undef = .pointer (some ⟨g, 0, none⟩)) (h5 : At5 w g 0 c0 c1 c2 c3 c4) :
    (results fn tmps).run Try.prog w = .ok (.agg #[c0, c1, c2, c3, c4]) w := by
  have hp' : tmps[p]?.getD undef = .pointer (some ⟨g, 0, none⟩) := by simpa using hp
  simp [results, h, hp', asAddr, load5 h5]
end Go.Proofs.Ytjmonkhkcmcfiaa
