/- The contracts of slices.Grow at nil and of slices.Concat: the bytes of all parts, one behind the other, in new memory. Condition: together at most 2^48 bytes. -/
import Derived.Test.YtddigndamimmpaaDoorPE
import Derived.Laws.CopyOwn
import Derived.Deep.WholeRow
import Derived.Lib.AppendZerosOnto
import Derived.Lib.SlParts
import Derived.Lib.Join
namespace Go.Proofs.YtddigndamimmpaaDoor
open Go.ChangeShapes Go.WideShapes Go.ChangeAt Go.RowKit
theorem info5 : (Tryd.prog.info? 5).map (fun i => (i.zero, i.size, i.bytes)) = some (some (.int .u8 0), 1, 1) := by kernel_rfl
theorem bval_append (l m : List UInt8) : bval (l ++ m) = bval l ++ bval m := by simp [bval]
theorem row_last (w : World) (o : Obj) : (w.alloc o).heap[w.heap.size]? = some o := heap_alloc_last w o
/-- The bytes so far, in memory of the call's own from block n on, with room for N in all. -/
def Ap (n N : Nat) (w : World) (v : Value) (acc : List UInt8) : Prop :=
  (v = .slice none 0 0 ∧ N = 0 ∧ acc = []) ∨
  ∃ g C cur, v = .slice (some ⟨g, 0, none⟩) acc.length C ∧ n ≤ g ∧ w.heap[g]? = some (.cells cur 5 (0, 0)) ∧ N ≤ C ∧ C ≤ maxLen ∧ cur.size = C ∧ cur.toList.take acc.length = bval acc
theorem Ap.holds {n N : Nat} {w : World} {v : Value} {acc : List UInt8} (h : Ap n N w v acc) : Lib.HoldsBytes w v acc := by
  rcases h with ⟨rfl, _, rfl⟩ | ⟨g, C, cur, rfl, _, hg, _, _, _, ht⟩
  · exact holds_nil w
  · refine ⟨_, _, rfl, (fun h => by cases h), ?_⟩
    intro a ha i x hx
    cases ha
    rw [add_plain, Nat.zero_add, cell_of_row w g i cur 5 (0, 0) hg]
    have hi : i < acc.length := (List.getElem?_eq_some_iff.1 hx).1
    have e : (cur.toList.take acc.length)[i]? = (bval acc)[i]? := by rw [ht]
    rw [List.getElem?_take_of_lt hi] at e
    rw [← Array.getElem?_toList, e, bval, List.getElem?_map, hx]
    rfl
theorem ap_step {n N : Nat} {w : World} {v x : Value} {acc l : List UInt8} (h : Ap n N w v acc) (hx : Lib.HoldsBytes w x l) (hN : acc.length + l.length ≤ N) :
    ∃ v' w', (∀ ty, (Builtin.append_ #[61, 61] ty #[v, x]).run Tryd.prog w = .ok v' w') ∧ Ap n N w' v' (acc ++ l) ∧ Below n w w' := by
  obtain ⟨i0, hi, hz0, hz1, hz2⟩ := info_parts info5
  obtain ⟨p, cap, rfl, h1, h2⟩ := hx
  rcases h with ⟨rfl, rfl, rfl⟩ | ⟨g, C, cur, rfl, hg0, hg, hNC, hC, hs, ht⟩
  · have hl : l = [] := List.eq_nil_of_length_eq_zero (by simpa using hN)
    subst hl
    refine ⟨.slice none 0 0, w, fun ty => ?_, .inl ⟨rfl, rfl, rfl⟩, Below.refl _ _⟩
    cases p <;> simp [Builtin.append_, run_underlying Tryd.underlying61, sizeOf, typeInfo, hi, Builtin.lenOf, Builtin.firstCells, loadCells, loadCellsFrom]
  · cases p with
    | none =>
      have hl : l = [] := h1 rfl
      subst hl
      refine ⟨.slice (some ⟨g, 0, none⟩) acc.length C, w, fun ty => ?_, .inr ⟨g, C, cur, by simp, hg0, hg, hNC, hC, hs, by simpa using ht⟩, Below.refl _ _⟩
      simp only [List.length_nil, Nat.add_zero] at hN
      have hle : acc.length ≤ C := Nat.le_trans hN hNC
      simp [Builtin.append_, run_underlying Tryd.underlying61, sizeOf, typeInfo, hi, Builtin.lenOf, Builtin.firstCells, hle, storeCells]
    | some a =>
      have hr := fun ty => run_append_room (P := Tryd.prog) w 61 ty 5 i0 Tryd.underlying61 hi g acc.length C cur hg a l.length cap (bval l) (by rw [bval_length, hz1, Nat.mul_one])
        (fun j u hu => by
          rw [bval, List.getElem?_map] at hu
          obtain ⟨y, hy, rfl⟩ := Option.map_eq_some_iff.1 hu
          exact h2 a rfl j y hy)
        (fun u hu => by obtain ⟨y, _, rfl⟩ := List.mem_map.1 hu; rfl) (Nat.le_trans hN hNC) (by rw [hz1, Nat.mul_one, bval_length, hs]; exact Nat.le_trans hN hNC)
      rw [hz1, Nat.mul_one] at hr
      refine ⟨_, _, hr, .inr ⟨g, C, _, by rw [List.length_append], hg0, setRow_heap w g cur _ 5 _ hg, hNC, hC, ?_, ?_⟩, below_setRow (Below.refl _ _) hg0 _⟩
      · simp only [List.size_toArray, List.length_append, List.length_take, List.length_drop, Array.length_toList, bval_length]
        omega
      · rw [ht, bval_append, List.length_append, ← bval_length acc, ← bval_length l, ← List.length_append]
        exact List.take_left
end Go.Proofs.YtddigndamimmpaaDoor
