/- Bytes in memory of the call's own; a number's four bytes and the number of four bytes; Size; bytes.Equal. -/
import Derived.Test.YthakbkkopneilaaDoorD
import Derived.Shelf.Bytes.SlEqualAll
import Derived.Lib.AppendZeros
import Derived.Laws.OwnMore
import Derived.BigQuiet
namespace Go.Proofs.YthakbkkopneilaaDoor
open Go.ChangeShapes Go.WideShapes Go.ChangeAt Go.RowKit
theorem info5 : (Tryd.prog.info? 5).map (fun i => (i.zero, i.size, i.bytes)) = some (some (.int .u8 0), 1, 1) := by kernel_rfl
theorem size5 : (Tryd.prog.info? 5).map (·.size) = some 1 := by kernel_rfl
theorem add_plain (b o i : Nat) : (⟨b, o, none⟩ : Addr).add i = ⟨b, o + i, none⟩ := by unfold Addr.add; split <;> simp_all
theorem below_step {a b c : World} (h : Below a.heap.size a b) (k : Below b.heap.size b c) : Below a.heap.size a c := h.trans (k.mono h.size)
theorem below_alloc (w : World) (o : Obj) : Below w.heap.size w (w.alloc o) := (Below.refl _ _).alloc (Nat.le_refl _) o
theorem holds_below {w w' : World} {v : Value} {l : List UInt8} (h : Lib.HoldsBytes w v l) (hb : Below w.heap.size w w') : Lib.HoldsBytes w' v l := by
  obtain ⟨p, cap, rfl, h1, h2⟩ := h
  exact ⟨p, cap, rfl, h1, fun a ha i x hx => Lib.Below.cellOf hb (h2 a ha i x hx) (Nat.le_refl _)⟩
theorem holds_nil (w : World) : Lib.HoldsBytes w (.slice none 0 0) [] := ⟨none, 0, rfl, fun _ => rfl, fun a ha => by cases ha⟩
def zeros (k : Nat) : List Value := List.replicate k (.int .u8 0)
theorem made_zeros (k : Nat) : madeCells (Value.int .u8 0).cells k = (zeros k).toArray := by
  apply Array.ext
  · simp [madeCells, zeros]
  · intro i h1 h2
    simp [madeCells, zeros, Value.cells, Nat.mod_one]
theorem make_bytes (k : Nat) (h : k ≤ 281474976710656) (w : World) : (Instr.makeSlice 22 (.int .i64 (k : Int)) (.int .i64 (k : Int))).run Tryd.prog w = .ok (.slice (some ⟨w.heap.size, 0, none⟩) k k) (w.alloc (.cells (zeros k).toArray 5)) := by
  obtain ⟨i0, hi, hz0, hz1, hz2⟩ := info_parts info5
  rw [run_make (P := Tryd.prog) w 22 5 i0 (.int .u8 0) Tryd.underlying22 hi hz0 .i64 .i64 k k (by omega) (by omega) (by rw [hz2]; omega) (by omega)]
  rw [Int.toNat_natCast, hz1, Nat.mul_one, made_zeros]
def bval (l : List UInt8) : List Value := l.map fun b => .int .u8 (b.toNat : Int)
theorem bval_length (l : List UInt8) : (bval l).length = l.length := by simp [bval]
theorem bval_append (l m : List UInt8) : bval (l ++ m) = bval l ++ bval m := by simp [bval]
theorem bval_zeros (k : Nat) : bval (List.replicate k 0) = zeros k := by simp [bval, zeros]
theorem bval_one (l : List UInt8) : ∀ u ∈ bval l, u.oneCell' = true := by intro u hu; obtain ⟨x, _, rfl⟩ := List.mem_map.1 hu; rfl
theorem bval_at {l : List UInt8} {j : Nat} {u : Value} (h : (bval l)[j]? = some u) : ∃ x, l[j]? = some x ∧ u = .int .u8 (x.toNat : Int) := by
  unfold bval at h
  rw [List.getElem?_map] at h
  obtain ⟨x, hx, rfl⟩ := Option.map_eq_some_iff.1 h
  exact ⟨x, hx, rfl⟩
theorem holds_bval (w : World) (l : List UInt8) : Lib.HoldsBytes (w.alloc (.cells (bval l).toArray 5)) (.slice (some ⟨w.heap.size, 0, none⟩) l.length l.length) l := by
  refine ⟨_, _, rfl, (fun h => by cases h), ?_⟩
  intro a ha i x hx
  cases ha
  rw [add_plain, Nat.zero_add]
  simp [bval, hx]
/-- The bytes l lie in memory from block B on, which the holder may append to. -/
def Own (B : Nat) (w : World) (v : Value) (l : List UInt8) : Prop := w.ownsRow B 5 1 v l.length (bval l)
theorem Own.holds {B : Nat} {w : World} {v : Value} {l : List UInt8} (h : Own B w v l) : Lib.HoldsBytes w v l := by
  obtain ⟨_, ⟨rfl, h2⟩ | ⟨g, cap, cur, rfl, _, hg, _, _, hc, ht⟩⟩ := h
  · obtain rfl : l = [] := List.eq_nil_of_length_eq_zero h2
    exact holds_nil w
  · refine ⟨_, _, rfl, (fun h => by cases h), ?_⟩
    intro a ha i x hx
    cases ha
    rw [add_plain, Nat.zero_add, cell_of_row w g i cur 5 (0, 0) hg]
    have hi : i < l.length := (List.getElem?_eq_some_iff.1 hx).1
    have e : (cur.toList.take (l.length * 1))[i]? = (bval l)[i]? := by rw [ht]
    rw [List.getElem?_take_of_lt (by omega)] at e
    rw [← Array.getElem?_toList, e, bval, List.getElem?_map, hx]
    rfl
theorem Own.below {B : Nat} {w w' : World} {v : Value} {l : List UInt8} (h : Own B w v l) (hb : Below w.heap.size w w') : Own B w' v l := by
  obtain ⟨h1, h2 | ⟨g, cap, cur, rfl, hB, hg, r⟩⟩ := h
  · exact ⟨h1, .inl h2⟩
  · have hlt : g < w.heap.size := by
      rcases Nat.lt_or_ge g w.heap.size with h | h
      · exact h
      · rw [Array.getElem?_eq_none h] at hg; cases hg
    exact ⟨h1, .inr ⟨g, cap, cur, rfl, hB, by rw [hb.block _ hlt]; exact hg, r⟩⟩
theorem Own.nil (B : Nat) (w : World) : Own B w (.slice none 0 0) [] := World.ownsRow_nil _ _ _ _
/-- append, at any bytes, to bytes of the call's own. -/
theorem app_run {B : Nat} {w : World} {v x : Value} {l m : List UInt8} (ho : Own B w v l) (hx : Lib.HoldsBytes w x m) (hB : B ≤ w.heap.size) (hl : l.length + m.length ≤ 140737488355328) :
    ∃ v' w', (∀ ty, (Builtin.append_ #[22, 22] ty #[v, x]).run Tryd.prog w = .ok v' w') ∧ Own B w' v' (l ++ m) ∧ Below B w w' := by
  obtain ⟨i0, hi, hz0, hz1, hz2⟩ := info_parts info5
  obtain ⟨p, cap, rfl, h1, h2⟩ := hx
  cases p with
  | none =>
    have hn : m = [] := h1 rfl
    subst hn
    refine ⟨v, w, fun ty => ?_, by simpa using ho, Below.refl _ _⟩
    obtain ⟨_, ⟨rfl, h2⟩ | ⟨g, cap', cur, rfl, _, hg, hle, hml, hc, ht⟩⟩ := ho
    · simp [Builtin.append_, run_underlying Tryd.underlying22, sizeOf, typeInfo, hi, Builtin.lenOf, Builtin.firstCells]
    · simp [Builtin.append_, run_underlying Tryd.underlying22, sizeOf, typeInfo, hi, Builtin.lenOf, Builtin.firstCells, loadCells, hle, storeCells]
  | some a =>
    have key : ∀ ty, ∃ v' w', (Builtin.append_ #[22, 22] ty #[v, .slice (some a) m.length cap]).run Tryd.prog w = .ok v' w' ∧ w'.ownsRow B 5 1 v' (l.length + m.length) (bval l ++ bval m) ∧ w.grownBy w' v.ownBlock ∧ _ := fun ty =>
      run_append_own (P := Tryd.prog) (w := w) B 22 ty 5 i0 (.int .u8 0) 1 1 Tryd.underlying22 hi hz0 hz1 hz2 rfl (by decide) v l.length (bval l) ho a m.length cap (bval m) (by simp [bval])
        (fun j u hj => by obtain ⟨x, hx, rfl⟩ := bval_at hj; exact h2 a rfl j x hx) (bval_one m) (by unfold maxLen; omega) (by omega) hB
    obtain ⟨v', w', hr, hown, hgrow, _⟩ := key 22
    refine ⟨v', w', fun ty => hr, ?_, ?_⟩
    · show w'.ownsRow B 5 1 v' (l ++ m).length (bval (l ++ m))
      rw [List.length_append, bval_append]
      exact hown
    · exact (Below.refl _ w).grown hgrow hB (fun k hk => (World.ownsRow.lt ho k hk).1)
end Go.Proofs.YthakbkkopneilaaDoor
