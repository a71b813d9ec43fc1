/- Bytes in a row of the disk's own, to which bytes are appended, and which is cut. -/
import Derived.Test.YtfjcjaojbdcpeaaNC
import Derived.Lib.SlBuf
import Derived.Lib.Join
import Derived.Lib.SlParts
namespace Go.Proofs.Ytfjcjaojbdcpeaa
open Go.ChangeShapes Go.WideShapes Go.ChangeAt Go.RowKit Go.Maps
theorem info5 : (Try.prog.info? 5).map (fun i => (i.zero, i.size, i.bytes)) = some (some (.int .u8 0), 1, 1) := by kernel_rfl
def bval (l : List UInt8) : List Value := l.map fun b => .int .u8 (b.toNat : Int)
theorem bval_length (l : List UInt8) : (bval l).length = l.length := by simp [bval]
theorem bval_append (l m : List UInt8) : bval (l ++ m) = bval l ++ bval m := by simp [bval]
/-- The bytes l lie in memory from block B on, which the holder may append to. -/
def Own (B : Nat) (w : World) (v : Value) (l : List UInt8) : Prop := w.ownsRow B 5 1 v l.length (bval l)
theorem Own.shape {B : Nat} {w : World} {v : Value} {l : List UInt8} (h : Own B w v l) : ∃ a c, v = .slice a l.length c ∧ l.length ≤ c := by
  have h0 : w.ownsRow B 5 1 v l.length (bval l) := h
  obtain ⟨_, ⟨rfl, h2⟩ | ⟨g, cap, cur, rfl, _, _, hle, _⟩⟩ := h0
  · exact ⟨none, 0, by rw [h2], by omega⟩
  · exact ⟨_, _, rfl, hle⟩
theorem Own.nil (B : Nat) (w : World) : Own B w (.slice none 0 0) [] := World.ownsRow_nil _ _ _ _
theorem Own.keep {B : Nat} {w w' : World} {v : Value} {l : List UInt8} (h : Own B w v l) (hk : ∀ g, v.ownBlock = some g → w'.heap[g]? = w.heap[g]?) : Own B w' v l := by
  have h0 : w.ownsRow B 5 1 v l.length (bval l) := h
  show w'.ownsRow B 5 1 v l.length (bval l)
  obtain ⟨h1, h2 | ⟨g, cap, cur, rfl, hB, hg, r⟩⟩ := h0
  · exact ⟨h1, .inl h2⟩
  · exact ⟨h1, .inr ⟨g, cap, cur, rfl, hB, by rw [hk g rfl]; exact hg, r⟩⟩
theorem Own.holds {B : Nat} {w : World} {v : Value} {l : List UInt8} (h : Own B w v l) : Lib.HoldsBytes w v l := by
  have h0 : w.ownsRow B 5 1 v l.length (bval l) := h
  rcases h0.2 with ⟨rfl, hn⟩ | ⟨g, cap, cur, rfl, _⟩
  · have : l = [] := List.eq_nil_of_length_eq_zero hn
    subst this
    exact ⟨none, 0, rfl, fun _ => rfl, fun a ha => by cases ha⟩
  · refine ⟨_, _, rfl, (fun h => by cases h), fun a ha i x hx => ?_⟩
    cases ha
    have hi : i < l.length := (List.getElem?_eq_some_iff.1 hx).1
    have hc := h0.cellAt i (by omega)
    rw [add_plain, Nat.zero_add, hc]
    simp [bval, hx]
set_option maxHeartbeats 1000000 in
/-- append of bytes. -/
theorem Own.app {lo : Nat} {W : World} {u x : Value} {out l : List UInt8} (ho : Own lo W u out) (hx : Lib.HoldsBytes W x l) (hb : out.length + l.length ≤ 1099511627776) (hlo : lo ≤ W.heap.size) :
    ∃ u' w', (∀ ty, (Builtin.append_ #[31, 31] ty #[u, x]).run Try.prog W = .ok u' w') ∧ Own lo w' u' (out ++ l) ∧ W.grownBy w' u.ownBlock ∧ (u'.ownBlock = u.ownBlock ∨ u'.ownBlock = some W.heap.size) := by
  obtain ⟨i0, hi, hz0, hz1, hz2⟩ := info_parts info5
  have h0 : W.ownsRow lo 5 1 u out.length (bval out) := ho
  obtain ⟨p, c, rfl, q1, q2⟩ := hx
  by_cases hl : l = []
  · subst hl
    obtain ⟨a, cu, rfl, hle⟩ := ho.shape
    refine ⟨.slice a out.length cu, W, fun ty => ?_, by rw [List.append_nil]; exact ho, ⟨rfl, rfl, rfl, Nat.le_refl _, fun _ _ _ => rfl⟩, .inl rfl⟩
    cases p <;> cases a <;> simp [Builtin.append_, run_underlying Try.underlying31, sizeOf, typeInfo, hi, Builtin.lenOf, Builtin.firstCells, loadCells, loadCellsFrom, hle, storeCells]
  · have hpos : 0 < l.length := List.length_pos_iff.2 hl
    cases p with
    | none => exact absurd (q1 rfl) hl
    | some a =>
      have hnews : ∀ j z, (bval l)[j]? = some z → W.cell? (a.add j) = some z := fun j z hj => by
        rw [bval, List.getElem?_map] at hj
        obtain ⟨y, hy, rfl⟩ := Option.map_eq_some_iff.1 hj
        exact q2 a rfl j y hy
      have hone : ∀ z ∈ bval l, z.oneCell' = true := fun z hz => by obtain ⟨y, _, rfl⟩ := List.mem_map.1 hz; rfl
      have key : ∀ ty, ∃ v' w', (Builtin.append_ #[31, 31] ty #[u, .slice (some a) l.length c]).run Try.prog W = .ok v' w' ∧ w'.ownsRow lo 5 1 v' (out.length + l.length) (bval out ++ bval l) ∧ W.grownBy w' u.ownBlock ∧ _ := fun ty =>
        run_append_own (P := Try.prog) (w := W) lo 31 ty 5 i0 (.int .u8 0) 1 1 Try.underlying31 hi hz0 hz1 hz2 rfl (by decide) u out.length (bval out) h0 a l.length c (bval l) (by simp [bval]) hnews hone (by unfold maxLen; omega) (by omega) hlo
      obtain ⟨u', w', hr, hown', hgrow, _⟩ := key 31
      have hblk : u'.ownBlock = u.ownBlock ∨ u'.ownBlock = some W.heap.size := by
        obtain ⟨hcl, ⟨rfl, hn0⟩ | ⟨g, cap, cur, rfl, _, hg, hle, _, hcs, _⟩⟩ := h0
        · have h2 := run_append_nil (P := Try.prog) W 31 31 5 i0 _ Try.underlying31 hi hz0 a l.length c (bval l) (by rw [hz1, bval_length, Nat.mul_one]) hnews hpos (by omega) (by rw [hz2]; omega)
          have e := hr.symm.trans h2
          cases e
          exact .inr rfl
        · by_cases hroom : out.length + l.length ≤ cap
          · have h2 := run_append_room (P := Try.prog) W 31 31 5 i0 Try.underlying31 hi g out.length cap cur hg a l.length c (bval l) (by rw [hz1, bval_length, Nat.mul_one]) hnews hone hroom (by rw [hz1, hcs, bval_length]; omega)
            have e := hr.symm.trans h2
            cases e
            exact .inl rfl
          · have holds : ∀ j z, (bval out)[j]? = some z → W.cell? ((⟨g, 0, none⟩ : Addr).add j) = some z := World.ownsRow.cells (g := g) ho rfl
            have h2 := run_append_grow (P := Try.prog) W 31 31 5 i0 _ Try.underlying31 hi hz0 ⟨g, 0, none⟩ out.length cap (bval out) (by rw [hz1, bval_length, Nat.mul_one]) holds a l.length c (bval l) (by rw [hz1, bval_length, Nat.mul_one]) hnews (by omega) (by omega) (growslice_fits (by omega) (by rw [hz2]; omega))
            have e := hr.symm.trans h2
            cases e
            exact .inr rfl
      refine ⟨u', w', fun ty => hr, ?_, hgrow, hblk⟩
      show w'.ownsRow lo 5 1 u' _ _
      rw [bval_append, List.length_append]
      exact hown'
end Go.Proofs.Ytfjcjaojbdcpeaa
