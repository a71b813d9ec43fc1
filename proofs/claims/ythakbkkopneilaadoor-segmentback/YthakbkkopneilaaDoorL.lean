/- The table of halves; a slice of bytes that came in; the walk of FrameSeals. -/
import Derived.Test.YthakbkkopneilaaDoorK
import Derived.Lib.LaidTab
namespace Go.Proofs.YthakbkkopneilaaDoor
open Go.ChangeShapes Go.WideShapes Go.ChangeAt Go.RowKit
theorem own : ownKnob Tryd.prog.godebug = none := by kernel_rfl
theorem gTab : Tryd.prog.globalNamed "usher/crc.halves" = some 0 := by kernel_rfl
theorem gTabType : (Tryd.prog.globals[0]?).map (·.type) = some 93 := by kernel_rfl
theorem cells51 : Tryd.prog.cellsOf 93 = 16 := by kernel_rfl
theorem cells43 : Tryd.prog.cellsOf 72 = 1 := by kernel_rfl
/-- What the rows' list gives: the table's cells hold its numbers. -/
theorem table {W : World} (h : laidMetH Tryd.prog [("usher/crc.halves", Rows.laid_usher_crc_halves)] W) : Tb W := by
  have t : Lib.TabIs Tryd.prog W "usher/crc.halves" .u32 tab := Lib.tabIs_of_head (rest := []) gTab gTabType Tryd.underlying93 Tryd.underlying72 cells43 cells51 h
  intro i hi
  rw [t.cell gTab i hi, tab_B i hi]
theorem lt_i64 (a : Int) (h : (Lit.int .i64 a).wf = true) : a < 9223372051854775808 := by
  simp only [Lit.wf, IntKind.min, IntKind.max, IntKind.signed, IntKind.bits, Bool.and_eq_true, decide_eq_true_eq, if_true] at h
  omega
/-- A world for the witness: the settled one, the table (block 0) holding what its initialiser lays. -/
noncomputable def laidWorld (os : Os) : World :=
  { World.holding Tryd.prog os ⟨#[], #[], []⟩ with heap := (World.holding Tryd.prog os ⟨#[], #[], []⟩).heap.modify 0 fun
      | .cells _ t frozen => .cells (tab.map fun z => Value.int .u32 z).toArray t frozen
      | o => o }
theorem laidOut : laidOutB Tryd.prog = true := by kernel_rfl
/-- A slice of integers that came in: nil, or a row of cap cells with the numbers zs, each fitting its kind. -/
def IsRow (k : IntKind) (w : World) (a : Option Addr) (len cap : Nat) (zs : List Int) : Prop :=
  (a = none ∧ len = 0 ∧ cap = 0 ∧ zs = []) ∨
  ∃ x, a = some x ∧ len ≤ cap ∧ cap ≤ maxLen ∧ zs.length = cap ∧ (∀ i, i < zs.length → w.cell? (x.add i) = some (.int k (zs.getD i 0))) ∧ ∀ n ∈ zs, (Lit.int k n).wf = true

theorem row_holds {w : World} {a : Option Addr} {len cap : Nat} {zs : List Int} (h : IsRow .u8 w a len cap zs) : ∃ l : List UInt8, l.length = len ∧ Lib.HoldsBytes w (.slice a len cap) l := by
  rcases h with ⟨rfl, rfl, rfl, _⟩ | ⟨x, rfl, hl, _, hz, hcell, hwf⟩
  · exact ⟨[], rfl, holds_nil w⟩
  · have hlen : ((zs.take len).map fun z => UInt8.ofNat z.toNat).length = len := by rw [List.length_map, List.length_take]; omega
    refine ⟨(zs.take len).map fun z => UInt8.ofNat z.toNat, hlen, some x, cap, by rw [hlen], (fun h => by cases h), ?_⟩
    intro b hb i u hu
    cases hb
    rw [List.getElem?_map] at hu
    obtain ⟨z, hz1, rfl⟩ := Option.map_eq_some_iff.1 hu
    have hi : i < (zs.take len).length := (List.getElem?_eq_some_iff.1 hz1).1
    rw [List.length_take] at hi
    rw [List.getElem?_take_of_lt (by omega)] at hz1
    have hw := hwf z (List.mem_of_getElem? hz1)
    simp only [Lit.wf, IntKind.min, IntKind.max, IntKind.signed, IntKind.bits, Bool.and_eq_true, decide_eq_true_eq, Bool.false_eq_true, if_false] at hw
    rw [hcell i (by omega), List.getD_eq_getElem?_getD, hz1]
    have e : ((UInt8.ofNat z.toNat).toNat : Int) = z := by rw [UInt8.toNat_ofNat']; omega
    rw [e]
    rfl
theorem row_hb {w : World} {a : Option Addr} {len cap : Nat} {zs : List Int} (h : IsRow .u8 w a len cap zs) : ∃ l : List UInt8, l.length = len ∧ Hb w (.slice a len cap) l := by
  have hc : len ≤ cap := by
    rcases h with ⟨_, rfl, rfl, _⟩ | ⟨x, _, hl, _⟩
    · exact Nat.le_refl _
    · exact hl
  obtain ⟨l, hl, hh⟩ := row_holds h
  subst hl
  exact ⟨l, rfl, _, _, rfl, hc, hh⟩
end Go.Proofs.YthakbkkopneilaaDoor
