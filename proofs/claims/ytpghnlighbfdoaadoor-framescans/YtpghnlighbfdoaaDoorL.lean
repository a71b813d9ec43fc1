/- The table of halves; a slice of bytes that came in; the walk of FrameSeals. -/
import Derived.Test.YtpghnlighbfdoaaDoorK
import Derived.Lib.LaidTab
namespace Go.Proofs.YtpghnlighbfdoaaDoor
open Go.ChangeShapes Go.WideShapes Go.ChangeAt Go.RowKit
theorem own : ownKnob Tryd.prog.godebug = none := by kernel_rfl
theorem gTab : Tryd.prog.globalNamed "usher/crc.halves" = some 0 := by kernel_rfl
theorem gTabType : (Tryd.prog.globals[0]?).map (·.type) = some 51 := by kernel_rfl
theorem cells51 : Tryd.prog.cellsOf 51 = 16 := by kernel_rfl
theorem cells43 : Tryd.prog.cellsOf 43 = 1 := by kernel_rfl
/-- What the rows' list gives: the table's cells hold its numbers. -/
theorem table {W : World} (h : laidMetH Tryd.prog [("usher/crc.halves", Rows.laid_usher_crc_halves)] W) : Tb W := by
  have t : Lib.TabIs Tryd.prog W "usher/crc.halves" .u32 tab := Lib.tabIs_of_head (rest := []) gTab gTabType Tryd.underlying51 Tryd.underlying43 cells43 cells51 h
  intro i hi
  rw [t.cell gTab i hi, tab_B i hi]
theorem lt_i64 (a : Int) (h : (Lit.int .i64 a).wf = true) : a < 9223372051854775808 := by
  simp only [Lit.wf, IntKind.min, IntKind.max, IntKind.signed, IntKind.bits, Bool.and_eq_true, decide_eq_true_eq, if_true] at h
  omega
/-- A world for the witness: the settled one, the table (block 0) holding what its initialiser lays. -/
noncomputable def laidWorld (os : Os) : World :=
  { World.holding Tryd.prog os ⟨#[], #[], []⟩ with heap := (World.holding Tryd.prog os ⟨#[], #[], []⟩).heap.modify 0 fun
      | .cells _ t frozen => .cells (tab.map fun z => Value.int .u32 z).toArray t frozen
      | o => o }
theorem laidOut : laidOutB Tryd.prog = true := by kernel_rfl
/-- A slice of integers that came in: nil, or a row of cap cells with the numbers zs, each fitting its kind. -/
def IsRow (k : IntKind) (w : World) (a : Option Addr) (len cap : Nat) (zs : List Int) : Prop :=
  (a = none ∧ len = 0 ∧ cap = 0 ∧ zs = []) ∨
  ∃ x, a = some x ∧ len ≤ cap ∧ cap ≤ maxLen ∧ zs.length = cap ∧ (∀ i, i < zs.length → w.cell? (x.add i) = some (.int k (zs.getD i 0))) ∧ ∀ n ∈ zs, (Lit.int k n).wf = true

theorem row_holds {w : World} {a : Option Addr} {len cap : Nat} {zs : List Int} (h : IsRow .u8 w a len cap zs) : ∃ l : List UInt8, l.length = len ∧ Lib.HoldsBytes w (.slice a len cap) l := by
  rcases h with ⟨rfl, rfl, rfl, _⟩ | ⟨x, rfl, hl, _, hz, hcell, hwf⟩
  · exact ⟨[], rfl, holds_nil w⟩
  · have hlen : ((zs.take len).map fun z => UInt8.ofNat z.toNat).length = len := by rw [List.length_map, List.length_take]; omega
    refine ⟨(zs.take len).map fun z => UInt8.ofNat z.toNat, hlen, some x, cap, by rw [hlen], (fun h => by cases h), ?_⟩
    intro b hb i u hu
    cases hb
    rw [List.getElem?_map] at hu
    obtain ⟨z, hz1, rfl⟩ := Option.map_eq_some_iff.1 hu
    have hi : i < (zs.take len).length := (List.getElem?_eq_some_iff.1 hz1).1
    rw [List.length_take] at hi
    rw [List.getElem?_take_of_lt (by omega)] at hz1
    have hw := hwf z (List.mem_of_getElem? hz1)
    simp only [Lit.wf, IntKind.min, IntKind.max, IntKind.signed, IntKind.bits, Bool.and_eq_true, decide_eq_true_eq, Bool.false_eq_true, if_false] at hw
    rw [hcell i (by omega), List.getD_eq_getElem?_getD, hz1]
    have e : ((UInt8.ofNat z.toNat).toNat : Int) = z := by rw [UInt8.toNat_ofNat']; omega
    rw [e]
    rfl
theorem row_hb {w : World} {a : Option Addr} {len cap : Nat} {zs : List Int} (h : IsRow .u8 w a len cap zs) : ∃ l : List UInt8, l.length = len ∧ Hb w (.slice a len cap) l := by
  have hc : len ≤ cap := by
    rcases h with ⟨_, rfl, rfl, _⟩ | ⟨x, _, hl, _⟩
    · exact Nat.le_refl _
    · exact hl
  obtain ⟨l, hl, hh⟩ := row_holds h
  subst hl
  exact ⟨l, rfl, _, _, rfl, hc, hh⟩
set_option maxHeartbeats 4000000 in
theorem seals_walk (k n : Int) (v : Value) (l : List UInt8) (w : World) (hv : Hb w v l) (hl : l.length ≤ 140737488355328) (ht : Tb w) :
    Calls Tryd.prog 3 #[.int .i64 k, v, .int .i64 n] w fun e w' => e = .returned (.bool true) ∧ Below w.heap.size w w' := by
  have HT : Hid (Tb w) := ht
  obtain ⟨sz, hsz⟩ : ∃ sz, sz = if n < 0 ∨ 1048576 < n then 0 else 9 + n := ⟨_, rfl⟩
  have S1 : Hid (∀ W, Calls Tryd.prog 9 #[.int .i64 n] W fun e w' => e = .returned (.int .i64 sz) ∧ w' = W) := fun W => by rw [hsz]; exact size_calls n W
  have S2 : Hid (∀ W, Calls Tryd.prog 10 #[.int .i64 n] W fun e w' => e = .returned (.int .i64 sz) ∧ w' = W) := fun W => by rw [hsz]; exact rsize_calls n W
  have dz : (sz == sz) = true := by simp
  clear hsz
  by_cases h : l.length ≤ 1048576
  · have C1 : Hid (Calls Tryd.prog 7 #[.int .i64 k, v] w (NB w (sealL (kb k) l))) := seal_calls k v l w hv ht h
    have C2 : Hid (∀ W, Below w.heap.size w W → Calls Tryd.prog 8 #[.int .i64 k, v] W (NB W (sealL (kb k) l))) := fun W hW => rseal_calls k v l W (hv.below hW) h
    obtain ⟨p, c, rfl, _, _⟩ := hv
    clear ht
    go_enter Tryd.func3, Tryd.ntmps3
    go_wp2_with fail
    refine C1.out.mono ?_
    rintro e w1 ⟨v1, rfl, ho1, hb1⟩
    have O1 : Hid (Own w.heap.size w1 v1 (sealL (kb k) l)) := ho1
    have B1 : Hid (Below w.heap.size w w1) := hb1
    clear ho1 hb1
    go_wp2_with fail
    refine (C2.out w1 B1.out).mono ?_
    rintro e w2 ⟨v2, rfl, ho2, hb2⟩
    have O2 : Hid (Own w1.heap.size w2 v2 (sealL (kb k) l)) := ho2
    have O3 : Hid (Own w.heap.size w2 v1 (sealL (kb k) l)) := O1.out.below hb2
    have B2 : Hid (Below w.heap.size w w2) := B1.out.trans (hb2.mono B1.out.size)
    clear ho2 hb2
    go_wp2_with fail
    refine (equal_calls _ _ _ _ w2 O3.out.holds O2.out.holds).mono ?_
    rintro e w3 ⟨rfl, hw3⟩
    have hw4 := hw3.symm
    subst hw4
    clear hw3
    have de : (sealL (kb k) l == sealL (kb k) l) = true := by simp
    rw [de]
    go_wp2_with fail
    refine (S1.out _).mono ?_
    rintro e w3 ⟨rfl, hw3⟩
    have hw4 := hw3.symm
    subst hw4
    clear hw3
    go_wp2_with fail
    refine (S2.out _).mono ?_
    rintro e w3 ⟨rfl, hw3⟩
    have hw4 := hw3.symm
    subst hw4
    clear hw3
    go_wp2_with fail
    refine (awake_calls _ (HT.out.below B2.out)).mono ?_
    rintro e w4 ⟨rfl, hb4⟩
    have B4 : Hid (Below w.heap.size w w4) := B2.out.trans (hb4.mono B2.out.size)
    clear hb4
    go_wp2_with fail
    go_ret
    exact ⟨rfl, B4.out⟩
  · have C1 : Hid (Calls Tryd.prog 7 #[.int .i64 k, v] w _) := seal_long k v l w hv (by omega) (by omega)
    have C2 : Hid (Calls Tryd.prog 8 #[.int .i64 k, v] w _) := rseal_long k v l w hv (by omega)
    obtain ⟨p, c, rfl, _, _⟩ := hv
    clear ht
    go_enter Tryd.func3, Tryd.ntmps3
    go_wp2_with fail
    refine C1.out.mono ?_
    rintro e w3 ⟨rfl, hw3⟩
    have hw4 := hw3.symm
    subst hw4
    clear hw3
    go_wp2_with fail
    refine C2.out.mono ?_
    rintro e w3 ⟨rfl, hw3⟩
    have hw4 := hw3.symm
    subst hw4
    clear hw3
    go_wp2_with fail
    refine (equal_calls _ _ [] [] w (holds_nil w) (holds_nil w)).mono ?_
    rintro e w3 ⟨rfl, hw3⟩
    have hw4 := hw3.symm
    subst hw4
    clear hw3
    have de : (([] : List UInt8) == []) = true := by simp
    rw [de]
    go_wp2_with fail
    refine (S1.out _).mono ?_
    rintro e w3 ⟨rfl, hw3⟩
    have hw4 := hw3.symm
    subst hw4
    clear hw3
    go_wp2_with fail
    refine (S2.out _).mono ?_
    rintro e w3 ⟨rfl, hw3⟩
    have hw4 := hw3.symm
    subst hw4
    clear hw3
    go_wp2_with fail
    refine (awake_calls _ HT.out).mono ?_
    rintro e w4 ⟨rfl, hb4⟩
    have B4 : Hid (Below w.heap.size w w4) := hb4
    clear hb4
    go_wp2_with fail
    go_ret
    exact ⟨rfl, B4.out⟩
end Go.Proofs.YtpghnlighbfdoaaDoor
