/- The walks of CrcAdds, CrcZeros and CrcSums: each returns true; and the table that their rows list. -/
import Derived.Test.YtlcceogjoghdoaaDoorF
import Derived.Lib.LaidTab
namespace Go.Proofs.YtlcceogjoghdoaaDoor
open Go.ChangeShapes Go.WideShapes Go.ChangeAt Go.RowKit
theorem below_step {a b c : World} (h : Below a.heap.size a b) (k : Below b.heap.size b c) : Below a.heap.size a c := h.trans (k.mono h.size)
theorem adds_walk (s t n m : Nat) (hs : s < 4294967296) (ht : t < 4294967296) (hn : n < 65536) (hm : m < 65536) (w : World) (hT : Tb w) :
    Calls Tryd.prog 6 #[.int .u32 (s : Int), .int .u32 (t : Int), .int .u16 (n : Int), .int .u16 (m : Int)] w fun e w' => e = .returned (.bool true) ∧ Below w.heap.size w w' := by
  have hu : s ^^^ t < 4294967296 := Nat.xor_lt_two_pow (n := 32) hs ht
  have hX := xorN s t hs ht
  have l1 := zer_lt s n hs
  have l6 := zer_lt t n ht
  have HX2 := xorN (zer s n) (zer t n) l1 l6
  have E4 : zer (s ^^^ t) n = zer s n ^^^ zer t n := by
    rw [zer_in _ n (by omega), zer_in _ n (by omega), zer_in _ n (by omega), B_xor]
  have E3 : zer s ((n : Int) + (m : Int)) = zer (zer s n) m := by
    have e : ((n : Int) + (m : Int)) = ((n + m : Nat) : Int) := by omega
    rw [e, zer_in _ (n + m) (by omega), zer_in _ n (by omega), zer_in _ m (by omega), ← B_add]
    congr 1
    omega
  have C1 : Hid (∀ w, Calls Tryd.prog 12 #[.int .u32 (s : Int), .int .i64 (n : Int)] w fun e w' => e = .returned (.int .u32 ((zer s n : Nat) : Int)) ∧ Below w.heap.size w w') := fun w => zeros_calls s hs n w
  have C2 : Hid (∀ w, Calls Tryd.prog 12 #[.int .u32 ((zer s n : Nat) : Int), .int .i64 (m : Int)] w fun e w' => e = .returned (.int .u32 ((zer (zer s n) m : Nat) : Int)) ∧ Below w.heap.size w w') := fun w => zeros_calls _ l1 m w
  have C3 : Hid (∀ w, Calls Tryd.prog 12 #[.int .u32 (s : Int), .int .i64 ((n : Int) + (m : Int))] w fun e w' => e = .returned (.int .u32 ((zer (zer s n) m : Nat) : Int)) ∧ Below w.heap.size w w') := fun w => E3 ▸ zeros_calls s hs _ w
  have C4 : Hid (∀ w, Calls Tryd.prog 12 #[.int .u32 ((s ^^^ t : Nat) : Int), .int .i64 (n : Int)] w fun e w' => e = .returned (.int .u32 ((zer s n ^^^ zer t n : Nat) : Int)) ∧ Below w.heap.size w w') := fun w => E4 ▸ zeros_calls _ hu n w
  have C6 : Hid (∀ w, Calls Tryd.prog 12 #[.int .u32 (t : Int), .int .i64 (n : Int)] w fun e w' => e = .returned (.int .u32 ((zer t n : Nat) : Int)) ∧ Below w.heap.size w w') := fun w => zeros_calls t ht n w
  clear E3 E4 l1 l6
  generalize zer (zer s n) m = y2 at C2 C3
  generalize zer s n ^^^ zer t n = y4 at C4 HX2
  generalize zer s n = y1 at C1 C2 HX2
  generalize zer t n = y6 at C6 HX2
  generalize s ^^^ t = u at C4 hu hX
  have HT : Hid (Tb w) := hT
  clear hT
  go_enter Tryd.func6, Tryd.ntmps6
  go_wp2_with fail
  refine Calls.mono (C1.out _) ?_
  rintro e w1 ⟨rfl, b1⟩
  have B1 : Hid (Below w.heap.size w w1) := b1
  clear b1
  go_wp2_with fail
  refine Calls.mono (C2.out _) ?_
  rintro e w2 ⟨rfl, b⟩
  have B2 : Hid (Below w.heap.size w w2) := below_step B1.out b
  clear b B1
  go_wp2_with fail
  refine Calls.mono (C3.out _) ?_
  rintro e w3 ⟨rfl, b⟩
  have B3 : Hid (Below w.heap.size w w3) := below_step B2.out b
  clear b B2
  go_wp2_with fail
  refine Calls.mono (C4.out _) ?_
  rintro e w4 ⟨rfl, b⟩
  have B4 : Hid (Below w.heap.size w w4) := below_step B3.out b
  clear b B3
  go_wp2_with fail
  refine Calls.mono (C1.out _) ?_
  rintro e w5 ⟨rfl, b⟩
  have B5 : Hid (Below w.heap.size w w5) := below_step B4.out b
  clear b B4
  go_wp2_with fail
  refine Calls.mono (C6.out _) ?_
  rintro e w6 ⟨rfl, b⟩
  have B6 : Hid (Below w.heap.size w w6) := below_step B5.out b
  clear b B5
  go_wp2_with fail
  refine Calls.mono (awake_calls _ (HT.out.below B6.out HT.out.size)) ?_
  rintro e w7 ⟨rfl, b⟩
  have B7 : Hid (Below w.heap.size w w7) := below_step B6.out b
  clear b B6
  go_wp2
  go_ret
  exact ⟨rfl, B7.out⟩
theorem zeros_walk_in (s t : Nat) (n : Int) (hs : s < 4294967296) (ht : t < 4294967296) (hn : n ≤ 5000) (w : World) (hT : Tb w) :
    Calls Tryd.prog 4 #[.int .u32 (s : Int), .int .u32 (t : Int), .int .i64 n] w fun e w' => e = .returned (.bool true) ∧ Below w.heap.size w w' := by
  have C1 : Hid (∀ w, Calls Tryd.prog 12 #[.int .u32 (s : Int), .int .i64 n] w fun e w' => e = .returned (.int .u32 ((zer s n : Nat) : Int)) ∧ Below w.heap.size w w') := fun w => zeros_calls s hs _ w
  have C2 : Hid (∀ w, Calls Tryd.prog 13 #[.int .u32 (s : Int), .int .i64 n] w fun e w' => e = .returned (.int .u32 ((zer s n : Nat) : Int)) ∧ w' = w) := fun w => rzeros_calls s hs _ w
  have C3 : Hid (∀ w, Calls Tryd.prog 14 #[.int .u32 (s : Int), .int .u32 (t : Int), .int .i64 n] w fun e w' => e = .returned (.int .u32 ((zer s n ^^^ t : Nat) : Int)) ∧ Below w.heap.size w w') := fun w => join_calls s t hs ht _ w
  have C4 : Hid (∀ w, Calls Tryd.prog 15 #[.int .u32 (s : Int), .int .u32 (t : Int), .int .i64 n] w fun e w' => e = .returned (.int .u32 ((zer s n ^^^ t : Nat) : Int)) ∧ w' = w) := fun w => rjoin_calls s t hs ht _ w
  have C5 : Hid (∀ w, Calls Tryd.prog 12 #[.int .u32 (s : Int), .int .i64 1048577] w fun e w' => e = .returned (.int .u32 (s : Int)) ∧ Below w.heap.size w w') := fun w => by
    have h := zeros_calls s hs 1048577 w
    rw [zer_out s 1048577 (Or.inr (by omega))] at h
    exact h
  generalize zer s n ^^^ t = y2 at C3 C4
  generalize zer s n = y1 at C1 C2
  have HT : Hid (Tb w) := hT
  clear hT
  have d0 : decide (5000 < n) = false := decide_eq_false (by omega)
  clear hn
  go_enter Tryd.func4, Tryd.ntmps4
  go_wp2_with fail
  refine Calls.mono (C1.out _) ?_
  rintro e w1 ⟨rfl, b1⟩
  have B1 : Hid (Below w.heap.size w w1) := b1
  clear b1
  go_wp2_with fail
  refine Calls.mono (C2.out _) ?_
  rintro e w2 ⟨rfl, hw1⟩
  have hw2 := hw1.symm
  subst hw2
  go_wp2_with fail
  refine Calls.mono (C3.out _) ?_
  rintro e w3 ⟨rfl, b⟩
  have B3 : Hid (Below w.heap.size w w3) := below_step B1.out b
  clear b B1
  go_wp2_with fail
  refine Calls.mono (C4.out _) ?_
  rintro e w2 ⟨rfl, hw1⟩
  have hw2 := hw1.symm
  subst hw2
  go_wp2_with fail
  refine Calls.mono (C5.out _) ?_
  rintro e w5 ⟨rfl, b⟩
  have B5 : Hid (Below w.heap.size w w5) := below_step B3.out b
  clear b B3
  go_wp2_with fail
  refine Calls.mono (awake_calls _ (HT.out.below B5.out HT.out.size)) ?_
  rintro e w7 ⟨rfl, b⟩
  have B7 : Hid (Below w.heap.size w w7) := below_step B5.out b
  clear b B5
  go_wp2
  go_ret
  exact ⟨rfl, B7.out⟩
theorem zeros_walk_out (s t : Nat) (n : Nat) (hs : s < 4294967296) (ht : t < 4294967296) (hn : 5000 < n) (hm : n < 9223372036854775808) (w : World) (hT : Tb w) :
    Calls Tryd.prog 4 #[.int .u32 (s : Int), .int .u32 (t : Int), .int .i64 (n : Int)] w fun e w' => e = .returned (.bool true) ∧ Below w.heap.size w w' := by
  have C1 : Hid (∀ w, Calls Tryd.prog 12 #[.int .u32 (s : Int), .int .i64 (5000 + (n : Int) % 7)] w fun e w' => e = .returned (.int .u32 ((zer s (5000 + (n : Int) % 7) : Nat) : Int)) ∧ Below w.heap.size w w') := fun w => zeros_calls s hs _ w
  have C2 : Hid (∀ w, Calls Tryd.prog 13 #[.int .u32 (s : Int), .int .i64 (5000 + (n : Int) % 7)] w fun e w' => e = .returned (.int .u32 ((zer s (5000 + (n : Int) % 7) : Nat) : Int)) ∧ w' = w) := fun w => rzeros_calls s hs _ w
  have C3 : Hid (∀ w, Calls Tryd.prog 14 #[.int .u32 (s : Int), .int .u32 (t : Int), .int .i64 (5000 + (n : Int) % 7)] w fun e w' => e = .returned (.int .u32 ((zer s (5000 + (n : Int) % 7) ^^^ t : Nat) : Int)) ∧ Below w.heap.size w w') := fun w => join_calls s t hs ht _ w
  have C4 : Hid (∀ w, Calls Tryd.prog 15 #[.int .u32 (s : Int), .int .u32 (t : Int), .int .i64 (5000 + (n : Int) % 7)] w fun e w' => e = .returned (.int .u32 ((zer s (5000 + (n : Int) % 7) ^^^ t : Nat) : Int)) ∧ w' = w) := fun w => rjoin_calls s t hs ht _ w
  have C5 : Hid (∀ w, Calls Tryd.prog 12 #[.int .u32 (s : Int), .int .i64 1048577] w fun e w' => e = .returned (.int .u32 (s : Int)) ∧ Below w.heap.size w w') := fun w => by
    have h := zeros_calls s hs 1048577 w
    rw [zer_out s 1048577 (Or.inr (by omega))] at h
    exact h
  generalize zer s (5000 + (n : Int) % 7) ^^^ t = y2 at C3 C4
  generalize zer s (5000 + (n : Int) % 7) = y1 at C1 C2
  have HT : Hid (Tb w) := hT
  clear hT
  have d0 : decide (5000 < (n : Int)) = true := decide_eq_true (by omega)
  have hu : IntKind.u64.wrap (n : Int) = (n : Int) := by rw [IntKind.wrap_u64]; omega
  have hw : wrap64 ((n : Int) % 7) = (n : Int) % 7 := by unfold wrap64; omega
  have hw2 : wrap64 (5000 + (n : Int) % 7) = 5000 + (n : Int) % 7 := by unfold wrap64; omega
  clear hn hm
  go_enter Tryd.func4, Tryd.ntmps4
  go_wp2_with fail
  refine Calls.mono (C1.out _) ?_
  rintro e w1 ⟨rfl, b1⟩
  have B1 : Hid (Below w.heap.size w w1) := b1
  clear b1
  go_wp2_with fail
  refine Calls.mono (C2.out _) ?_
  rintro e w2 ⟨rfl, hw1⟩
  have hw2 := hw1.symm
  subst hw2
  go_wp2_with fail
  refine Calls.mono (C3.out _) ?_
  rintro e w3 ⟨rfl, b⟩
  have B3 : Hid (Below w.heap.size w w3) := below_step B1.out b
  clear b B1
  go_wp2_with fail
  refine Calls.mono (C4.out _) ?_
  rintro e w2 ⟨rfl, hw1⟩
  have hw2 := hw1.symm
  subst hw2
  go_wp2_with fail
  refine Calls.mono (C5.out _) ?_
  rintro e w5 ⟨rfl, b⟩
  have B5 : Hid (Below w.heap.size w w5) := below_step B3.out b
  clear b B3
  go_wp2_with fail
  refine Calls.mono (awake_calls _ (HT.out.below B5.out HT.out.size)) ?_
  rintro e w7 ⟨rfl, b⟩
  have B7 : Hid (Below w.heap.size w w7) := below_step B5.out b
  clear b B5
  go_wp2
  go_ret
  exact ⟨rfl, B7.out⟩
theorem sums_walk (v : Value) (l : List UInt8) (s : Nat) (hs : s < 4294967296) (w : World) (hv : Lib.HoldsBytes w v l) (hl : l.length ≤ 9223372036854775807) (hT : Tb w) :
    Calls Tryd.prog 3 #[v, .int .u32 (s : Int)] w fun e w' => e = .returned (.bool true) ∧ Below w.heap.size w w' := by
  have C1 : Hid (Calls _ _ _ _ _) := sum_calls v l w hv hT hl
  have C2 : Hid (Calls _ _ _ _ _) := rsum_calls v l w hv hl
  have C3 : Hid (Calls _ _ _ _ _) := more_calls s hs v l w hv hT hl
  have C4 : Hid (Calls _ _ _ _ _) := rmore_calls s hs v l w hv hl
  have C5 : Hid (Calls _ _ _ _ _) := awake_calls w hT
  clear hT hv hl
  go_enter Tryd.func3, Tryd.ntmps3
  go_wp2_with fail
  refine Calls.mono C1.out ?_
  rintro e w1 ⟨rfl, hw1⟩
  have hw2 := hw1.symm
  subst hw2
  go_wp2_with fail
  refine Calls.mono C2.out ?_
  rintro e w1 ⟨rfl, hw1⟩
  have hw2 := hw1.symm
  subst hw2
  go_wp2_with fail
  refine Calls.mono C3.out ?_
  rintro e w1 ⟨rfl, hw1⟩
  have hw2 := hw1.symm
  subst hw2
  go_wp2_with fail
  refine Calls.mono C4.out ?_
  rintro e w1 ⟨rfl, hw1⟩
  have hw2 := hw1.symm
  subst hw2
  go_wp2_with fail
  refine Calls.mono C5.out ?_
  rintro e w1 ⟨rfl, b⟩
  have B : Hid (Below _ _ _) := b
  clear b
  go_wp2
  go_ret
  exact ⟨rfl, B.out⟩
theorem own : ownKnob Tryd.prog.godebug = none := by kernel_rfl
theorem gTab : Tryd.prog.globalNamed "usher/crc.halves" = some 0 := by kernel_rfl
theorem gTabType : (Tryd.prog.globals[0]?).map (·.type) = some 36 := by kernel_rfl
theorem cells36 : Tryd.prog.cellsOf 36 = 16 := by kernel_rfl
theorem cells23 : Tryd.prog.cellsOf 23 = 1 := by kernel_rfl
/-- What the rows' list gives: the table's cells hold its numbers. -/
theorem table {W : World} (h : laidMetH Tryd.prog [("usher/crc.halves", Rows.laid_usher_crc_halves)] W) : Tb W := by
  have t : Lib.TabIs Tryd.prog W "usher/crc.halves" .u32 tab := Lib.tabIs_of_head (rest := []) gTab gTabType Tryd.underlying36 Tryd.underlying23 cells23 cells36 h
  intro i hi
  rw [t.cell gTab i hi, tab_B i hi]
theorem nat_u32 (a : Int) (h : (Lit.int .u32 a).wf = true) : ∃ x : Nat, a = (x : Int) ∧ x < 4294967296 := by
  simp only [Lit.wf, IntKind.min, IntKind.max, IntKind.signed, IntKind.bits, Bool.and_eq_true, decide_eq_true_eq, Bool.false_eq_true, if_false] at h
  exact ⟨a.toNat, by omega, by omega⟩
theorem nat_u16 (a : Int) (h : (Lit.int .u16 a).wf = true) : ∃ x : Nat, a = (x : Int) ∧ x < 65536 := by
  simp only [Lit.wf, IntKind.min, IntKind.max, IntKind.signed, IntKind.bits, Bool.and_eq_true, decide_eq_true_eq, Bool.false_eq_true, if_false] at h
  exact ⟨a.toNat, by omega, by omega⟩
theorem lt_i64 (a : Int) (h : (Lit.int .i64 a).wf = true) : a < 9223372036854775808 := by
  simp only [Lit.wf, IntKind.min, IntKind.max, IntKind.signed, IntKind.bits, Bool.and_eq_true, decide_eq_true_eq, if_true] at h
  omega
/-- A world for the witness: the settled one, the table (block 0) holding what its initialiser lays. -/
noncomputable def laidWorld (os : Os) : World :=
  { World.holding Tryd.prog os ⟨#[], #[], []⟩ with heap := (World.holding Tryd.prog os ⟨#[], #[], []⟩).heap.modify 0 fun
      | .cells _ t frozen => .cells (tab.map fun z => Value.int .u32 z).toArray t frozen
      | o => o }
end Go.Proofs.YtlcceogjoghdoaaDoor
