/- The contracts of the closures that make a list, and of count's, of Decode. -/
import Derived.Test.YtomkoajhjijplaaDA
import Derived.Laws.MakeOwn
import Derived.BigRegion
namespace Go.Proofs.Ytomkoajhjijplaa
open Go.ChangeShapes Go.WideShapes Go.ChangeAt Go.RowKit
/-- The cells of so many empty writes, of so many empty lists. -/
def zW : Value := .agg #[.string ⟨#[]⟩, .string ⟨#[]⟩, .int .i64 0, .int .i64 0, .slice none 0 0]
def zE : Value := .slice none 0 0
def zeroW (k : Nat) : Array Value := madeCells zW.cells (k * 5)
def zeroE (k : Nat) : Array Value := madeCells zE.cells (k * 1)
theorem info42 : (Try.prog.info? 42).map (fun i => (i.zero, i.size, i.bytes)) = some (some zW, 5, 72) := by kernel_rfl
theorem info22 : (Try.prog.info? 22).map (fun i => (i.zero, i.size, i.bytes)) = some (some zE, 1, 24) := by kernel_rfl
theorem make_ws (k : Nat) (h : k ≤ 500) (w : World) : (Instr.makeSlice 23 (.int .i64 (k : Int)) (.int .i64 (k : Int))).run Try.prog w = .ok (.slice (some ⟨w.heap.size, 0, none⟩) k k) (w.alloc (.cells (zeroW k) 42)) := by
  obtain ⟨i0, hi, hz0, hz1, hz2⟩ := info_parts info42
  rw [run_make (P := Try.prog) w 23 42 i0 zW Try.underlying23 hi hz0 .i64 .i64 k k (by omega) (by omega) (by rw [hz2]; omega) (by omega)]
  rw [Int.toNat_natCast, hz1]
  rfl
theorem make_ev (k : Nat) (h : k ≤ 500) (w : World) : (Instr.makeSlice 40 (.int .i64 (k : Int)) (.int .i64 (k : Int))).run Try.prog w = .ok (.slice (some ⟨w.heap.size, 0, none⟩) k k) (w.alloc (.cells (zeroE k) 22)) := by
  obtain ⟨i0, hi, hz0, hz1, hz2⟩ := info_parts info22
  rw [run_make (P := Try.prog) w 40 22 i0 zE Try.underlying40 hi hz0 .i64 .i64 k k (by omega) (by omega) (by rw [hz2]; omega) (by omega)]
  rw [Int.toNat_natCast, hz1]
  rfl
theorem zeroW_size (k : Nat) : (zeroW k).size = k * 5 := size_madeCells _ _
theorem zeroE_size (k : Nat) : (zeroE k).size = k := by unfold zeroE; rw [size_madeCells]; omega
theorem zeroW_at (k i r : Nat) (h : i < k) (hr : r < 5) : (zeroW k)[i * 5 + r]? = zW.cells[r]? := by
  have hz : zW.cells.size = 5 := rfl
  have hm : (i * 5 + r) % 5 = r := by omega
  unfold zeroW madeCells
  rw [Array.getElem?_map, Array.getElem?_range, if_pos (by omega)]
  simp only [Option.map_some, hz, hm]
  rw [getElem!_pos _ _ (by omega)]
  exact (Array.getElem?_eq_getElem (by omega)).symm
theorem zeroE_at (k i : Nat) (h : i < k) : (zeroE k)[i]? = some (.slice none 0 0) := by
  have hz : zE.cells.size = 1 := rfl
  unfold zeroE madeCells
  rw [Array.getElem?_map, Array.getElem?_range, if_pos (by omega)]
  simp only [Option.map_some, hz, Nat.mod_one]
  rfl
set_option maxHeartbeats 1000000 in
theorem mkws_calls (qp B : Nat) (N : Nat) (cs : Array Value) (W : World) (hN : N ≤ 500) (hp : Bk W qp #[.pointer (some ⟨B, 0, none⟩)] 57) (hb : Bk W B cs 25) (hi : 3 < cs.size) :
    Calls Try.prog 54 #[.int .i64 (N : Int), .pointer (some ⟨qp, 0, none⟩)] W (fun x W' => x = .returned (.tuple #[]) ∧ ∃ W0, Below W.heap.size W W0 ∧ Bk W0 W.heap.size (zeroW N) 42 ∧ W' = W0.setCell ⟨B, 3, none⟩ (.slice (some ⟨W.heap.size, 0, none⟩) N N)) := by
  have c0 : W.cell? ⟨qp, 0, none⟩ = some (Value.pointer (some ⟨B, 0, none⟩)) := hp.cell 0
  have m0 := make_ws N hN W.drew
  have c1 : (W.alloc (.cells (zeroW N) 42)).cell? ⟨B, 3, none⟩ = some (cs[3]'hi) := ((hb.below (bel1 _ _)).cell _).trans (Array.getElem?_eq_getElem hi)
  have f1 : (W.alloc (.cells (zeroW N) 42)).frozen? ⟨B, 3, none⟩ = false := (hb.below (bel1 _ _)).frozen _
  have c2 : (W.alloc (.cells (zeroW N) 42)).cell? ⟨qp, 0, none⟩ = some (Value.pointer (some ⟨B, 0, none⟩)) := ((hp.below (bel1 _ _)).cell 0)
  have HB0 : Hid (Below W.heap.size W (W.alloc (.cells (zeroW N) 42)).drew ∧ Bk (W.alloc (.cells (zeroW N) 42)).drew W.heap.size (zeroW N) 42) := ⟨(bel1 W _).drew, Bk.new W _ _⟩
  have hz : W.drew.heap.size = W.heap.size := rfl
  rw [hz] at m0
  generalize zeroW N = Z at m0 c1 f1 c2 HB0 ⊢
  generalize cs[3]'hi = old at c1
  clear hp hb hi hz hN
  go_enter Try.func54, Try.ntmps54
  go_wp2_with fail
  go_region
  all_goals go_wp2_with fail
  all_goals (first | go_end0 | refine bodyPost_ret (results_none rfl _ _ _) rfl ?_)
  all_goals exact ⟨rfl, _, HB0.out.1, HB0.out.2, rfl⟩
set_option maxHeartbeats 1000000 in
theorem mkev_calls (qp B p : Nat) (N : Nat) (cs : Array Value) (W : World) (hN : N ≤ 500) (hp : Bk W qp #[.pointer (some ⟨B, p, none⟩)] 74) (hb : Bk W B cs 42) (hi : p + 4 < cs.size) :
    Calls Try.prog 70 #[.int .i64 (N : Int), .pointer (some ⟨qp, 0, none⟩)] W (fun x W' => x = .returned (.tuple #[]) ∧ ∃ W0, Below W.heap.size W W0 ∧ Bk W0 W.heap.size (zeroE N) 22 ∧ W' = W0.setCell ⟨B, p + 4, none⟩ (.slice (some ⟨W.heap.size, 0, none⟩) N N)) := by
  have c0 : W.cell? ⟨qp, 0, none⟩ = some (Value.pointer (some ⟨B, p, none⟩)) := hp.cell 0
  have m0 := make_ev N hN W.drew
  have c1 : (W.alloc (.cells (zeroE N) 22)).cell? ⟨B, p + 4, none⟩ = some (cs[p + 4]'hi) := ((hb.below (bel1 _ _)).cell _).trans (Array.getElem?_eq_getElem hi)
  have f1 : (W.alloc (.cells (zeroE N) 22)).frozen? ⟨B, p + 4, none⟩ = false := (hb.below (bel1 _ _)).frozen _
  have c2 : (W.alloc (.cells (zeroE N) 22)).cell? ⟨qp, 0, none⟩ = some (Value.pointer (some ⟨B, p, none⟩)) := ((hp.below (bel1 _ _)).cell 0)
  have HB0 : Hid (Below W.heap.size W (W.alloc (.cells (zeroE N) 22)).drew ∧ Bk (W.alloc (.cells (zeroE N) 22)).drew W.heap.size (zeroE N) 22) := ⟨(bel1 W _).drew, Bk.new W _ _⟩
  have hz : W.drew.heap.size = W.heap.size := rfl
  rw [hz] at m0
  generalize zeroE N = Z at m0 c1 f1 c2 HB0 ⊢
  generalize cs[p + 4]'hi = old at c1
  clear hp hb hi hz hN
  go_enter Try.func70, Try.ntmps70
  go_wp2_with fail
  go_region
  all_goals go_wp2_with fail
  all_goals (first | go_end0 | refine bodyPost_ret (results_none rfl _ _ _) rfl ?_)
  all_goals exact ⟨rfl, _, HB0.out.1, HB0.out.2, rfl⟩
set_option maxHeartbeats 1000000 in
theorem dcountW_calls (g h gv qp B : Nat) (cs : Array Value) (l : List UInt8) (e : Int) (W : World) (n0 most : Int) (hm : 0 ≤ most) (hM : most ≤ 500) (j : JD g h gv l e W) (a : Apart g h gv B) (hp : Bk W qp #[.pointer (some ⟨B, 0, none⟩)] 57) (hqp : qp ≠ g) (hb : Bk W B cs 25) (hi : 3 < cs.size) :
    Calls Try.prog 34 #[.int .i64 n0, .int .i64 most, .func (.func 54) #[] #[.pointer (some ⟨qp, 0, none⟩)], .pointer (some ⟨gv, 0, none⟩)] W (fun x W' => ∃ qn, W.heap.size ≤ qn ∧ Bk W' qn (zeroW (sNum most l e).1.toNat) 42 ∧ DP g h gv B (cs.setIfInBounds (3) (.slice (some ⟨qn, 0, none⟩) (sNum most l e).1.toNat (sNum most l e).1.toNat)) 25 (sNum most l e).2.1 (sNum most l e).2.2 W x W') := by
  have NC := num_st W g h l e most j.st
  have n0' := sNum_nat most l e
  have nle := num_top hm l e
  have c0 : W.cell? ⟨gv, 0, none⟩ = some (Value.pointer (some ⟨g, 0, none⟩)) := j.var.cell 0
  have HJ : Hid (JD g h gv l e W) := j
  have HA : Hid (Apart g h gv B) := a
  have HB : Hid (Bk W B cs 25) := hb
  have HP : Hid (Bk W qp #[.pointer (some ⟨B, 0, none⟩)] 57) := hp
  have HI : Hid (3 < cs.size ∧ qp ≠ g) := ⟨hi, hqp⟩
  generalize sNum most l e = q at NC n0' nle ⊢
  obtain ⟨X, l1, e1⟩ := q
  dsimp only at NC n0' nle ⊢
  obtain ⟨N, rfl⟩ := Int.eq_ofNat_of_zero_le n0'
  rw [Int.toNat_natCast]
  have HN : Hid (Calls Try.prog 30 #[.pointer (some ⟨g, 0, none⟩), .int .i64 most] W (Rs W g h (.int .i64 (N : Int)) l1 e1)) := NC
  have HM : Hid (N ≤ 500) := by show _ ≤ _; omega
  clear NC j a hb hi hp hqp n0' nle hm hM
  go_enter Try.func34, Try.ntmps34
  go_wp2_with fail
  refine HN.out.mono ?_
  rintro x w1 ⟨rfl, s1, k1⟩
  have J1 : Hid (JD g h gv l1 e1 w1) := HJ.out.read s1 k1
  have B1 : Hid (Bk w1 B cs 25) := (k1.2.2.2.2 B HB.out.lt HA.out.a1).trans HB.out
  have P1 : Hid (Bk w1 qp #[.pointer (some ⟨B, 0, none⟩)] 57) := (k1.2.2.2.2 qp HP.out.lt HI.out.2).trans HP.out
  have K1 : Hid (K2 g B W w1) := K2.of_kb k1
  have HZ : Hid (W.heap.size ≤ w1.heap.size) := k1.2.2.2.1
  have MC : Hid (Calls Try.prog 54 _ w1 _) := mkws_calls qp B N cs w1 HM.out P1.out B1.out HI.out.1
  clear s1 k1 c0
  go_wp2_with fail
  refine MC.out.mono ?_
  rintro x w2 ⟨rfl, W0, hb0, hz0, hw⟩
  have hne : w1.heap.size ≠ B := by have := B1.out.lt; omega
  have E : Hid (∃ qn, W.heap.size ≤ qn ∧ Bk w2 qn (zeroW N) 42 ∧ DP g h gv B (cs.setIfInBounds (3) (.slice (some ⟨qn, 0, none⟩) N N)) 25 l1 e1 W (.returned (.tuple #[])) w2) := by
    subst hw
    refine ⟨w1.heap.size, HZ.out, (Below.heap_setCell _ _ _ _ hne).trans hz0, rfl, (J1.out.below hb0).put HA.out _ _, (B1.out.below hb0).set _ _, (K1.out.trans (K2.of_below hb0)).trans (K2.of_kb2 (KB.setCell B W0 _ _))⟩
  clear hw hb0 hz0 hne
  go_wp2_with fail
  first | go_end0 | refine bodyPost_ret (results_none rfl _ _ _) rfl ?_
  exact E.out
set_option maxHeartbeats 1000000 in
theorem dcountE_calls (g h gv qp B p : Nat) (cs : Array Value) (l : List UInt8) (e : Int) (W : World) (n0 most : Int) (hm : 0 ≤ most) (hM : most ≤ 500) (j : JD g h gv l e W) (a : Apart g h gv B) (hp : Bk W qp #[.pointer (some ⟨B, p, none⟩)] 74) (hqp : qp ≠ g) (hb : Bk W B cs 42) (hi : p + 4 < cs.size) :
    Calls Try.prog 34 #[.int .i64 n0, .int .i64 most, .func (.func 70) #[] #[.pointer (some ⟨qp, 0, none⟩)], .pointer (some ⟨gv, 0, none⟩)] W (fun x W' => ∃ qn, W.heap.size ≤ qn ∧ Bk W' qn (zeroE (sNum most l e).1.toNat) 22 ∧ DP g h gv B (cs.setIfInBounds (p + 4) (.slice (some ⟨qn, 0, none⟩) (sNum most l e).1.toNat (sNum most l e).1.toNat)) 42 (sNum most l e).2.1 (sNum most l e).2.2 W x W') := by
  have NC := num_st W g h l e most j.st
  have n0' := sNum_nat most l e
  have nle := num_top hm l e
  have c0 : W.cell? ⟨gv, 0, none⟩ = some (Value.pointer (some ⟨g, 0, none⟩)) := j.var.cell 0
  have HJ : Hid (JD g h gv l e W) := j
  have HA : Hid (Apart g h gv B) := a
  have HB : Hid (Bk W B cs 42) := hb
  have HP : Hid (Bk W qp #[.pointer (some ⟨B, p, none⟩)] 74) := hp
  have HI : Hid (p + 4 < cs.size ∧ qp ≠ g) := ⟨hi, hqp⟩
  generalize sNum most l e = q at NC n0' nle ⊢
  obtain ⟨X, l1, e1⟩ := q
  dsimp only at NC n0' nle ⊢
  obtain ⟨N, rfl⟩ := Int.eq_ofNat_of_zero_le n0'
  rw [Int.toNat_natCast]
  have HN : Hid (Calls Try.prog 30 #[.pointer (some ⟨g, 0, none⟩), .int .i64 most] W (Rs W g h (.int .i64 (N : Int)) l1 e1)) := NC
  have HM : Hid (N ≤ 500) := by show _ ≤ _; omega
  clear NC j a hb hi hp hqp n0' nle hm hM
  go_enter Try.func34, Try.ntmps34
  go_wp2_with fail
  refine HN.out.mono ?_
  rintro x w1 ⟨rfl, s1, k1⟩
  have J1 : Hid (JD g h gv l1 e1 w1) := HJ.out.read s1 k1
  have B1 : Hid (Bk w1 B cs 42) := (k1.2.2.2.2 B HB.out.lt HA.out.a1).trans HB.out
  have P1 : Hid (Bk w1 qp #[.pointer (some ⟨B, p, none⟩)] 74) := (k1.2.2.2.2 qp HP.out.lt HI.out.2).trans HP.out
  have K1 : Hid (K2 g B W w1) := K2.of_kb k1
  have HZ : Hid (W.heap.size ≤ w1.heap.size) := k1.2.2.2.1
  have MC : Hid (Calls Try.prog 70 _ w1 _) := mkev_calls qp B p N cs w1 HM.out P1.out B1.out HI.out.1
  clear s1 k1 c0
  go_wp2_with fail
  refine MC.out.mono ?_
  rintro x w2 ⟨rfl, W0, hb0, hz0, hw⟩
  have hne : w1.heap.size ≠ B := by have := B1.out.lt; omega
  have E : Hid (∃ qn, W.heap.size ≤ qn ∧ Bk w2 qn (zeroE N) 22 ∧ DP g h gv B (cs.setIfInBounds (p + 4) (.slice (some ⟨qn, 0, none⟩) N N)) 42 l1 e1 W (.returned (.tuple #[])) w2) := by
    subst hw
    refine ⟨w1.heap.size, HZ.out, (Below.heap_setCell _ _ _ _ hne).trans hz0, rfl, (J1.out.below hb0).put HA.out _ _, (B1.out.below hb0).set _ _, (K1.out.trans (K2.of_below hb0)).trans (K2.of_kb2 (KB.setCell B W0 _ _))⟩
  clear hw hb0 hz0 hne
  go_wp2_with fail
  first | go_end0 | refine bodyPost_ret (results_none rfl _ _ _) rfl ?_
  exact E.out
end Go.Proofs.Ytomkoajhjijplaa
