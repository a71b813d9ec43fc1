/- The contract of awake. -/
import Derived.Test.YtkaaddahegkmgaaRS
import Derived.Lib.SlBytesConst
namespace Go.Proofs.Ytkaaddahegkmgaa
open Go.ChangeShapes Go.WideShapes Go.ChangeAt Go.RowKit
theorem puts_len {bs bs' : List Bn} {ts : List Wt} (h : Puts bs ts bs') : bs'.length ≤ bs.length + ts.length := by
  induction h with
  | nil => simp
  | snoc h hp _ _ ih =>
    have := pt_len hp
    rw [List.length_append]
    simp only [List.length_cons, List.length_nil]
    omega
theorem mayK (row : List UInt8) (h : row.length ≤ 524288) : mayB ⟨⟨#[107]⟩, 0, row, []⟩ = true := (mayB_iff _).2 ⟨by show (1 : Nat) ≤ 1; omega, by show (1 : Nat) ≤ 64; omega, by show (0 : Int) ≤ 0; omega, by show (0 : Int) ≤ 2147483648; omega, h, by show (0 : Nat) ≤ 4; omega, fun t h => by cases h⟩
set_option maxHeartbeats 8000000 in
set_option maxRecDepth 100000 in
theorem awake_calls (w : World) : Calls Try.prog 8 #[] w fun e w' => e = .returned (.bool true) ∧ Below w.heap.size w w' := by
  have hbA := bel1 w (.cells #[.int .u8 97] 5 (1, 2))
  have hcA : (w.alloc (.cells #[.int .u8 97] 5 (1, 2))).cell? ⟨w.heap.size, 0, none⟩ = some (eb 97) := row_cell (j := 0) (heap_alloc_last w (.cells #[.int .u8 97] 5 (1, 2))) rfl
  have cv := Lib.run_convert_bytes_const (P := Try.prog) w 26 5 #[.int .u8 97] 1 1 Try.underlying26 Try.underlying5
  go_enter Try.func8, Try.ntmps8
  go_wp2_with fail
  clear cv
  generalize w.alloc (.cells #[.int .u8 97] 5 (1, 2)) = wA at hbA hcA ⊢
  refine (apply_calls _ _ ⟨[], []⟩ ⟨⟨#[107]⟩, 0, [97], []⟩ wA ⟨_, _, rfl, Sl.nil _ _, Sl.nil _ _⟩ ⟨by decide, fun e h => (by cases h), by decide, fun e h => (by cases h)⟩
    ⟨_, _, rfl, ⟨some ⟨w.heap.size, 0, none⟩, 1, rfl, by decide, by decide, fun i x hx => ⟨_, _, rfl, trivial, by
      match i, hx with
      | 0, hx => cases hx; exact hcA
      | i + 1, hx => simp at hx⟩⟩, Sl.nil _ _⟩ (by show (1 : Nat) ≤ _; omega) (by show (0 : Nat) ≤ _; omega) (by show (0 : Nat) ≤ _; omega)).mono ?_
  rintro e w2 ⟨⟨c, hc, _, hcw, _⟩ | ⟨_, _, u2, b2, r2, rfl, hd2, hp2, hq2, hs2⟩, hb2⟩
  · exact absurd rfl (hcw (mayK _ (by decide)) (.inr ⟨(fun y h => (by cases h)), rfl⟩))
  obtain ⟨pu, cu, rfl, _⟩ := hd2.rows.shape
  obtain ⟨pb, cb, rfl, _⟩ := hd2.brs.shape
  have HB2 : Hid (Below w.heap.size w w2) := bel2 hbA hb2
  have hb3 := bel1 w2 (.cells #[.slice pu r2.rows.length cu, .slice pb r2.brs.length cb] 25)
  have n0 := cell_new w2 #[.slice pu r2.rows.length cu, .slice pb r2.brs.length cb] 25 0
  have n1 := cell_new w2 #[.slice pu r2.rows.length cu, .slice pb r2.brs.length cb] 25 1
  have HI : Hid (IsR (fun _ => True) w2 (.agg #[.slice pu r2.rows.length cu, .slice pb r2.brs.length cb]) r2) := hd2.isR.keep fun B _ _ => ⟨rfl, trivial⟩
  have HS : Hid (SmD r2) := hs2
  have hl1 := pt_len hp2
  have hl2 := puts_len hq2
  have HLn : Hid (r2.rows.length ≤ 450 ∧ r2.brs.length ≤ 450) := ⟨by have : r2.rows.length ≤ 0 + 1 := hl1; omega, by have : r2.brs.length ≤ 0 + 0 := hl2; omega⟩
  have HPF : Hid (∃ i, Fst (fun x : Rw => x.key) r2.rows ⟨#[107]⟩ i ⟨⟨#[107]⟩, 0 + 1, [97]⟩) := pt_fst hp2
  have HVR : Hid (VerIs r2.rows ⟨#[107]⟩ (0 + 1)) := pt_ver hp2
  clear hd2 hp2 hq2 hs2 hb2 hl1 hl2
  have GC : Hid (∀ W, Below w2.heap.size w2 W → Calls Try.prog 12 _ W _) := fun W hW => Get_calls _ r2 ⟨#[107]⟩ W (HI.out.below hW) HS.out
  go_wp2_with fail
  refine (GC.out _ hb3).mono ?_
  rintro e w4 ⟨⟨i, x, v', hx, rfl, hv'⟩ | ⟨hno, rfl⟩, hb4⟩
  · obtain ⟨p4, c4, rfl, _⟩ := hv'.shape
    have hver : x.ver = 1 := by
      obtain ⟨j, hj⟩ := HPF.out
      rw [fst_one hx hj]
      rfl
    rw [hver]
    have HB4 : Hid (Below w2.heap.size w2 w4) := bel2 hb3 hb4
    have m0 := cell_below n0 hb4
    have m1 := cell_below n1 hb4
    have AC : Hid (∀ W, Below w2.heap.size w2 W → Calls Try.prog 9 #[.agg #[.slice pu r2.rows.length cu, .slice pb r2.brs.length cb], .agg #[.string ⟨#[107]⟩, .int .i64 0, .slice none 0 0, .slice none 0 0]] W (ApP r2 ⟨⟨#[107]⟩, 0, [], []⟩ W)) := fun W hW =>
      apply_calls _ _ r2 ⟨⟨#[107]⟩, 0, [], []⟩ W (HI.out.below hW) HS.out ⟨_, _, rfl, HB.nil _ _, Sl.nil _ _⟩ (by show (0 : Nat) ≤ _; omega) HLn.out.1 HLn.out.2
    have p0 := cell_below m0 (bel1 w4 (.cells #[.string ⟨#[107]⟩, .int .i64 1, .slice p4 x.row.length c4] 37))
    have p1 := cell_below m1 (bel1 w4 (.cells #[.string ⟨#[107]⟩, .int .i64 1, .slice p4 x.row.length c4] 37))
    clear hv' hb4 n0 n1 hb3
    go_wp2_with fail
    have hb5 : Below w2.heap.size w2 (w4.alloc (.cells #[.string ⟨#[107]⟩, .int .i64 1, .slice p4 x.row.length c4] 37)) := bel2 HB4.out (bel1 _ _)
    have g1 := cell_new w4 #[.string ⟨#[107]⟩, .int .i64 1, .slice p4 x.row.length c4] 37 1
    refine (AC.out _ hb5).mono ?_
    rintro e w6 ⟨⟨c, hc, hc11, _, u6, b6, rfl, hd6⟩ | ⟨_, hve, _⟩, hb6⟩
    · obtain ⟨pu6, cu6, rfl, _⟩ := hd6.rows.shape
      obtain ⟨pb6, cb6, rfl, _⟩ := hd6.brs.shape
      have h11 : c = 11 := hc11 (mayK _ (by decide)) (fun h => absurd (ver_det HVR.out h) (by decide))
      subst h11
      have g6 := cell_below g1 hb6
      have g7 := cell_below g6 (bel1 w6 (.cells #[.slice pu6 r2.rows.length cu6, .slice pb6 r2.brs.length cb6] 25))
      have HB6 : Hid (Below w.heap.size w w6) := bel2 (bel2 HB2.out hb5) hb6
      clear hd6 hb6 hb5 g1
      go_wp2_with fail
      go_ret
      exact ⟨rfl, bel2 HB6.out (bel1 _ _)⟩
    · exact absurd (ver_det HVR.out hve) (by decide)
  · obtain ⟨j, hj⟩ := HPF.out
    exact absurd rfl (hno _ (fst_mem hj))
end Go.Proofs.Ytkaaddahegkmgaa
