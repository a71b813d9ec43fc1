/- The walk of PolicyBack. -/
import Derived.Test.YtlpfdilnoglgcaaN
import Derived.Lib.AppendZeros
namespace Go.Proofs.Ytlpfdilnoglgcaa
open Go.ChangeShapes Go.WideShapes Go.ChangeAt Go.RowKit
theorem rdP_back (f : Int) (c : Nat) (m : Int) (t : List UInt8) (hp : PFit f c m) (h : may f c m = true) : rdP (eP f c m ++ t) 0 = ⟨f, c, m, t, 0⟩ := by
  have h1 : isC c = true := by unfold may at h; simp at h; exact h.2
  have hf : 0 ≤ f ∧ f ≤ 1073741824 := by unfold may isD at h; simp at h; omega
  have hm : 0 ≤ m ∧ m ≤ 1073741824 := by unfold may isD at h; simp at h; omega
  unfold rdP eP
  dsimp only
  rw [List.append_assoc, List.append_assoc, sNum_enc f.toNat 1073741824 _ (by omega) (by omega)]
  dsimp only
  rw [sBits_be c _ hp.c1]
  dsimp only
  rw [sNum_enc m.toNat 1073741824 _ (by omega) (by omega)]
  dsimp only
  rw [Int.toNat_of_nonneg hf.1, Int.toNat_of_nonneg hm.1]
  unfold pr3 pe pl
  rw [if_pos h1, if_pos h1, if_pos rfl]
theorem eP_length (f : Int) (c : Nat) (m : Int) (hp : PFit f c m) : (eP f c m).length ≤ 26 := by
  have e1 : (enc f.toNat).length ≤ 9 := enc_length f.toNat (by have := hp.f1; omega)
  have e2 : (be c 8).length = 8 := be_length c 8
  have e3 : (enc m.toNat).length ≤ 9 := enc_length m.toNat (by have := hp.m1; omega)
  unfold eP
  simp only [List.length_append]
  omega
set_option maxHeartbeats 2000000 in
set_option maxRecDepth 100000 in
theorem back_walk (f : Int) (c : Nat) (m : Int) (v : Value) (lb : List UInt8) (hp : PFit f c m) (w : World) (hv : Lib.HoldsBytes w v lb) (hl : lb.length ≤ 140737488351232) :
    Calls Try.prog 6 #[.agg #[.int .i64 f, .int .u64 (c : Int), .int .i64 m], v] w fun e w' => e = .returned (.bool true) ∧ Below w.heap.size w w' := by
  have HP : Hid (PFit f c m) := hp
  have HV : Hid (Lib.HoldsBytes w v lb) := hv
  have HL : Hid (lb.length ≤ 140737488351232) := hl
  have C1 : Hid (∀ W, _) := fun W => check_calls f c m HP.out.c1 W
  obtain ⟨vp, vc, rfl, -, -⟩ := hv
  clear hp hl
  cases hm : may f c m with
  | false =>
    rw [hm] at C1
    go_enter Try.func6, Try.ntmps6
    go_wp2_with fail
    refine (C1.out _).mono ?_
    rintro e w1 ⟨rfl, hb⟩
    have HB : Hid (Below w.heap.size w w1) := bel2 (bel1 _ _) hb
    clear hb
    simp only [ce, Bool.false_eq_true, if_false]
    go_wp2_with fail
    refine (awake_calls _).mono ?_
    rintro e w2 ⟨rfl, hb⟩
    have HB2 : Hid (Below w.heap.size w w2) := bel2 HB.out hb
    clear hb
    go_wp2_with fail
    go_ret
    exact ⟨rfl, HB2.out⟩
  | true =>
    rw [hm] at C1
    have HM : Hid (may f c m = true) := hm
    clear hm
    have HRB : Hid (rdP (eP f c m ++ lb) 0 = ⟨f, c, m, lb, 0⟩) := rdP_back f c m lb HP.out HM.out
    have P1 : Hid (∀ W, Calls Try.prog 16 #[.slice none 0 0, .agg #[.int .i64 f, .int .u64 (c : Int), .int .i64 m]] W (NB W (eP f c m))) := fun W => put_calls _ [] f c m HP.out W (holds_nil W) (by decide)
    have HE : Hid ((eP f c m).length ≤ 26) := eP_length f c m HP.out
    generalize eP f c m = E at P1 HE HRB
    go_enter Try.func6, Try.ntmps6
    go_wp2_with fail
    refine (C1.out _).mono ?_
    rintro e w1 ⟨rfl, hb⟩
    have HB : Hid (Below w.heap.size w w1) := bel2 (bel1 _ _) hb
    have HX : Hid (At3 w1 w.heap.size (.int .i64 f) (.int .u64 (c : Int)) (.int .i64 m)) := cells3 hb (box3 w _ _ _ _)
    obtain ⟨k0, k1, k2⟩ := HX.out
    clear hb
    simp only [ce, if_true]
    go_wp2_with fail
    refine (P1.out _).mono ?_
    rintro e w2 ⟨g2, q2, rfl, h2, hb2⟩
    have HB2 : Hid (Below w.heap.size w w2) := bel2 HB.out hb2
    have HX2 : Hid (At3 w2 w.heap.size (.int .i64 f) (.int .u64 (c : Int)) (.int .i64 m)) := cells3 hb2 HX.out
    obtain ⟨v3, w3, hr3, h3, hb3⟩ := append_full w2 g2 E lb (.slice vp lb.length vc) h2 (holds_below HV.out HB2.out) (by have := HL.out; have := HE.out; omega)
    have HB3 : Hid (Below w.heap.size w w3) := bel2 HB2.out hb3
    have HX3 : Hid (At3 w3 w.heap.size (.int .i64 f) (.int .u64 (c : Int)) (.int .i64 m)) := cells3 hb3 HX2.out
    have OC : Hid (Calls Try.prog 15 #[v3] w3 _) := open_calls v3 (E ++ lb) w3 h3 (by rw [List.length_append]; have := HL.out; have := HE.out; omega)
    clear h2 hb2 h3 hb3 q2 k0 k1 k2
    go_wp2_with (at_builtin; refine Lib.wpList_append_run_sl _ rfl _ _ 35 rfl _ _ rfl rfl hr3 ?_)
    refine OC.out.mono ?_
    rintro e w4 ⟨g, h, rfl, q1, q2, q3, s4, b4⟩
    have HB4 : Hid (Below w.heap.size w w4) := bel2 HB3.out b4
    have HX4 : At3 w4 w.heap.size (.int .i64 f) (.int .u64 (c : Int)) (.int .i64 m) := cells3 b4 HX3.out
    have hbx : w.heap.size < w3.heap.size := World.block_lt_of_cell? w3 ⟨w.heap.size, 0, none⟩ HX3.out.1
    have HG : Hid (w.heap.size < h ∧ h < g ∧ g < w4.heap.size) := ⟨by omega, q2, q3⟩
    have RC : Hid (∀ W, W.heap = w4.heap → Calls Try.prog 17 #[.pointer (some ⟨g, 0, none⟩)] W (PrP W g h ⟨f, c, m, lb, 0⟩)) := fun W hW => by
      have := readp_calls W g h (E ++ lb) 0 (s4.keep (by rw [hW]) (by rw [hW])) (by rw [hW]; omega)
      rw [HRB.out] at this
      exact this
    have HS : Hid (St w4 g h (E ++ lb) 0) := s4
    obtain ⟨k0, k1, k2⟩ := HX4
    clear s4 b4 hbx q1 q2 q3 hr3 OC
    go_wp2_with fail
    go_region_held3 (fun w' => w'.cell? ⟨w.heap.size, 0, none⟩ = some (.int .i64 f) ∧ w'.cell? ⟨w.heap.size, 1, none⟩ = some (.int .u64 (c : Int)) ∧ w'.cell? ⟨w.heap.size, 2, none⟩ = some (.int .i64 m)) (go_keep) (first
      | (go_at_call 17; refine Calls.mono (RC.out _ ?_) ?_; rfl; rintro e w5 ⟨rfl, s5, kb5⟩; have hgg : w.heap.size ≤ g := (by have := HG.out; omega); have hgn : w.heap.size ≠ g := (by have := HG.out; omega); have B5 : Hid (Below w.heap.size w w5) := (by first | exact HB4.out.trans (kb5.below hgg HB4.out.size) | exact HB4.out.drew.trans (kb5.below hgg HB4.out.size)); have S5 : Hid (St w5 g h lb 0) := s5; have y0 := kb5.cell k0 hgn; have y1 := kb5.cell k1 hgn; have y2 := kb5.cell k2 hgn; have EC : Hid (Calls Try.prog 18 #[.pointer (some ⟨g, 0, none⟩)] w5 _) := err_st s5; have LC : Hid (Calls Try.prog 19 #[.pointer (some ⟨g, 0, none⟩)] w5 _) := left_st _ _ _ _ _ s5; clear s5 kb5 hgg hgn)
      | (go_at_call 18; refine EC.out.mono ?_; rintro e w6 ⟨rfl, hw6⟩; have hw6' := hw6.symm; subst hw6'; clear hw6)
      | (go_at_call 19; refine LC.out.mono ?_; rintro e w7 ⟨rfl, hw7⟩; have hw7' := hw7.symm; subst hw7'; clear hw7)
      | (go_at_call 11; refine (awake_calls _).mono ?_; rintro e w8 ⟨rfl, hb8⟩; have B8 : Hid (Below w.heap.size w w8) := bel2 B5.out hb8; obtain ⟨z0, z1, z2⟩ := cells3 hb8 ⟨by assumption, by assumption, by assumption⟩; clear hb8))
    go_wp2_with fail
    go_ret
    exact ⟨rfl, B8.out⟩
end Go.Proofs.Ytlpfdilnoglgcaa
