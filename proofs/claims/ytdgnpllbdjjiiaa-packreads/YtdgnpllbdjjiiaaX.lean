/- The walk of PackReads: of any bytes and any row of questions the two readers answer alike, and no memory that was there before is changed. -/
import Derived.Test.YtdgnpllbdjjiiaaF
import Derived.BigRegion
import Derived.Deep.RegionHeld3
namespace Go.Proofs.Ytdgnpllbdjjiiaa
open Go.ChangeShapes Go.WideShapes Go.ChangeAt Go.RowKit
def IsDo (w : World) (a : Option Addr) (len : Nat) (V0 V1 : Nat → Int) : Prop :=
  0 < len → ∃ b o, a = some ⟨b, o, none⟩ ∧ ∀ i, i < len → w.cell? ⟨b, o + i * 2, none⟩ = some (.int .i64 (V0 i)) ∧ w.cell? ⟨b, o + i * 2 + 1, none⟩ = some (.int .i64 (V1 i))
/-- The blocks of the two readers stand apart, and none lies below B. -/
def Sep (B g1 h1 g2 h2 : Nat) : Prop := B ≤ g1 ∧ B ≤ g2 ∧ g1 ≠ g2 ∧ h1 ≠ g2 ∧ h2 ≠ g1
/-- The two readers: what is left for each, and each one's error. -/
def Tw (w0 w : World) (g1 h1 : Nat) (l1 : List UInt8) (e1 : Int) (g2 h2 : Nat) (l2 : List UInt8) (e2 : Int) : Prop :=
  Sep w0.heap.size g1 h1 g2 h2 ∧ St w g1 h1 l1 e1 ∧ RT w g2 h2 l2 e2 ∧ Below w0.heap.size w0 w
theorem Tw.below {w0 w w' : World} {g1 h1 g2 h2 : Nat} {l1 l2 : List UInt8} {e1 e2 : Int} (t : Tw w0 w g1 h1 l1 e1 g2 h2 l2 e2) (b : Below w.heap.size w w') : Tw w0 w' g1 h1 l1 e1 g2 h2 l2 e2 := by
  obtain ⟨s, a, r, k⟩ := t
  refine ⟨s, ?_, ?_, k.trans (b.mono k.size)⟩
  · exact a.kb (KB.of_below (g := g2) b) s.2.2.1 s.2.2.2.1
  · exact r.kb (KB.of_below (g := g1) b) (Ne.symm s.2.2.1) s.2.2.2.2
theorem Tw.one {w0 w w' : World} {g1 h1 g2 h2 : Nat} {l1 l2 l : List UInt8} {e1 e2 e : Int} (t : Tw w0 w g1 h1 l1 e1 g2 h2 l2 e2) (k : KB g1 w w') (a : St w' g1 h1 l e) : Tw w0 w' g1 h1 l e g2 h2 l2 e2 := by
  obtain ⟨s, _, r, b⟩ := t
  exact ⟨s, a, r.kb k (Ne.symm s.2.2.1) s.2.2.2.2, b.trans (k.below s.1 b.size)⟩
theorem Tw.two {w0 w w' : World} {g1 h1 g2 h2 : Nat} {l1 l2 l : List UInt8} {e1 e2 e : Int} (t : Tw w0 w g1 h1 l1 e1 g2 h2 l2 e2) (k : KB g2 w w') (r : RT w' g2 h2 l e) : Tw w0 w' g1 h1 l1 e1 g2 h2 l e := by
  obtain ⟨s, a, _, b⟩ := t
  exact ⟨s, a.kb k s.2.2.1 s.2.2.2.1, r, b.trans (k.below s.2.1 b.size)⟩
theorem St.lt {w : World} {g h : Nat} {l : List UInt8} {e : Int} (r : St w g h l e) : g < w.heap.size := by
  rcases r with ⟨h0, p, c, r⟩ | ⟨h0, hl, a0, a2⟩
  · exact World.block_lt_of_cell? w _ r.1
  · exact World.block_lt_of_cell? w _ a0
theorem RT.lt {w : World} {g h : Nat} {l : List UInt8} {e : Int} (r : RT w g h l e) : g < w.heap.size := by
  obtain ⟨p, c, r⟩ := r
  exact World.block_lt_of_cell? w _ r.1
set_option maxRecDepth 100000 in
set_option maxHeartbeats 2000000 in
theorem core (v : Value) (lb : List UInt8) (a : Option Addr) (len cap : Nat) (V0 V1 : Nat → Int) (w : World) (hv : Lib.HoldsBytes w v lb) (hl : lb.length ≤ 140737488351232) (hd : IsDo w a len V0 V1) (hlen : len ≤ 140737488351232) :
    Calls Try.prog 4 #[v, .slice a len cap] w fun e w' => e = .returned (.bool true) ∧ Below w.heap.size w w' := by
  have HV : Hid (Lib.HoldsBytes w v lb) := hv
  have HL : Hid (lb.length ≤ 140737488351232) := hl
  have HD : Hid (IsDo w a len V0 V1) := hd
  obtain ⟨p, c, rfl, q1, q2⟩ := hv
  clear q1 q2 hl hd
  go_enter Try.func4, Try.ntmps4
  go_wp2_with fail
  refine (open_calls _ lb w HV.out (by have := HL.out; omega)).mono ?_
  rintro e w1 ⟨g1, h1, rfl, k1, k2, k3, k4, k5⟩
  have S1 : Hid (St w1 g1 h1 lb 0) := k4
  have B1 : Hid (Below w.heap.size w w1) := k5
  have G1 : Hid (w.heap.size ≤ h1 ∧ h1 < g1 ∧ g1 < w1.heap.size) := ⟨k1, k2, k3⟩
  clear k1 k2 k3 k4 k5
  go_wp2_with fail
  refine (ropen_calls _ lb w1 (holds_below HV.out B1.out) HL.out).mono ?_
  rintro e w2 ⟨g2, h2, rfl, k1, k2, k3, k4⟩
  have HT : Hid (Tw w w2 g1 h1 lb 0 g2 h2 lb 0) := by
    have G := G1.out
    refine ⟨⟨by omega, by have := B1.out.size; omega, by omega, by omega, by omega⟩, ?_, k3, B1.out.trans (k4.mono B1.out.size)⟩
    exact S1.out.kb (KB.of_below (g := g2) k4) (by omega) (by omega)
  clear k1 k2 k3 k4 G1 S1 B1
  go_wp2
  go_loopw [17] (fun s wr => ∃ (i : Nat) (l : List UInt8) (e : Int), i ≤ len ∧ s = .int .i64 i ∧ Hid (Tw w wr g1 h1 l e g2 h2 l e)) (fun s _ => len - (intOf s).toNat)
  case atStart => exact ⟨0, lb, 0, by omega, rfl, HT⟩
  case round =>
    clear HT
    obtain ⟨i, l, e, hi, rfl, HT⟩ := hrel
    by_cases hlt : i < len
    · obtain ⟨b, o, rfl, hc⟩ := HD.out (by omega)
      obtain ⟨c0, c1⟩ := hc i hlt
      have d0 := Lib.Below.cellOf HT.out.2.2.2 c0 (Nat.le_refl _)
      have d1 := Lib.Below.cellOf HT.out.2.2.2 c1 (Nat.le_refl _)
      have n1 := HT.out.2.1.lt
      have n2 := HT.out.2.2.1.lt
      have HA : Hid (Tw w (wr.alloc (.cells #[.int .i64 (V0 i), .int .i64 (V1 i)] 38)) g1 h1 l e g2 h2 l e) := HT.out.below ((Below.refl _ _).alloc (Nat.le_refl _) _)
      have HA' : Hid (Tw w ((wr.alloc (.cells #[.int .i64 (V0 i), .int .i64 (V1 i)] 38)).drew) g1 h1 l e g2 h2 l e) := HA.out.below (Below.refl _ _).drew
      have C0 : ((wr.alloc (.cells #[.int .i64 (V0 i), .int .i64 (V1 i)] 38)).drew).cell? ⟨wr.heap.size, 1, none⟩ = some (.int .i64 (V1 i)) := by
        show (wr.alloc _).cell? _ = _
        simp
      have N1 : wr.heap.size ≠ g1 := by omega
      have N2 : wr.heap.size ≠ g2 := by omega
      clear c0 c1 hc n1 n2
      go_wp2_with fail
      · clear C0 HA'
        refine (awake_calls _).mono ?_
        rintro x w3 ⟨rfl, b3⟩
        have B3 : Hid (Below w.heap.size w w3) := HA.out.2.2.2.trans (b3.mono HA.out.2.2.2.size)
        clear b3
        go_wp2_with fail
        go_ret
        exact ⟨rfl, B3.out⟩
      · go_region_held3 (fun w' => w'.cell? ⟨wr.heap.size, 1, none⟩ = some (.int .i64 (V1 i))) (assumption) (first | (go_at_call 23; refine (num_st _ g1 h1 l e (V1 i) HA'.out.2.1).mono ?_; rintro x w3 ⟨rfl, s3, k3⟩; have T3 : Hid (Tw w w3 g1 h1 (sNum (V1 i) l e).2.1 (sNum (V1 i) l e).2.2 g2 h2 l e) := HA'.out.one k3 s3; have C3 : w3.cell? ⟨wr.heap.size, 1, none⟩ = some (.int .i64 (V1 i)) := k3.cell C0 N1; clear s3 k3) | (go_at_call 24; refine (rnum_rt _ g2 h2 l e (V1 i) T3.out.2.2.1).mono ?_; rintro x w4 ⟨rfl, s4, k4⟩; have T4 : Hid (Tw w w4 g1 h1 (sNum (V1 i) l e).2.1 (sNum (V1 i) l e).2.2 g2 h2 (sNum (V1 i) l e).2.1 (sNum (V1 i) l e).2.2) := T3.out.two k4 s4; have C4 : w4.cell? ⟨wr.heap.size, 1, none⟩ = some (.int .i64 (V1 i)) := k4.cell C3 N2; clear s4 k4))
        clear C0 C3 C4 HA HA' T3 HT
        generalize (sNum (V1 i) l e).2.1 = l4, (sNum (V1 i) l e).2.2 = e4 at T4
        go_wp2_with fail
        refine Calls.mono (err_st T4.out.2.1) ?_
        rintro x w5 ⟨rfl, hw⟩
        have hw2 := hw.symm
        subst hw2
        clear hw
        go_wp2_with fail
        refine Calls.mono (rerr_rt _ _ _ _ _ T4.out.2.2.1) ?_
        rintro x w5 ⟨rfl, hw⟩
        have hw2 := hw.symm
        subst hw2
        clear hw
        go_wp2_with fail
        refine Calls.mono (left_st _ _ _ _ _ T4.out.2.1) ?_
        rintro x w5 ⟨rfl, hw⟩
        have hw2 := hw.symm
        subst hw2
        clear hw
        go_wp2_with fail
        refine Calls.mono (rleft_rt _ _ _ _ _ T4.out.2.2.1) ?_
        rintro x w5 ⟨rfl, hw⟩
        have hw2 := hw.symm
        subst hw2
        clear hw
        go_wp2_with fail
        refine Calls.mono (end_st _ _ _ _ _ T4.out.2.1) ?_
        rintro x w5 ⟨rfl, hw⟩
        have hw2 := hw.symm
        subst hw2
        clear hw
        go_wp2_with fail
        refine Calls.mono (rend_rt _ _ _ _ _ T4.out.2.2.1) ?_
        rintro x w5 ⟨rfl, hw⟩
        have hw2 := hw.symm
        subst hw2
        clear hw
        go_wp2_with fail
        go_roundw
        case rel => exact ⟨i + 1, l4, e4, by omega, by go_num, T4⟩
        case measure => simp [intOf]; omega
      · go_region_held3 (fun w' => w'.cell? ⟨wr.heap.size, 1, none⟩ = some (.int .i64 (V1 i))) (assumption) (first | (go_at_call 23; refine (num_st _ g1 h1 l e (V1 i) HA'.out.2.1).mono ?_; rintro x w3 ⟨rfl, s3, k3⟩; have T3 : Hid (Tw w w3 g1 h1 (sNum (V1 i) l e).2.1 (sNum (V1 i) l e).2.2 g2 h2 l e) := HA'.out.one k3 s3; have C3 : w3.cell? ⟨wr.heap.size, 1, none⟩ = some (.int .i64 (V1 i)) := k3.cell C0 N1; clear s3 k3) | (go_at_call 24; refine (rnum_rt _ g2 h2 l e (V1 i) T3.out.2.2.1).mono ?_; rintro x w4 ⟨rfl, s4, k4⟩; have T4 : Hid (Tw w w4 g1 h1 (sNum (V1 i) l e).2.1 (sNum (V1 i) l e).2.2 g2 h2 (sNum (V1 i) l e).2.1 (sNum (V1 i) l e).2.2) := T3.out.two k4 s4; have C4 : w4.cell? ⟨wr.heap.size, 1, none⟩ = some (.int .i64 (V1 i)) := k4.cell C3 N2; clear s4 k4))
        clear C0 C3 C4 HA HA' T3 HT
        generalize (sNum (V1 i) l e).2.1 = l4, (sNum (V1 i) l e).2.2 = e4 at T4
        go_wp2_with fail
        refine Calls.mono (err_st T4.out.2.1) ?_
        rintro x w5 ⟨rfl, hw⟩
        have hw2 := hw.symm
        subst hw2
        clear hw
        go_wp2_with fail
        refine Calls.mono (rerr_rt _ _ _ _ _ T4.out.2.2.1) ?_
        rintro x w5 ⟨rfl, hw⟩
        have hw2 := hw.symm
        subst hw2
        clear hw
        go_wp2_with fail
        refine Calls.mono (left_st _ _ _ _ _ T4.out.2.1) ?_
        rintro x w5 ⟨rfl, hw⟩
        have hw2 := hw.symm
        subst hw2
        clear hw
        go_wp2_with fail
        refine Calls.mono (rleft_rt _ _ _ _ _ T4.out.2.2.1) ?_
        rintro x w5 ⟨rfl, hw⟩
        have hw2 := hw.symm
        subst hw2
        clear hw
        go_wp2_with fail
        refine Calls.mono (end_st _ _ _ _ _ T4.out.2.1) ?_
        rintro x w5 ⟨rfl, hw⟩
        have hw2 := hw.symm
        subst hw2
        clear hw
        go_wp2_with fail
        refine Calls.mono (rend_rt _ _ _ _ _ T4.out.2.2.1) ?_
        rintro x w5 ⟨rfl, hw⟩
        have hw2 := hw.symm
        subst hw2
        clear hw
        go_wp2_with fail
        go_roundw
        case rel => exact ⟨i + 1, l4, e4, by omega, by go_num, T4⟩
        case measure => simp [intOf]; omega
      · clear C0 HA' HT
        refine (int_st _ g1 h1 l e HA.out.2.1).mono ?_
        rintro x w3 ⟨rfl, s3, k3⟩
        have T3 : Hid (Tw w w3 g1 h1 (sInt l e).2.1 (sInt l e).2.2 g2 h2 l e) := HA.out.one k3 s3
        clear s3 k3 HA
        go_wp2_with fail
        refine (rint_rt _ g2 h2 l e T3.out.2.2.1).mono ?_
        rintro x w4 ⟨rfl, s4, k4⟩
        have T4 : Hid (Tw w w4 g1 h1 (sInt l e).2.1 (sInt l e).2.2 g2 h2 (sInt l e).2.1 (sInt l e).2.2) := T3.out.two k4 s4
        clear s4 k4 T3
        generalize (sInt l e).2.1 = l4, (sInt l e).2.2 = e4 at T4
        go_wp2_with fail
        refine Calls.mono (err_st T4.out.2.1) ?_
        rintro x w5 ⟨rfl, hw⟩
        have hw2 := hw.symm
        subst hw2
        clear hw
        go_wp2_with fail
        refine Calls.mono (rerr_rt _ _ _ _ _ T4.out.2.2.1) ?_
        rintro x w5 ⟨rfl, hw⟩
        have hw2 := hw.symm
        subst hw2
        clear hw
        go_wp2_with fail
        refine Calls.mono (left_st _ _ _ _ _ T4.out.2.1) ?_
        rintro x w5 ⟨rfl, hw⟩
        have hw2 := hw.symm
        subst hw2
        clear hw
        go_wp2_with fail
        refine Calls.mono (rleft_rt _ _ _ _ _ T4.out.2.2.1) ?_
        rintro x w5 ⟨rfl, hw⟩
        have hw2 := hw.symm
        subst hw2
        clear hw
        go_wp2_with fail
        refine Calls.mono (end_st _ _ _ _ _ T4.out.2.1) ?_
        rintro x w5 ⟨rfl, hw⟩
        have hw2 := hw.symm
        subst hw2
        clear hw
        go_wp2_with fail
        refine Calls.mono (rend_rt _ _ _ _ _ T4.out.2.2.1) ?_
        rintro x w5 ⟨rfl, hw⟩
        have hw2 := hw.symm
        subst hw2
        clear hw
        go_wp2_with fail
        go_roundw
        case rel => exact ⟨i + 1, l4, e4, by omega, by go_num, T4⟩
        case measure => simp [intOf]; omega
      · clear C0 HA' HT
        refine (bits_st _ g1 h1 l e HA.out.2.1).mono ?_
        rintro x w3 ⟨rfl, s3, k3⟩
        have T3 : Hid (Tw w w3 g1 h1 (sBits l e).2.1 (sBits l e).2.2 g2 h2 l e) := HA.out.one k3 s3
        clear s3 k3 HA
        go_wp2_with fail
        refine (rbits_rt _ g2 h2 l e T3.out.2.2.1).mono ?_
        rintro x w4 ⟨rfl, s4, k4⟩
        have T4 : Hid (Tw w w4 g1 h1 (sBits l e).2.1 (sBits l e).2.2 g2 h2 (sBits l e).2.1 (sBits l e).2.2) := T3.out.two k4 s4
        clear s4 k4 T3
        generalize (sBits l e).2.1 = l4, (sBits l e).2.2 = e4 at T4
        go_wp2_with fail
        refine Calls.mono (err_st T4.out.2.1) ?_
        rintro x w5 ⟨rfl, hw⟩
        have hw2 := hw.symm
        subst hw2
        clear hw
        go_wp2_with fail
        refine Calls.mono (rerr_rt _ _ _ _ _ T4.out.2.2.1) ?_
        rintro x w5 ⟨rfl, hw⟩
        have hw2 := hw.symm
        subst hw2
        clear hw
        go_wp2_with fail
        refine Calls.mono (left_st _ _ _ _ _ T4.out.2.1) ?_
        rintro x w5 ⟨rfl, hw⟩
        have hw2 := hw.symm
        subst hw2
        clear hw
        go_wp2_with fail
        refine Calls.mono (rleft_rt _ _ _ _ _ T4.out.2.2.1) ?_
        rintro x w5 ⟨rfl, hw⟩
        have hw2 := hw.symm
        subst hw2
        clear hw
        go_wp2_with fail
        refine Calls.mono (end_st _ _ _ _ _ T4.out.2.1) ?_
        rintro x w5 ⟨rfl, hw⟩
        have hw2 := hw.symm
        subst hw2
        clear hw
        go_wp2_with fail
        refine Calls.mono (rend_rt _ _ _ _ _ T4.out.2.2.1) ?_
        rintro x w5 ⟨rfl, hw⟩
        have hw2 := hw.symm
        subst hw2
        clear hw
        go_wp2_with fail
        go_roundw
        case rel => exact ⟨i + 1, l4, e4, by omega, by go_num, T4⟩
        case measure => simp [intOf]; omega
      · go_region_held3 (fun w' => w'.cell? ⟨wr.heap.size, 1, none⟩ = some (.int .i64 (V1 i))) (assumption) (first | (go_at_call 29; refine (text_st _ g1 h1 l e (V1 i) HA'.out.2.1).mono ?_; rintro x w3 ⟨rfl, s3, k3⟩; have T3 : Hid (Tw w w3 g1 h1 (sText (V1 i) l e).2.1 (sText (V1 i) l e).2.2 g2 h2 l e) := HA'.out.one k3 s3; have C3 : w3.cell? ⟨wr.heap.size, 1, none⟩ = some (.int .i64 (V1 i)) := k3.cell C0 N1; clear s3 k3) | (go_at_call 30; refine (rtext_rt _ g2 h2 l e (V1 i) T3.out.2.2.1).mono ?_; rintro x w4 ⟨rfl, s4, k4⟩; have T4 : Hid (Tw w w4 g1 h1 (sText (V1 i) l e).2.1 (sText (V1 i) l e).2.2 g2 h2 (sText (V1 i) l e).2.1 (sText (V1 i) l e).2.2) := T3.out.two k4 s4; have C4 : w4.cell? ⟨wr.heap.size, 1, none⟩ = some (.int .i64 (V1 i)) := k4.cell C3 N2; clear s4 k4))
        clear C0 C3 C4 HA HA' T3 HT
        generalize (sText (V1 i) l e).2.1 = l4, (sText (V1 i) l e).2.2 = e4 at T4
        go_wp2_with fail
        refine Calls.mono (err_st T4.out.2.1) ?_
        rintro x w5 ⟨rfl, hw⟩
        have hw2 := hw.symm
        subst hw2
        clear hw
        go_wp2_with fail
        refine Calls.mono (rerr_rt _ _ _ _ _ T4.out.2.2.1) ?_
        rintro x w5 ⟨rfl, hw⟩
        have hw2 := hw.symm
        subst hw2
        clear hw
        go_wp2_with fail
        refine Calls.mono (left_st _ _ _ _ _ T4.out.2.1) ?_
        rintro x w5 ⟨rfl, hw⟩
        have hw2 := hw.symm
        subst hw2
        clear hw
        go_wp2_with fail
        refine Calls.mono (rleft_rt _ _ _ _ _ T4.out.2.2.1) ?_
        rintro x w5 ⟨rfl, hw⟩
        have hw2 := hw.symm
        subst hw2
        clear hw
        go_wp2_with fail
        refine Calls.mono (end_st _ _ _ _ _ T4.out.2.1) ?_
        rintro x w5 ⟨rfl, hw⟩
        have hw2 := hw.symm
        subst hw2
        clear hw
        go_wp2_with fail
        refine Calls.mono (rend_rt _ _ _ _ _ T4.out.2.2.1) ?_
        rintro x w5 ⟨rfl, hw⟩
        have hw2 := hw.symm
        subst hw2
        clear hw
        go_wp2_with fail
        go_roundw
        case rel => exact ⟨i + 1, l4, e4, by omega, by go_num, T4⟩
        case measure => simp [intOf]; omega
      · clear C0 HA' HT
        refine (flag_st _ g1 h1 l e HA.out.2.1).mono ?_
        rintro x w3 ⟨rfl, s3, k3⟩
        have T3 : Hid (Tw w w3 g1 h1 (sFlag l e).2.1 (sFlag l e).2.2 g2 h2 l e) := HA.out.one k3 s3
        clear s3 k3 HA
        go_wp2_with fail
        refine (rflag_rt _ g2 h2 l e T3.out.2.2.1).mono ?_
        rintro x w4 ⟨rfl, s4, k4⟩
        have T4 : Hid (Tw w w4 g1 h1 (sFlag l e).2.1 (sFlag l e).2.2 g2 h2 (sFlag l e).2.1 (sFlag l e).2.2) := T3.out.two k4 s4
        clear s4 k4 T3
        generalize (sFlag l e).2.1 = l4, (sFlag l e).2.2 = e4 at T4
        go_wp2_with fail
        refine Calls.mono (err_st T4.out.2.1) ?_
        rintro x w5 ⟨rfl, hw⟩
        have hw2 := hw.symm
        subst hw2
        clear hw
        go_wp2_with fail
        refine Calls.mono (rerr_rt _ _ _ _ _ T4.out.2.2.1) ?_
        rintro x w5 ⟨rfl, hw⟩
        have hw2 := hw.symm
        subst hw2
        clear hw
        go_wp2_with fail
        refine Calls.mono (left_st _ _ _ _ _ T4.out.2.1) ?_
        rintro x w5 ⟨rfl, hw⟩
        have hw2 := hw.symm
        subst hw2
        clear hw
        go_wp2_with fail
        refine Calls.mono (rleft_rt _ _ _ _ _ T4.out.2.2.1) ?_
        rintro x w5 ⟨rfl, hw⟩
        have hw2 := hw.symm
        subst hw2
        clear hw
        go_wp2_with fail
        refine Calls.mono (end_st _ _ _ _ _ T4.out.2.1) ?_
        rintro x w5 ⟨rfl, hw⟩
        have hw2 := hw.symm
        subst hw2
        clear hw
        go_wp2_with fail
        refine Calls.mono (rend_rt _ _ _ _ _ T4.out.2.2.1) ?_
        rintro x w5 ⟨rfl, hw⟩
        have hw2 := hw.symm
        subst hw2
        clear hw
        go_wp2_with fail
        go_roundw
        case rel => exact ⟨i + 1, l4, e4, by omega, by go_num, T4⟩
        case measure => simp [intOf]; omega
      · clear C0 HA' HT
        generalize wrap64 ((IntKind.u64.wrap (V1 i)).tmod 30) = f
        refine (fail_st _ g1 h1 l e f HA.out.2.1).mono ?_
        rintro x w3 ⟨rfl, s3, k3⟩
        have T3 : Hid (Tw w w3 g1 h1 (if e == 0 && f != 0 then [] else l) (if e == 0 then f else e) g2 h2 l e) := HA.out.one k3 s3
        clear s3 k3 HA
        go_wp2_with fail
        refine (rfail_rt _ g2 h2 l e f T3.out.2.2.1).mono ?_
        rintro x w4 ⟨rfl, s4, k4⟩
        have T4 : Hid (Tw w w4 g1 h1 (if e == 0 && f != 0 then [] else l) (if e == 0 then f else e) g2 h2 (if e == 0 && f != 0 then [] else l) (if e == 0 then f else e)) := T3.out.two k4 s4
        clear s4 k4 T3
        generalize (if e == 0 && f != 0 then [] else l) = l4, (if e == 0 then f else e) = e4 at T4
        go_wp2_with fail
        refine Calls.mono (err_st T4.out.2.1) ?_
        rintro x w5 ⟨rfl, hw⟩
        have hw2 := hw.symm
        subst hw2
        clear hw
        go_wp2_with fail
        refine Calls.mono (rerr_rt _ _ _ _ _ T4.out.2.2.1) ?_
        rintro x w5 ⟨rfl, hw⟩
        have hw2 := hw.symm
        subst hw2
        clear hw
        go_wp2_with fail
        refine Calls.mono (left_st _ _ _ _ _ T4.out.2.1) ?_
        rintro x w5 ⟨rfl, hw⟩
        have hw2 := hw.symm
        subst hw2
        clear hw
        go_wp2_with fail
        refine Calls.mono (rleft_rt _ _ _ _ _ T4.out.2.2.1) ?_
        rintro x w5 ⟨rfl, hw⟩
        have hw2 := hw.symm
        subst hw2
        clear hw
        go_wp2_with fail
        refine Calls.mono (end_st _ _ _ _ _ T4.out.2.1) ?_
        rintro x w5 ⟨rfl, hw⟩
        have hw2 := hw.symm
        subst hw2
        clear hw
        go_wp2_with fail
        refine Calls.mono (rend_rt _ _ _ _ _ T4.out.2.2.1) ?_
        rintro x w5 ⟨rfl, hw⟩
        have hw2 := hw.symm
        subst hw2
        clear hw
        go_wp2_with fail
        go_roundw
        case rel => exact ⟨i + 1, l4, e4, by omega, by go_num, T4⟩
        case measure => simp [intOf]; omega
    · obtain rfl : i = len := by omega
      go_wp2_with fail
      refine (awake_calls _).mono ?_
      rintro x w3 ⟨rfl, b3⟩
      have B3 : Hid (Below w.heap.size w w3) := HT.out.2.2.2.trans (b3.mono HT.out.2.2.2.size)
      clear b3
      go_wp2_with fail
      go_ret
      exact ⟨rfl, B3.out⟩
end Go.Proofs.Ytdgnpllbdjjiiaa
