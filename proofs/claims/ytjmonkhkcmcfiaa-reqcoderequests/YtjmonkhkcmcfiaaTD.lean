/- The reference's SameRequest. -/
import Derived.Test.YtjmonkhkcmcfiaaTC
import Derived.Deep.RegionHeld3
namespace Go.Proofs.Ytjmonkhkcmcfiaa
open Go.ChangeShapes Go.WideShapes Go.ChangeAt Go.RowKit
set_option maxHeartbeats 8000000 in
set_option maxRecDepth 100000 in
theorem rsameR_calls (n : Nat) (w : World) (rk1 : Int) (f1 q1 nm1 : ByteArray) (k1 x1 b1 : Int) (s1 : ByteArray) (la1 : Option Addr) (lm1 lc1 : Nat) (t1 : Tv) (ru1 nu1 wa1 pf1 : Int) (pc1 : Nat) (pm1 : Int) (ca1 : Option Addr) (cc1 : Nat) (aa1 : Option Addr) (ac1 : Nat) (cds1 : List (Int × ByteArray × Tv × Int)) (ads1 : List (Int × Tv)) (rk2 : Int) (f2 q2 nm2 : ByteArray) (k2 x2 b2 : Int) (s2 : ByteArray) (la2 : Option Addr) (lm2 lc2 : Nat) (t2 : Tv) (ru2 nu2 wa2 pf2 : Int) (pc2 : Nat) (pm2 : Int) (ca2 : Option Addr) (cc2 : Nat) (aa2 : Option Addr) (ac2 : Nat) (cds2 : List (Int × ByteArray × Tv × Int)) (ads2 : List (Int × Tv))
    (hv1 : Is w n (.agg #[.int .i64 k1, .int .i64 x1, .int .u64 b1, .string s1, .slice la1 lm1 lc1]) t1) (hv2 : Is w n (.agg #[.int .i64 k2, .int .i64 x2, .int .u64 b2, .string s2, .slice la2 lm2 lc2]) t2) (hc1 : LsG 8 ElC w n ca1 cds1) (hc2 : LsG 8 ElC w n ca2 cds2) (ha1 : LsG 6 ElA w n aa1 ads1) (ha2 : LsG 6 ElA w n aa2 ads2) (hcl : cds1.length ≤ 9223372036854775807) (hal : ads1.length ≤ 9223372036854775807) :
    Calls Try.prog 12 #[.agg #[.int .i64 rk1, .string f1, .string q1, .string nm1, .int .i64 k1, .int .i64 x1, .int .u64 b1, .string s1, .slice la1 lm1 lc1, .int .i64 ru1, .int .i64 nu1, .int .i64 wa1, .int .i64 pf1, .int .u64 (pc1 : Int), .int .i64 pm1, .slice ca1 cds1.length cc1, .slice aa1 ads1.length ac1], .agg #[.int .i64 rk2, .string f2, .string q2, .string nm2, .int .i64 k2, .int .i64 x2, .int .u64 b2, .string s2, .slice la2 lm2 lc2, .int .i64 ru2, .int .i64 nu2, .int .i64 wa2, .int .i64 pf2, .int .u64 (pc2 : Int), .int .i64 pm2, .slice ca2 cds2.length cc2, .slice aa2 ads2.length ac2]] w (SmP w ((⟨rk1, f1, q1, nm1, t1, ru1, nu1, wa1, pf1, pc1, pm1, cds1, ads1⟩ : Rq) = (⟨rk2, f2, q2, nm2, t2, ru2, nu2, wa2, pf2, pc2, pm2, cds2, ads2⟩ : Rq))) := by
  obtain ⟨W0, hW0⟩ : ∃ W0, W0 = ((w.alloc (.cells #[.int .i64 rk1, .string f1, .string q1, .string nm1, .int .i64 k1, .int .i64 x1, .int .u64 b1, .string s1, .slice la1 lm1 lc1, .int .i64 ru1, .int .i64 nu1, .int .i64 wa1, .int .i64 pf1, .int .u64 (pc1 : Int), .int .i64 pm1, .slice ca1 cds1.length cc1, .slice aa1 ads1.length ac1] 31)).alloc (.cells #[.int .i64 rk2, .string f2, .string q2, .string nm2, .int .i64 k2, .int .i64 x2, .int .u64 b2, .string s2, .slice la2 lm2 lc2, .int .i64 ru2, .int .i64 nu2, .int .i64 wa2, .int .i64 pf2, .int .u64 (pc2 : Int), .int .i64 pm2, .slice ca2 cds2.length cc2, .slice aa2 ads2.length ac2] 31)) := ⟨_, rfl⟩
  have HW0 : Hid (W0 = ((w.alloc (.cells #[.int .i64 rk1, .string f1, .string q1, .string nm1, .int .i64 k1, .int .i64 x1, .int .u64 b1, .string s1, .slice la1 lm1 lc1, .int .i64 ru1, .int .i64 nu1, .int .i64 wa1, .int .i64 pf1, .int .u64 (pc1 : Int), .int .i64 pm1, .slice ca1 cds1.length cc1, .slice aa1 ads1.length ac1] 31)).alloc (.cells #[.int .i64 rk2, .string f2, .string q2, .string nm2, .int .i64 k2, .int .i64 x2, .int .u64 b2, .string s2, .slice la2 lm2 lc2, .int .i64 ru2, .int .i64 nu2, .int .i64 wa2, .int .i64 pf2, .int .u64 (pc2 : Int), .int .i64 pm2, .slice ca2 cds2.length cc2, .slice aa2 ads2.length ac2] 31))) := hW0
  have TB : W0.heap[w.heap.size]? = some (.cells #[.int .i64 rk1, .string f1, .string q1, .string nm1, .int .i64 k1, .int .i64 x1, .int .u64 b1, .string s1, .slice la1 lm1 lc1, .int .i64 ru1, .int .i64 nu1, .int .i64 wa1, .int .i64 pf1, .int .u64 (pc1 : Int), .int .i64 pm1, .slice ca1 cds1.length cc1, .slice aa1 ads1.length ac1] 31 (0, 0)) ∧ W0.heap[w.heap.size + 1]? = some (.cells #[.int .i64 rk2, .string f2, .string q2, .string nm2, .int .i64 k2, .int .i64 x2, .int .u64 b2, .string s2, .slice la2 lm2 lc2, .int .i64 ru2, .int .i64 nu2, .int .i64 wa2, .int .i64 pf2, .int .u64 (pc2 : Int), .int .i64 pm2, .slice ca2 cds2.length cc2, .slice aa2 ads2.length ac2] 31 (0, 0)) ∧ Below w.heap.size w W0 := by rw [hW0]; exact two_boxes (Below.refl _ _)
  obtain ⟨bx1, bx2, hb0⟩ := TB
  have B0 : Hid (Below w.heap.size w W0) := hb0
  have X1 : Hid (W0.heap[w.heap.size]? = some (.cells #[.int .i64 rk1, .string f1, .string q1, .string nm1, .int .i64 k1, .int .i64 x1, .int .u64 b1, .string s1, .slice la1 lm1 lc1, .int .i64 ru1, .int .i64 nu1, .int .i64 wa1, .int .i64 pf1, .int .u64 (pc1 : Int), .int .i64 pm1, .slice ca1 cds1.length cc1, .slice aa1 ads1.length ac1] 31 (0, 0))) := bx1
  have X2 : Hid (W0.heap[w.heap.size + 1]? = some (.cells #[.int .i64 rk2, .string f2, .string q2, .string nm2, .int .i64 k2, .int .i64 x2, .int .u64 b2, .string s2, .slice la2 lm2 lc2, .int .i64 ru2, .int .i64 nu2, .int .i64 wa2, .int .i64 pf2, .int .u64 (pc2 : Int), .int .i64 pm2, .slice ca2 cds2.length cc2, .slice aa2 ads2.length ac2] 31 (0, 0))) := bx2
  have Z0 : Hid (w.heap.size + 1 < W0.heap.size) := (Array.getElem?_eq_some_iff.1 bx2).1
  have C1w : Hid (Calls Try.prog 34 #[.agg #[.int .i64 k1, .int .i64 x1, .int .u64 b1, .string s1, .slice la1 lm1 lc1], .agg #[.int .i64 k2, .int .i64 x2, .int .u64 b2, .string s2, .slice la2 lm2 lc2]] W0 (SmP W0 (t1 = t2))) := rsame_calls n _ _ _ _ W0 (hv1.below hb0) (hv2.below hb0)
  have HC1 : Hid (LsG 8 ElC W0 n ca1 cds1) := hc1.below elC hb0
  have HA1 : Hid (LsG 6 ElA W0 n aa1 ads1) := ha1.below elA hb0
  have HC2 : Hid (LsG 8 ElC W0 n ca2 cds2) := hc2.below elC hb0
  have HA2 : Hid (LsG 6 ElA W0 n aa2 ads2) := ha2.below elA hb0
  have HCL : Hid (cds1.length ≤ 9223372036854775807) := hcl
  have HAL : Hid (ads1.length ≤ 9223372036854775807) := hal
  clear hv1 hv2 hc1 hc2 ha1 ha2 hcl hal hW0 hb0 bx1 bx2
  by_cases hrk : rk1 = rk2
  rotate_left
  · have HD : Hid (¬ _) := hrk
    have drk : (rk1 == rk2) = false := by simpa using hrk
    have erk : (rk1 != rk2) = true := by simpa using hrk
    clear C1w
    have z1_0 := row_cell (j := 0) X1.out (v := .int .i64 rk1) rfl
    have z2_0 := row_cell (j := 0) X2.out (v := .int .i64 rk2) rfl
    have z1_1 := row_cell (j := 1) X1.out (v := .string f1) rfl
    have z2_1 := row_cell (j := 1) X2.out (v := .string f2) rfl
    have z1_2 := row_cell (j := 2) X1.out (v := .string q1) rfl
    have z2_2 := row_cell (j := 2) X2.out (v := .string q2) rfl
    have z1_3 := row_cell (j := 3) X1.out (v := .string nm1) rfl
    have z2_3 := row_cell (j := 3) X2.out (v := .string nm2) rfl
    go_enter Try.func12, Try.ntmps12
    go_upto_region 1 with fail
    rw [← HW0.out]
    clear hrk
    go_wp2_with fail
    go_ret
    exact ⟨⟨false, rfl, ⟨fun h => (by cases h), fun h => (HD.out (congrArg (fun z : Rq => z.rk) h)).elim⟩⟩, B0.out⟩
  subst hrk
  by_cases hf : f1 = f2
  rotate_left
  · have HD : Hid (¬ _) := hf
    have df : ¬ f1.toList = f2.toList := fun e => hf (tl_inj e)
    clear C1w
    have z1_0 := row_cell (j := 0) X1.out (v := .int .i64 rk1) rfl
    have z2_0 := row_cell (j := 0) X2.out (v := .int .i64 rk1) rfl
    have z1_1 := row_cell (j := 1) X1.out (v := .string f1) rfl
    have z2_1 := row_cell (j := 1) X2.out (v := .string f2) rfl
    have z1_2 := row_cell (j := 2) X1.out (v := .string q1) rfl
    have z2_2 := row_cell (j := 2) X2.out (v := .string q2) rfl
    have z1_3 := row_cell (j := 3) X1.out (v := .string nm1) rfl
    have z2_3 := row_cell (j := 3) X2.out (v := .string nm2) rfl
    go_enter Try.func12, Try.ntmps12
    go_upto_region 1 with fail
    rw [← HW0.out]
    clear hf
    go_wp2_with fail
    go_ret
    exact ⟨⟨false, rfl, ⟨fun h => (by cases h), fun h => (HD.out (congrArg (fun z : Rq => z.f) h)).elim⟩⟩, B0.out⟩
  subst hf
  by_cases hq : q1 = q2
  rotate_left
  · have HD : Hid (¬ _) := hq
    have dq : ¬ q1.toList = q2.toList := fun e => hq (tl_inj e)
    clear C1w
    have z1_0 := row_cell (j := 0) X1.out (v := .int .i64 rk1) rfl
    have z2_0 := row_cell (j := 0) X2.out (v := .int .i64 rk1) rfl
    have z1_1 := row_cell (j := 1) X1.out (v := .string f1) rfl
    have z2_1 := row_cell (j := 1) X2.out (v := .string f1) rfl
    have z1_2 := row_cell (j := 2) X1.out (v := .string q1) rfl
    have z2_2 := row_cell (j := 2) X2.out (v := .string q2) rfl
    have z1_3 := row_cell (j := 3) X1.out (v := .string nm1) rfl
    have z2_3 := row_cell (j := 3) X2.out (v := .string nm2) rfl
    go_enter Try.func12, Try.ntmps12
    go_upto_region 1 with fail
    rw [← HW0.out]
    clear hq
    go_wp2_with fail
    go_ret
    exact ⟨⟨false, rfl, ⟨fun h => (by cases h), fun h => (HD.out (congrArg (fun z : Rq => z.q) h)).elim⟩⟩, B0.out⟩
  subst hq
  by_cases hnm : nm1 = nm2
  rotate_left
  · have HD : Hid (¬ _) := hnm
    have dnm : ¬ nm1.toList = nm2.toList := fun e => hnm (tl_inj e)
    clear C1w
    have z1_0 := row_cell (j := 0) X1.out (v := .int .i64 rk1) rfl
    have z2_0 := row_cell (j := 0) X2.out (v := .int .i64 rk1) rfl
    have z1_1 := row_cell (j := 1) X1.out (v := .string f1) rfl
    have z2_1 := row_cell (j := 1) X2.out (v := .string f1) rfl
    have z1_2 := row_cell (j := 2) X1.out (v := .string q1) rfl
    have z2_2 := row_cell (j := 2) X2.out (v := .string q1) rfl
    have z1_3 := row_cell (j := 3) X1.out (v := .string nm1) rfl
    have z2_3 := row_cell (j := 3) X2.out (v := .string nm2) rfl
    go_enter Try.func12, Try.ntmps12
    go_upto_region 1 with fail
    rw [← HW0.out]
    clear hnm
    go_wp2_with fail
    go_ret
    exact ⟨⟨false, rfl, ⟨fun h => (by cases h), fun h => (HD.out (congrArg (fun z : Rq => z.nm) h)).elim⟩⟩, B0.out⟩
  subst hnm
  go_enter Try.func12, Try.ntmps12
  go_upto_region 1 with fail
  rw [← HW0.out]
  have z1_0 := row_cell (j := 0) X1.out (v := .int .i64 rk1) rfl
  have z2_0 := row_cell (j := 0) X2.out (v := .int .i64 rk1) rfl
  have z1_1 := row_cell (j := 1) X1.out (v := .string f1) rfl
  have z2_1 := row_cell (j := 1) X2.out (v := .string f1) rfl
  have z1_2 := row_cell (j := 2) X1.out (v := .string q1) rfl
  have z2_2 := row_cell (j := 2) X2.out (v := .string q1) rfl
  have z1_3 := row_cell (j := 3) X1.out (v := .string nm1) rfl
  have z2_3 := row_cell (j := 3) X2.out (v := .string nm1) rfl
  have z1_4 := row_cell (j := 4) X1.out (v := .int .i64 k1) rfl
  have z2_4 := row_cell (j := 4) X2.out (v := .int .i64 k2) rfl
  have z1_5 := row_cell (j := 5) X1.out (v := .int .i64 x1) rfl
  have z2_5 := row_cell (j := 5) X2.out (v := .int .i64 x2) rfl
  have z1_6 := row_cell (j := 6) X1.out (v := .int .u64 b1) rfl
  have z2_6 := row_cell (j := 6) X2.out (v := .int .u64 b2) rfl
  have z1_7 := row_cell (j := 7) X1.out (v := .string s1) rfl
  have z2_7 := row_cell (j := 7) X2.out (v := .string s2) rfl
  have z1_8 := row_cell (j := 8) X1.out (v := .slice la1 lm1 lc1) rfl
  have z2_8 := row_cell (j := 8) X2.out (v := .slice la2 lm2 lc2) rfl
  go_wp2_with fail
  clear z1_0 z2_0 z1_1 z2_1 z1_2 z2_2 z1_3 z2_3 z1_4 z2_4 z1_5 z2_5 z1_6 z2_6 z1_7 z2_7 z1_8 z2_8
  refine Calls.mono C1w.out ?_
  rintro e w1 ⟨⟨r1, rfl, hr1⟩, hb1⟩
  have HR1 : Hid (r1 = true ↔ _) := hr1
  have B1 : Hid (Below w.heap.size w w1) := bel2 B0.out hb1
  have Bw : Hid (Below W0.heap.size W0 w1) := hb1
  have Y1 : Hid (w1.heap[w.heap.size]? = some (.cells #[.int .i64 rk1, .string f1, .string q1, .string nm1, .int .i64 k1, .int .i64 x1, .int .u64 b1, .string s1, .slice la1 lm1 lc1, .int .i64 ru1, .int .i64 nu1, .int .i64 wa1, .int .i64 pf1, .int .u64 (pc1 : Int), .int .i64 pm1, .slice ca1 cds1.length cc1, .slice aa1 ads1.length ac1] 31 (0, 0))) := (hb1.block _ (by have := Z0.out; omega)).trans X1.out
  have Y2 : Hid (w1.heap[w.heap.size + 1]? = some (.cells #[.int .i64 rk1, .string f1, .string q1, .string nm1, .int .i64 k2, .int .i64 x2, .int .u64 b2, .string s2, .slice la2 lm2 lc2, .int .i64 ru2, .int .i64 nu2, .int .i64 wa2, .int .i64 pf2, .int .u64 (pc2 : Int), .int .i64 pm2, .slice ca2 cds2.length cc2, .slice aa2 ads2.length ac2] 31 (0, 0))) := (hb1.block _ (by have := Z0.out; omega)).trans X2.out
  have Z1 : Hid (w.heap.size + 1 < w1.heap.size) := Nat.lt_of_lt_of_le Z0.out hb1.size
  clear hb1 hr1 C1w
  cases r1
  · go_wp2_with fail
    go_ret
    exact ⟨⟨false, rfl, ⟨fun h => (by cases h), fun h => (show False by cases HR1.out.2 (congrArg (fun z : Rq => z.t) h)).elim⟩⟩, B1.out⟩
  · obtain rfl := HR1.out.1 rfl
    have z1_9 := row_cell (j := 9) Y1.out (v := .int .i64 ru1) rfl
    have z2_9 := row_cell (j := 9) Y2.out (v := .int .i64 ru2) rfl
    have z1_10 := row_cell (j := 10) Y1.out (v := .int .i64 nu1) rfl
    have z2_10 := row_cell (j := 10) Y2.out (v := .int .i64 nu2) rfl
    have z1_11 := row_cell (j := 11) Y1.out (v := .int .i64 wa1) rfl
    have z2_11 := row_cell (j := 11) Y2.out (v := .int .i64 wa2) rfl
    have z1_12 := row_cell (j := 12) Y1.out (v := .int .i64 pf1) rfl
    have z2_12 := row_cell (j := 12) Y2.out (v := .int .i64 pf2) rfl
    have z1_13 := row_cell (j := 13) Y1.out (v := .int .u64 (pc1 : Int)) rfl
    have z2_13 := row_cell (j := 13) Y2.out (v := .int .u64 (pc2 : Int)) rfl
    have z1_14 := row_cell (j := 14) Y1.out (v := .int .i64 pm1) rfl
    have z2_14 := row_cell (j := 14) Y2.out (v := .int .i64 pm2) rfl
    have z1_15 := row_cell (j := 15) Y1.out (v := .slice ca1 cds1.length cc1) rfl
    have z2_15 := row_cell (j := 15) Y2.out (v := .slice ca2 cds2.length cc2) rfl
    have z1_16 := row_cell (j := 16) Y1.out (v := .slice aa1 ads1.length ac1) rfl
    have z2_16 := row_cell (j := 16) Y2.out (v := .slice aa2 ads2.length ac2) rfl
    by_cases hru : ru1 = ru2
    rotate_left
    · have HD : Hid (¬ _) := hru
      have dru : (ru1 == ru2) = false := by simpa using hru
      have eru : (ru1 != ru2) = true := by simpa using hru
      clear hru
      go_wp2_with fail
      go_ret
      exact ⟨⟨false, rfl, ⟨fun h => (by cases h), fun h => (HD.out (congrArg (fun z : Rq => z.ru) h)).elim⟩⟩, B1.out⟩
    subst hru
    by_cases hnu : nu1 = nu2
    rotate_left
    · have HD : Hid (¬ _) := hnu
      have dnu : (nu1 == nu2) = false := by simpa using hnu
      have enu : (nu1 != nu2) = true := by simpa using hnu
      clear hnu
      go_wp2_with fail
      go_ret
      exact ⟨⟨false, rfl, ⟨fun h => (by cases h), fun h => (HD.out (congrArg (fun z : Rq => z.nu) h)).elim⟩⟩, B1.out⟩
    subst hnu
    by_cases hwa : wa1 = wa2
    rotate_left
    · have HD : Hid (¬ _) := hwa
      have dwa : (wa1 == wa2) = false := by simpa using hwa
      have ewa : (wa1 != wa2) = true := by simpa using hwa
      clear hwa
      go_wp2_with fail
      go_ret
      exact ⟨⟨false, rfl, ⟨fun h => (by cases h), fun h => (HD.out (congrArg (fun z : Rq => z.wa) h)).elim⟩⟩, B1.out⟩
    subst hwa
    by_cases hpo : pf1 = pf2 ∧ pc1 = pc2 ∧ pm1 = pm2
    rotate_left
    · have HD : Hid (¬ _) := hpo
      go_wp2_with fail
      all_goals (go_ret; exact ⟨⟨false, rfl, ⟨fun h => (by cases h), fun h => (HD.out ⟨congrArg (fun z : Rq => z.pf) h, congrArg (fun z : Rq => z.pc) h, congrArg (fun z : Rq => z.pm) h⟩).elim⟩⟩, B1.out⟩)
    obtain ⟨rfl, rfl, rfl⟩ := hpo
    by_cases hlcds : cds1.length = cds2.length
    rotate_left
    · have HD : Hid (¬ _) := hlcds
      have dcds : ((cds1.length : Int) != (cds2.length : Int)) = true := by simp; omega
      go_wp2_with fail
      go_ret
      exact ⟨⟨false, rfl, ⟨fun h => (by cases h), fun h => (HD.out (congrArg List.length (congrArg (fun z : Rq => z.cds) h))).elim⟩⟩, B1.out⟩
    by_cases hlads : ads1.length = ads2.length
    rotate_left
    · have HD : Hid (¬ _) := hlads
      have dads : ((ads1.length : Int) != (ads2.length : Int)) = true := by simp; omega
      go_wp2_with fail
      go_ret
      exact ⟨⟨false, rfl, ⟨fun h => (by cases h), fun h => (HD.out (congrArg List.length (congrArg (fun z : Rq => z.ads) h))).elim⟩⟩, B1.out⟩
    have HLC : Hid (cds1.length = cds2.length) := hlcds
    have HLA : Hid (ads1.length = ads2.length) := hlads
    have dc : ((cds1.length : Int) != (cds2.length : Int)) = false := by simp; omega
    have da : ((ads1.length : Int) != (ads2.length : Int)) = false := by simp; omega
    clear hlcds hlads
    go_wp2_with fail
    clear z1_9 z2_9 z1_10 z2_10 z1_11 z2_11 z1_12 z2_12 z1_13 z2_13 z1_14 z2_14 z1_15 z2_15 z1_16 z2_16
    clear dc da
    go_loopw [5] (fun i wr => ∃ j : Nat, j ≤ cds1.length ∧ i = .int .i64 j ∧ Hid (cds1.take j = cds2.take j) ∧ Hid (Below w1.heap.size w1 wr)) (fun i _ => cds1.length - (intOf i).toNat)
    case atStart => exact ⟨0, Nat.zero_le _, rfl, rfl, Below.refl _ _⟩
    case round =>
      obtain ⟨j, hj, rfl, HE, HB⟩ := hrel
      have V1 : Hid (wr.heap[w.heap.size]? = some (.cells #[.int .i64 rk1, .string f1, .string q1, .string nm1, .int .i64 k1, .int .i64 x1, .int .u64 b1, .string s1, .slice la1 lm1 lc1, .int .i64 ru1, .int .i64 nu1, .int .i64 wa1, .int .i64 pf1, .int .u64 (pc1 : Int), .int .i64 pm1, .slice ca1 cds1.length cc1, .slice aa1 ads1.length ac1] 31 (0, 0))) := (HB.out.block _ (by have := Z1.out; omega)).trans Y1.out
      have V2 : Hid (wr.heap[w.heap.size + 1]? = some (.cells #[.int .i64 rk1, .string f1, .string q1, .string nm1, .int .i64 k2, .int .i64 x2, .int .u64 b2, .string s2, .slice la2 lm2 lc2, .int .i64 ru1, .int .i64 nu1, .int .i64 wa1, .int .i64 pf1, .int .u64 (pc1 : Int), .int .i64 pm1, .slice ca2 cds2.length cc2, .slice aa2 ads2.length ac2] 31 (0, 0))) := (HB.out.block _ (by have := Z1.out; omega)).trans Y2.out
      have x1_15 := row_cell (j := 15) V1.out (v := .slice ca1 cds1.length cc1) rfl
      have x2_15 := row_cell (j := 15) V2.out (v := .slice ca2 cds2.length cc2) rfl
      by_cases hlt : j < cds1.length
      · have HL2 : Hid (j < cds2.length) := by show _ < _; have := HLC.out; omega
        obtain ⟨B, o, r1, h1, h5, hi⟩ := HC1.out j _ (List.getElem?_eq_getElem hlt)
        obtain ⟨B', o', r2, h2, h5', hi'⟩ := HC2.out j _ (List.getElem?_eq_getElem HL2.out)
        obtain ⟨⟨ck1, cn1, ct1, cd1⟩, hz1⟩ : ∃ z, z = cds1[j] := ⟨_, rfl⟩
        obtain ⟨⟨ck2, cn2, ct2, cd2⟩, hz2⟩ : ∃ z, z = cds2[j]'HL2.out := ⟨_, rfl⟩
        rw [← hz1] at hi
        rw [← hz2] at hi'
        have HZ : Hid ((ck1, cn1, ct1, cd1) = cds1[j] ∧ (ck2, cn2, ct2, cd2) = cds2[j]'HL2.out) := ⟨hz1, hz2⟩
        obtain ⟨ek1, ex1, eb1, es1, ea1, em1, ec1, rfl, hI1⟩ := hi
        obtain ⟨ek2, ex2, eb2, es2, ea2, em2, ec2, rfl, hI2⟩ := hi'
        dsimp only at hI1 h5
        dsimp only at hI2 h5'
        have CS : Hid (∀ W, Below wr.heap.size wr W → Calls Try.prog 34 #[.agg #[.int .i64 ek1, .int .i64 ex1, .int .u64 eb1, .string es1, .slice ea1 em1 ec1], .agg #[.int .i64 ek2, .int .i64 ex2, .int .u64 eb2, .string es2, .slice ea2 em2 ec2]] W (SmP W (ct1 = ct2))) := fun W hB => rsame_calls n _ _ _ _ W (hI1.below (bel2 (bel2 Bw.out HB.out) hB)) (hI2.below (bel2 (bel2 Bw.out HB.out) hB))
        have e1_0 := cellG (h5 0 _ rfl) (bel2 Bw.out HB.out)
        have e1_1 := cellG (h5 1 _ rfl) (bel2 Bw.out HB.out)
        have e1_2 := cellG (h5 2 _ rfl) (bel2 Bw.out HB.out)
        have e1_3 := cellG (h5 3 _ rfl) (bel2 Bw.out HB.out)
        have e1_4 := cellG (h5 4 _ rfl) (bel2 Bw.out HB.out)
        have e1_5 := cellG (h5 5 _ rfl) (bel2 Bw.out HB.out)
        have e1_6 := cellG (h5 6 _ rfl) (bel2 Bw.out HB.out)
        have e1_7 := cellG (h5 7 _ rfl) (bel2 Bw.out HB.out)
        have e2_0 := cellG (h5' 0 _ rfl) (bel2 Bw.out HB.out)
        have e2_1 := cellG (h5' 1 _ rfl) (bel2 Bw.out HB.out)
        have e2_2 := cellG (h5' 2 _ rfl) (bel2 Bw.out HB.out)
        have e2_3 := cellG (h5' 3 _ rfl) (bel2 Bw.out HB.out)
        have e2_4 := cellG (h5' 4 _ rfl) (bel2 Bw.out HB.out)
        have e2_5 := cellG (h5' 5 _ rfl) (bel2 Bw.out HB.out)
        have e2_6 := cellG (h5' 6 _ rfl) (bel2 Bw.out HB.out)
        have e2_7 := cellG (h5' 7 _ rfl) (bel2 Bw.out HB.out)
        dsimp only [Nat.add_zero] at e1_0 e2_0
        have HW : Hid (wrap64 ((j : Int) + 1) = ((j + 1 : Nat) : Int)) := wr1 hlt HCL.out
        have hjl : (j : Int) < (cds1.length : Int) := by omega
        have hjl2 : (j : Int) < (cds2.length : Int) := by have := HL2.out; omega
        rw [h1] at x1_15
        rw [h2] at x2_15
        clear h5 h5' hz1 hz2 h1 h2 hI1 hI2
        go_wp2_with fail
        go_region_held3 (fun w' => w'.cell? ⟨w.heap.size, 15, none⟩ = some (.slice (some ⟨B, o, none⟩) cds1.length cc1) ∧ w'.cell? ⟨w.heap.size + 1, 15, none⟩ = some (.slice (some ⟨B', o', none⟩) cds2.length cc2) ∧ w'.cell? ⟨B, o + j * 8, none⟩ = some (.int .i64 ck1) ∧ w'.cell? ⟨B, o + j * 8 + 1, none⟩ = some (.string cn1) ∧ w'.cell? ⟨B, o + j * 8 + 2, none⟩ = some (.int .i64 ek1) ∧ w'.cell? ⟨B, o + j * 8 + 3, none⟩ = some (.int .i64 ex1) ∧ w'.cell? ⟨B, o + j * 8 + 4, none⟩ = some (.int .u64 eb1) ∧ w'.cell? ⟨B, o + j * 8 + 5, none⟩ = some (.string es1) ∧ w'.cell? ⟨B, o + j * 8 + 6, none⟩ = some (.slice ea1 em1 ec1) ∧ w'.cell? ⟨B, o + j * 8 + 7, none⟩ = some (.int .i64 cd1) ∧ w'.cell? ⟨B', o' + j * 8, none⟩ = some (.int .i64 ck2) ∧ w'.cell? ⟨B', o' + j * 8 + 1, none⟩ = some (.string cn2) ∧ w'.cell? ⟨B', o' + j * 8 + 2, none⟩ = some (.int .i64 ek2) ∧ w'.cell? ⟨B', o' + j * 8 + 3, none⟩ = some (.int .i64 ex2) ∧ w'.cell? ⟨B', o' + j * 8 + 4, none⟩ = some (.int .u64 eb2) ∧ w'.cell? ⟨B', o' + j * 8 + 5, none⟩ = some (.string es2) ∧ w'.cell? ⟨B', o' + j * 8 + 6, none⟩ = some (.slice ea2 em2 ec2) ∧ w'.cell? ⟨B', o' + j * 8 + 7, none⟩ = some (.int .i64 cd2)) (go_keep) (fail)
        · obtain ⟨D, hD⟩ : ∃ D, D = ((wr.alloc (.cells #[.int .i64 ck1, .string cn1, .int .i64 ek1, .int .i64 ex1, .int .u64 eb1, .string es1, .slice ea1 em1 ec1, .int .i64 cd1] 71)).alloc (.cells #[.int .i64 ck2, .string cn2, .int .i64 ek2, .int .i64 ex2, .int .u64 eb2, .string es2, .slice ea2 em2 ec2, .int .i64 cd2] 71)).drew := ⟨_, rfl⟩
          have HD0 : Hid (D = ((wr.alloc (.cells #[.int .i64 ck1, .string cn1, .int .i64 ek1, .int .i64 ex1, .int .u64 eb1, .string es1, .slice ea1 em1 ec1, .int .i64 cd1] 71)).alloc (.cells #[.int .i64 ck2, .string cn2, .int .i64 ek2, .int .i64 ex2, .int .u64 eb2, .string es2, .slice ea2 em2 ec2, .int .i64 cd2] 71)).drew) := hD
          have TB : D.heap[wr.heap.size]? = some (.cells #[.int .i64 ck1, .string cn1, .int .i64 ek1, .int .i64 ex1, .int .u64 eb1, .string es1, .slice ea1 em1 ec1, .int .i64 cd1] 71 (0, 0)) ∧ D.heap[wr.heap.size + 1]? = some (.cells #[.int .i64 ck2, .string cn2, .int .i64 ek2, .int .i64 ex2, .int .u64 eb2, .string es2, .slice ea2 em2 ec2, .int .i64 cd2] 71 (0, 0)) ∧ Below wr.heap.size wr D := by rw [hD]; exact two_boxes (Below.refl _ _).drew
          obtain ⟨d1, d2, hbd⟩ := TB
          have BD : Hid (Below wr.heap.size wr D) := hbd
          have BBD : Hid (Below w.heap.size w D) := bel2 (bel2 B1.out HB.out) hbd
          have y1_0 := row_cell (j := 0) d1 (v := .int .i64 ck1) rfl
          have y2_0 := row_cell (j := 0) d2 (v := .int .i64 ck2) rfl
          have y1_1 := row_cell (j := 1) d1 (v := .string cn1) rfl
          have y2_1 := row_cell (j := 1) d2 (v := .string cn2) rfl
          have y1_2 := row_cell (j := 2) d1 (v := .int .i64 ek1) rfl
          have y2_2 := row_cell (j := 2) d2 (v := .int .i64 ek2) rfl
          have y1_3 := row_cell (j := 3) d1 (v := .int .i64 ex1) rfl
          have y2_3 := row_cell (j := 3) d2 (v := .int .i64 ex2) rfl
          have y1_4 := row_cell (j := 4) d1 (v := .int .u64 eb1) rfl
          have y2_4 := row_cell (j := 4) d2 (v := .int .u64 eb2) rfl
          have y1_5 := row_cell (j := 5) d1 (v := .string es1) rfl
          have y2_5 := row_cell (j := 5) d2 (v := .string es2) rfl
          have y1_6 := row_cell (j := 6) d1 (v := .slice ea1 em1 ec1) rfl
          have y2_6 := row_cell (j := 6) d2 (v := .slice ea2 em2 ec2) rfl
          have y1_7 := row_cell (j := 7) d1 (v := .int .i64 cd1) rfl
          have y2_7 := row_cell (j := 7) d2 (v := .int .i64 cd2) rfl
          clear hD d1 d2 hbd e1_0 e1_1 e1_2 e1_3 e1_4 e1_5 e1_6 e1_7 e2_0 e2_1 e2_2 e2_3 e2_4 e2_5 e2_6 e2_7 x1_15 x2_15
          go_upto_region 7 with fail
          rw [← HD0.out]
          by_cases hck : ck1 = ck2
          rotate_left
          · have hn : ¬ cds1[j] = cds2[j]'HL2.out := fun h => hck (congrArg (fun z => z.1) (HZ.out.1.trans (h.trans HZ.out.2.symm)))
            have HN : Hid (¬ _) := hn
            have dck : (ck1 == ck2) = false := by simpa using hck
            have fck : (ck1 != ck2) = true := by simpa using hck
            clear hck hn
            go_wp2_with fail
            go_ret
            exact ⟨⟨false, rfl, ⟨fun h => (by cases h), fun h => (show False from absurd (congrArg (fun z : Rq => z.cds) h) (fun e => HN.out (by subst e; rfl))).elim⟩⟩, BBD.out⟩
          subst hck
          by_cases hcn : cn1 = cn2
          rotate_left
          · have hn : ¬ cds1[j] = cds2[j]'HL2.out := fun h => hcn (congrArg (fun z => z.2.1) (HZ.out.1.trans (h.trans HZ.out.2.symm)))
            have HN : Hid (¬ _) := hn
            have dcn : ¬ cn1.toList = cn2.toList := fun e => hcn (tl_inj e)
            clear hcn hn
            go_wp2_with fail
            go_ret
            exact ⟨⟨false, rfl, ⟨fun h => (by cases h), fun h => (show False from absurd (congrArg (fun z : Rq => z.cds) h) (fun e => HN.out (by subst e; rfl))).elim⟩⟩, BBD.out⟩
          subst hcn
          by_cases hcd : cd1 = cd2
          rotate_left
          · have hn : ¬ cds1[j] = cds2[j]'HL2.out := fun h => hcd (congrArg (fun z => z.2.2.2) (HZ.out.1.trans (h.trans HZ.out.2.symm)))
            have HN : Hid (¬ _) := hn
            have dcd : (cd1 == cd2) = false := by simpa using hcd
            have fcd : (cd1 != cd2) = true := by simpa using hcd
            clear hcd hn
            go_wp2_with fail
            go_ret
            exact ⟨⟨false, rfl, ⟨fun h => (by cases h), fun h => (show False from absurd (congrArg (fun z : Rq => z.cds) h) (fun e => HN.out (by subst e; rfl))).elim⟩⟩, BBD.out⟩
          subst hcd
          have CD : Hid (Calls Try.prog 34 _ D (SmP D (ct1 = ct2))) := CS.out D BD.out
          go_wp2_with fail
          refine Calls.mono CD.out ?_
          rintro e w5 ⟨⟨r5, rfl, hr5⟩, hb5⟩
          have HR5 : Hid (r5 = true ↔ _) := hr5
          have B5 : Hid (Below w1.heap.size w1 w5) := bel2 (bel2 HB.out BD.out) hb5
          have BB5 : Hid (Below w.heap.size w w5) := bel2 B1.out B5.out
          clear hb5 hr5 CD y1_0 y1_1 y1_2 y1_3 y1_4 y1_5 y1_6 y1_7 y2_0 y2_1 y2_2 y2_3 y2_4 y2_5 y2_6 y2_7
          cases r5
          · have HN : Hid (¬ cds1[j] = cds2[j]'HL2.out) := fun h => by cases HR5.out.2 (congrArg (fun z => z.2.2.1) (HZ.out.1.trans (h.trans HZ.out.2.symm)))
            go_wp2_with fail
            go_ret
            exact ⟨⟨false, rfl, ⟨fun h => (by cases h), fun h => (show False from absurd (congrArg (fun z : Rq => z.cds) h) (fun e => HN.out (by subst e; rfl))).elim⟩⟩, BB5.out⟩
          · have HT : Hid (ct1 = ct2) := HR5.out.1 rfl
            go_wp2_with fail
            exact ⟨⟨j + 1, hlt, by rw [HW.out], take_moreG hlt HL2.out HE.out (HZ.out.1.symm.trans ((congrArg (fun t => (ck1, cn1, t, cd1)) HT.out).trans HZ.out.2)), B5⟩, meas hlt HW.out⟩
        · obtain ⟨D, hD⟩ : ∃ D, D = ((wr.alloc (.cells #[.int .i64 ck2, .string cn2, .int .i64 ek2, .int .i64 ex2, .int .u64 eb2, .string es2, .slice ea2 em2 ec2, .int .i64 cd2] 71)).alloc (.cells #[.int .i64 ck1, .string cn1, .int .i64 ek1, .int .i64 ex1, .int .u64 eb1, .string es1, .slice ea1 em1 ec1, .int .i64 cd1] 71)).drew := ⟨_, rfl⟩
          have HD0 : Hid (D = ((wr.alloc (.cells #[.int .i64 ck2, .string cn2, .int .i64 ek2, .int .i64 ex2, .int .u64 eb2, .string es2, .slice ea2 em2 ec2, .int .i64 cd2] 71)).alloc (.cells #[.int .i64 ck1, .string cn1, .int .i64 ek1, .int .i64 ex1, .int .u64 eb1, .string es1, .slice ea1 em1 ec1, .int .i64 cd1] 71)).drew) := hD
          have TB : D.heap[wr.heap.size]? = some (.cells #[.int .i64 ck2, .string cn2, .int .i64 ek2, .int .i64 ex2, .int .u64 eb2, .string es2, .slice ea2 em2 ec2, .int .i64 cd2] 71 (0, 0)) ∧ D.heap[wr.heap.size + 1]? = some (.cells #[.int .i64 ck1, .string cn1, .int .i64 ek1, .int .i64 ex1, .int .u64 eb1, .string es1, .slice ea1 em1 ec1, .int .i64 cd1] 71 (0, 0)) ∧ Below wr.heap.size wr D := by rw [hD]; exact two_boxes (Below.refl _ _).drew
          obtain ⟨d1, d2, hbd⟩ := TB
          have BD : Hid (Below wr.heap.size wr D) := hbd
          have BBD : Hid (Below w.heap.size w D) := bel2 (bel2 B1.out HB.out) hbd
          have y2_0 := row_cell (j := 0) d1 (v := .int .i64 ck2) rfl
          have y1_0 := row_cell (j := 0) d2 (v := .int .i64 ck1) rfl
          have y2_1 := row_cell (j := 1) d1 (v := .string cn2) rfl
          have y1_1 := row_cell (j := 1) d2 (v := .string cn1) rfl
          have y2_2 := row_cell (j := 2) d1 (v := .int .i64 ek2) rfl
          have y1_2 := row_cell (j := 2) d2 (v := .int .i64 ek1) rfl
          have y2_3 := row_cell (j := 3) d1 (v := .int .i64 ex2) rfl
          have y1_3 := row_cell (j := 3) d2 (v := .int .i64 ex1) rfl
          have y2_4 := row_cell (j := 4) d1 (v := .int .u64 eb2) rfl
          have y1_4 := row_cell (j := 4) d2 (v := .int .u64 eb1) rfl
          have y2_5 := row_cell (j := 5) d1 (v := .string es2) rfl
          have y1_5 := row_cell (j := 5) d2 (v := .string es1) rfl
          have y2_6 := row_cell (j := 6) d1 (v := .slice ea2 em2 ec2) rfl
          have y1_6 := row_cell (j := 6) d2 (v := .slice ea1 em1 ec1) rfl
          have y2_7 := row_cell (j := 7) d1 (v := .int .i64 cd2) rfl
          have y1_7 := row_cell (j := 7) d2 (v := .int .i64 cd1) rfl
          clear hD d1 d2 hbd e1_0 e1_1 e1_2 e1_3 e1_4 e1_5 e1_6 e1_7 e2_0 e2_1 e2_2 e2_3 e2_4 e2_5 e2_6 e2_7 x1_15 x2_15
          go_upto_region 7 with fail
          rw [← HD0.out]
          by_cases hck : ck1 = ck2
          rotate_left
          · have hn : ¬ cds1[j] = cds2[j]'HL2.out := fun h => hck (congrArg (fun z => z.1) (HZ.out.1.trans (h.trans HZ.out.2.symm)))
            have HN : Hid (¬ _) := hn
            have dck : (ck1 == ck2) = false := by simpa using hck
            have fck : (ck1 != ck2) = true := by simpa using hck
            clear hck hn
            go_wp2_with fail
            go_ret
            exact ⟨⟨false, rfl, ⟨fun h => (by cases h), fun h => (show False from absurd (congrArg (fun z : Rq => z.cds) h) (fun e => HN.out (by subst e; rfl))).elim⟩⟩, BBD.out⟩
          subst hck
          by_cases hcn : cn1 = cn2
          rotate_left
          · have hn : ¬ cds1[j] = cds2[j]'HL2.out := fun h => hcn (congrArg (fun z => z.2.1) (HZ.out.1.trans (h.trans HZ.out.2.symm)))
            have HN : Hid (¬ _) := hn
            have dcn : ¬ cn1.toList = cn2.toList := fun e => hcn (tl_inj e)
            clear hcn hn
            go_wp2_with fail
            go_ret
            exact ⟨⟨false, rfl, ⟨fun h => (by cases h), fun h => (show False from absurd (congrArg (fun z : Rq => z.cds) h) (fun e => HN.out (by subst e; rfl))).elim⟩⟩, BBD.out⟩
          subst hcn
          by_cases hcd : cd1 = cd2
          rotate_left
          · have hn : ¬ cds1[j] = cds2[j]'HL2.out := fun h => hcd (congrArg (fun z => z.2.2.2) (HZ.out.1.trans (h.trans HZ.out.2.symm)))
            have HN : Hid (¬ _) := hn
            have dcd : (cd1 == cd2) = false := by simpa using hcd
            have fcd : (cd1 != cd2) = true := by simpa using hcd
            clear hcd hn
            go_wp2_with fail
            go_ret
            exact ⟨⟨false, rfl, ⟨fun h => (by cases h), fun h => (show False from absurd (congrArg (fun z : Rq => z.cds) h) (fun e => HN.out (by subst e; rfl))).elim⟩⟩, BBD.out⟩
          subst hcd
          have CD : Hid (Calls Try.prog 34 _ D (SmP D (ct1 = ct2))) := CS.out D BD.out
          go_wp2_with fail
          refine Calls.mono CD.out ?_
          rintro e w5 ⟨⟨r5, rfl, hr5⟩, hb5⟩
          have HR5 : Hid (r5 = true ↔ _) := hr5
          have B5 : Hid (Below w1.heap.size w1 w5) := bel2 (bel2 HB.out BD.out) hb5
          have BB5 : Hid (Below w.heap.size w w5) := bel2 B1.out B5.out
          clear hb5 hr5 CD y1_0 y1_1 y1_2 y1_3 y1_4 y1_5 y1_6 y1_7 y2_0 y2_1 y2_2 y2_3 y2_4 y2_5 y2_6 y2_7
          cases r5
          · have HN : Hid (¬ cds1[j] = cds2[j]'HL2.out) := fun h => by cases HR5.out.2 (congrArg (fun z => z.2.2.1) (HZ.out.1.trans (h.trans HZ.out.2.symm)))
            go_wp2_with fail
            go_ret
            exact ⟨⟨false, rfl, ⟨fun h => (by cases h), fun h => (show False from absurd (congrArg (fun z : Rq => z.cds) h) (fun e => HN.out (by subst e; rfl))).elim⟩⟩, BB5.out⟩
          · have HT : Hid (ct1 = ct2) := HR5.out.1 rfl
            go_wp2_with fail
            exact ⟨⟨j + 1, hlt, by rw [HW.out], take_moreG hlt HL2.out HE.out (HZ.out.1.symm.trans ((congrArg (fun t => (ck1, cn1, t, cd1)) HT.out).trans HZ.out.2)), B5⟩, meas hlt HW.out⟩
      · obtain rfl : j = cds1.length := by omega
        have HCD : Hid (cds1 = cds2) := by have h := HE.out; rw [List.take_length] at h; have := HLC.out; rw [this, List.take_length] at h; exact h
        obtain ⟨wq, rfl⟩ : ∃ z, z = wr := ⟨_, rfl⟩
        have HBq := HB
        clear V1 V2 HE HB hlt hj
        go_wp2_with fail
        go_loopw [8] (fun i wr => ∃ j : Nat, j ≤ ads1.length ∧ i = .int .i64 j ∧ Hid (ads1.take j = ads2.take j) ∧ Hid (Below w1.heap.size w1 wr)) (fun i _ => ads1.length - (intOf i).toNat)
        case atStart => exact ⟨0, Nat.zero_le _, rfl, rfl, HBq⟩
        case round =>
          obtain ⟨k, hk, rfl, HE, HB⟩ := hrel
          have V1 : Hid (wr.heap[w.heap.size]? = some (.cells #[.int .i64 rk1, .string f1, .string q1, .string nm1, .int .i64 k1, .int .i64 x1, .int .u64 b1, .string s1, .slice la1 lm1 lc1, .int .i64 ru1, .int .i64 nu1, .int .i64 wa1, .int .i64 pf1, .int .u64 (pc1 : Int), .int .i64 pm1, .slice ca1 cds1.length cc1, .slice aa1 ads1.length ac1] 31 (0, 0))) := (HB.out.block _ (by have := Z1.out; omega)).trans Y1.out
          have V2 : Hid (wr.heap[w.heap.size + 1]? = some (.cells #[.int .i64 rk1, .string f1, .string q1, .string nm1, .int .i64 k2, .int .i64 x2, .int .u64 b2, .string s2, .slice la2 lm2 lc2, .int .i64 ru1, .int .i64 nu1, .int .i64 wa1, .int .i64 pf1, .int .u64 (pc1 : Int), .int .i64 pm1, .slice ca2 cds2.length cc2, .slice aa2 ads2.length ac2] 31 (0, 0))) := (HB.out.block _ (by have := Z1.out; omega)).trans Y2.out
          have BBW : Hid (Below w.heap.size w wr) := bel2 B1.out HB.out
          have x1_16 := row_cell (j := 16) V1.out (v := .slice aa1 ads1.length ac1) rfl
          have x2_16 := row_cell (j := 16) V2.out (v := .slice aa2 ads2.length ac2) rfl
          by_cases hlt : k < ads1.length
          · have HL2 : Hid (k < ads2.length) := by show _ < _; have := HLA.out; omega
            obtain ⟨B, o, r1, h1, h5, hi⟩ := HA1.out k _ (List.getElem?_eq_getElem hlt)
            obtain ⟨B', o', r2, h2, h5', hi'⟩ := HA2.out k _ (List.getElem?_eq_getElem HL2.out)
            obtain ⟨⟨op1, ct1⟩, hz1⟩ : ∃ z, z = ads1[k] := ⟨_, rfl⟩
            obtain ⟨⟨op2, ct2⟩, hz2⟩ : ∃ z, z = ads2[k]'HL2.out := ⟨_, rfl⟩
            rw [← hz1] at hi
            rw [← hz2] at hi'
            have HZ : Hid ((op1, ct1) = ads1[k] ∧ (op2, ct2) = ads2[k]'HL2.out) := ⟨hz1, hz2⟩
            obtain ⟨ek1, ex1, eb1, es1, ea1, em1, ec1, rfl, hI1⟩ := hi
            obtain ⟨ek2, ex2, eb2, es2, ea2, em2, ec2, rfl, hI2⟩ := hi'
            dsimp only at hI1 h5
            dsimp only at hI2 h5'
            have CS : Hid (∀ W, Below wr.heap.size wr W → Calls Try.prog 34 #[.agg #[.int .i64 ek1, .int .i64 ex1, .int .u64 eb1, .string es1, .slice ea1 em1 ec1], .agg #[.int .i64 ek2, .int .i64 ex2, .int .u64 eb2, .string es2, .slice ea2 em2 ec2]] W (SmP W (ct1 = ct2))) := fun W hB => rsame_calls n _ _ _ _ W (hI1.below (bel2 (bel2 Bw.out HB.out) hB)) (hI2.below (bel2 (bel2 Bw.out HB.out) hB))
            have e1_0 := cellG (h5 0 _ rfl) (bel2 Bw.out HB.out)
            have e1_1 := cellG (h5 1 _ rfl) (bel2 Bw.out HB.out)
            have e1_2 := cellG (h5 2 _ rfl) (bel2 Bw.out HB.out)
            have e1_3 := cellG (h5 3 _ rfl) (bel2 Bw.out HB.out)
            have e1_4 := cellG (h5 4 _ rfl) (bel2 Bw.out HB.out)
            have e1_5 := cellG (h5 5 _ rfl) (bel2 Bw.out HB.out)
            have e2_0 := cellG (h5' 0 _ rfl) (bel2 Bw.out HB.out)
            have e2_1 := cellG (h5' 1 _ rfl) (bel2 Bw.out HB.out)
            have e2_2 := cellG (h5' 2 _ rfl) (bel2 Bw.out HB.out)
            have e2_3 := cellG (h5' 3 _ rfl) (bel2 Bw.out HB.out)
            have e2_4 := cellG (h5' 4 _ rfl) (bel2 Bw.out HB.out)
            have e2_5 := cellG (h5' 5 _ rfl) (bel2 Bw.out HB.out)
            dsimp only [Nat.add_zero] at e1_0 e2_0
            have HW : Hid (wrap64 ((k : Int) + 1) = ((k + 1 : Nat) : Int)) := wr1 hlt HAL.out
            have hjl : (k : Int) < (ads1.length : Int) := by omega
            have hjl2 : (k : Int) < (ads2.length : Int) := by have := HL2.out; omega
            rw [h1] at x1_16
            rw [h2] at x2_16
            clear h5 h5' hz1 hz2 h1 h2 hI1 hI2
            by_cases hop : op1 = op2
            rotate_left
            · have hn : ¬ ads1[k] = ads2[k]'HL2.out := fun h => hop (congrArg (fun z => z.1) (HZ.out.1.trans (h.trans HZ.out.2.symm)))
              have HN : Hid (¬ _) := hn
              have dop : (op1 == op2) = false := by simpa using hop
              have fop : (op1 != op2) = true := by simpa using hop
              clear hop hn
              go_wp2_with fail
              refine wp_region_held_drew (S := (fun w' => w'.cell? ⟨w.heap.size, 16, none⟩ = some (.slice (some ⟨B, o, none⟩) ads1.length ac1) ∧ w'.cell? ⟨w.heap.size + 1, 16, none⟩ = some (.slice (some ⟨B', o', none⟩) ads2.length ac2) ∧ w'.cell? ⟨B, o + k * 6, none⟩ = some (.int .i64 op1) ∧ w'.cell? ⟨B, o + k * 6 + 1, none⟩ = some (.int .i64 ek1) ∧ w'.cell? ⟨B, o + k * 6 + 2, none⟩ = some (.int .i64 ex1) ∧ w'.cell? ⟨B, o + k * 6 + 3, none⟩ = some (.int .u64 eb1) ∧ w'.cell? ⟨B, o + k * 6 + 4, none⟩ = some (.string es1) ∧ w'.cell? ⟨B, o + k * 6 + 5, none⟩ = some (.slice ea1 em1 ec1) ∧ w'.cell? ⟨B', o' + k * 6, none⟩ = some (.int .i64 op2) ∧ w'.cell? ⟨B', o' + k * 6 + 1, none⟩ = some (.int .i64 ek2) ∧ w'.cell? ⟨B', o' + k * 6 + 2, none⟩ = some (.int .i64 ex2) ∧ w'.cell? ⟨B', o' + k * 6 + 3, none⟩ = some (.int .u64 eb2) ∧ w'.cell? ⟨B', o' + k * 6 + 4, none⟩ = some (.string es2) ∧ w'.cell? ⟨B', o' + k * 6 + 5, none⟩ = some (.slice ea2 em2 ec2))) (by kernel_rfl) (by go_keep) (fun hHeld => ?_)
              change wpAnyH _ _ _ _ _ _ _ _ (World.drew _)
              refine wpAnyH_take (i := 0) (oi := { dst := some 140, op := Go.Op.fieldAddr 31 (Go.Operand.tmp 2) 10, type := 0, pos := "ref.go:183", after := #[], guard := none }) (v := ?_) rfl (by kernel_rfl) (by kernel_rfl) (by kernel_rfl) (fun _ _ _ h => h) (Or.inl ⟨by rfl, ?_⟩) hHeld ?_
              rotate_left 1
              · (intro w hSw; (try dsimp only at hSw); go_simp <;> with_reducible rfl)
              simp only [Act.put, List.setIfInBounds_toArray, List.set_cons_zero, List.set_cons_succ]
              refine wpAnyH_take (i := 1) (oi := { dst := some 141, op := Go.Op.load 29 (Go.Operand.tmp 140), type := 29, pos := "ref.go:183", after := #[{ on := 0, ground := Go.Ground.data }], guard := none }) (v := ?_) rfl (by kernel_rfl) (by kernel_rfl) (by kernel_rfl) (fun _ _ _ h => h) (Or.inl ⟨by rfl, ?_⟩) hHeld ?_
              rotate_left 1
              · (intro w hSw; (try dsimp only at hSw); go_simp <;> with_reducible rfl)
              simp only [Act.put, List.setIfInBounds_toArray, List.set_cons_zero, List.set_cons_succ]
              refine wpAnyH_take (i := 2) (oi := { dst := some 142, op := Go.Op.move (Go.Operand.tmp 8), type := 3, pos := "ref.go:183", after := #[], guard := none }) (v := ?_) rfl (by kernel_rfl) (by kernel_rfl) (by kernel_rfl) (fun _ _ _ h => h) (Or.inl ⟨by rfl, ?_⟩) hHeld ?_
              rotate_left 1
              · (intro w hSw; (try dsimp only at hSw); go_simp <;> with_reducible rfl)
              simp only [Act.put, List.setIfInBounds_toArray, List.set_cons_zero, List.set_cons_succ]
              refine wpAnyH_take (i := 3) (oi := { dst := some 143, op := Go.Op.indexAddr 29 (Go.Operand.tmp 141) (Go.Operand.tmp 142), type := 0, pos := "ref.go:183", after := #[{ on := 1, ground := Go.Ground.data }, { on := 2, ground := Go.Ground.data }], guard := none }) (v := ?_) rfl (by kernel_rfl) (by kernel_rfl) (by kernel_rfl) (fun _ _ _ h => h) (Or.inl ⟨by rfl, ?_⟩) hHeld ?_
              rotate_left 1
              · (intro w hSw; (try dsimp only at hSw); go_simp <;> with_reducible rfl)
              simp only [Act.put, List.setIfInBounds_toArray, List.set_cons_zero, List.set_cons_succ]
              refine wpAnyH_take (i := 4) (oi := { dst := some 144, op := Go.Op.fieldAddr 73 (Go.Operand.tmp 143) 0, type := 0, pos := "ref.go:183", after := #[{ on := 3, ground := Go.Ground.data }], guard := none }) (v := ?_) rfl (by kernel_rfl) (by kernel_rfl) (by kernel_rfl) (fun _ _ _ h => h) (Or.inl ⟨by rfl, ?_⟩) hHeld ?_
              rotate_left 1
              · (intro w hSw; (try dsimp only at hSw); go_simp <;> with_reducible rfl)
              simp only [Act.put, List.setIfInBounds_toArray, List.set_cons_zero, List.set_cons_succ]
              refine wpAnyH_take (i := 5) (oi := { dst := some 145, op := Go.Op.load 3 (Go.Operand.tmp 144), type := 3, pos := "ref.go:183", after := #[{ on := 4, ground := Go.Ground.data }], guard := none }) (v := ?_) rfl (by kernel_rfl) (by kernel_rfl) (by kernel_rfl) (fun _ _ _ h => h) (Or.inl ⟨by rfl, ?_⟩) hHeld ?_
              rotate_left 1
              · (intro w hSw; (try dsimp only at hSw); go_simp <;> with_reducible rfl)
              simp only [Act.put, List.setIfInBounds_toArray, List.set_cons_zero, List.set_cons_succ]
              refine wpAnyH_take (i := 6) (oi := { dst := some 146, op := Go.Op.fieldAddr 31 (Go.Operand.tmp 3) 10, type := 0, pos := "ref.go:183", after := #[], guard := none }) (v := ?_) rfl (by kernel_rfl) (by kernel_rfl) (by kernel_rfl) (fun _ _ _ h => h) (Or.inl ⟨by rfl, ?_⟩) hHeld ?_
              rotate_left 1
              · (intro w hSw; (try dsimp only at hSw); go_simp <;> with_reducible rfl)
              simp only [Act.put, List.setIfInBounds_toArray, List.set_cons_zero, List.set_cons_succ]
              refine wpAnyH_take (i := 7) (oi := { dst := some 147, op := Go.Op.load 29 (Go.Operand.tmp 146), type := 29, pos := "ref.go:183", after := #[{ on := 6, ground := Go.Ground.data }], guard := none }) (v := ?_) rfl (by kernel_rfl) (by kernel_rfl) (by kernel_rfl) (fun _ _ _ h => h) (Or.inl ⟨by rfl, ?_⟩) hHeld ?_
              rotate_left 1
              · (intro w hSw; (try dsimp only at hSw); go_simp <;> with_reducible rfl)
              simp only [Act.put, List.setIfInBounds_toArray, List.set_cons_zero, List.set_cons_succ]
              refine wpAnyH_take (i := 8) (oi := { dst := some 148, op := Go.Op.move (Go.Operand.tmp 8), type := 3, pos := "ref.go:183", after := #[], guard := none }) (v := ?_) rfl (by kernel_rfl) (by kernel_rfl) (by kernel_rfl) (fun _ _ _ h => h) (Or.inl ⟨by rfl, ?_⟩) hHeld ?_
              rotate_left 1
              · (intro w hSw; (try dsimp only at hSw); go_simp <;> with_reducible rfl)
              simp only [Act.put, List.setIfInBounds_toArray, List.set_cons_zero, List.set_cons_succ]
              refine wpAnyH_take (i := 9) (oi := { dst := some 149, op := Go.Op.indexAddr 29 (Go.Operand.tmp 147) (Go.Operand.tmp 148), type := 0, pos := "ref.go:183", after := #[{ on := 7, ground := Go.Ground.data }, { on := 8, ground := Go.Ground.data }], guard := none }) (v := ?_) rfl (by kernel_rfl) (by kernel_rfl) (by kernel_rfl) (fun _ _ _ h => h) (Or.inl ⟨by rfl, ?_⟩) hHeld ?_
              rotate_left 1
              · (intro w hSw; (try dsimp only at hSw); go_simp <;> with_reducible rfl)
              simp only [Act.put, List.setIfInBounds_toArray, List.set_cons_zero, List.set_cons_succ]
              refine wpAnyH_take (i := 10) (oi := { dst := some 150, op := Go.Op.fieldAddr 73 (Go.Operand.tmp 149) 0, type := 0, pos := "ref.go:183", after := #[{ on := 9, ground := Go.Ground.data }], guard := none }) (v := ?_) rfl (by kernel_rfl) (by kernel_rfl) (by kernel_rfl) (fun _ _ _ h => h) (Or.inl ⟨by rfl, ?_⟩) hHeld ?_
              rotate_left 1
              · (intro w hSw; (try dsimp only at hSw); go_simp <;> with_reducible rfl)
              simp only [Act.put, List.setIfInBounds_toArray, List.set_cons_zero, List.set_cons_succ]
              refine wpAnyH_take (i := 11) (oi := { dst := some 151, op := Go.Op.load 3 (Go.Operand.tmp 150), type := 3, pos := "ref.go:183", after := #[{ on := 10, ground := Go.Ground.data }], guard := none }) (v := ?_) rfl (by kernel_rfl) (by kernel_rfl) (by kernel_rfl) (fun _ _ _ h => h) (Or.inl ⟨by rfl, ?_⟩) hHeld ?_
              rotate_left 1
              · (intro w hSw; (try dsimp only at hSw); go_simp <;> with_reducible rfl)
              simp only [Act.put, List.setIfInBounds_toArray, List.set_cons_zero, List.set_cons_succ]
              refine wpAnyH_take (i := 12) (oi := { dst := some 152, op := Go.Op.binOp Go.BinOp.neq 3 (Go.Operand.tmp 145) (Go.Operand.tmp 151) 3, type := 4, pos := "ref.go:183", after := #[{ on := 5, ground := Go.Ground.data }, { on := 11, ground := Go.Ground.data }], guard := none }) (v := ?_) rfl (by kernel_rfl) (by kernel_rfl) (by kernel_rfl) (fun _ _ _ h => h) (Or.inl ⟨by rfl, ?_⟩) hHeld ?_
              rotate_left 1
              · (intro w hSw; (try dsimp only at hSw); go_simp <;> with_reducible rfl)
              simp only [Act.put, List.setIfInBounds_toArray, List.set_cons_zero, List.set_cons_succ]
              refine wpAnyH_take (i := 13) (oi := { dst := some 153, op := Go.Op.move (Go.Operand.tmp 152), type := 4, pos := "ref.go:183", after := #[{ on := 12, ground := Go.Ground.data }], guard := none }) (v := ?_) rfl (by kernel_rfl) (by kernel_rfl) (by kernel_rfl) (fun _ _ _ h => h) (Or.inl ⟨by rfl, ?_⟩) hHeld ?_
              rotate_left 1
              · (intro w hSw; (try dsimp only at hSw); go_simp <;> with_reducible rfl)
              simp only [Act.put, List.setIfInBounds_toArray, List.set_cons_zero, List.set_cons_succ]
              refine wpAnyH_take (i := 14) (oi := { dst := some 154, op := Go.Op.fieldAddr 31 (Go.Operand.tmp 2) 10, type := 0, pos := "ref.go:183", after := #[{ on := 13, ground := Go.Ground.guard }], guard := some (13, false) }) (v := undef) rfl (by kernel_rfl) (by kernel_rfl) (by kernel_rfl) (fun _ _ _ h => h) (Or.inr ⟨by rfl, rfl⟩) hHeld ?_
              simp only [Act.put, List.setIfInBounds_toArray, List.set_cons_zero, List.set_cons_succ]
              refine wpAnyH_take (i := 15) (oi := { dst := some 155, op := Go.Op.load 29 (Go.Operand.tmp 154), type := 29, pos := "ref.go:183", after := #[{ on := 14, ground := Go.Ground.data }, { on := 13, ground := Go.Ground.guard }], guard := some (13, false) }) (v := undef) rfl (by kernel_rfl) (by kernel_rfl) (by kernel_rfl) (fun _ _ _ h => h) (Or.inr ⟨by rfl, rfl⟩) hHeld ?_
              simp only [Act.put, List.setIfInBounds_toArray, List.set_cons_zero, List.set_cons_succ]
              refine wpAnyH_take (i := 16) (oi := { dst := some 156, op := Go.Op.move (Go.Operand.tmp 8), type := 3, pos := "ref.go:183", after := #[{ on := 13, ground := Go.Ground.guard }], guard := some (13, false) }) (v := undef) rfl (by kernel_rfl) (by kernel_rfl) (by kernel_rfl) (fun _ _ _ h => h) (Or.inr ⟨by rfl, rfl⟩) hHeld ?_
              simp only [Act.put, List.setIfInBounds_toArray, List.set_cons_zero, List.set_cons_succ]
              refine wpAnyH_take (i := 17) (oi := { dst := some 157, op := Go.Op.indexAddr 29 (Go.Operand.tmp 155) (Go.Operand.tmp 156), type := 0, pos := "ref.go:183", after := #[{ on := 15, ground := Go.Ground.data }, { on := 16, ground := Go.Ground.data }, { on := 13, ground := Go.Ground.guard }], guard := some (13, false) }) (v := undef) rfl (by kernel_rfl) (by kernel_rfl) (by kernel_rfl) (fun _ _ _ h => h) (Or.inr ⟨by rfl, rfl⟩) hHeld ?_
              simp only [Act.put, List.setIfInBounds_toArray, List.set_cons_zero, List.set_cons_succ]
              refine wpAnyH_take (i := 18) (oi := { dst := some 158, op := Go.Op.fieldAddr 73 (Go.Operand.tmp 157) 1, type := 0, pos := "ref.go:183", after := #[{ on := 17, ground := Go.Ground.data }, { on := 13, ground := Go.Ground.guard }], guard := some (13, false) }) (v := undef) rfl (by kernel_rfl) (by kernel_rfl) (by kernel_rfl) (fun _ _ _ h => h) (Or.inr ⟨by rfl, rfl⟩) hHeld ?_
              simp only [Act.put, List.setIfInBounds_toArray, List.set_cons_zero, List.set_cons_succ]
              refine wpAnyH_take (i := 19) (oi := { dst := some 159, op := Go.Op.load 25 (Go.Operand.tmp 158), type := 25, pos := "ref.go:183", after := #[{ on := 18, ground := Go.Ground.data }, { on := 13, ground := Go.Ground.guard }], guard := some (13, false) }) (v := undef) rfl (by kernel_rfl) (by kernel_rfl) (by kernel_rfl) (fun _ _ _ h => h) (Or.inr ⟨by rfl, rfl⟩) hHeld ?_
              simp only [Act.put, List.setIfInBounds_toArray, List.set_cons_zero, List.set_cons_succ]
              refine wpAnyH_take (i := 20) (oi := { dst := some 160, op := Go.Op.fieldAddr 31 (Go.Operand.tmp 3) 10, type := 0, pos := "ref.go:183", after := #[{ on := 13, ground := Go.Ground.guard }], guard := some (13, false) }) (v := undef) rfl (by kernel_rfl) (by kernel_rfl) (by kernel_rfl) (fun _ _ _ h => h) (Or.inr ⟨by rfl, rfl⟩) hHeld ?_
              simp only [Act.put, List.setIfInBounds_toArray, List.set_cons_zero, List.set_cons_succ]
              refine wpAnyH_take (i := 21) (oi := { dst := some 161, op := Go.Op.load 29 (Go.Operand.tmp 160), type := 29, pos := "ref.go:183", after := #[{ on := 20, ground := Go.Ground.data }, { on := 13, ground := Go.Ground.guard }], guard := some (13, false) }) (v := undef) rfl (by kernel_rfl) (by kernel_rfl) (by kernel_rfl) (fun _ _ _ h => h) (Or.inr ⟨by rfl, rfl⟩) hHeld ?_
              simp only [Act.put, List.setIfInBounds_toArray, List.set_cons_zero, List.set_cons_succ]
              refine wpAnyH_take (i := 22) (oi := { dst := some 162, op := Go.Op.move (Go.Operand.tmp 8), type := 3, pos := "ref.go:183", after := #[{ on := 13, ground := Go.Ground.guard }], guard := some (13, false) }) (v := undef) rfl (by kernel_rfl) (by kernel_rfl) (by kernel_rfl) (fun _ _ _ h => h) (Or.inr ⟨by rfl, rfl⟩) hHeld ?_
              simp only [Act.put, List.setIfInBounds_toArray, List.set_cons_zero, List.set_cons_succ]
              refine wpAnyH_take (i := 23) (oi := { dst := some 163, op := Go.Op.indexAddr 29 (Go.Operand.tmp 161) (Go.Operand.tmp 162), type := 0, pos := "ref.go:183", after := #[{ on := 21, ground := Go.Ground.data }, { on := 22, ground := Go.Ground.data }, { on := 13, ground := Go.Ground.guard }], guard := some (13, false) }) (v := undef) rfl (by kernel_rfl) (by kernel_rfl) (by kernel_rfl) (fun _ _ _ h => h) (Or.inr ⟨by rfl, rfl⟩) hHeld ?_
              simp only [Act.put, List.setIfInBounds_toArray, List.set_cons_zero, List.set_cons_succ]
              refine wpAnyH_take (i := 24) (oi := { dst := some 164, op := Go.Op.fieldAddr 73 (Go.Operand.tmp 163) 1, type := 0, pos := "ref.go:183", after := #[{ on := 23, ground := Go.Ground.data }, { on := 13, ground := Go.Ground.guard }], guard := some (13, false) }) (v := undef) rfl (by kernel_rfl) (by kernel_rfl) (by kernel_rfl) (fun _ _ _ h => h) (Or.inr ⟨by rfl, rfl⟩) hHeld ?_
              simp only [Act.put, List.setIfInBounds_toArray, List.set_cons_zero, List.set_cons_succ]
              refine wpAnyH_take (i := 25) (oi := { dst := some 165, op := Go.Op.load 25 (Go.Operand.tmp 164), type := 25, pos := "ref.go:183", after := #[{ on := 24, ground := Go.Ground.data }, { on := 13, ground := Go.Ground.guard }], guard := some (13, false) }) (v := undef) rfl (by kernel_rfl) (by kernel_rfl) (by kernel_rfl) (fun _ _ _ h => h) (Or.inr ⟨by rfl, rfl⟩) hHeld ?_
              simp only [Act.put, List.setIfInBounds_toArray, List.set_cons_zero, List.set_cons_succ]
              refine wpAnyH_take (i := 26) (oi := { dst := some 166, op := Go.Op.call { callee := Go.Callee.value (Go.Operand.func 34), args := #[Go.Operand.tmp 159, Go.Operand.tmp 165], argTypes := #[25, 25] }, type := 4, pos := "ref.go:183", after := #[{ on := 19, ground := Go.Ground.data }, { on := 25, ground := Go.Ground.data }, { on := 13, ground := Go.Ground.chain }, { on := 13, ground := Go.Ground.guard }], guard := some (13, false) }) (v := undef) rfl (by kernel_rfl) (by kernel_rfl) (by kernel_rfl) (fun _ _ _ h => h) (Or.inr ⟨by rfl, rfl⟩) hHeld ?_
              simp only [Act.put, List.setIfInBounds_toArray, List.set_cons_zero, List.set_cons_succ]
              refine wpAnyH_take (i := 27) (oi := { dst := some 167, op := Go.Op.unOp Go.UnOp.not 4 (Go.Operand.tmp 166), type := 4, pos := "ref.go:183", after := #[{ on := 26, ground := Go.Ground.data }, { on := 13, ground := Go.Ground.guard }], guard := some (13, false) }) (v := undef) rfl (by kernel_rfl) (by kernel_rfl) (by kernel_rfl) (fun _ _ _ h => h) (Or.inr ⟨by rfl, rfl⟩) hHeld ?_
              simp only [Act.put, List.setIfInBounds_toArray, List.set_cons_zero, List.set_cons_succ]
              refine wpAnyH_take (i := 28) (oi := { dst := some 168, op := Go.Op.pick (Go.Operand.tmp 153) (Go.Operand.const (Go.Value.bool true)) (Go.Operand.tmp 167), type := 4, pos := "ref.go:183", after := #[{ on := 13, ground := Go.Ground.data }, { on := 27, ground := Go.Ground.data }], guard := none }) (v := ?_) rfl (by kernel_rfl) (by kernel_rfl) (by kernel_rfl) (fun _ _ _ h => h) (Or.inl ⟨by rfl, ?_⟩) hHeld ?_
              rotate_left 1
              · (intro w hSw; (try dsimp only at hSw); go_simp <;> with_reducible rfl)
              simp only [Act.put, List.setIfInBounds_toArray, List.set_cons_zero, List.set_cons_succ]
              refine wpAnyH_done (by kernel_rfl) ?_ _
              all_goals go_wp2_with fail
              all_goals (go_ret; exact ⟨⟨false, rfl, ⟨fun h => (by cases h), fun h => absurd (congrArg (fun z : Rq => z.ads) h) (fun e => HN.out (by subst e; rfl))⟩⟩, (by first | exact BBW.out | exact BBW.out.drew)⟩)
            subst hop
            go_wp2_with fail
            go_region_held3 (fun w' => w'.cell? ⟨w.heap.size, 16, none⟩ = some (.slice (some ⟨B, o, none⟩) ads1.length ac1) ∧ w'.cell? ⟨w.heap.size + 1, 16, none⟩ = some (.slice (some ⟨B', o', none⟩) ads2.length ac2) ∧ w'.cell? ⟨B, o + k * 6, none⟩ = some (.int .i64 op1) ∧ w'.cell? ⟨B, o + k * 6 + 1, none⟩ = some (.int .i64 ek1) ∧ w'.cell? ⟨B, o + k * 6 + 2, none⟩ = some (.int .i64 ex1) ∧ w'.cell? ⟨B, o + k * 6 + 3, none⟩ = some (.int .u64 eb1) ∧ w'.cell? ⟨B, o + k * 6 + 4, none⟩ = some (.string es1) ∧ w'.cell? ⟨B, o + k * 6 + 5, none⟩ = some (.slice ea1 em1 ec1) ∧ w'.cell? ⟨B', o' + k * 6, none⟩ = some (.int .i64 op1) ∧ w'.cell? ⟨B', o' + k * 6 + 1, none⟩ = some (.int .i64 ek2) ∧ w'.cell? ⟨B', o' + k * 6 + 2, none⟩ = some (.int .i64 ex2) ∧ w'.cell? ⟨B', o' + k * 6 + 3, none⟩ = some (.int .u64 eb2) ∧ w'.cell? ⟨B', o' + k * 6 + 4, none⟩ = some (.string es2) ∧ w'.cell? ⟨B', o' + k * 6 + 5, none⟩ = some (.slice ea2 em2 ec2)) (go_keep) (first
              | (go_at_call 34; refine Calls.mono (CS.out _ (by first | exact Below.refl _ _ | exact (Below.refl _ _).drew)) ?_; rintro e w5 ⟨⟨r5, rfl, hr5⟩, hb5⟩; have HR5 : Hid (r5 = true ↔ _) := hr5; have B5 : Hid (Below wr.heap.size wr w5) := (by first | exact hb5 | exact bel2 (Below.refl _ _).drew hb5); have gx1_16 := cellG x1_16 B5.out; have gx2_16 := cellG x2_16 B5.out; have ge1_0 := cellG e1_0 B5.out; have ge1_1 := cellG e1_1 B5.out; have ge1_2 := cellG e1_2 B5.out; have ge1_3 := cellG e1_3 B5.out; have ge1_4 := cellG e1_4 B5.out; have ge1_5 := cellG e1_5 B5.out; have ge2_0 := cellG e2_0 B5.out; have ge2_1 := cellG e2_1 B5.out; have ge2_2 := cellG e2_2 B5.out; have ge2_3 := cellG e2_3 B5.out; have ge2_4 := cellG e2_4 B5.out; have ge2_5 := cellG e2_5 B5.out; clear hr5 hb5))
            all_goals clear e1_0 ge1_0 e1_1 ge1_1 e1_2 ge1_2 e1_3 ge1_3 e1_4 ge1_4 e1_5 ge1_5 e2_0 ge2_0 e2_1 ge2_1 e2_2 ge2_2 e2_3 ge2_3 e2_4 ge2_4 e2_5 ge2_5 x1_16 x2_16 gx1_16 gx2_16
            all_goals have B6 : Hid (Below w1.heap.size w1 w5) := bel2 HB.out B5.out
            all_goals have BB6 : Hid (Below w.heap.size w w5) := bel2 B1.out B6.out
            all_goals cases r5
            · have HN : Hid (¬ ads1[k] = ads2[k]'HL2.out) := fun h => by cases HR5.out.2 (congrArg (fun z => z.2) (HZ.out.1.trans (h.trans HZ.out.2.symm)))
              go_wp2_with fail
              go_ret
              exact ⟨⟨false, rfl, ⟨fun h => (by cases h), fun h => (show False from absurd (congrArg (fun z : Rq => z.ads) h) (fun e => HN.out (by subst e; rfl))).elim⟩⟩, BB6.out⟩
            · have HT : Hid (ct1 = ct2) := HR5.out.1 rfl
              go_wp2_with fail
              exact ⟨⟨k + 1, hlt, by rw [HW.out], take_moreG hlt HL2.out HE.out (HZ.out.1.symm.trans ((congrArg (fun t => (op1, t)) HT.out).trans HZ.out.2)), B6⟩, meas hlt HW.out⟩
          · obtain rfl : k = ads1.length := by omega
            have HAD : Hid (ads1 = ads2) := by have h := HE.out; rw [List.take_length] at h; have := HLA.out; rw [this, List.take_length] at h; exact h
            clear HE hlt hk
            go_wp2_with fail
            go_ret
            exact ⟨⟨true, rfl, ⟨fun _ => by rw [HCD.out, HAD.out], fun _ => rfl⟩⟩, BBW.out⟩
end Go.Proofs.Ytjmonkhkcmcfiaa
