/- SameRequest; there and back; Sizes, few, awake. -/
import Derived.Test.YtjmonkhkcmcfiaaTC
import Derived.Lib.AppendZerosOnto
namespace Go.Proofs.Ytjmonkhkcmcfiaa
open Go.ChangeShapes Go.WideShapes Go.ChangeAt Go.RowKit
set_option maxHeartbeats 4000000 in
set_option maxRecDepth 100000 in
theorem sameR_calls (n : Nat) (w : World) (rk1 : Int) (f1 q1 nm1 : ByteArray) (k1 x1 b1 : Int) (s1 : ByteArray) (la1 : Option Addr) (lm1 lc1 : Nat) (t1 : Tv) (ru1 nu1 wa1 pf1 : Int) (pc1 : Nat) (pm1 : Int) (ca1 : Option Addr) (cc1 : Nat) (aa1 : Option Addr) (ac1 : Nat) (cds1 : List (Int × ByteArray × Tv × Int)) (ads1 : List (Int × Tv)) (rk2 : Int) (f2 q2 nm2 : ByteArray) (k2 x2 b2 : Int) (s2 : ByteArray) (la2 : Option Addr) (lm2 lc2 : Nat) (t2 : Tv) (ru2 nu2 wa2 pf2 : Int) (pc2 : Nat) (pm2 : Int) (ca2 : Option Addr) (cc2 : Nat) (aa2 : Option Addr) (ac2 : Nat) (cds2 : List (Int × ByteArray × Tv × Int)) (ads2 : List (Int × Tv))
    (hv1 : Is w n (.agg #[.int .i64 k1, .int .i64 x1, .int .u64 b1, .string s1, .slice la1 lm1 lc1]) t1) (hv2 : Is w n (.agg #[.int .i64 k2, .int .i64 x2, .int .u64 b2, .string s2, .slice la2 lm2 lc2]) t2) (hc1 : LsG 8 ElC w n ca1 cds1) (hc2 : LsG 8 ElC w n ca2 cds2) (ha1 : LsG 6 ElA w n aa1 ads1) (ha2 : LsG 6 ElA w n aa2 ads2) (hcl : cds1.length ≤ 9223372036854775807) (hal : ads1.length ≤ 9223372036854775807) :
    Calls Try.prog 13 #[.agg #[.int .i64 rk1, .string f1, .string q1, .string nm1, .int .i64 k1, .int .i64 x1, .int .u64 b1, .string s1, .slice la1 lm1 lc1, .int .i64 ru1, .int .i64 nu1, .int .i64 wa1, .int .i64 pf1, .int .u64 (pc1 : Int), .int .i64 pm1, .slice ca1 cds1.length cc1, .slice aa1 ads1.length ac1], .agg #[.int .i64 rk2, .string f2, .string q2, .string nm2, .int .i64 k2, .int .i64 x2, .int .u64 b2, .string s2, .slice la2 lm2 lc2, .int .i64 ru2, .int .i64 nu2, .int .i64 wa2, .int .i64 pf2, .int .u64 (pc2 : Int), .int .i64 pm2, .slice ca2 cds2.length cc2, .slice aa2 ads2.length ac2]] w (SmP w ((⟨rk1, f1, q1, nm1, t1, ru1, nu1, wa1, pf1, pc1, pm1, cds1, ads1⟩ : Rq) = (⟨rk2, f2, q2, nm2, t2, ru2, nu2, wa2, pf2, pc2, pm2, cds2, ads2⟩ : Rq))) := by
  have C1 : Hid (∀ W, Below w.heap.size w W → Calls Try.prog 35 #[.agg #[.int .i64 k1, .int .i64 x1, .int .u64 b1, .string s1, .slice la1 lm1 lc1], .agg #[.int .i64 k2, .int .i64 x2, .int .u64 b2, .string s2, .slice la2 lm2 lc2]] W (SmP W (t1 = t2))) := fun W hB => same_calls n _ _ _ _ W (hv1.below hB) (hv2.below hB)
  have C2 : Hid (∀ W, Below w.heap.size w W → Calls Try.prog 36 #[.slice ca1 cds1.length cc1, .slice ca2 cds2.length cc2, .func (.func 37) #[] #[]] W (SmP W (cds1 = cds2))) := fun W hB => eqC_calls n _ _ _ _ _ _ W hcl (hc1.below elC hB) (hc2.below elC hB)
  have C3 : Hid (∀ W, Below w.heap.size w W → Calls Try.prog 38 #[.slice aa1 ads1.length ac1, .slice aa2 ads2.length ac2, .func (.func 39) #[] #[]] W (SmP W (ads1 = ads2))) := fun W hB => eqA_calls n _ _ _ _ _ _ W hal (ha1.below elA hB) (ha2.below elA hB)
  obtain ⟨W0, hW0⟩ : ∃ W0, W0 = ((w.alloc (.cells #[.int .i64 rk1, .string f1, .string q1, .string nm1, .int .i64 k1, .int .i64 x1, .int .u64 b1, .string s1, .slice la1 lm1 lc1, .int .i64 ru1, .int .i64 nu1, .int .i64 wa1, .int .i64 pf1, .int .u64 (pc1 : Int), .int .i64 pm1, .slice ca1 cds1.length cc1, .slice aa1 ads1.length ac1] 31)).alloc (.cells #[.int .i64 rk2, .string f2, .string q2, .string nm2, .int .i64 k2, .int .i64 x2, .int .u64 b2, .string s2, .slice la2 lm2 lc2, .int .i64 ru2, .int .i64 nu2, .int .i64 wa2, .int .i64 pf2, .int .u64 (pc2 : Int), .int .i64 pm2, .slice ca2 cds2.length cc2, .slice aa2 ads2.length ac2] 31)) := ⟨_, rfl⟩
  have HW0 : Hid (W0 = ((w.alloc (.cells #[.int .i64 rk1, .string f1, .string q1, .string nm1, .int .i64 k1, .int .i64 x1, .int .u64 b1, .string s1, .slice la1 lm1 lc1, .int .i64 ru1, .int .i64 nu1, .int .i64 wa1, .int .i64 pf1, .int .u64 (pc1 : Int), .int .i64 pm1, .slice ca1 cds1.length cc1, .slice aa1 ads1.length ac1] 31)).alloc (.cells #[.int .i64 rk2, .string f2, .string q2, .string nm2, .int .i64 k2, .int .i64 x2, .int .u64 b2, .string s2, .slice la2 lm2 lc2, .int .i64 ru2, .int .i64 nu2, .int .i64 wa2, .int .i64 pf2, .int .u64 (pc2 : Int), .int .i64 pm2, .slice ca2 cds2.length cc2, .slice aa2 ads2.length ac2] 31))) := hW0
  have TB : W0.heap[w.heap.size]? = some (.cells #[.int .i64 rk1, .string f1, .string q1, .string nm1, .int .i64 k1, .int .i64 x1, .int .u64 b1, .string s1, .slice la1 lm1 lc1, .int .i64 ru1, .int .i64 nu1, .int .i64 wa1, .int .i64 pf1, .int .u64 (pc1 : Int), .int .i64 pm1, .slice ca1 cds1.length cc1, .slice aa1 ads1.length ac1] 31 (0, 0)) ∧ W0.heap[w.heap.size + 1]? = some (.cells #[.int .i64 rk2, .string f2, .string q2, .string nm2, .int .i64 k2, .int .i64 x2, .int .u64 b2, .string s2, .slice la2 lm2 lc2, .int .i64 ru2, .int .i64 nu2, .int .i64 wa2, .int .i64 pf2, .int .u64 (pc2 : Int), .int .i64 pm2, .slice ca2 cds2.length cc2, .slice aa2 ads2.length ac2] 31 (0, 0)) ∧ Below w.heap.size w W0 := by rw [hW0]; exact two_boxes (Below.refl _ _)
  obtain ⟨bx1, bx2, hb0⟩ := TB
  have B0 : Hid (Below w.heap.size w W0) := hb0
  have X1 : Hid (W0.heap[w.heap.size]? = some (.cells #[.int .i64 rk1, .string f1, .string q1, .string nm1, .int .i64 k1, .int .i64 x1, .int .u64 b1, .string s1, .slice la1 lm1 lc1, .int .i64 ru1, .int .i64 nu1, .int .i64 wa1, .int .i64 pf1, .int .u64 (pc1 : Int), .int .i64 pm1, .slice ca1 cds1.length cc1, .slice aa1 ads1.length ac1] 31 (0, 0))) := bx1
  have X2 : Hid (W0.heap[w.heap.size + 1]? = some (.cells #[.int .i64 rk2, .string f2, .string q2, .string nm2, .int .i64 k2, .int .i64 x2, .int .u64 b2, .string s2, .slice la2 lm2 lc2, .int .i64 ru2, .int .i64 nu2, .int .i64 wa2, .int .i64 pf2, .int .u64 (pc2 : Int), .int .i64 pm2, .slice ca2 cds2.length cc2, .slice aa2 ads2.length ac2] 31 (0, 0))) := bx2
  have Z0 : Hid (w.heap.size + 1 < W0.heap.size) := (Array.getElem?_eq_some_iff.1 bx2).1
  have C1w : Hid (Calls Try.prog 35 #[.agg #[.int .i64 k1, .int .i64 x1, .int .u64 b1, .string s1, .slice la1 lm1 lc1], .agg #[.int .i64 k2, .int .i64 x2, .int .u64 b2, .string s2, .slice la2 lm2 lc2]] W0 (SmP W0 (t1 = t2))) := C1.out W0 hb0
  clear hv1 hv2 hc1 hc2 ha1 ha2 hcl hal hW0 hb0 C1 bx1 bx2
  by_cases hrk : rk1 = rk2
  rotate_left
  · have HD : Hid (¬ _) := hrk
    have drk : (rk1 == rk2) = false := by simpa using hrk
    clear C1w C2 C3
    have z1_0 := row_cell (j := 0) X1.out (v := .int .i64 rk1) rfl
    have z2_0 := row_cell (j := 0) X2.out (v := .int .i64 rk2) rfl
    have z1_1 := row_cell (j := 1) X1.out (v := .string f1) rfl
    have z2_1 := row_cell (j := 1) X2.out (v := .string f2) rfl
    have z1_2 := row_cell (j := 2) X1.out (v := .string q1) rfl
    have z2_2 := row_cell (j := 2) X2.out (v := .string q2) rfl
    have z1_3 := row_cell (j := 3) X1.out (v := .string nm1) rfl
    have z2_3 := row_cell (j := 3) X2.out (v := .string nm2) rfl
    go_enter Try.func13, Try.ntmps13
    go_upto_region 1 with fail
    rw [← HW0.out]
    clear hrk
    go_wp2_with fail
    go_ret
    exact ⟨⟨false, rfl, ⟨fun h => (by cases h), fun h => (HD.out (congrArg (fun z : Rq => z.rk) h)).elim⟩⟩, B0.out⟩
  subst hrk
  by_cases hf : f1 = f2
  rotate_left
  · have HD : Hid (¬ _) := hf
    have df : ¬ f1.toList = f2.toList := fun e => hf (tl_inj e)
    clear C1w C2 C3
    have z1_0 := row_cell (j := 0) X1.out (v := .int .i64 rk1) rfl
    have z2_0 := row_cell (j := 0) X2.out (v := .int .i64 rk1) rfl
    have z1_1 := row_cell (j := 1) X1.out (v := .string f1) rfl
    have z2_1 := row_cell (j := 1) X2.out (v := .string f2) rfl
    have z1_2 := row_cell (j := 2) X1.out (v := .string q1) rfl
    have z2_2 := row_cell (j := 2) X2.out (v := .string q2) rfl
    have z1_3 := row_cell (j := 3) X1.out (v := .string nm1) rfl
    have z2_3 := row_cell (j := 3) X2.out (v := .string nm2) rfl
    go_enter Try.func13, Try.ntmps13
    go_upto_region 1 with fail
    rw [← HW0.out]
    clear hf
    go_wp2_with fail
    go_ret
    exact ⟨⟨false, rfl, ⟨fun h => (by cases h), fun h => (HD.out (congrArg (fun z : Rq => z.f) h)).elim⟩⟩, B0.out⟩
  subst hf
  by_cases hq : q1 = q2
  rotate_left
  · have HD : Hid (¬ _) := hq
    have dq : ¬ q1.toList = q2.toList := fun e => hq (tl_inj e)
    clear C1w C2 C3
    have z1_0 := row_cell (j := 0) X1.out (v := .int .i64 rk1) rfl
    have z2_0 := row_cell (j := 0) X2.out (v := .int .i64 rk1) rfl
    have z1_1 := row_cell (j := 1) X1.out (v := .string f1) rfl
    have z2_1 := row_cell (j := 1) X2.out (v := .string f1) rfl
    have z1_2 := row_cell (j := 2) X1.out (v := .string q1) rfl
    have z2_2 := row_cell (j := 2) X2.out (v := .string q2) rfl
    have z1_3 := row_cell (j := 3) X1.out (v := .string nm1) rfl
    have z2_3 := row_cell (j := 3) X2.out (v := .string nm2) rfl
    go_enter Try.func13, Try.ntmps13
    go_upto_region 1 with fail
    rw [← HW0.out]
    clear hq
    go_wp2_with fail
    go_ret
    exact ⟨⟨false, rfl, ⟨fun h => (by cases h), fun h => (HD.out (congrArg (fun z : Rq => z.q) h)).elim⟩⟩, B0.out⟩
  subst hq
  by_cases hnm : nm1 = nm2
  rotate_left
  · have HD : Hid (¬ _) := hnm
    have dnm : ¬ nm1.toList = nm2.toList := fun e => hnm (tl_inj e)
    clear C1w C2 C3
    have z1_0 := row_cell (j := 0) X1.out (v := .int .i64 rk1) rfl
    have z2_0 := row_cell (j := 0) X2.out (v := .int .i64 rk1) rfl
    have z1_1 := row_cell (j := 1) X1.out (v := .string f1) rfl
    have z2_1 := row_cell (j := 1) X2.out (v := .string f1) rfl
    have z1_2 := row_cell (j := 2) X1.out (v := .string q1) rfl
    have z2_2 := row_cell (j := 2) X2.out (v := .string q1) rfl
    have z1_3 := row_cell (j := 3) X1.out (v := .string nm1) rfl
    have z2_3 := row_cell (j := 3) X2.out (v := .string nm2) rfl
    go_enter Try.func13, Try.ntmps13
    go_upto_region 1 with fail
    rw [← HW0.out]
    clear hnm
    go_wp2_with fail
    go_ret
    exact ⟨⟨false, rfl, ⟨fun h => (by cases h), fun h => (HD.out (congrArg (fun z : Rq => z.nm) h)).elim⟩⟩, B0.out⟩
  subst hnm
  go_enter Try.func13, Try.ntmps13
  go_upto_region 1 with fail
  rw [← HW0.out]
  have z1_0 := row_cell (j := 0) X1.out (v := .int .i64 rk1) rfl
  have z2_0 := row_cell (j := 0) X2.out (v := .int .i64 rk1) rfl
  have z1_1 := row_cell (j := 1) X1.out (v := .string f1) rfl
  have z2_1 := row_cell (j := 1) X2.out (v := .string f1) rfl
  have z1_2 := row_cell (j := 2) X1.out (v := .string q1) rfl
  have z2_2 := row_cell (j := 2) X2.out (v := .string q1) rfl
  have z1_3 := row_cell (j := 3) X1.out (v := .string nm1) rfl
  have z2_3 := row_cell (j := 3) X2.out (v := .string nm1) rfl
  have z1_4 := row_cell (j := 4) X1.out (v := .int .i64 k1) rfl
  have z2_4 := row_cell (j := 4) X2.out (v := .int .i64 k2) rfl
  have z1_5 := row_cell (j := 5) X1.out (v := .int .i64 x1) rfl
  have z2_5 := row_cell (j := 5) X2.out (v := .int .i64 x2) rfl
  have z1_6 := row_cell (j := 6) X1.out (v := .int .u64 b1) rfl
  have z2_6 := row_cell (j := 6) X2.out (v := .int .u64 b2) rfl
  have z1_7 := row_cell (j := 7) X1.out (v := .string s1) rfl
  have z2_7 := row_cell (j := 7) X2.out (v := .string s2) rfl
  have z1_8 := row_cell (j := 8) X1.out (v := .slice la1 lm1 lc1) rfl
  have z2_8 := row_cell (j := 8) X2.out (v := .slice la2 lm2 lc2) rfl
  go_wp2_with fail
  clear z1_0 z2_0 z1_1 z2_1 z1_2 z2_2 z1_3 z2_3 z1_4 z2_4 z1_5 z2_5 z1_6 z2_6 z1_7 z2_7 z1_8 z2_8
  refine Calls.mono C1w.out ?_
  rintro e w1 ⟨⟨r1, rfl, hr1⟩, hb1⟩
  have HR1 : Hid (r1 = true ↔ _) := hr1
  have B1 : Hid (Below w.heap.size w w1) := bel2 B0.out hb1
  have Y1 : Hid (w1.heap[w.heap.size]? = some (.cells #[.int .i64 rk1, .string f1, .string q1, .string nm1, .int .i64 k1, .int .i64 x1, .int .u64 b1, .string s1, .slice la1 lm1 lc1, .int .i64 ru1, .int .i64 nu1, .int .i64 wa1, .int .i64 pf1, .int .u64 (pc1 : Int), .int .i64 pm1, .slice ca1 cds1.length cc1, .slice aa1 ads1.length ac1] 31 (0, 0))) := (hb1.block _ (by have := Z0.out; omega)).trans X1.out
  have Y2 : Hid (w1.heap[w.heap.size + 1]? = some (.cells #[.int .i64 rk1, .string f1, .string q1, .string nm1, .int .i64 k2, .int .i64 x2, .int .u64 b2, .string s2, .slice la2 lm2 lc2, .int .i64 ru2, .int .i64 nu2, .int .i64 wa2, .int .i64 pf2, .int .u64 (pc2 : Int), .int .i64 pm2, .slice ca2 cds2.length cc2, .slice aa2 ads2.length ac2] 31 (0, 0))) := (hb1.block _ (by have := Z0.out; omega)).trans X2.out
  have Z1 : Hid (w.heap.size + 1 < w1.heap.size) := Nat.lt_of_lt_of_le Z0.out hb1.size
  clear hb1 hr1 C1w
  cases r1
  · go_wp2_with fail
    go_ret
    exact ⟨⟨false, rfl, ⟨fun h => (by cases h), fun h => (show False by cases HR1.out.2 (congrArg (fun z : Rq => z.t) h)).elim⟩⟩, B1.out⟩
  · obtain rfl := HR1.out.1 rfl
    have z1_9 := row_cell (j := 9) Y1.out (v := .int .i64 ru1) rfl
    have z2_9 := row_cell (j := 9) Y2.out (v := .int .i64 ru2) rfl
    have z1_10 := row_cell (j := 10) Y1.out (v := .int .i64 nu1) rfl
    have z2_10 := row_cell (j := 10) Y2.out (v := .int .i64 nu2) rfl
    have z1_11 := row_cell (j := 11) Y1.out (v := .int .i64 wa1) rfl
    have z2_11 := row_cell (j := 11) Y2.out (v := .int .i64 wa2) rfl
    have z1_12 := row_cell (j := 12) Y1.out (v := .int .i64 pf1) rfl
    have z2_12 := row_cell (j := 12) Y2.out (v := .int .i64 pf2) rfl
    have z1_13 := row_cell (j := 13) Y1.out (v := .int .u64 (pc1 : Int)) rfl
    have z2_13 := row_cell (j := 13) Y2.out (v := .int .u64 (pc2 : Int)) rfl
    have z1_14 := row_cell (j := 14) Y1.out (v := .int .i64 pm1) rfl
    have z2_14 := row_cell (j := 14) Y2.out (v := .int .i64 pm2) rfl
    have z1_15 := row_cell (j := 15) Y1.out (v := .slice ca1 cds1.length cc1) rfl
    have z2_15 := row_cell (j := 15) Y2.out (v := .slice ca2 cds2.length cc2) rfl
    have z1_16 := row_cell (j := 16) Y1.out (v := .slice aa1 ads1.length ac1) rfl
    have z2_16 := row_cell (j := 16) Y2.out (v := .slice aa2 ads2.length ac2) rfl
    by_cases hru : ru1 = ru2
    rotate_left
    · have HD : Hid (¬ _) := hru
      have dru : (ru1 == ru2) = false := by simpa using hru
      clear C2 C3 hru
      go_wp2_with fail
      go_ret
      exact ⟨⟨false, rfl, ⟨fun h => (by cases h), fun h => (HD.out (congrArg (fun z : Rq => z.ru) h)).elim⟩⟩, B1.out⟩
    subst hru
    by_cases hnu : nu1 = nu2
    rotate_left
    · have HD : Hid (¬ _) := hnu
      have dnu : (nu1 == nu2) = false := by simpa using hnu
      clear C2 C3 hnu
      go_wp2_with fail
      go_ret
      exact ⟨⟨false, rfl, ⟨fun h => (by cases h), fun h => (HD.out (congrArg (fun z : Rq => z.nu) h)).elim⟩⟩, B1.out⟩
    subst hnu
    by_cases hwa : wa1 = wa2
    rotate_left
    · have HD : Hid (¬ _) := hwa
      have dwa : (wa1 == wa2) = false := by simpa using hwa
      clear C2 C3 hwa
      go_wp2_with fail
      go_ret
      exact ⟨⟨false, rfl, ⟨fun h => (by cases h), fun h => (HD.out (congrArg (fun z : Rq => z.wa) h)).elim⟩⟩, B1.out⟩
    subst hwa
    by_cases hpo : pf1 = pf2 ∧ pc1 = pc2 ∧ pm1 = pm2
    rotate_left
    · have HD : Hid (¬ _) := hpo
      clear C2 C3
      go_wp2_with fail
      all_goals (go_ret; exact ⟨⟨false, rfl, ⟨fun h => (by cases h), fun h => (HD.out ⟨congrArg (fun z : Rq => z.pf) h, congrArg (fun z : Rq => z.pc) h, congrArg (fun z : Rq => z.pm) h⟩).elim⟩⟩, B1.out⟩)
    obtain ⟨rfl, rfl, rfl⟩ := hpo
    have C2w : Hid (Calls Try.prog 36 _ w1 (SmP w1 (cds1 = cds2))) := C2.out w1 B1.out
    go_wp2_with fail
    clear z1_9 z2_9 z1_10 z2_10 z1_11 z2_11 z1_12 z2_12 z1_13 z2_13 z1_14 z2_14 z1_15 z2_15 z1_16 z2_16
    refine Calls.mono C2w.out ?_
    rintro e w2 ⟨⟨r2, rfl, hr2⟩, hb2⟩
    have HR2 : Hid (r2 = true ↔ _) := hr2
    have B2 : Hid (Below w.heap.size w w2) := bel2 B1.out hb2
    have v1_16 := row_cell (j := 16) ((hb2.block _ (by have := Z1.out; omega)).trans Y1.out) (v := .slice aa1 ads1.length ac1) rfl
    have v2_16 := row_cell (j := 16) ((hb2.block _ (by have := Z1.out; omega)).trans Y2.out) (v := .slice aa2 ads2.length ac2) rfl
    clear hb2 hr2 C2 C2w
    cases r2
    · go_wp2_with fail
      go_ret
      exact ⟨⟨false, rfl, ⟨fun h => (by cases h), fun h => (show False by cases HR2.out.2 (congrArg (fun z : Rq => z.cds) h)).elim⟩⟩, B2.out⟩
    · have hcd := HR2.out.1 rfl
      have C3w : Hid (Calls Try.prog 38 _ w2 (SmP w2 (ads1 = ads2))) := C3.out w2 B2.out
      have HCD : Hid (cds1 = cds2) := hcd
      clear hcd
      go_wp2_with fail
      refine Calls.mono C3w.out ?_
      rintro e w3 ⟨⟨r3, rfl, hr3⟩, hb3⟩
      have HR3 : Hid (r3 = true ↔ _) := hr3
      have B3 : Hid (Below w.heap.size w w3) := bel2 B2.out hb3
      clear hb3 hr3 C3w
      go_wp2_with fail
      go_ret
      exact ⟨⟨r3, rfl, HR3.out.trans ⟨fun h => by rw [h, HCD.out], fun h => congrArg (fun z : Rq => z.ads) h⟩⟩, B3.out⟩
end Go.Proofs.Ytjmonkhkcmcfiaa
namespace Go.Proofs.Ytjmonkhkcmcfiaa
theorem sq_some {a b : Option (List UInt8)} {m : List UInt8} (h : sq a b = some m) : ∃ x y, a = some x ∧ b = some y ∧ m = x ++ y := by
  cases a with
  | none => cases h
  | some x =>
    cases b with
    | none => cases h
    | some y => cases h; exact ⟨x, y, rfl, rfl, rfl⟩
theorem nB_bk {x most : Int} {m t : List UInt8} (hm : most < 9223372036854775808) (h : nB x most = some m) : sNum most (m ++ t) 0 = (x, t, 0) := by
  unfold nB at h
  split at h
  · rename_i hc
    cases h
    have e : ((x.toNat : Nat) : Int) = x := Int.toNat_of_nonneg hc.1
    have := sNum_enc x.toNat most t (by omega) (by omega)
    rw [e] at this
    exact this
  · cases h
theorem nB_iv {x most e : Int} {l t : List UInt8} (h : sNum most l e = (x, t, 0)) : e = 0 ∧ ∃ m, nB x most = some m ∧ l = m ++ t := by
  by_cases h0 : e = 0
  · subst h0
    obtain ⟨h1, h2, h3, _⟩ := sNum_inv h
    exact ⟨rfl, enc x.toNat, by unfold nB; rw [if_pos ⟨h1, h2⟩], h3⟩
  · rw [sNum_err h0] at h
    cases h
    exact absurd rfl h0
theorem sTextE {m : Int} {l : List UInt8} {e : Int} (h : e ≠ 0) : (sText m l e).2.2 ≠ 0 := by
  unfold sText
  rw [sNum_err h]
  simp [h]
theorem tB_bk {s : ByteArray} {m t : List UInt8} (h : tB s = some m) : sText 200 (m ++ t) 0 = (s.data.toList, t, 0) := by
  unfold tB at h
  split at h
  · rename_i hc
    cases h
    have := sText_enc s.data.toList t 200 (by rw [str_len]; omega) (by rw [str_len]; omega)
    rw [str_len] at this
    rw [List.append_assoc]
    exact this
  · cases h
theorem tB_iv {b l t : List UInt8} {e : Int} (h : sText 200 l e = (b, t, 0)) : e = 0 ∧ ∃ m, tB (str b) = some m ∧ l = m ++ t := by
  by_cases h0 : e = 0
  · subst h0
    obtain ⟨h1, h2⟩ := sText_inv h
    refine ⟨rfl, enc b.length ++ b, ?_, by rw [List.append_assoc]; exact h1⟩
    unfold tB
    rw [str_size, if_pos (by omega), str_toList]
  · have := sTextE (m := 200) (l := l) h0
    rw [h] at this
    exact absurd rfl this
theorem rdR_bk {n : Nat} {v : Tv} (t : List UInt8) (m : ShapeT n 4 v ∧ (bytesT n v).length ≤ 1000) (hf : FitT n v) : rdR (bytesT n v ++ t) 0 = (v, t, 0) := by
  unfold rdR
  rw [rdV_back 4 n v t m.1 hf]
  unfold afR
  dsimp only
  have := m.2
  rw [if_neg (by rw [List.length_append]; omega), if_pos rfl]
theorem rdR_iv {l t : List UInt8} {v : Tv} (h : rdR l 0 = (v, t, 0)) : l = bytesT 5 v ++ t ∧ ShapeT 5 4 v ∧ (bytesT 5 v).length ≤ 1000 := by
  obtain ⟨v1, t1, e1, hR⟩ : ∃ v1 t1 e1, rdV 4 l 0 = (v1, t1, e1) := ⟨_, _, _, rfl⟩
  unfold rdR at h
  rw [hR] at h
  unfold afR at h
  dsimp only at h
  split at h
  · have := congrArg (fun x => x.2.2) h
    exact absurd this (flE_ne (by decide))
  · split at h
    · rename_i h1 h2
      subst h2
      cases h
      have h3 := rdV_inv 4 l _ _ hR
      have h4 := congrArg List.length h3.2
      rw [List.length_append] at h4
      exact ⟨h3.2, h3.1, by show (bytesT (4 + 1) v).length ≤ 1000; omega⟩
    · rename_i h1 h2
      have := congrArg (fun x => x.2.2) h
      exact absurd this h2
theorem rd1E {g : List UInt8 → Int → List Tv × List UInt8 × Int} {l : List UInt8} {e : Int} (he : e ≠ 0) : (rd1 g l e).2.2 ≠ 0 := by
  have h0 : sNum 4 l e = (0, l, e) := sNum_err he
  unfold rd1
  rw [h0]
  simp [he]
theorem rdRE {l : List UInt8} {e : Int} (he : e ≠ 0) : (rdR l e).2.2 ≠ 0 := by
  have h1 : (rdV 4 l e).2.2 ≠ 0 := rd1E he
  unfold rdR afR
  split
  · exact flE_ne (by decide)
  · first
    | exact h1
    | (split
       · rename_i h2; exact absurd h2 h1
       · exact h1)
theorem vB_bk {n : Nat} {v : Tv} {m t : List UInt8} (hf : FitT n v) (h : vB n v = some m) : rdR (m ++ t) 0 = (v, t, 0) := by
  unfold vB at h
  split at h
  · rename_i hc
    cases h
    exact rdR_bk t hc hf
  · cases h
theorem vB_iv {v : Tv} {l t : List UInt8} {e : Int} (h : rdR l e = (v, t, 0)) : e = 0 ∧ ∃ m, vB 5 v = some m ∧ l = m ++ t := by
  by_cases h0 : e = 0
  · subst h0
    obtain ⟨h1, h2⟩ := rdR_iv h
    exact ⟨rfl, _, by unfold vB; rw [if_pos h2], h1⟩
  · have := rdRE (l := l) h0
    rw [h] at this
    exact absurd rfl this
theorem sBitsE {l : List UInt8} {e : Int} (h : e ≠ 0) : (sBits l e).2.2 = e := by unfold sBits; rw [if_neg h]
theorem pB_bk {pf : Int} {pc : Nat} {pm : Int} {m t : List UInt8} (hp : pc ≤ 18446744073709551615) (h : pB pf pc pm = some m) : rdPo (m ++ t) 0 = ((pf, pc, pm), t, 0) := by
  unfold pB at h
  obtain ⟨a, b, h1, h2, rfl⟩ := sq_some h
  obtain ⟨c, d, h3, h4, rfl⟩ := sq_some h2
  cases h3
  unfold rdPo
  rw [List.append_assoc, List.append_assoc, nB_bk (by decide) h1]
  dsimp only
  rw [sBits_be pc (d ++ t) hp]
  dsimp only
  rw [nB_bk (by decide) h4]
theorem pB_iv {l t : List UInt8} {p : Int × Nat × Int} {e : Int} (h : rdPo l e = (p, t, 0)) : e = 0 ∧ ∃ m, pB p.1 p.2.1 p.2.2 = some m ∧ l = m ++ t := by
  unfold rdPo at h
  obtain ⟨a, l1, e1, h1⟩ : ∃ yy uu ww, sNum 4611686018427387904 l e = (yy, uu, ww) := ⟨_, _, _, rfl⟩
  rw [h1] at h
  dsimp only at h
  obtain ⟨b, l2, e2, h2⟩ : ∃ yy uu ww, sBits l1 e1 = (yy, uu, ww) := ⟨_, _, _, rfl⟩
  rw [h2] at h
  dsimp only at h
  obtain ⟨c, l3, e3, h3⟩ : ∃ yy uu ww, sNum 4611686018427387904 l2 e2 = (yy, uu, ww) := ⟨_, _, _, rfl⟩
  rw [h3] at h
  cases h
  obtain ⟨rfl, m3, g3, q3⟩ := nB_iv h3
  have z1 : e1 = 0 := by
    by_cases h0 : e1 = 0
    · exact h0
    · have := sBitsE (l := l1) h0
      rw [h2] at this
      exact this.symm
  subst z1
  obtain ⟨rfl, m1, g1, q1⟩ := nB_iv h1
  obtain ⟨q2, _⟩ := sBits_inv h2
  refine ⟨rfl, m1 ++ (be b 8 ++ m3), ?_, by rw [q1, q2, q3]; simp only [List.append_assoc]⟩
  unfold pB
  rw [g1, g3]
  rfl
theorem aB_bk {n : Nat} {d : Int × Tv} {m t : List UInt8} (hf : FitT n d.2) (h : aB n d.1 d.2 = some m) : rdAn (m ++ t) 0 = (d, t, 0) := by
  unfold aB at h
  obtain ⟨a, b, h1, h2, rfl⟩ := sq_some h
  unfold rdAn
  rw [List.append_assoc, nB_bk (by decide) h1]
  dsimp only
  rw [vB_bk hf h2]
theorem aB_iv {l t : List UInt8} {d : Int × Tv} {e : Int} (h : rdAn l e = (d, t, 0)) : e = 0 ∧ ∃ m, aB 5 d.1 d.2 = some m ∧ l = m ++ t := by
  unfold rdAn at h
  obtain ⟨a, l1, e1, h1⟩ : ∃ yy uu ww, sNum 4611686018427387904 l e = (yy, uu, ww) := ⟨_, _, _, rfl⟩
  rw [h1] at h
  dsimp only at h
  obtain ⟨b, l2, e2, h2⟩ : ∃ yy uu ww, rdR l1 e1 = (yy, uu, ww) := ⟨_, _, _, rfl⟩
  rw [h2] at h
  cases h
  obtain ⟨rfl, m2, g2, q2⟩ := vB_iv h2
  obtain ⟨rfl, m1, g1, q1⟩ := nB_iv h1
  refine ⟨rfl, m1 ++ m2, ?_, by rw [q1, q2, List.append_assoc]⟩
  unfold aB
  rw [g1, g2]
  rfl
theorem cB_bk {n : Nat} {d : Int × ByteArray × Tv × Int} {m t : List UInt8} (hf : FitT n d.2.2.1) (h : cB n d.1 d.2.1 d.2.2.1 d.2.2.2 = some m) : rdCo (m ++ t) 0 = (d, t, 0) := by
  unfold cB at h
  obtain ⟨a, r1, h1, h2, rfl⟩ := sq_some h
  obtain ⟨b, r2, h3, h4, rfl⟩ := sq_some h2
  obtain ⟨c, r3, h5, h6, rfl⟩ := sq_some h4
  unfold rdCo
  rw [List.append_assoc, List.append_assoc, List.append_assoc, nB_bk (by decide) h1]
  dsimp only
  rw [tB_bk h3]
  dsimp only
  rw [vB_bk hf h5]
  dsimp only
  rw [nB_bk (by decide) h6, str_data]
theorem cB_iv {l t : List UInt8} {d : Int × ByteArray × Tv × Int} {e : Int} (h : rdCo l e = (d, t, 0)) : e = 0 ∧ ∃ m, cB 5 d.1 d.2.1 d.2.2.1 d.2.2.2 = some m ∧ l = m ++ t := by
  unfold rdCo at h
  obtain ⟨a, l1, e1, h1⟩ : ∃ yy uu ww, sNum 255 l e = (yy, uu, ww) := ⟨_, _, _, rfl⟩
  rw [h1] at h
  dsimp only at h
  obtain ⟨b, l2, e2, h2⟩ : ∃ yy uu ww, sText 200 l1 e1 = (yy, uu, ww) := ⟨_, _, _, rfl⟩
  rw [h2] at h
  dsimp only at h
  obtain ⟨c, l3, e3, h3⟩ : ∃ yy uu ww, rdR l2 e2 = (yy, uu, ww) := ⟨_, _, _, rfl⟩
  rw [h3] at h
  dsimp only at h
  obtain ⟨x, l4, e4, h4⟩ : ∃ yy uu ww, sNum 4611686018427387904 l3 e3 = (yy, uu, ww) := ⟨_, _, _, rfl⟩
  rw [h4] at h
  cases h
  obtain ⟨rfl, m4, g4, q4⟩ := nB_iv h4
  obtain ⟨rfl, m3, g3, q3⟩ := vB_iv h3
  obtain ⟨rfl, m2, g2, q2⟩ := tB_iv h2
  obtain ⟨rfl, m1, g1, q1⟩ := nB_iv h1
  refine ⟨rfl, m1 ++ (m2 ++ (m3 ++ m4)), ?_, by rw [q1, q2, q3, q4]; simp only [List.append_assoc]⟩
  unfold cB
  rw [g1, g2, g3, g4]
  rfl
theorem xs_bk {α : Type} {f : α → Option (List UInt8)} {R : List UInt8 → Int → α × List UInt8 × Int} : ∀ (ds : List α), (∀ d ∈ ds, ∀ m t, f d = some m → R (m ++ t) 0 = (d, t, 0)) → ∀ m t, allB f ds = some m → rdXs R ds.length (m ++ t) 0 = (ds, t, 0)
  | [], _, m, t, h => by cases h; rfl
  | d :: ds, hR, m, t, h => by
    unfold allB at h
    obtain ⟨a, b, h1, h2, rfl⟩ := sq_some h
    have k1 := hR d List.mem_cons_self a (b ++ t) h1
    have k2 := xs_bk ds (fun d hd => hR d (List.mem_cons_of_mem _ hd)) b t h2
    rw [List.length_cons, List.append_assoc]
    unfold rdXs
    rw [k1]
    dsimp only
    rw [k2]
    rfl
theorem xs_iv {α : Type} {f : α → Option (List UInt8)} {R : List UInt8 → Int → α × List UInt8 × Int} (hR : ∀ l x t e, R l e = (x, t, 0) → e = 0 ∧ ∃ m, f x = some m ∧ l = m ++ t) : ∀ (n : Nat) (l t : List UInt8) (ds : List α), rdXs R n l 0 = (ds, t, 0) → ds.length = n ∧ ∃ m, allB f ds = some m ∧ l = m ++ t
  | 0, l, t, ds, h => by cases h; exact ⟨rfl, [], rfl, rfl⟩
  | n + 1, l, t, ds, h => by
    unfold rdXs at h
    obtain ⟨a, l1, e1, h1⟩ : ∃ yy uu ww, R l 0 = (yy, uu, ww) := ⟨_, _, _, rfl⟩
    rw [h1] at h
    dsimp only at h
    split at h
    · rename_i h0
      subst h0
      split at h
      · rename_i h2
        obtain ⟨b, l2, e2, h3⟩ : ∃ yy uu ww, rdXs R n l1 0 = (yy, uu, ww) := ⟨_, _, _, rfl⟩
        rw [h3] at h h2
        dsimp only at h h2
        subst h2
        cases h
        obtain ⟨hl, m2, g2, q2⟩ := xs_iv hR n l1 t b h3
        obtain ⟨_, m1, g1, q1⟩ := hR _ _ _ _ h1
        refine ⟨by rw [List.length_cons, hl], m1 ++ m2, ?_, by rw [q1, q2, List.append_assoc]⟩
        unfold allB
        rw [g1, g2]
        rfl
      · rename_i h2
        have := congrArg (fun x => x.2.2) h
        exact absurd this h2
    · rename_i h0
      have := congrArg (fun x => x.2.2) h
      exact absurd this h0
theorem ls_bk {α : Type} {f : α → Option (List UInt8)} {R : List UInt8 → Int → α × List UInt8 × Int} {most : Int} {ds : List α} (hm : most < 9223372036854775808) (hR : ∀ d ∈ ds, ∀ m t, f d = some m → R (m ++ t) 0 = (d, t, 0)) {m t : List UInt8} (h : lB f most ds = some m) : rdLs R most (m ++ t) 0 = (ds, t, 0) := by
  unfold lB at h
  obtain ⟨a, b, h1, h2, rfl⟩ := sq_some h
  unfold rdLs
  rw [List.append_assoc, nB_bk hm h1]
  dsimp only
  rw [Int.toNat_natCast]
  exact xs_bk ds hR b t h2
theorem ls_iv {α : Type} {f : α → Option (List UInt8)} {R : List UInt8 → Int → α × List UInt8 × Int} {most : Int} (hR : ∀ l x t e, R l e = (x, t, 0) → e = 0 ∧ ∃ m, f x = some m ∧ l = m ++ t) {l t : List UInt8} {ds : List α} {e : Int} (h : rdLs R most l e = (ds, t, 0)) : e = 0 ∧ ∃ m, lB f most ds = some m ∧ l = m ++ t := by
  unfold rdLs at h
  have hz := sNum_zero most l e
  have hn := sNum_nat most l e
  obtain ⟨k, l1, e1, h1⟩ : ∃ yy uu ww, sNum most l e = (yy, uu, ww) := ⟨_, _, _, rfl⟩
  rw [h1] at h hz hn
  dsimp only at h hz hn
  by_cases h0 : e1 = 0
  · subst h0
    obtain ⟨hl, m2, g2, q2⟩ := xs_iv hR _ _ _ _ h
    obtain ⟨rfl, m1, g1, q1⟩ := nB_iv h1
    refine ⟨rfl, m1 ++ m2, ?_, by rw [q1, q2, List.append_assoc]⟩
    unfold lB
    have e : ((ds.length : Nat) : Int) = k := by rw [hl]; exact Int.toNat_of_nonneg hn
    rw [e, g1, g2]
    rfl
  · rw [hz h0] at h
    have := congrArg (fun x => x.2.2) h
    exact absurd this h0
noncomputable def rBq (n : Nat) (x : Rq) : Option (List UInt8) := rB n x.rk x.f x.q x.nm x.t x.ru x.nu x.wa x.pf x.pc x.pm x.cds x.ads
/-- What may be asked of a request that is read back. -/
structure FitQ (n : Nat) (x : Rq) : Prop where
  v : FitT n x.t
  pc : x.pc ≤ 18446744073709551615
  c : ∀ d ∈ x.cds, FitT n d.2.2.1
  a : ∀ d ∈ x.ads, FitT n d.2
theorem rq_bk {n : Nat} {x : Rq} {m t : List UInt8} (hf : FitQ n x) (h : rBq n x = some m) : rdRq (m ++ t) 0 = (x, t, 0) := by
  unfold rBq rB at h
  obtain ⟨m1, r1, h1, y1, rfl⟩ := sq_some h
  obtain ⟨m2, r2, h2, y2, rfl⟩ := sq_some y1
  obtain ⟨m3, r3, h3, y3, rfl⟩ := sq_some y2
  obtain ⟨m4, r4, h4, y4, rfl⟩ := sq_some y3
  obtain ⟨m5, r5, h5, y5, rfl⟩ := sq_some y4
  obtain ⟨m6, r6, h6, y6, rfl⟩ := sq_some y5
  obtain ⟨m7, r7, h7, y7, rfl⟩ := sq_some y6
  obtain ⟨m8, r8, h8, y8, rfl⟩ := sq_some y7
  obtain ⟨m9, r9, h9, y9, rfl⟩ := sq_some y8
  obtain ⟨m10, r10, h10, h11, rfl⟩ := sq_some y9
  unfold rdRq
  simp only [List.append_assoc]
  rw [nB_bk (by decide) h1]
  dsimp only
  rw [tB_bk h2]
  dsimp only
  rw [tB_bk h3]
  dsimp only
  rw [tB_bk h4]
  dsimp only
  rw [vB_bk hf.v h5]
  dsimp only
  rw [nB_bk (by decide) h6]
  dsimp only
  rw [nB_bk (by decide) h7]
  dsimp only
  rw [nB_bk (by decide) h8]
  dsimp only
  rw [pB_bk hf.pc h9]
  dsimp only
  rw [ls_bk (by decide) (fun d hd m t hm => cB_bk (hf.c d hd) hm) h10]
  dsimp only
  rw [ls_bk (by decide) (fun d hd m t hm => aB_bk (hf.a d hd) hm) h11]
  dsimp only
  rw [str_data, str_data, str_data]
theorem rq_iv {x : Rq} {l t : List UInt8} {e : Int} (h : rdRq l e = (x, t, 0)) : e = 0 ∧ ∃ m, rBq 5 x = some m ∧ l = m ++ t := by
  unfold rdRq at h
  obtain ⟨a1, l1, e1, h1⟩ : ∃ yy uu ww, sNum 255 l e = (yy, uu, ww) := ⟨_, _, _, rfl⟩
  rw [h1] at h
  dsimp only at h
  obtain ⟨a2, l2, e2, h2⟩ : ∃ yy uu ww, sText 200 l1 e1 = (yy, uu, ww) := ⟨_, _, _, rfl⟩
  rw [h2] at h
  dsimp only at h
  obtain ⟨a3, l3, e3, h3⟩ : ∃ yy uu ww, sText 200 l2 e2 = (yy, uu, ww) := ⟨_, _, _, rfl⟩
  rw [h3] at h
  dsimp only at h
  obtain ⟨a4, l4, e4, h4⟩ : ∃ yy uu ww, sText 200 l3 e3 = (yy, uu, ww) := ⟨_, _, _, rfl⟩
  rw [h4] at h
  dsimp only at h
  obtain ⟨a5, l5, e5, h5⟩ : ∃ yy uu ww, rdR l4 e4 = (yy, uu, ww) := ⟨_, _, _, rfl⟩
  rw [h5] at h
  dsimp only at h
  obtain ⟨a6, l6, e6, h6⟩ : ∃ yy uu ww, sNum 4611686018427387904 l5 e5 = (yy, uu, ww) := ⟨_, _, _, rfl⟩
  rw [h6] at h
  dsimp only at h
  obtain ⟨a7, l7, e7, h7⟩ : ∃ yy uu ww, sNum 4611686018427387904 l6 e6 = (yy, uu, ww) := ⟨_, _, _, rfl⟩
  rw [h7] at h
  dsimp only at h
  obtain ⟨a8, l8, e8, h8⟩ : ∃ yy uu ww, sNum 4611686018427387904 l7 e7 = (yy, uu, ww) := ⟨_, _, _, rfl⟩
  rw [h8] at h
  dsimp only at h
  obtain ⟨a9, l9, e9, h9⟩ : ∃ yy uu ww, rdPo l8 e8 = (yy, uu, ww) := ⟨_, _, _, rfl⟩
  rw [h9] at h
  dsimp only at h
  obtain ⟨a10, l10, e10, h10⟩ : ∃ c l10 e10, rdLs rdCo 12 l9 e9 = (c, l10, e10) := ⟨_, _, _, rfl⟩
  rw [h10] at h
  dsimp only at h
  obtain ⟨a11, l11, e11, h11⟩ : ∃ c l11 e11, rdLs rdAn 8 l10 e10 = (c, l11, e11) := ⟨_, _, _, rfl⟩
  rw [h11] at h
  cases h
  obtain ⟨rfl, m11, g11, q11⟩ := ls_iv (f := fun d : Int × Tv => aB 5 d.1 d.2) (fun l x t e h => aB_iv h) h11
  obtain ⟨rfl, m10, g10, q10⟩ := ls_iv (f := fun d : Int × ByteArray × Tv × Int => cB 5 d.1 d.2.1 d.2.2.1 d.2.2.2) (fun l x t e h => cB_iv h) h10
  obtain ⟨rfl, m9, g9, q9⟩ := pB_iv h9
  obtain ⟨rfl, m8, g8, q8⟩ := nB_iv h8
  obtain ⟨rfl, m7, g7, q7⟩ := nB_iv h7
  obtain ⟨rfl, m6, g6, q6⟩ := nB_iv h6
  obtain ⟨rfl, m5, g5, q5⟩ := vB_iv h5
  obtain ⟨rfl, m4, g4, q4⟩ := tB_iv h4
  obtain ⟨rfl, m3, g3, q3⟩ := tB_iv h3
  obtain ⟨rfl, m2, g2, q2⟩ := tB_iv h2
  obtain ⟨rfl, m1, g1, q1⟩ := nB_iv h1
  refine ⟨rfl, m1 ++ (m2 ++ (m3 ++ (m4 ++ (m5 ++ (m6 ++ (m7 ++ (m8 ++ (m9 ++ (m10 ++ m11))))))))), ?_, by rw [q1, q2, q3, q4, q5, q6, q7, q8, q9, q10, q11]; simp only [List.append_assoc]⟩
  unfold rBq rB
  dsimp only
  rw [g1, g2, g3, g4, g5, g6, g7, g8, g9, g10, g11]
  rfl
/-- A request is read as it was written. -/
theorem asked_back {n : Nat} {x : Rq} {m : List UInt8} (hf : FitQ n x) (h : qR (rBq n x) = .ok m) : rdQ m = (x, 0) ∧ m.length ≤ 16384 := by
  cases h1 : rBq n x with
  | none => rw [h1] at h; cases h
  | some l =>
    rw [h1] at h
    have h2 : (if l.length ≤ 16384 then Except.ok l else .error 5 : Except Int (List UInt8)) = .ok m := h
    split at h2
    · rename_i h3
      cases h2
      refine ⟨?_, h3⟩
      unfold rdQ
      rw [if_pos h3]
      have h4 := rq_bk (t := []) hf h1
      rw [List.append_nil] at h4
      unfold psQ
      rw [h4]
      rfl
    · cases h2
/-- What is read has those bytes. -/
theorem asked_inv {x : Rq} {b : List UInt8} (h : rdQ b = (x, 0)) : qR (rBq 5 x) = .ok b := by
  unfold rdQ at h
  split at h
  · rename_i h3
    unfold psQ at h
    split at h
    · rename_i h4
      obtain ⟨y, l2, e2, h5⟩ : ∃ yy uu ww, rdRq b 0 = (yy, uu, ww) := ⟨_, _, _, rfl⟩
      rw [h5] at h h4
      cases h
      dsimp only at h4
      have h6 : e2 = 0 ∧ l2 = [] := by
        unfold en at h4
        by_cases h0 : e2 = 0
        · subst h0
          refine ⟨rfl, ?_⟩
          simp at h4
          exact h4
        · have : (e2 == 0) = false := by simpa using h0
          rw [this] at h4
          exact absurd h4 h0
      obtain ⟨rfl, rfl⟩ := h6
      obtain ⟨_, m, g, q⟩ := rq_iv h5
      rw [List.append_nil] at q
      subst q
      rw [g]
      show (if b.length ≤ 16384 then Except.ok b else .error 5 : Except Int (List UInt8)) = .ok b
      rw [if_pos h3]
    · rename_i h4
      have := congrArg (fun x => x.2) h
      exact absurd this h4
  · have := congrArg (fun x => x.2) h
    exact absurd this (show ¬ ((5 : Int) = 0) by decide)
end Go.Proofs.Ytjmonkhkcmcfiaa
namespace Go.Proofs.Ytjmonkhkcmcfiaa
open Go.ChangeShapes Go.WideShapes Go.ChangeAt Go.RowKit
theorem sum_take {zs : List Nat} {j z : Nat} (h : zs[j]? = some z) : (zs.take (j + 1)).sum = (zs.take j).sum + z := by
  have hj := (List.getElem?_eq_some_iff.1 h).1
  rw [List.take_add_one, h]
  simp
theorem sum_le {zs : List Nat} (j : Nat) : (zs.take j).sum ≤ zs.sum := by
  have h := congrArg List.sum (List.take_append_drop j zs)
  rw [List.sum_append] at h
  omega
theorem wrS {p z : Nat} (h : z ≤ p) (hp : p ≤ 400) : wrap64 ((p : Int) - (z : Int)) = ((p - z : Nat) : Int) := by unfold wrap64; omega
set_option maxHeartbeats 4000000 in
set_option maxRecDepth 100000 in
theorem sizes_calls (g n : Nat) (zs : List Nat) (hn : zs.length = n) (h10 : n ≤ 10) (w : World) (h : ∀ (i : Nat) z, zs[i]? = some z → w.cell? ⟨g, i, none⟩ = some (.int .i64 (z : Int))) : Calls Try.prog 14 #[.int .i64 400, .slice (some ⟨g, 0, none⟩) n n] w fun e w' => e = .returned (.bool (decide (zs.sum ≤ 400))) ∧ w' = w := by
  have HN : Hid (zs.length = n) := hn
  have H10 : Hid (n ≤ 10) := h10
  have HC : Hid (∀ (i : Nat) z, zs[i]? = some z → w.cell? ⟨g, i, none⟩ = some (.int .i64 (z : Int))) := h
  have HQ1 : Hid (zs.sum ≤ 400 → decide (zs.sum ≤ 400) = true) := fun h => decide_eq_true h
  have HQ0 : Hid (¬ zs.sum ≤ 400 → decide (zs.sum ≤ 400) = false) := fun h => decide_eq_false h
  generalize decide (zs.sum ≤ 400) = bb at HQ1 HQ0 ⊢
  clear hn h10 h
  go_enter Try.func14, Try.ntmps14
  go_wp2_with fail
  go_loopw [0, 6, 9] (fun m _ i wr => ∃ j p : Nat, j ≤ n ∧ i = .int .i64 (j : Int) ∧ m = .int .i64 (p : Int) ∧ wr = w ∧ Hid ((zs.take j).sum + p = 400)) (fun _ _ i _ => n - (intOf i).toNat)
  case atStart => exact ⟨0, 400, Nat.zero_le _, rfl, rfl, rfl, by show _ = _; simp⟩
  case round =>
    obtain ⟨j, p, hj, rfl, rfl, rfl, HS⟩ := hrel
    by_cases hlt : j < n
    · obtain ⟨z, hz⟩ : ∃ z, zs[j]? = some z := ⟨_, List.getElem?_eq_getElem (by have := HN.out; omega)⟩
      have x0 := HC.out j z hz
      have Hz : Hid (zs[j]? = some z) := hz
      have hjl : (j : Int) < (n : Int) := by omega
      have HW1 : Hid (wrap64 ((j : Int) + 1) = ((j + 1 : Nat) : Int)) := wr1 hlt (by have := H10.out; omega)
      by_cases hzp : z ≤ p
      · have HZ : Hid (z ≤ p) := hzp
        have d1 : decide ((p : Int) < (z : Int)) = false := decide_eq_false (by omega)
        have d2 : decide (p < z) = false := decide_eq_false (by omega)
        have HW2 : Hid (wrap64 ((p : Int) - (z : Int)) = ((p - z : Nat) : Int)) := wrS hzp (by have := HS.out; omega)
        clear hz hzp
        go_wp2_with fail
        exact ⟨⟨j + 1, p - z, hlt, by first | rw [HW1.out] | exact congrArg _ (Int.natCast_succ j).symm, by first | rw [HW2.out] | rfl, by first | trivial | rfl, by show _ = _; rw [sum_take Hz.out]; have := HS.out; have := HZ.out; omega⟩, by first | exact meas hlt HW1.out | exact meas hlt (Int.natCast_succ j).symm⟩
      · have d1 : decide ((p : Int) < (z : Int)) = true := decide_eq_true (by omega)
        have d2 : decide (p < z) = true := decide_eq_true (by omega)
        have HB : Hid (bb = false) := HQ0.out (fun hs => by have := sum_take hz; have := sum_le (zs := zs) (j + 1); have := HS.out; omega)
        clear hz hzp
        go_wp2_with fail
        go_ret
        exact ⟨by first | (simp [HB.out]; done) | exact HB.out | exact HB.out.symm, rfl⟩
    · obtain rfl : j = n := by omega
      have HB : Hid (bb = true) := HQ1.out (by have := HS.out; rw [← HN.out, List.take_length] at this; omega)
      go_wp2_with fail
      go_ret
      exact ⟨by first | (simp [HB.out]; done) | exact HB.out | exact HB.out.symm, rfl⟩

set_option maxHeartbeats 4000000 in
set_option maxRecDepth 100000 in
theorem few_calls (rk : Int) (tf tq tn : ByteArray) (vk vx vb : Int) (vs : ByteArray) (va : Option Addr) (vm vc : Nat) (ru nu wa pf : Int) (pc : Nat) (pm : Int) (ca : Option Addr) (cn cc : Nat) (aa : Option Addr) (an ac : Nat) (w : World) : Calls Try.prog 5 #[.agg #[.int .i64 rk, .string tf, .string tq, .string tn, .int .i64 vk, .int .i64 vx, .int .u64 vb, .string vs, .slice va vm vc, .int .i64 ru, .int .i64 nu, .int .i64 wa, .int .i64 pf, .int .u64 (pc : Int), .int .i64 pm, .slice ca cn cc, .slice aa an ac], .agg #[.int .i64 0, .int .i64 0, .int .i64 0, .int .i64 0, .int .i64 0, .int .u64 0, .string ⟨#[]⟩, .slice none 0 0, .int .i64 0, .int .i64 0, .int .i64 0, .int .i64 0, .int .i64 0, .int .i64 0, .int .i64 0, .string ⟨#[]⟩, .int .i64 0, .int .i64 0, .int .u64 0, .string ⟨#[]⟩, .slice none 0 0, .int .i64 0, .int .u64 0, .int .i64 0, .int .i64 0, .int .i64 0, .int .i64 0, .int .i64 0, .int .i64 0, .bool false, .bool false, .slice none 0 0, .slice none 0 0, .int .i64 0, .int .i64 0, .int .u64 0, .string ⟨#[]⟩, .slice none 0 0, .string ⟨#[]⟩, .slice none 0 0, .slice none 0 0, .slice none 0 0]] w fun e w' => (∃ r : Bool, e = .returned (.bool r)) ∧ Below w.heap.size w w' := by
  obtain ⟨W0, hW0⟩ : ∃ W0, W0 = (w.alloc (.cells #[.int .i64 rk, .string tf, .string tq, .string tn, .int .i64 vk, .int .i64 vx, .int .u64 vb, .string vs, .slice va vm vc, .int .i64 ru, .int .i64 nu, .int .i64 wa, .int .i64 pf, .int .u64 (pc : Int), .int .i64 pm, .slice ca cn cc, .slice aa an ac] 31)).alloc (.cells #[.int .i64 0, .int .i64 0, .int .i64 0, .int .i64 0, .int .i64 0, .int .u64 0, .string ⟨#[]⟩, .slice none 0 0, .int .i64 0, .int .i64 0, .int .i64 0, .int .i64 0, .int .i64 0, .int .i64 0, .int .i64 0, .string ⟨#[]⟩, .int .i64 0, .int .i64 0, .int .u64 0, .string ⟨#[]⟩, .slice none 0 0, .int .i64 0, .int .u64 0, .int .i64 0, .int .i64 0, .int .i64 0, .int .i64 0, .int .i64 0, .int .i64 0, .bool false, .bool false, .slice none 0 0, .slice none 0 0, .int .i64 0, .int .i64 0, .int .u64 0, .string ⟨#[]⟩, .slice none 0 0, .string ⟨#[]⟩, .slice none 0 0, .slice none 0 0, .slice none 0 0] 44) := ⟨_, rfl⟩
  have HW0 : Hid (W0 = _) := hW0
  have TB : W0.heap[w.heap.size]? = some (.cells #[.int .i64 rk, .string tf, .string tq, .string tn, .int .i64 vk, .int .i64 vx, .int .u64 vb, .string vs, .slice va vm vc, .int .i64 ru, .int .i64 nu, .int .i64 wa, .int .i64 pf, .int .u64 (pc : Int), .int .i64 pm, .slice ca cn cc, .slice aa an ac] 31 (0, 0)) ∧ W0.heap[w.heap.size + 1]? = some (.cells #[.int .i64 0, .int .i64 0, .int .i64 0, .int .i64 0, .int .i64 0, .int .u64 0, .string ⟨#[]⟩, .slice none 0 0, .int .i64 0, .int .i64 0, .int .i64 0, .int .i64 0, .int .i64 0, .int .i64 0, .int .i64 0, .string ⟨#[]⟩, .int .i64 0, .int .i64 0, .int .u64 0, .string ⟨#[]⟩, .slice none 0 0, .int .i64 0, .int .u64 0, .int .i64 0, .int .i64 0, .int .i64 0, .int .i64 0, .int .i64 0, .int .i64 0, .bool false, .bool false, .slice none 0 0, .slice none 0 0, .int .i64 0, .int .i64 0, .int .u64 0, .string ⟨#[]⟩, .slice none 0 0, .string ⟨#[]⟩, .slice none 0 0, .slice none 0 0, .slice none 0 0] 44 (0, 0)) ∧ Below w.heap.size w W0 := by rw [hW0]; exact two_boxes (Below.refl _ _)
  obtain ⟨b1, b2, hb0⟩ := TB
  have B0 : Hid (Below w.heap.size w W0) := hb0
  have x15 := row_cell (j := 15) b1 (v := .slice ca cn cc) rfl
  have x16 := row_cell (j := 16) b1 (v := .slice aa an ac) rfl
  have y39 := row_cell (j := 39) b2 (v := .slice none 0 0) rfl
  have y40 := row_cell (j := 40) b2 (v := .slice none 0 0) rfl
  have y41 := row_cell (j := 41) b2 (v := .slice none 0 0) rfl
  have y31 := row_cell (j := 31) b2 (v := .slice none 0 0) rfl
  have y32 := row_cell (j := 32) b2 (v := .slice none 0 0) rfl
  have KS : Hid (∀ W g, (∀ (i : Nat) z, ([cn, an, 0, 0, 0, 0, 0] : List Nat)[i]? = some z → W.cell? ⟨g, i, none⟩ = some (.int .i64 (z : Int))) → Calls Try.prog 14 #[.int .i64 400, .slice (some ⟨g, 0, none⟩) 7 7] W fun e w' => e = .returned (.bool (decide (([cn, an, 0, 0, 0, 0, 0] : List Nat).sum ≤ 400))) ∧ w' = W) := fun W g hc => sizes_calls g 7 [cn, an, 0, 0, 0, 0, 0] rfl (by decide) W hc
  generalize decide (([cn, an, 0, 0, 0, 0, 0] : List Nat).sum ≤ 400) = bb at KS
  clear hW0 hb0 b1 b2
  go_enter Try.func5, Try.ntmps5
  go_upto_region 1 with fail
  rw [← HW0.out]
  go_wp2_with fail
  refine Calls.mono (KS.out _ _ ?_) ?_
  · intro i z hi
    match i, hi with
    | 0, hi => cases hi; simp
    | 1, hi => cases hi; simp
    | 2, hi => cases hi; simp
    | 3, hi => cases hi; simp
    | 4, hi => cases hi; simp
    | 5, hi => cases hi; simp
    | 6, hi => cases hi; simp
    | i + 7, hi => simp at hi
  rintro e w1 ⟨rfl, hw⟩
  have hw' := hw.symm
  subst hw'
  clear hw
  go_wp2_with fail
  go_ret
  exact ⟨⟨bb, rfl⟩, bel2 B0.out (bel1 _ _)⟩
theorem wpList_append_runG {P : Program} (w : World) {ops : Array Oper} {rest : List Oper} {o : Oper} {a : Act} {Q : Exit → Act → World → Prop} (hgd : Region.wanted o (yielded ops a.tmps) = true) (s x : Operand) (t tn : TypeId)
    (ho : o.op = .call { callee := .builtin .append, args := #[s, x], argTypes := #[t, tn] }) (vs vx : Value) (hs : a.eval s = vs) (hx : a.eval x = vx)
    (v' : Value) (w' : World) (hr : (Builtin.append_ #[t, tn] o.type #[vs, vx]).run P w = .ok v' w') (h : wpList P ops Q rest (a.put o.dst v') w') : wpList P ops Q (o :: rest) a w :=
  wpList_step fun _ hK => by rw [if_pos hgd]; exact Lib.wp_append_run w s x t tn ho vs vx hs hx v' w' hr (hK _ _ h)
def awB : List UInt8 := [13, 1, 97] ++ List.replicate 18 0
theorem aw_app (w : World) : ∃ c w', (∀ ty, (Builtin.append_ #[32, 3] ty #[.slice (some ⟨w.heap.size, 0, none⟩) 3 3, .int .i64 18]).run Try.prog (w.alloc (.cells #[.int .u8 13, .int .u8 1, .int .u8 97] 5)) = .ok (.slice (some ⟨w.heap.size + 1, 0, none⟩) 21 c) w') ∧ Lib.HoldsBytes w' (.slice (some ⟨w.heap.size + 1, 0, none⟩) 21 c) awB ∧ Below w.heap.size w w' := by
  obtain ⟨i0, hi, hz0, hz1, hz2⟩ := info_parts info5
  obtain ⟨W, hW⟩ : ∃ W, W = w.alloc (.cells #[.int .u8 13, .int .u8 1, .int .u8 97] 5) := ⟨_, rfl⟩
  have hz : W.heap.size = w.heap.size + 1 := by rw [hW]; simp
  have hb : Below w.heap.size w W := by rw [hW]; exact bel1 _ _
  have hg : W.heap[w.heap.size]? = some (.cells #[.int .u8 13, .int .u8 1, .int .u8 97] 5 (0, 0)) := by rw [hW]; exact heap_alloc_new w _
  rw [← hW]
  have hG := grownCap_ge W (3 + 18) 3 5
  have hr := fun ty => Lib.run_append_grow_zeros (P := Try.prog) W 32 3 ty 5 i0 (.int .u8 0) .i64 .i64 Try.underlying32 Try.underlying3 hi hz0 (some ⟨w.heap.size, 0, none⟩) 3 3 [.int .u8 13, .int .u8 1, .int .u8 97] (run_firstCells_some W.drew i0.size 3 ⟨w.heap.size, 0, none⟩ 3 3 [.int .u8 13, .int .u8 1, .int .u8 97] (by rw [hz1]; rfl) (fun j v hj => by rw [add_plain, Nat.zero_add]; exact (cell_of_row W _ j _ 5 (0, 0) hg).trans (by simpa using hj))) 18 (by omega) (by omega) (by omega) (by omega) (by rw [hz2]; omega) (by rw [hz2]; decide)
  generalize grownCap W (3 + 18) 3 5 = G at hr hG
  rw [hz] at hr
  refine ⟨G, _, hr, ?_, ?_⟩
  · refine ⟨_, _, rfl, (fun h => by cases h), ?_⟩
    intro a ha i x hx
    cases ha
    have e1 := heap_alloc_new W.drew (.cells ([Value.int .u8 13, .int .u8 1, .int .u8 97].toArray ++ Builtin.zeroCells (Value.int .u8 0).cells 18 ++ Builtin.zeroCells (Value.int .u8 0).cells (G - (3 + 18))) 5)
    have e2 : W.drew.heap.size = w.heap.size + 1 := hz
    rw [e2] at e1
    rw [add_plain, Nat.zero_add, cell_of_row _ _ i _ 5 (0, 0) e1]
    have e3 : [Value.int .u8 13, .int .u8 1, .int .u8 97].toArray ++ Builtin.zeroCells (Value.int .u8 0).cells 18 = (bval awB).toArray := by kernel_rfl
    have hi21 : i < 21 := (List.getElem?_eq_some_iff.1 hx).1
    rw [e3, Array.getElem?_append_left (by simp [bval, awB]; omega), List.getElem?_toArray, bval, List.getElem?_map, hx]
    rfl
  · exact hb.drew.alloc (by show _ ≤ W.heap.size; omega) _
theorem aw_bytes : rB 5 13 ⟨#[97]⟩ ⟨#[]⟩ ⟨#[]⟩ zT 0 0 0 0 0 0 [] [] = some awB := by
  have hv : vB 5 zT = some [0] := by
    unfold vB
    rw [if_pos]
    · decide +kernel
    · refine ⟨?_, by decide +kernel⟩
      refine ⟨?_, by decide, fun i t h => by simp at h⟩
      exact ⟨by decide, by decide, .inr rfl, .inr rfl, by decide +kernel, .inr (by decide +kernel), by decide, .inr rfl, by decide⟩
  unfold rB
  rw [hv]
  decide +kernel
set_option maxHeartbeats 4000000 in
set_option maxRecDepth 100000 in
theorem awake_calls (w : World) : Calls Try.prog 6 #[] w fun e w' => e = .returned (.bool true) ∧ Below w.heap.size w w' := by
  have RC : Hid (Calls Try.prog 7 #[.agg #[.int .i64 13, .string ⟨#[97]⟩, .string ⟨#[]⟩, .string ⟨#[]⟩, .int .i64 0, .int .i64 0, .int .u64 0, .string ⟨#[]⟩, .slice none 0 0, .int .i64 0, .int .i64 0, .int .i64 0, .int .i64 0, .int .u64 0, .int .i64 0, .slice none 0 0, .slice none 0 0]] w (CxP w (.ok awB))) := by
    have := request_calls 5 13 ⟨#[97]⟩ ⟨#[]⟩ ⟨#[]⟩ 0 0 0 ⟨#[]⟩ none 0 0 zT 0 0 0 0 0 0 none 0 0 none 0 0 [] [] w (zT_is 0 w 4).is rfl (fun i d h => by simp at h) rfl (fun i d h => by simp at h)
    rw [aw_bytes] at this
    exact this
  go_enter Try.func6, Try.ntmps6
  go_wp2_with fail
  refine RC.out.mono ?_
  rintro e w1 ⟨hb, v, rfl, ho⟩
  have H1 : Hid (Lib.HoldsBytes w1 v awB) := own_holds ho
  obtain ⟨p, c, rfl⟩ := own_shape ho
  have HB : Hid (Below w.heap.size w w1) := hb
  obtain ⟨c2, w2, hr, h2, b2⟩ := aw_app w1
  have H2 : Hid (Lib.HoldsBytes w2 (.slice (some ⟨w1.heap.size + 1, 0, none⟩) 21 c2) awB) := h2
  have B2 : Hid (Below w1.heap.size w1 w2) := b2
  have HRun : Hid _ := hr
  clear hb ho h2 b2 hr
  go_wp2_with (at_builtin; refine wpList_append_runG _ rfl _ _ 32 3 rfl _ _ rfl rfl _ _ (HRun.out _) ?_)
  refine (equal_calls _ _ _ _ _ (holds_below H1.out B2.out) H2.out).mono ?_
  rintro e w3 ⟨rfl, rfl⟩
  go_wp2_with fail
  go_ret
  exact ⟨by simp, bel2 HB.out B2.out⟩
end Go.Proofs.Ytjmonkhkcmcfiaa
