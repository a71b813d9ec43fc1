/- The walk of DiskStays. -/
import Derived.Test.YtfjcjaojbdcpeaaOA
import Derived.Test.YtfjcjaojbdcpeaaOC
import Derived.BigRegion
namespace Go.Proofs.Ytfjcjaojbdcpeaa
open Go.ChangeShapes Go.WideShapes Go.ChangeAt Go.RowKit Go.Maps
set_option maxHeartbeats 4000000 in
set_option maxRecDepth 100000 in
theorem stays_walk (z z1 : Int) (hz : wrap64 ((IntKind.u64.wrap z).tmod 40) = z1) (hz1 : 0 ≤ z1 ∧ z1 < 40) (p1 p2 kp : Option Addr) (n1 c1 n2 c2 m1 m2 kc : Nat) (l1 l2 : List UInt8) (ks : List Int) (w : World)
    (h1 : Lib.HoldsBytes w (.slice p1 m1 c1) l1) (h2 : Lib.HoldsBytes w (.slice p2 m2 c2) l2) (hm1 : min (n1 : Int) 2000 = (m1 : Int)) (hm2 : min (n2 : Int) 2000 = (m2 : Int)) (hc1 : m1 ≤ c1) (hc2 : m2 ≤ c2) (hk : Kp w kp ks) (hkl : ks.length ≤ 140737488355328) :
    Calls Try.prog 4 #[.int .i64 z, .slice p1 n1 c1, .slice p2 n2 c2, .slice kp ks.length kc] w fun e w' => e = .returned (.bool true) ∧ Below w.heap.size w w' := by
  have HN : Hid (Calls Try.prog 7 #[.int .i64 10000] w _) := new_calls 10000 ⟨by decide, by decide⟩ w
  have H1 : Hid (Lib.HoldsBytes w (.slice p1 m1 c1) l1) := h1
  have H2 : Hid (Lib.HoldsBytes w (.slice p2 m2 c2) l2) := h2
  have HK : Hid (Kp w kp ks) := hk
  have HKL : Hid (ks.length ≤ 140737488355328) := hkl
  generalize hkn : ks.length = kn
  have HKN : Hid (ks.length = kn) := hkn
  clear h1 h2 hk hkl hkn
  go_enter Try.func4, Try.ntmps4
  go_wp2_with fail
  refine HN.out.mono ?_
  rintro e w1 ⟨g, b, rfl, hbl, hgb, hk, hzm, hb⟩
  have HD0 : Hid (Dk w.heap.size w1 g 10000 (-1) false 0 b0 (fun _ => 0)) := dk_new hk hzm (by omega) hbl
  have HB1 : Hid (Below w.heap.size w w1) := hb
  clear hbl hgb hk hzm hb HN
  go_wp2_with fail
  have hx1 : (m1 : Int) ≤ (c1 : Int) := by omega
  have hx2 : (m2 : Int) ≤ (c2 : Int) := by omega
  go_region
  have hB1d : Below w1.heap.size w1 w1.drew := (Below.refl _ _).drew
  have E1 : Hid (l1.length = m1) := (len_of H1.out).symm
  have E2 : Hid (l2.length = m2) := (len_of H2.out).symm
  have HM : Hid (m1 ≤ 2000 ∧ m2 ≤ 2000) := by constructor <;> omega
  have HB1' : Hid (Below w.heap.size w w1.drew) := bel2 HB1.out hB1d
  have HA1 : Hid (Calls Try.prog 16 #[.pointer (some ⟨g, 0, none⟩), .int .i64 z1, .slice p1 m1 c1] w1.drew fun e w' => e = .returned (.int .i64 0) ∧ Dk w.heap.size w' g 10000 (-1) false 1 (upd (fun _ => []) z1 l1) (fun _ => 0) ∧ Below w.heap.size w1.drew w') := by
    have := append_live w.heap.size g 0 10000 b0 _ z1 hz1 p1 c1 l1 w1.drew (HD0.out.below hB1d) (by decide) (by rw [E1.out]; exact holds_below H1.out HB1'.out) (by rw [u0, E1.out]; have := HM.out; omega) (by decide)
    rw [E1.out] at this
    exact this
  clear hB1d HD0
  go_wp2_with fail
  refine HA1.out.mono ?_
  rintro e w2 ⟨rfl, d1, hb⟩
  have HS1 : Hid (Calls Try.prog 17 #[.pointer (some ⟨g, 0, none⟩)] w2 _) := sync_live w.heap.size g 1 10000 _ _ w2 d1 (by decide)
  have HB2 : Hid (Below w.heap.size w w2) := HB1'.out.trans hb
  clear d1 hb HA1
  go_wp2_with fail
  refine HS1.out.mono ?_
  rintro e w3 ⟨rfl, d2, hb⟩
  have HB3 : Hid (Below w.heap.size w w3) := HB2.out.trans hb
  have HA2 : Hid (Calls Try.prog 16 #[.pointer (some ⟨g, 0, none⟩), .int .i64 z1, .slice p2 m2 c2] w3 fun e w' => e = .returned (.int .i64 0) ∧ Dk w.heap.size w' g 10000 (-1) false 2 (upd (upd (fun _ => []) z1 l1) z1 (l1 ++ l2)) (fun k => ((upd (fun _ => []) z1 l1 k).length : Int)) ∧ Below w.heap.size w3 w') := by
    have := append_live w.heap.size g 1 10000 _ _ z1 hz1 p2 c2 l2 w3 d2 (by decide) (by rw [E2.out]; exact holds_below H2.out HB3.out) (by rw [used_upd l1 z1 hz1, E1.out, E2.out]; have := HM.out; omega) (by decide)
    rw [E2.out, upd_same] at this
    exact this
  clear d2 hb HS1
  go_wp2_with fail
  refine HA2.out.mono ?_
  rintro e w4 ⟨rfl, d3, hb⟩
  have HB4 : Hid (Below w.heap.size w w4) := HB3.out.trans hb
  have sur : Sur (upd (upd (fun _ => []) z1 l1) z1 (l1 ++ l2)) (fun k => ((upd (fun _ => []) z1 l1 k).length : Int)) := fun k => by
    by_cases e : k = z1
    · subst e; simp only [upd_same, List.length_append]; omega
    · simp only [upd_other _ _ e]; decide
  have hc0 := crash_calls w.heap.size g 2 10000 (-1) false _ _ ks kp kc w4 d3 sur (by decide) (HK.out.below HB4.out) HKL.out
  rw [HKN.out] at hc0
  have HC : Hid (Calls _ _ _ _ _) := hc0
  clear hc0
  obtain ⟨q1, q2⟩ := crB_pre ks (fun k => ((upd (fun _ => []) z1 l1 k).length : Int)) z1 (unsureOf (upd (upd (fun _ => []) z1 l1) z1 (l1 ++ l2)) (fun k => ((upd (fun _ => []) z1 l1 k).length : Int))) 0 _ sur
  simp only [upd_same, Int.toNat_natCast] at q1 q2
  rw [List.take_left] at q1
  generalize crB ks (fun k => ((upd (fun _ => []) z1 l1 k).length : Int)) (unsureOf (upd (upd (fun _ => []) z1 l1) z1 (l1 ++ l2)) (fun k => ((upd (fun _ => []) z1 l1 k).length : Int))) 0 (upd (upd (fun _ => []) z1 l1) z1 (l1 ++ l2)) = b3 at HC q1 q2
  have Q1 : Hid (l1 <+: b3 z1) := q1
  have Q2 : Hid (b3 z1 <+: l1 ++ l2) := q2
  have hl3 : (b3 z1).length ≤ 4000 := by have := q2.length_le; rw [List.length_append, E1.out, E2.out] at this; have := HM.out; omega
  have HL3 : Hid ((b3 z1).length ≤ 4000) := hl3
  clear d3 hb HA2 sur q1 q2 hl3
  go_wp2_with fail
  refine HC.out.mono ?_
  rintro e w5 ⟨rfl, ⟨b', n', D', av', cv', _, hk, hd⟩, hb⟩
  have ho := (hd.own z1).holds
  have hv3 := hd.hv z1
  have hwf : (Lit.int .i64 z1).wf = true := by simp [Lit.wf, IntKind.min, IntKind.max, IntKind.signed, IntKind.bits]; omega
  have HR : Hid (Calls Try.prog 19 #[.pointer (some ⟨g, 0, none⟩), .int .i64 z1] w5 _) := read2_calls g b' n' _ _ false D' z1 hwf _ _ _ _ (b3 z1) w5 hk hd.zm hv3 ho (by have := HL3.out; omega)
  have HB5 : Hid (Below w.heap.size w w5) := HB4.out.trans hb
  have hrd : rdE z1 false = 0 := by unfold rdE; rw [if_pos hz1, if_neg (by decide)]
  clear hk hd hb ho hv3 HC hwf
  go_wp2_with fail
  refine HR.out.mono ?_
  rintro e w6 ⟨ra, rn, rc, rfl, hh, hb, hrc⟩
  rw [hrd, if_pos rfl] at hh
  have HB6 : Hid (Below w.heap.size w w6) := bel2 HB5.out hb
  have h1' := holds_below H1.out HB6.out
  have h2' := holds_below H2.out HB6.out
  have HP1 : Hid (Calls Try.prog 20 #[.slice ra rn rc, .slice p1 m1 c1] w6 _) := hp_calls ra p1 rn m1 rc c1 _ _ w6 hh h1' hrc Q1.out
  have HCo : Hid (Calls Try.prog 21 #[.slice (some ⟨w6.heap.size, 0, none⟩) 2 2] (w6.alloc (.cells #[.slice p1 m1 c1, .slice p2 m2 c2] 31)) _) := CC.concat_calls w6.heap.size 2 2 [.slice p1 m1 c1, .slice p2 m2 c2] [l1, l2] (w6.alloc (.cells #[.slice p1 m1 c1, .slice p2 m2 c2] 31)) rfl (CC.parts_two w6 _ _ l1 l2 h1' h2' 31) (by decide) _ rfl (by simp only [Lib.lens, List.map_cons, List.map_nil, List.sum_cons, List.sum_nil]; rw [E1.out, E2.out]; have := HM.out; omega)
  have HH : Hid (Lib.HoldsBytes w6 (.slice ra rn rc) (b3 z1)) := hh
  rw [hrd]
  clear hh hb h1' h2' HR hrc
  go_wp2_with fail
  refine HP1.out.mono ?_
  rintro e w7 ⟨rfl, hw⟩
  have hw' := hw.symm
  subst hw'
  clear hw HP1
  go_wp2_with fail
  refine HCo.out.mono ?_
  rintro e w7 ⟨pv, kv, cv, rfl, hcv, hkc, hcb⟩
  have HB7 : Hid (Below w.heap.size w w7) := bel2 (bel2 HB6.out (bel1 _ _)) hcb
  have HP2 : Hid (Calls Try.prog 20 #[.slice pv kv cv, .slice ra rn rc] w7 _) := hp_calls pv ra kv rn cv rc _ _ w7 hcv (holds_below HH.out (bel2 (bel1 _ _) hcb)) hkc (by simpa using Q2.out)
  have HAw : Hid (Calls Try.prog 9 #[] w7 _) := awake_calls w7
  clear hcv hkc hcb HCo
  go_wp2_with fail
  refine HP2.out.mono ?_
  rintro e w8 ⟨rfl, hw⟩
  have hw' := hw.symm
  subst hw'
  clear hw HP2
  go_wp2_with fail
  refine HAw.out.mono ?_
  rintro e w8 ⟨rfl, hba⟩
  go_wp2_with fail
  go_ret
  exact ⟨rfl, bel2 HB7.out hba⟩
end Go.Proofs.Ytfjcjaojbdcpeaa
