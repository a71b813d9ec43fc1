/- The walk of BranchFinds. -/
import Derived.Test.YtoebbndcmelcfaaQ
namespace Go.Proofs.Ytoebbndcmelcfaa
open Go.ChangeAt Go.ChangeShapes Go.Deep Go.RowKit Go.WideShapes
theorem isC_self (ys : List Ev) : IsC ys ys ys.length := ⟨Nat.le_refl _, Nat.le_refl _, fun _ _ => rfl, fun h => by omega⟩
theorem rsame_self (a a2 : Option Addr) (c c2 NN m : Nat) (rs rs2 : List Rw) (ys : List Ev) (hm : ys.length = m) (hl : m ≤ 200) (w : World) (h1 : rs.length = ys.length) (h2 : rs2.length = ys.length) (hR : RowE w a rs) (hR2 : RowE w a2 rs2) (hE : ∀ i, IsE w NN (rx rs i) (ex ys i)) (hE2 : ∀ i, IsE w NN (rx rs2 i) (ex ys i)) :
    Calls Try.prog 8 #[.slice a m c, .slice a2 m c2] w fun e w' => e = .returned (.bool true) ∧ Below w.heap.size w w' := by
  refine (rsameL_calls a a2 c c2 NN rs rs2 ys ys m m (by omega) (by omega) hl hl w hR hE h1 hR2 hE2 h2).mono ?_
  rintro e w' ⟨⟨b, rfl, hb⟩, hbl⟩
  have : b = true := hb.2 ⟨rfl, by rw [← hm]; exact isC_self ys⟩
  subst this
  exact ⟨rfl, hbl⟩
theorem Hh.up {w : World} {N N' : Nat} {a : Option Addr} {hs : List Rw} {ys : List Ev} (h : Hh w N a hs ys) (hn : N ≤ N') : Hh w N' a hs ys := ⟨h.len, h.row, fun i => by
    obtain ⟨tv, e, hi⟩ := h.isE i
    exact ⟨tv, e, hi.up (by omega)⟩, fun i => (h.sml i).up (by omega)⟩
set_option maxHeartbeats 4000000 in
set_option maxRecDepth 100000 in
theorem finds_walk (a a2 : Option Addr) (c c2 NN : Nat) (hs hs2 : List Rw) (ys zs : List Ev) (N M : Nat) (hN : hs.length = N) (hM : hs2.length = M) (hl : N ≤ 200) (hl2 : M ≤ 200) (n kind : Int) (w : World) (hH : Hh w NN a hs ys) (hH2 : Hh w NN a2 hs2 zs) :
    Calls Try.prog 3 #[.slice a N c, .slice a2 M c2, .int .i64 n, .int .i64 kind] w fun e w' => e = .returned (.bool true) ∧ Below w.heap.size w w' := by
  have hfd : decide ((N : Int) ≤ 200) = true := decide_eq_true (by omega)
  have hfd2 : decide ((M : Int) ≤ 200) = true := decide_eq_true (by omega)
  have HF1 : Hid (Calls Try.prog 6 #[.slice a N c] w _) := few_calls a N c w
  have HF2 : Hid (Calls Try.prog 6 #[.slice a2 M c2] w _) := few_calls a2 M c2 w
  rw [hfd] at HF1
  rw [hfd2] at HF2
  have hnl := nk_le n N
  have K1 : Hid (∀ W, Below w.heap.size w W → Calls Try.prog 9 #[.slice a N c, .int .i64 n] W _) := fun W hW => fork_calls a c NN hs ys N hN hl n W (hH.below hW)
  have K2 : Hid (∀ W, Below w.heap.size w W → Calls Try.prog 10 #[.slice a N c, .int .i64 n] W _) := fun W hW => rfork_calls a c NN hs ys N hN hl n W (hH.below hW)
  have K3 : Hid (∀ W, Below w.heap.size w W → Calls Try.prog 12 #[.slice a N c, .int .i64 kind] W _) := fun W hW => find_calls a c hs N hN hl kind W (hH.row.below hW)
  have K4 : Hid (∀ W, Below w.heap.size w W → Calls Try.prog 13 #[.slice a N c, .int .i64 kind] W _) := fun W hW => rfind_calls a c hs N hN hl kind W (hH.row.below hW)
  have K5 : Hid (∀ W, Below w.heap.size w W → Calls Try.prog 14 #[.slice a N c, .int .i64 n, .int .i64 kind] W _) := fun W hW => after_calls a c NN hs ys N hN hl n kind W (hH.below hW)
  have K6 : Hid (∀ W, Below w.heap.size w W → Calls Try.prog 15 #[.slice a N c, .int .i64 n, .int .i64 kind] W _) := fun W hW => rafter_calls a c NN hs ys N hN hl n kind W (hH.below hW)
  have K7 : Hid (∀ W, Below w.heap.size w W → Calls Try.prog 16 #[.slice a N c, .slice a2 M c2] W _) := fun W hW => common_calls a a2 c c2 NN hs hs2 ys zs N M hN hM hl hl2 W (hH.row.below hW) (fun i => (hH.isE i).below hW) hH.len (hH2.row.below hW) (fun i => (hH2.isE i).below hW) hH2.len
  have K8 : Hid (∀ W, Below w.heap.size w W → Calls Try.prog 17 #[.slice a N c, .slice a2 M c2] W _) := fun W hW => rcommon_calls a a2 c c2 NN hs hs2 ys zs N M hN hM hl hl2 W (hH.row.below hW) (fun i => (hH.isE i).below hW) hH.len (hH2.row.below hW) (fun i => (hH2.isE i).below hW) hH2.len
  have K9 : Hid (∀ W, Below w.heap.size w W → Calls Try.prog 18 #[.slice a N c, .slice a2 M c2] W _) := fun W hW => sameL_calls a a2 c c2 NN hs hs2 ys zs N M hN hM hl hl2 W (hH.row.below hW) (fun i => (hH.isE i).below hW) hH.len (hH2.row.below hW) (fun i => (hH2.isE i).below hW) hH2.len
  have K10 : Hid (∀ W, Below w.heap.size w W → Calls Try.prog 8 #[.slice a N c, .slice a2 M c2] W _) := fun W hW => rsameL_calls a a2 c c2 NN hs hs2 ys zs N M hN hM hl hl2 W (hH.row.below hW) (fun i => (hH.isE i).below hW) hH.len (hH2.row.below hW) (fun i => (hH2.isE i).below hW) hH2.len
  have hfl : ((List.range (nk n N)).map (ex ys)).length ≤ 200 := by rw [List.length_map, List.length_range]; omega
  have hal := aft_len ys n kind (List.range N)
  rw [List.length_range] at hal
  have hnl2 := fnd_len hs kind (List.range N)
  rw [List.length_range] at hnl2
  generalize (List.range (nk n N)).map (ex ys) = fs at K1 K2 hfl
  generalize aft ys n kind (List.range N) = fz at K5 K6 hal
  generalize fnd hs kind (List.range N) = ns at K3 K4 hnl2
  have HL : Hid (fs.length ≤ 200 ∧ fz.length ≤ 200 ∧ ns.length ≤ 200) := ⟨hfl, by omega, by omega⟩
  clear hfd hfd2 hnl hfl hal hnl2 hN hM hl hl2 hH hH2
  go_enter Try.func3, Try.ntmps3
  go_wp2_with fail
  refine HF1.out.mono ?_
  rintro e w1 ⟨rfl, hw⟩
  have hw' := hw.symm
  subst hw'
  clear hw HF1
  go_wp2_with fail
  refine HF2.out.mono ?_
  rintro e w1 ⟨rfl, hw⟩
  have hw' := hw.symm
  subst hw'
  clear hw HF2
  go_wp2_with fail
  refine (K1.out w (Below.refl _ _)).mono ?_
  rintro e w1 ⟨v, rfl, hes, hb⟩
  obtain ⟨fa, fc, rs, rfl, _, hrl, hre, hie⟩ := hes.rows
  have HB1 : Hid (Below w.heap.size w w1) := hb
  have HRE : Hid (rs.length = fs.length ∧ RowE w1 fa rs ∧ ∀ i, IsE w1 NN (rx rs i) (ex fs i)) := ⟨hrl, hre, hie⟩
  generalize hm : fs.length = m
  have HM : Hid (fs.length = m) := hm
  clear hes hb hrl hre hie hm K1
  go_wp2_with fail
  refine (K2.out w1 HB1.out).mono ?_
  rintro e w2 ⟨v, rfl, hes, hb⟩
  obtain ⟨ga, gc, rs2, rfl, hrl, hre, hie⟩ := hes.rows
  have HB2 : Hid (Below w.heap.size w w2) := bel2 HB1.out hb
  have HS : Hid (Calls Try.prog 8 #[.slice fa m fc, .slice ga m gc] w2 _) := rsame_self fa ga fc gc NN m rs rs2 fs HM.out (by rw [← HM.out]; exact HL.out.1) w2 HRE.out.1 hrl (HRE.out.2.1.below hb) hre (fun i => (HRE.out.2.2 i).below hb) hie
  rw [HM.out]
  clear hes hb hrl hre hie HRE K2
  go_wp2_with fail
  refine HS.out.mono ?_
  rintro e w3 ⟨rfl, hb⟩
  have HB3 : Hid (Below w.heap.size w w3) := bel2 HB2.out hb
  clear hb HS HM
  go_wp2_with fail
  refine (K3.out w3 HB3.out).mono ?_
  rintro e w4 ⟨v, rfl, ho, hb⟩
  have HI1 : Hid (Ir w4 v ns) := ir_of ho
  have HB4 : Hid (Below w.heap.size w w4) := bel2 HB3.out hb
  clear ho hb K3
  go_wp2_with fail
  refine (K4.out w4 HB4.out).mono ?_
  rintro e w5 ⟨v2, rfl, ho, hb⟩
  have HE : Hid (Calls Try.prog 11 #[v, v2] w5 _) := iequal_calls v v2 ns w5 (HI1.out.below hb) (ir_of ho) (by have := HL.out; omega)
  have HB5 : Hid (Below w.heap.size w w5) := bel2 HB4.out hb
  clear ho hb K4 HI1
  go_wp2_with fail
  refine HE.out.mono ?_
  rintro e w6 ⟨rfl, hb⟩
  have HB6 : Hid (Below w.heap.size w w6) := bel2 HB5.out hb
  clear hb HE
  go_wp2_with fail
  refine (K5.out w6 HB6.out).mono ?_
  rintro e w7 ⟨v3, rfl, hes, hb⟩
  obtain ⟨fa3, fc3, rs3, rfl, _, hrl, hre, hie⟩ := hes.rows
  have HB7 : Hid (Below w.heap.size w w7) := bel2 HB6.out hb
  have HRE : Hid (rs3.length = fz.length ∧ RowE w7 fa3 rs3 ∧ ∀ i, IsE w7 NN (rx rs3 i) (ex fz i)) := ⟨hrl, hre, hie⟩
  generalize hm : fz.length = m3
  have HM : Hid (fz.length = m3) := hm
  clear hes hb hrl hre hie hm K5
  go_wp2_with fail
  refine (K6.out w7 HB7.out).mono ?_
  rintro e w8 ⟨v4, rfl, hes, hb⟩
  obtain ⟨ga3, gc3, rs4, rfl, hrl, hre, hie⟩ := hes.rows
  have HB8 : Hid (Below w.heap.size w w8) := bel2 HB7.out hb
  have HS : Hid (Calls Try.prog 8 #[.slice fa3 m3 fc3, .slice ga3 m3 gc3] w8 _) := rsame_self fa3 ga3 fc3 gc3 NN m3 rs3 rs4 fz HM.out (by rw [← HM.out]; exact HL.out.2.1) w8 HRE.out.1 hrl (HRE.out.2.1.below hb) hre (fun i => (HRE.out.2.2 i).below hb) hie
  rw [HM.out]
  clear hes hb hrl hre hie HRE K6
  go_wp2_with fail
  refine HS.out.mono ?_
  rintro e w9 ⟨rfl, hb⟩
  have HB9 : Hid (Below w.heap.size w w9) := bel2 HB8.out hb
  clear hb HS HM
  go_wp2_with fail
  refine (K7.out w9 HB9.out).mono ?_
  rintro e w10 ⟨⟨k, rfl, hk⟩, hb⟩
  have HB10 : Hid (Below w.heap.size w w10) := bel2 HB9.out hb
  have HK : Hid (IsC ys zs k) := hk
  clear hb hk K7
  go_wp2_with fail
  refine (K8.out w10 HB10.out).mono ?_
  rintro e w11 ⟨⟨k', rfl, hk⟩, hb⟩
  have HB11 : Hid (Below w.heap.size w w11) := bel2 HB10.out hb
  obtain rfl := hk.unique HK.out
  have hkk : ((k' : Int) == (k' : Int)) = true := by simp
  clear hb hk K8
  go_wp2_with fail
  refine (K9.out w11 HB11.out).mono ?_
  rintro e w12 ⟨⟨b1, rfl, hb1⟩, hb⟩
  have HB12 : Hid (Below w.heap.size w w12) := bel2 HB11.out hb
  have HBa : Hid (b1 = true ↔ (N = M ∧ IsC ys zs N)) := hb1
  clear hb hb1 K9
  go_wp2_with fail
  refine (K10.out w12 HB12.out).mono ?_
  rintro e w13 ⟨⟨b2, rfl, hb2⟩, hb⟩
  have HB13 : Hid (Below w.heap.size w w13) := bel2 HB12.out hb
  have hbb : b1 = b2 := Bool.eq_iff_iff.2 (HBa.out.trans hb2.symm)
  subst hbb
  have HAw : Hid (Calls Try.prog 7 #[] w13 _) := awake_calls w13
  clear hb hb2 HBa K10
  cases b1
  all_goals
    go_wp2_with fail
    refine HAw.out.mono ?_
    rintro e w14 ⟨rfl, hb⟩
    go_wp2_with fail
    go_ret
    exact ⟨rfl, bel2 HB13.out hb⟩
set_option maxHeartbeats 2000000 in
theorem finds_many (a a2 : Option Addr) (N c M c2 : Nat) (hN : ¬ (N ≤ 200 ∧ M ≤ 200)) (n kind : Int) (w : World) :
    Calls Try.prog 3 #[.slice a N c, .slice a2 M c2, .int .i64 n, .int .i64 kind] w fun e w' => e = .returned (.bool true) ∧ Below w.heap.size w w' := by
  have HF1 : Hid (Calls Try.prog 6 #[.slice a N c] w _) := few_calls a N c w
  have HF2 : Hid (Calls Try.prog 6 #[.slice a2 M c2] w _) := few_calls a2 M c2 w
  have HA : Hid (Calls Try.prog 7 #[] w _) := awake_calls w
  by_cases h1 : N ≤ 200
  · have hfd : decide ((N : Int) ≤ 200) = true := decide_eq_true (by omega)
    have hfd2 : decide ((M : Int) ≤ 200) = false := decide_eq_false (by omega)
    rw [hfd] at HF1
    rw [hfd2] at HF2
    clear hfd hfd2 hN h1
    go_enter Try.func3, Try.ntmps3
    go_wp2_with fail
    refine HF1.out.mono ?_
    rintro e w1 ⟨rfl, hw⟩
    have hw' := hw.symm
    subst hw'
    clear hw HF1
    go_wp2_with fail
    refine HF2.out.mono ?_
    rintro e w1 ⟨rfl, hw⟩
    have hw' := hw.symm
    subst hw'
    clear hw HF2
    go_wp2_with fail
    refine HA.out.mono ?_
    rintro e w1 ⟨rfl, hb⟩
    go_wp2_with fail
    go_ret
    exact ⟨rfl, hb⟩
  · have hfd : decide ((N : Int) ≤ 200) = false := decide_eq_false (by omega)
    rw [hfd] at HF1
    clear hfd hN h1 HF2
    go_enter Try.func3, Try.ntmps3
    go_wp2_with fail
    refine HF1.out.mono ?_
    rintro e w1 ⟨rfl, hw⟩
    have hw' := hw.symm
    subst hw'
    clear hw HF1
    go_wp2_with fail
    refine HA.out.mono ?_
    rintro e w1 ⟨rfl, hb⟩
    go_wp2_with fail
    go_ret
    exact ⟨rfl, hb⟩
end Go.Proofs.Ytoebbndcmelcfaa
