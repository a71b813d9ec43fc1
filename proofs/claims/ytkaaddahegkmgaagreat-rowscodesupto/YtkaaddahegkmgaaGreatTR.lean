/- The contract of the reference's Decode. -/
import Derived.Test.YtkaaddahegkmgaaGreatMY
import Derived.Test.YtkaaddahegkmgaaGreatTJ
import Derived.Test.YtkaaddahegkmgaaGreatTK
namespace Go.Proofs.YtkaaddahegkmgaaGreat
open Go.ChangeShapes Go.WideShapes Go.ChangeAt Go.RowKit
/-- append with a known run, as a step of a region that draws its order. -/
theorem step_app_run {P : Program} {ops : Array Oper} {o : Oper} {a : Act} {w : World} {K : Act → World → Prop} {Q : Exit → Act → World → Prop} {E : Prop}
    (hg : o.guard = none) (s x : Operand) (t : TypeId) (hop : o.op = Op.call { callee := Callee.builtin Builtin.append, args := #[s, x], argTypes := #[t, t] })
    (vs vx : Value) (hs : a.eval s = vs) (hx : a.eval x = vx) {v' : Value} {w' : World} (hr : ∀ ty, (Builtin.append_ #[t, t] ty #[vs, vx]).run P w = .ok v' w') (hK : K (a.put o.dst v') w') :
    if Region.wanted o (yielded ops a.tmps) = true then Oper.wp P o a w K Q else E := by
  have hw : Region.wanted o (yielded ops a.tmps) = true := by simp [Region.wanted, hg]
  rw [if_pos hw]
  have hrun := hr o.type
  unfold Oper.wp
  simp [execOp, hop, resolve, invoke, builtin, hs, hx, hrun, Result.andThen]
  exact hK
theorem text_le (m : Int) (hm : 0 ≤ m) (l : List UInt8) (e : Int) : ((sText m l e).1.length : Int) ≤ m := by
  have h0 := sNum_nat m l e
  have h1 := num_top hm l e
  unfold sText
  split
  · split
    · simpa using hm
    · simp only [List.length_take]
      omega
  · simpa using hm
set_option maxHeartbeats 16000000 in
set_option maxRecDepth 100000 in
theorem rdecodeX (v : Value) (l : List UInt8) (w : World) (hv : Lib.HoldsBytes w v l) (hl : l.length ≤ 140737488351232) : Calls Tryz.prog 7 #[v] w (DcX l w) := by
  have OC : Hid (Calls Tryz.prog 20 #[v] (w.alloc (.cells #[.slice none 0 0, .slice none 0 0] 25)) _) := ropen2_calls v l _ (holds_below hv (bel1 _ _)) hl (by simp)
  obtain ⟨va, vn, vc, rfl⟩ : ∃ p n c, v = .slice p n c := by obtain ⟨p, c, rfl, _⟩ := hv; exact ⟨_, _, _, rfl⟩
  have HP : Hid (∀ x w', (∃ u b r' c, x = .returned (.tuple #[.agg #[u, b], .int .i64 c]) ∧ IsR (fun _ => True) w' (.agg #[u, b]) r' ∧ DeX (rdD l) c r') → Below w.heap.size w w' → DcX l w x w') := fun _ _ h1 h2 => ⟨h1, h2⟩
  generalize DcX l w = DP' at HP ⊢
  have N1 : Hid (∀ W g h, RT W g h l 0 → Calls Tryz.prog 21 #[.pointer (some ⟨g, 0, none⟩), .int .i64 10000] W (Rr W g h (.int .i64 (sNum 10000 l 0).1) (sNum 10000 l 0).2.1 (sNum 10000 l 0).2.2)) := fun W g h r => rnum_rt W g h l 0 10000 r
  have n0 : 0 ≤ (sNum 10000 l 0).1 := sNum_nat 10000 _ _
  have nle : (sNum 10000 l 0).1 ≤ 10000 := num_top (m := 10000) (by decide) _ _
  have hdef : rdD l = (⟨(rdL rdRw (sNum 10000 l 0).1.toNat (sNum 10000 l 0).2.1 (sNum 10000 l 0).2.2).1, (rdN 10000 rdBn (rdL rdRw (sNum 10000 l 0).1.toNat (sNum 10000 l 0).2.1 (sNum 10000 l 0).2.2).2.1 (rdL rdRw (sNum 10000 l 0).1.toNat (sNum 10000 l 0).2.1 (sNum 10000 l 0).2.2).2.2).1⟩, (rdN 10000 rdBn (rdL rdRw (sNum 10000 l 0).1.toNat (sNum 10000 l 0).2.1 (sNum 10000 l 0).2.2).2.1 (rdL rdRw (sNum 10000 l 0).1.toNat (sNum 10000 l 0).2.1 (sNum 10000 l 0).2.2).2.2).2) := rfl
  generalize sNum 10000 l 0 = Q1 at N1 n0 nle hdef
  obtain ⟨n1, l1, e1⟩ := Q1
  dsimp only at N1 n0 nle hdef
  obtain ⟨N, rfl⟩ := Int.eq_ofNat_of_zero_le n0
  rw [Int.toNat_natCast] at hdef
  have HN : Hid (N ≤ 10000) := by show _ ≤ _; omega
  have HL0 : Hid (Lp rdRw N (rdL rdRw N l1 e1) 0 [] l1 e1) := Lp.first _ _ _ _
  generalize rdL rdRw N l1 e1 = R at HL0 hdef
  obtain ⟨Rs, Rl, Re⟩ := R
  dsimp only at hdef
  clear n0 nle
  have N2 : Hid (∀ W g h, RT W g h Rl Re → Calls Tryz.prog 21 #[.pointer (some ⟨g, 0, none⟩), .int .i64 10000] W (Rr W g h (.int .i64 (sNum 10000 Rl Re).1) (sNum 10000 Rl Re).2.1 (sNum 10000 Rl Re).2.2)) := fun W g h r => rnum_rt W g h _ _ 10000 r
  have n0 : 0 ≤ (sNum 10000 Rl Re).1 := sNum_nat 10000 _ _
  have nle : (sNum 10000 Rl Re).1 ≤ 10000 := num_top (m := 10000) (by decide) _ _
  have hst : (rdL rdBn (sNum 10000 Rl Re).1.toNat (sNum 10000 Rl Re).2.1 (sNum 10000 Rl Re).2.2).2.2 = 0 → Re = 0 := fun h0 => num_stuck 10000 Rl Re (rdL_stuck bn_codes.stuck _ _ _ h0)
  unfold rdN at hdef
  generalize sNum 10000 Rl Re = Q2 at N2 n0 nle hdef hst
  obtain ⟨n2, l2, e2⟩ := Q2
  dsimp only at N2 n0 nle hdef hst
  obtain ⟨M, rfl⟩ := Int.eq_ofNat_of_zero_le n0
  rw [Int.toNat_natCast] at hdef hst
  have HMM : Hid (M ≤ 10000) := by show _ ≤ _; omega
  have HB0 : Hid (Lp rdBn M (rdL rdBn M l2 e2) 0 [] l2 e2) := Lp.first _ _ _ _
  generalize rdL rdBn M l2 e2 = B at HB0 hdef hst
  obtain ⟨Bs, Bl, Be⟩ := B
  dsimp only at hdef hst
  have HRD : Hid (rdD l = (⟨Rs, Bs⟩, Bl, Be)) := hdef
  have HST : Hid (Be = 0 → Re = 0) := hst
  clear n0 nle hv hl hdef hst
  go_enter Tryz.func7, Tryz.ntmps7
  go_wp2_with fail
  refine OC.out.mono ?_
  rintro x w1 ⟨g, h, rfl, hg, hh, s1, b1⟩
  have M2 : Hid (RS w (w1.alloc (.cells #[.slice none 0 0, .slice none 0 0] 25)) (w1.alloc (.cells #[.slice none 0 0, .slice none 0 0] 25)) g h w1.heap.size l 0 #[.slice none 0 0, .slice none 0 0]) := RS.first _ hg hh b1 s1
  obtain ⟨wm, hwm⟩ : ∃ W3, W3 = w1.alloc (.cells #[.slice none 0 0, .slice none 0 0] 25) := ⟨_, rfl⟩
  obtain ⟨q, hq⟩ : ∃ q, q = w1.heap.size := ⟨_, rfl⟩
  rw [← hwm, ← hq] at M2
  have HWM : Hid (wm = _) := hwm
  have HQ : Hid (q = w1.heap.size) := hq
  clear hg hh s1 b1 OC hwm hq
  go_upto_region 3 with fail
  rw [← HWM.out, ← HQ.out]
  have C1 : Hid (Calls Tryz.prog 21 #[.pointer (some ⟨g, 0, none⟩), .int .i64 10000] wm _) := N1.out wm g h M2.out.st
  clear HWM HQ N1
  go_wp2_with fail
  refine C1.out.mono ?_
  rintro x w2 ⟨rfl, s2, k2⟩
  have M3 : Hid (RS w wm w2 g h q l1 e1 #[.slice none 0 0, .slice none 0 0]) := M2.out.read s2 k2
  clear s2 k2 C1 M2
  go_wp2_with fail
  go_loopw [7] (fun i wr => ∃ (j : Nat) (wa : Option Addr) (wn wc : Nat) (acc : List Rw) (lj : List UInt8) (ej : Int), j ≤ N ∧ i = .int .i64 (j : Int) ∧ Hid (acc.length = j) ∧ Hid (RS w wm wr g h q lj ej #[.slice wa wn wc, .slice none 0 0]) ∧ Hid (Gr rowE wm.heap.size (fun B => wm.heap.size ≤ B) wr (.slice wa wn wc) acc) ∧ Hid (Lp rdRw N (Rs, Rl, Re) j acc lj ej)) (fun i _ => N - (intOf i).toNat)
  case atStart => exact ⟨0, none, 0, 0, [], l1, e1, Nat.zero_le _, rfl, rfl, M3, Gr.nil _ _ _, HL0⟩
  case round =>
    obtain ⟨j, wa, wn, wc, acc, lj, ej, hj, rfl, HA, HM, HG, HJ⟩ := hrel
    have EC : Hid (Calls Tryz.prog 22 #[.pointer (some ⟨g, 0, none⟩)] wr _) := rerr_rt _ _ _ _ _ HM.out.st
    have HAl : Hid (acc.length ≤ 100000) := by have := HA.out; have := HN.out; show _ ≤ _; omega
    clear M3 HL0
    by_cases hlt : j < N
    · have hjl : (j : Int) < (N : Int) := by omega
      by_cases h0 : ej = 0
      · subst h0
        go_wp2_with fail
        refine EC.out.mono ?_
        rintro x wz ⟨rfl, hwz⟩
        have hwz2 := hwz.symm
        subst hwz2
        clear hwz EC
        have T1 : Hid (Calls Tryz.prog 23 #[.pointer (some ⟨g, 0, none⟩), .int .i64 64] wr (Rr wr g h (.string (str (sText 64 lj 0).1)) (sText 64 lj 0).2.1 (sText 64 lj 0).2.2)) := rtext_rt wr g h lj 0 64 HM.out.st
        have hW : rdRw lj 0 = (⟨str (sText 64 lj 0).1, (sNum 2147483648 (sText 64 lj 0).2.1 (sText 64 lj 0).2.2).1, (sText 524288 (sNum 2147483648 (sText 64 lj 0).2.1 (sText 64 lj 0).2.2).2.1 (sNum 2147483648 (sText 64 lj 0).2.1 (sText 64 lj 0).2.2).2.2).1⟩, (sText 524288 (sNum 2147483648 (sText 64 lj 0).2.1 (sText 64 lj 0).2.2).2.1 (sNum 2147483648 (sText 64 lj 0).2.1 (sText 64 lj 0).2.2).2.2).2) := rfl
        generalize sText 64 lj 0 = Q1 at T1 hW
        obtain ⟨Y1, m1, f1⟩ := Q1
        dsimp only at T1 hW
        have T2 : Hid (∀ W, RT W g h m1 f1 → Calls Tryz.prog 21 #[.pointer (some ⟨g, 0, none⟩), .int .i64 2147483648] W (Rr W g h (.int .i64 (sNum 2147483648 m1 f1).1) (sNum 2147483648 m1 f1).2.1 (sNum 2147483648 m1 f1).2.2)) := fun W r => rnum_rt W g h _ _ 2147483648 r
        generalize sNum 2147483648 m1 f1 = Q2 at T2 hW
        obtain ⟨kv, m2, f2⟩ := Q2
        dsimp only at T2 hW
        have T3 : Hid (∀ W, RT W g h m2 f2 → Calls Tryz.prog 23 #[.pointer (some ⟨g, 0, none⟩), .int .i64 524288] W (Rr W g h (.string (str (sText 524288 m2 f2).1)) (sText 524288 m2 f2).2.1 (sText 524288 m2 f2).2.2)) := fun W r => rtext_rt W g h _ _ 524288 r
        have hY3 := text_le 524288 (by decide) m2 f2
        generalize sText 524288 m2 f2 = Q3 at T3 hW hY3
        obtain ⟨Y3, m3, f3⟩ := Q3
        dsimp only at T3 hW hY3
        have HYl : Hid (Y3.length ≤ 9223372036854775807) := by show _ ≤ _; omega
        generalize str Y1 = br at T1 hW
        have HW : Hid (rdRw lj 0 = (⟨br, kv, Y3⟩, m3, f3)) := hW
        clear hW hY3
        go_wp2_with fail
        refine T1.out.mono ?_
        rintro x w10 ⟨rfl, s1, k1⟩
        have P1 : Hid (RW w wm wr (w10.alloc (.cells #[.string br, .int .i64 0, .slice none 0 0] 47)) g h q w10.heap.size m1 f1 _ #[.string br, .int .i64 0, .slice none 0 0] 47) := RW.first HM.out _ 47 s1 k1
        obtain ⟨W11, hW11⟩ : ∃ W11, W11 = w10.alloc (.cells #[.string br, .int .i64 0, .slice none 0 0] 47) := ⟨_, rfl⟩
        obtain ⟨p, hp⟩ : ∃ p, p = w10.heap.size := ⟨_, rfl⟩
        rw [← hW11, ← hp] at P1
        have HW11 : Hid (W11 = _) := hW11
        have HPP : Hid (p = w10.heap.size) := hp
        clear s1 k1 hW11 hp T1
        go_upto_region 8 with fail
        rw [← HW11.out, ← HPP.out]
        have C2 : Hid (Calls Tryz.prog 21 #[.pointer (some ⟨g, 0, none⟩), .int .i64 2147483648] W11 _) := T2.out W11 P1.out.rs.st
        clear HW11 HPP T2
        go_wp2_with fail
        refine C2.out.mono ?_
        rintro x w12 ⟨rfl, s2, k2⟩
        have P2 : Hid (RW w wm wr w12 g h q p m2 f2 _ _ 47) := P1.out.read s2 k2
        have P3 : Hid (RW w wm wr (w12.setCell ⟨p, 1, none⟩ (.int .i64 kv)) g h q p m2 f2 #[.slice wa wn wc, .slice none 0 0] #[.string br, .int .i64 kv, .slice none 0 0] 47) := P2.out.put 1 _
        have yy : w12.cell? ⟨p, 1, none⟩ = some (.int .i64 0) := P2.out.wb.cell 1
        have zz := P2.out.wb.frozen 1
        obtain ⟨W13, hW13⟩ : ∃ W13, W13 = w12.setCell ⟨p, 1, none⟩ (.int .i64 kv) := ⟨_, rfl⟩
        rw [← hW13] at P3
        have HW13 : Hid (W13 = _) := hW13
        clear s2 k2 hW13 C2 P1 P2
        go_upto_region 9 with fail
        rw [← HW13.out]
        have C3 : Hid (Calls Tryz.prog 23 #[.pointer (some ⟨g, 0, none⟩), .int .i64 524288] W13 _) := T3.out W13 P3.out.rs.st
        clear HW13 T3 yy zz
        go_wp2_with fail
        refine C3.out.mono ?_
        rintro x w14 ⟨rfl, s3, k3⟩
        have P4 : Hid (RW w wm wr w14 g h q p m3 f3 _ _ 47) := P3.out.read s3 k3
        obtain ⟨cap, w15, hcv, hh15, hb15⟩ := conv_hb Y3 w14 HYl.out
        have P5 : Hid (RW w wm wr w15 g h q p m3 f3 _ _ 47) := P4.out.below hb15
        have y2 : w15.cell? ⟨p, 2, none⟩ = some (.slice none 0 0) := P5.out.wb.cell 2
        have z2 := P5.out.wb.frozen 2
        have P6 : Hid (RW w wm wr (w15.setCell ⟨p, 2, none⟩ (.slice (some ⟨w14.heap.size, 0, none⟩) Y3.length cap)) g h q p m3 f3 #[.slice wa wn wc, .slice none 0 0] #[.string br, .int .i64 kv, .slice (some ⟨w14.heap.size, 0, none⟩) Y3.length cap] 47) := P5.out.put 2 _
        have HV6 : Hid (HB (fun B => wr.heap.size ≤ B) (w15.setCell ⟨p, 2, none⟩ (.slice (some ⟨w14.heap.size, 0, none⟩) Y3.length cap)) (.slice (some ⟨w14.heap.size, 0, none⟩) Y3.length cap) Y3) := hh15.keep (fun B hB _ => by
          have a := P4.out.wb.lt
          have b := P4.out.p0
          exact ⟨Below.heap_setCell _ _ _ _ (fun e => by have e : B = p := e; omega), by omega⟩)
        obtain ⟨W16, hW16⟩ : ∃ W16, W16 = w15.setCell ⟨p, 2, none⟩ (.slice (some ⟨w14.heap.size, 0, none⟩) Y3.length cap) := ⟨_, rfl⟩
        rw [← hW16] at P6 HV6
        have HW16 : Hid (W16 = _) := hW16
        clear s3 k3 hh15 hb15 hW16 C3 P3 P4 P5
        go_upto_region 10 with fail
        rw [← HW16.out]
        clear HW16 y2 z2 hcv
        generalize w14.heap.size = rb at P6 HV6
        obtain ⟨wa', wn', wc', w17, HS⟩ := row_step (x := ⟨br, kv, Y3⟩) (i := 0) P6.out rfl HV6.out HG.out HAl.out
        have HSS : Hid (ApS rowE 22 0 w wm W16 w17 g h q m3 f3 #[.slice wa wn wc, .slice none 0 0] #[.string br, .int .i64 kv, .slice (some ⟨rb, 0, none⟩) Y3.length cap] wa wn wc wa' wn' wc' (acc ++ [⟨br, kv, Y3⟩])) := HS
        have hr : ∀ t, (Builtin.append_ #[22, 22] t #[.slice wa wn wc, .slice (some ⟨W16.heap.size, 0, none⟩) 1 1]).run Tryz.prog (W16.alloc (.cells #[.string br, .int .i64 kv, .slice (some ⟨rb, 0, none⟩) Y3.length cap] 47)) = .ok (.slice wa' wn' wc') w17 := HS.run
        have a5 := HS.c5
        have a6 := HS.frz
        have y0 : W16.cell? ⟨q, 0, none⟩ = some (.slice wa wn wc) := P6.out.rs.own.cell 0
        have v0 : W16.cell? ⟨p, 0, none⟩ = some (.string br) := P6.out.wb.cell 0
        have v1 : W16.cell? ⟨p, 1, none⟩ = some (.int .i64 kv) := P6.out.wb.cell 1
        have v2 : W16.cell? ⟨p, 2, none⟩ = some (.slice (some ⟨rb, 0, none⟩) Y3.length cap) := P6.out.wb.cell 2
        have hN4 : (N : Int) ≤ 10000 := by have := HN.out; omega
        clear HS
        go_wp2_with (at_builtin; refine Lib.wpList_append_run _ rfl _ _ 22 22 rfl _ _ rfl rfl _ _ (hr _) ?_)
        exact ⟨⟨j + 1, wa', wn', wc', acc ++ [(⟨br, kv, Y3⟩ : Rw)], m3, f3, hlt, by rw [Int.natCast_add]; rfl, (by show _ = _; rw [List.length_append, HA.out]; rfl), HSS.out.rs, HSS.out.gr, HJ.out.more hlt (by rw [HW.out]) (fun _ => by rw [HW.out])⟩, by simp only [intOf]; omega⟩
      · have d0 : (ej == 0) = false := by simpa using h0
        have HJR : Hid ((Rl, Re) = (lj, ej) ∧ (ej = 0 → Rs = acc)) := HJ.out.err h0 row_bad
        clear h0 hjl
        go_wp2_with fail
        refine EC.out.mono ?_
        rintro x wz ⟨rfl, hwz⟩
        have hwz2 := hwz.symm
        subst hwz2
        clear hwz EC
        have HM1 : Hid (RS w wm wr g h q lj ej #[.slice wa wn wc, .slice none 0 0]) := HM
        obtain ⟨ra, hra⟩ : ∃ a, a = wa := ⟨_, rfl⟩
        obtain ⟨rn, hrn⟩ : ∃ a, a = wn := ⟨_, rfl⟩
        obtain ⟨rc, hrc⟩ : ∃ a, a = wc := ⟨_, rfl⟩
        rw [← hra, ← hrn, ← hrc] at HM1 HG
        clear hra hrn hrc HM
        have hjr := HJR.out.1
        injection hjr with hja hjb
        subst hja hjb
        clear HJ hj
        go_upto_region 11 with fail
        have C11 : Hid (Calls Tryz.prog 21 #[.pointer (some ⟨g, 0, none⟩), .int .i64 10000] wr _) := N2.out wr g h HM1.out.st
        go_wp2_with fail
        refine C11.out.mono ?_
        rintro x wm2 ⟨rfl, s11, k11⟩
        have M11 : Hid (RS w wm2 wm2 g h q l2 e2 #[.slice ra rn rc, .slice none 0 0]) := (HM1.out.read s11 k11).next
        have HROW : Hid (Sl rowE (fun B => wm.heap.size ≤ B) wm2 (.slice ra rn rc) acc) := by
          have a := HM1.out.gq
          have b := HM1.out.qm
          exact (HG.out.sl (P := fun B => wm.heap.size ≤ B) fun B hB => by omega).keep fun B hB hl => ⟨k11.2.2.2.2 B hl (by omega), hB⟩
        clear s11 k11 C11 HG N2
        go_wp2_with fail
        go_loopw [9] (fun i wr => ∃ (j : Nat) (ba : Option Addr) (bn bc : Nat) (acc2 : List Bn) (lk : List UInt8) (ek : Int), j ≤ M ∧ i = .int .i64 (j : Int) ∧ Hid (acc2.length = j) ∧ Hid (RS w wm2 wr g h q lk ek #[.slice ra rn rc, .slice ba bn bc]) ∧ Hid (Gr brE wm2.heap.size (fun B => wm2.heap.size ≤ B) wr (.slice ba bn bc) acc2) ∧ Hid (Lp rdBn M (Bs, Bl, Be) j acc2 lk ek)) (fun i _ => M - (intOf i).toNat)
        case atStart => exact ⟨0, none, 0, 0, [], l2, e2, Nat.zero_le _, rfl, rfl, M11, Gr.nil _ _ _, HB0⟩
        case round =>
          obtain ⟨j, ba, bn, bc, acc2, lk, ek, hj, rfl, HA2, HM2, HG2, HJ2⟩ := hrel
          have EC : Hid (Calls Tryz.prog 22 #[.pointer (some ⟨g, 0, none⟩)] wr _) := rerr_rt _ _ _ _ _ HM2.out.st
          have HAl2 : Hid (acc2.length ≤ 100000) := by have := HA2.out; have := HMM.out; show _ ≤ _; omega
          clear M11 HB0
          by_cases hlt : j < M
          · have hjl : (j : Int) < (M : Int) := by omega
            by_cases h0 : ek = 0
            · subst h0
              go_wp2_with fail
              refine EC.out.mono ?_
              rintro x wz ⟨rfl, hwz⟩
              have hwz2 := hwz.symm
              subst hwz2
              clear hwz EC
              have T1 : Hid (Calls Tryz.prog 23 #[.pointer (some ⟨g, 0, none⟩), .int .i64 64] wr (Rr wr g h (.string (str (sText 64 lk 0).1)) (sText 64 lk 0).2.1 (sText 64 lk 0).2.2)) := rtext_rt wr g h lk 0 64 HM2.out.st
              have T2 : Hid (∀ W, RT W g h (sText 64 lk 0).2.1 (sText 64 lk 0).2.2 → Calls Tryz.prog 21 #[.pointer (some ⟨g, 0, none⟩), .int .i64 120] W (Rr W g h (.int .i64 (sNum 120 (sText 64 lk 0).2.1 (sText 64 lk 0).2.2).1) (sNum 120 (sText 64 lk 0).2.1 (sText 64 lk 0).2.2).2.1 (sNum 120 (sText 64 lk 0).2.1 (sText 64 lk 0).2.2).2.2)) := fun W r => rnum_rt W g h _ _ 120 r
              have hW : rdBn lk 0 = (⟨str (sText 64 lk 0).1, (rdL (sText 4096) (sNum 120 (sText 64 lk 0).2.1 (sText 64 lk 0).2.2).1.toNat (sNum 120 (sText 64 lk 0).2.1 (sText 64 lk 0).2.2).2.1 (sNum 120 (sText 64 lk 0).2.1 (sText 64 lk 0).2.2).2.2).1⟩, (rdL (sText 4096) (sNum 120 (sText 64 lk 0).2.1 (sText 64 lk 0).2.2).1.toNat (sNum 120 (sText 64 lk 0).2.1 (sText 64 lk 0).2.2).2.1 (sNum 120 (sText 64 lk 0).2.1 (sText 64 lk 0).2.2).2.2).2) := rfl
              generalize sText 64 lk 0 = Q1 at T1 T2 hW
              obtain ⟨Y1, m1, f1⟩ := Q1
              dsimp only at T1 T2 hW
              have n0 : 0 ≤ (sNum 120 m1 f1).1 := sNum_nat 120 _ _
              have nle : (sNum 120 m1 f1).1 ≤ 120 := num_top (m := 120) (by decide) _ _
              generalize sNum 120 m1 f1 = Q2 at T2 hW n0 nle
              obtain ⟨nE, m2, f2⟩ := Q2
              dsimp only at T2 n0 nle hW
              obtain ⟨K, rfl⟩ := Int.eq_ofNat_of_zero_le n0
              rw [Int.toNat_natCast] at hW
              have HF0 : Hid (Lp (sText 4096) K (rdL (sText 4096) K m2 f2) 0 [] m2 f2) := Lp.first _ _ _ _
              generalize rdL (sText 4096) K m2 f2 = RE at HF0 hW
              obtain ⟨Ee, El, Er⟩ := RE
              dsimp only at hW
              generalize str Y1 = br at T1 hW
              have HW : Hid (rdBn lk 0 = (⟨br, Ee⟩, El, Er)) := hW
              have HKb : Hid (K ≤ 120) := by show _ ≤ _; omega
              clear hW n0 nle
              go_wp2_with fail
              refine T1.out.mono ?_
              rintro x w10 ⟨rfl, s1, k1⟩
              have P1 : Hid (RW w wm2 wr (w10.alloc (.cells #[.string br, .slice none 0 0] 39)) g h q w10.heap.size m1 f1 _ #[.string br, .slice none 0 0] 39) := RW.first HM2.out _ 39 s1 k1
              obtain ⟨W11, hW11⟩ : ∃ W11, W11 = w10.alloc (.cells #[.string br, .slice none 0 0] 39) := ⟨_, rfl⟩
              obtain ⟨p, hp⟩ : ∃ p, p = w10.heap.size := ⟨_, rfl⟩
              rw [← hW11, ← hp] at P1
              have HW11 : Hid (W11 = _) := hW11
              have HPP : Hid (p = w10.heap.size) := hp
              clear s1 k1 hW11 hp T1
              go_upto_region 16 with fail
              rw [← HW11.out, ← HPP.out]
              have C2 : Hid (Calls Tryz.prog 21 #[.pointer (some ⟨g, 0, none⟩), .int .i64 120] W11 _) := T2.out W11 P1.out.rs.st
              clear HW11 HPP T2
              go_wp2_with fail
              refine C2.out.mono ?_
              rintro x w12 ⟨rfl, s2, k2⟩
              have P2 : Hid (RW w wm2 wr w12 g h q p m2 f2 _ _ 39) := P1.out.read s2 k2
              clear s2 k2 C2 P1
              obtain ⟨W0, hW0⟩ : ∃ W0, W0 = wr := ⟨_, rfl⟩
              rw [← hW0] at P2 HG2
              clear hW0 HM2
              go_wp2_with fail
              go_loopw [12] (fun i wr => ∃ (m : Nat) (ua : Option Addr) (un uc : Nat) (ac3 : List (List UInt8)) (lm : List UInt8) (em : Int), m ≤ K ∧ i = .int .i64 (m : Int) ∧ Hid (ac3.length = m) ∧ Hid (RW w wm2 W0 wr g h q p lm em #[.slice ra rn rc, .slice ba bn bc] #[.string br, .slice ua un uc] 39) ∧ Hid (Gr evE (p + 1) (fun B => p + 1 ≤ B) wr (.slice ua un uc) ac3) ∧ Hid (Lp (sText 4096) K (Ee, El, Er) m ac3 lm em)) (fun i _ => K - (intOf i).toNat)
              case atStart => exact ⟨0, none, 0, 0, [], m2, f2, Nat.zero_le _, rfl, rfl, P2, Gr.nil _ _ _, HF0⟩
              case round =>
                obtain ⟨m, ua, un, uc, ac3, lm, em, hm, rfl, HB, HP3, HQ3, HJ3⟩ := hrel
                have EC : Hid (Calls Tryz.prog 22 #[.pointer (some ⟨g, 0, none⟩)] wr _) := rerr_rt _ _ _ _ _ HP3.out.rs.st
                have HBl : Hid (ac3.length ≤ 1000) := by have := HB.out; have := HKb.out; show _ ≤ _; omega
                clear P2 HF0
                by_cases hlt2 : m < K
                · have hml : (m : Int) < (K : Int) := by omega
                  by_cases h0 : em = 0
                  · subst h0
                    go_wp2_with fail
                    refine EC.out.mono ?_
                    rintro x wz ⟨rfl, hwz⟩
                    have hwz2 := hwz.symm
                    subst hwz2
                    clear hwz EC
                    have HTX := rtext_rt wr.drew g h lm 0 4096 ((HP3.out.below (Below.refl _ wr).drew).rs.st)
                    generalize hTX : sText 4096 lm 0 = TX at HTX
                    obtain ⟨Y, lx, ex⟩ := TX
                    dsimp only at HTX
                    have HTC : Hid (Calls Tryz.prog 23 #[.pointer (some ⟨g, 0, none⟩), .int .i64 4096] wr.drew (Rr wr.drew g h (.string (str Y)) lx ex)) := HTX
                    have HNX : Hid (sText 4096 lm 0 = (Y, lx, ex)) := hTX
                    have HYl : Hid (Y.length ≤ 9223372036854775807) := by
                      have h1 := text_le 4096 (by decide) lm 0
                      rw [hTX] at h1
                      show _ ≤ _
                      dsimp only at h1
                      omega
                    have y4 : wr.cell? ⟨p, 1, none⟩ = some (.slice ua un uc) := HP3.out.wb.cell 1
                    have hM120 : (K : Int) ≤ 120 := by have := HKb.out; omega
                    clear HTX hTX
                    go_wp2_with fail
                    go_region_law (first
                      | (go_simp; go_at_call 23; refine HTC.out.mono ?_; rintro x w20 ⟨rfl, s20, k20⟩; obtain ⟨cap2, w21, hcv, hh21, hb21⟩ := conv_hb Y w20 HYl.out; obtain ⟨ua', un', uc', w22, HS⟩ := ev_step HP3.out HQ3.out s20 k20 hh21 hb21 HBl.out; have HSS : Hid (EvS _ _ _ _ _ _ _ _ _ _ _ _ _ _ _ _ _ _ _ _ _ _) := HS; have hr := HS.run; have a2 := HS.c2; have a3 := HS.c3; have a4 := HS.c4; have a5 := HS.c5; have a6 := HS.frz; clear HS s20 k20 hh21 hb21; generalize Y.length = zY at hcv hr HSS a4)
                      | (refine step_app_run rfl (.tmp 72) (.tmp 76) 37 rfl (.slice ua un uc) (.slice (some ⟨w21.heap.size, 0, none⟩) 1 1) rfl rfl (by with_reducible assumption) ?_))
                    all_goals go_wp2_with fail
                    all_goals exact ⟨⟨m + 1, ua', un', uc', ac3 ++ [Y], _, _, hlt2, by rw [Int.natCast_add]; rfl, (by show _ = _; rw [List.length_append, HB.out]; rfl), HSS.out.mid, HSS.out.ev, HJ3.out.more hlt2 (by rw [HNX.out]) (fun _ => by rw [HNX.out])⟩, by simp only [intOf]; omega⟩
                  · have d0 : (em == 0) = false := by simpa using h0
                    have HJE : Hid ((El, Er) = (lm, em) ∧ (em = 0 → Ee = ac3)) := HJ3.out.err h0 (text_bad _)
                    clear h0 hml
                    go_wp2_with fail
                    refine EC.out.mono ?_
                    rintro x wz ⟨rfl, hwz⟩
                    have hwz2 := hwz.symm
                    subst hwz2
                    clear hwz EC
                    go_upto_region 21 with fail
                    obtain ⟨ba', bn', bc', w30, HS⟩ := br_step (x := ⟨br, ac3⟩) (v := .slice ua un uc) (i := 1) HP3.out rfl (HQ3.out.sl fun B hB => by have := HP3.out.p0; omega) HG2.out HAl2.out
                    have HSS : Hid (ApS brE 23 1 w wm2 wr w30 g h q lm em #[.slice ra rn rc, .slice ba bn bc] #[.string br, .slice ua un uc] ba bn bc ba' bn' bc' (acc2 ++ [⟨br, ac3⟩])) := HS
                    have hr : ∀ t, (Builtin.append_ #[23, 23] t #[.slice ba bn bc, .slice (some ⟨wr.heap.size, 0, none⟩) 1 1]).run Tryz.prog (wr.alloc (.cells #[.string br, .slice ua un uc] 39)) = .ok (.slice ba' bn' bc') w30 := HS.run
                    have a5 := HS.c5
                    have a6 := HS.frz
                    have y1 : wr.cell? ⟨q, 1, none⟩ = some (.slice ba bn bc) := HP3.out.rs.own.cell 1
                    have v0 : wr.cell? ⟨p, 0, none⟩ = some (.string br) := HP3.out.wb.cell 0
                    have v1 : wr.cell? ⟨p, 1, none⟩ = some (.slice ua un uc) := HP3.out.wb.cell 1
                    have hN4 : (M : Int) ≤ 10000 := by have := HMM.out; omega
                    clear HS
                    go_wp2_with (at_builtin; refine Lib.wpList_append_run _ rfl _ _ 23 23 rfl _ _ rfl rfl _ _ (hr _) ?_)
                    exact ⟨⟨j + 1, ba', bn', bc', acc2 ++ [(⟨br, ac3⟩ : Bn)], lm, em, hlt, by rw [Int.natCast_add]; rfl, (by show _ = _; rw [List.length_append, HA2.out]; rfl), HSS.out.rs, HSS.out.gr, HJ2.out.more hlt (by rw [HW.out]; exact HJE.out.1) (fun he => by rw [HW.out, HJE.out.2 he])⟩, by simp only [intOf]; omega⟩
                · obtain rfl : m = K := by omega
                  have HJE : Hid ((El, Er) = (lm, em) ∧ (em = 0 → Ee = ac3)) := HJ3.out.done
                  clear EC
                  go_upto_region 21 with fail
                  obtain ⟨ba', bn', bc', w30, HS⟩ := br_step (x := ⟨br, ac3⟩) (v := .slice ua un uc) (i := 1) HP3.out rfl (HQ3.out.sl fun B hB => by have := HP3.out.p0; omega) HG2.out HAl2.out
                  have HSS : Hid (ApS brE 23 1 w wm2 wr w30 g h q lm em #[.slice ra rn rc, .slice ba bn bc] #[.string br, .slice ua un uc] ba bn bc ba' bn' bc' (acc2 ++ [⟨br, ac3⟩])) := HS
                  have hr : ∀ t, (Builtin.append_ #[23, 23] t #[.slice ba bn bc, .slice (some ⟨wr.heap.size, 0, none⟩) 1 1]).run Tryz.prog (wr.alloc (.cells #[.string br, .slice ua un uc] 39)) = .ok (.slice ba' bn' bc') w30 := HS.run
                  have a5 := HS.c5
                  have a6 := HS.frz
                  have y1 : wr.cell? ⟨q, 1, none⟩ = some (.slice ba bn bc) := HP3.out.rs.own.cell 1
                  have v0 : wr.cell? ⟨p, 0, none⟩ = some (.string br) := HP3.out.wb.cell 0
                  have v1 : wr.cell? ⟨p, 1, none⟩ = some (.slice ua un uc) := HP3.out.wb.cell 1
                  have hN4 : (M : Int) ≤ 10000 := by have := HMM.out; omega
                  clear HS
                  go_wp2_with (at_builtin; refine Lib.wpList_append_run _ rfl _ _ 23 23 rfl _ _ rfl rfl _ _ (hr _) ?_)
                  exact ⟨⟨j + 1, ba', bn', bc', acc2 ++ [(⟨br, ac3⟩ : Bn)], lm, em, hlt, by rw [Int.natCast_add]; rfl, (by show _ = _; rw [List.length_append, HA2.out]; rfl), HSS.out.rs, HSS.out.gr, HJ2.out.more hlt (by rw [HW.out]; exact HJE.out.1) (fun he => by rw [HW.out, HJE.out.2 he])⟩, by simp only [intOf]; omega⟩
            · have d0 : (ek == 0) = false := by simpa using h0
              have HJD : Hid ((Bl, Be) = (lk, ek) ∧ (ek = 0 → Bs = acc2)) := HJ2.out.err h0 bn_bad
              clear h0 hjl
              go_wp2_with fail
              refine EC.out.mono ?_
              rintro x wz ⟨rfl, hwz⟩
              have hwz2 := hwz.symm
              subst hwz2
              clear hwz EC
              go_upto_region 22 with fail
              have EC2 : Hid (Calls Tryz.prog 24 #[.pointer (some ⟨g, 0, none⟩)] wr _) := rend_rt wr g h lk ek HM2.out.st
              have HX : Hid (IsR (fun B => q < B) wr (.agg #[.slice ra rn rc, .slice ba bn bc]) ⟨acc, acc2⟩) := by
                have a := HM2.out.gq
                have b := HM1.out.qm
                have c := HM2.out.qm
                exact ⟨_, _, rfl, HROW.out.keep fun B hB hl => ⟨HM2.out.fr B hl (by omega) (by omega), by omega⟩, HG2.out.sl fun B hB => by omega⟩
              have HD : Hid (en lk ek = 0 → rdD l = (⟨acc, acc2⟩, lk, ek)) := fun h0 => by
                have h1 := (en_zero.1 h0).2
                obtain ⟨h2, h3⟩ := HJD.out
                injection h2 with h2a h2b
                have h4 := HST.out (h2b.trans h1)
                rw [HRD.out, HJR.out.2 h4, h3 h1, h2a, h2b]
              have HDN : Hid ((rdD l).2 = (lk, ek)) := by
                show _ = _
                rw [HRD.out]
                exact HJD.out.1
              have B3 : Hid (Bk wr w.heap.size #[.slice none 0 0, .slice none 0 0] 25) := HM2.out.res
              have U3 : Hid (Below w.heap.size w wr) := HM2.out.bl
              have Q3 : Hid (Bk wr q #[.slice ra rn rc, .slice ba bn bc] 25) := HM2.out.own
              have HQW : Hid (w.heap.size < q) := by have := HM2.out.gr; have := HM2.out.gq; show _ < _; omega
              clear HJD HJ2 HG2 HM2 HRD
              obtain ⟨E, hE⟩ : ∃ E, E = en lk ek := ⟨_, rfl⟩
              have HE : Hid (E = en lk ek) := hE
              rw [← hE] at EC2
              clear hE
              go_wp2_with fail
              refine EC2.out.mono ?_
              rintro x w4 ⟨rfl, hw4⟩
              have hw4' := hw4.symm
              subst hw4'
              clear hw4 EC2
              have d0 : wr.cell? ⟨w.heap.size, 0, none⟩ = some (Value.slice none 0 0) := B3.out.cell 0
              have d1 : wr.cell? ⟨w.heap.size, 1, none⟩ = some (Value.slice none 0 0) := B3.out.cell 1
              have f0 := B3.out.frozen 0
              have f1 := B3.out.frozen 1
              by_cases h0 : E = 0
              · subst h0
                have c0 : wr.cell? ⟨q, 0, none⟩ = some (Value.slice ra rn rc) := Q3.out.cell 0
                have c1 : wr.cell? ⟨q, 1, none⟩ = some (Value.slice ba bn bc) := Q3.out.cell 1
                have hz := en_zero.1 HE.out.symm
                have hdd := HD.out HE.out.symm
                rw [hz.1, hz.2] at hdd
                have HDD : Hid (rdD l = (⟨acc, acc2⟩, [], 0)) := hdd
                have HLM : Hid (LimD ⟨acc, acc2⟩) := (rdD_inv hdd).2
                have CC : Hid (Calls Tryz.prog 25 #[.agg #[.slice ra rn rc, .slice ba bn bc]] wr _) := canX _ ⟨acc, acc2⟩ wr (HX.out.keep fun _ _ _ => ⟨rfl, trivial⟩)
                clear hz hdd HD HDN HE
                go_wp2_with fail
                refine CC.out.mono ?_
                rintro x w5 ⟨⟨b, rfl, hb⟩, hb5⟩
                have HM : Hid (b = true ↔ MayD ⟨acc, acc2⟩) := hb.trans (canD_iff HLM.out)
                have B5 : Hid (Bk w5 w.heap.size #[.slice none 0 0, .slice none 0 0] 25) := B3.out.below hb5
                have Q5 : Hid (Bk w5 q #[.slice ra rn rc, .slice ba bn bc] 25) := Q3.out.below hb5
                have U5 : Hid (Below w.heap.size w w5) := bel2 U3.out hb5
                have X5 : Hid (IsR (fun B => q < B) w5 (.agg #[.slice ra rn rc, .slice ba bn bc]) ⟨acc, acc2⟩) := HX.out.below hb5
                clear c0 c1 d0 d1 f0 f1 hb5 hb CC HX B3 Q3 U3
                have d0 : w5.cell? ⟨w.heap.size, 0, none⟩ = some (Value.slice none 0 0) := B5.out.cell 0
                have d1 : w5.cell? ⟨w.heap.size, 1, none⟩ = some (Value.slice none 0 0) := B5.out.cell 1
                have f0 := B5.out.frozen 0
                have f1 := B5.out.frozen 1
                have hlw := B5.out.lt
                have HLW : Hid (w.heap.size < w5.heap.size) := hlw
                clear hlw
                cases b with
                | false =>
                  go_wp2_with fail
                  refine bodyPost_ret (retDb_tmp Tryz.results7 _ rfl (set2 B5.out _ _)) rfl ?_
                  exact HP.out _ _ ⟨_, _, ⟨[], []⟩, 3, rfl, ⟨_, _, rfl, Sl.nil _ _, Sl.nil _ _⟩, .inr (.inr ⟨by rw [HDD.out]; rfl, fun h => absurd (HM.out.2 (by rw [HDD.out] at h; exact h)) (by decide), rfl, rfl⟩)⟩ (below_set (below_set U5.out (Nat.le_refl _)) (Nat.le_refl _))
                | true =>
                  have c0 : w5.cell? ⟨q, 0, none⟩ = some (Value.slice ra rn rc) := Q5.out.cell 0
                  have c1 : w5.cell? ⟨q, 1, none⟩ = some (Value.slice ba bn bc) := Q5.out.cell 1
                  go_wp2_with fail
                  refine bodyPost_ret (retDb_tmp Tryz.results7 _ rfl (set2 B5.out _ _)) rfl ?_
                  exact HP.out _ _ ⟨_, _, ⟨acc, acc2⟩, 0, rfl, X5.out.keep (fun B hB _ => ⟨set_other2 w5 _ _ (fun e => by have := HQW.out; omega), trivial⟩), .inr (.inl ⟨by rw [HDD.out]; rfl, by rw [HDD.out]; exact HM.out.1 (by first | rfl | trivial), rfl, by rw [HDD.out]⟩)⟩ (below_set (below_set U5.out (Nat.le_refl _)) (Nat.le_refl _))
              · have dE : (E != 0) = true := by simpa using h0
                have HE0 : Hid (E ≠ 0) := h0
                clear h0
                go_wp2_with fail
                refine bodyPost_ret (retDb_tmp Tryz.results7 _ rfl (set2 B3.out _ _)) rfl ?_
                exact HP.out _ _ ⟨_, _, ⟨[], []⟩, E, rfl, ⟨_, _, rfl, Sl.nil _ _, Sl.nil _ _⟩, .inl (by rw [HDN.out]; exact ⟨fun h => HE0.out (HE.out.trans h), HE.out, rfl⟩)⟩ (below_set (below_set U3.out (Nat.le_refl _)) (Nat.le_refl _))
          · obtain rfl : j = M := by omega
            have HJD : Hid ((Bl, Be) = (lk, ek) ∧ (ek = 0 → Bs = acc2)) := HJ2.out.done
            clear EC
            go_upto_region 22 with fail
            have EC2 : Hid (Calls Tryz.prog 24 #[.pointer (some ⟨g, 0, none⟩)] wr _) := rend_rt wr g h lk ek HM2.out.st
            have HX : Hid (IsR (fun B => q < B) wr (.agg #[.slice ra rn rc, .slice ba bn bc]) ⟨acc, acc2⟩) := by
              have a := HM2.out.gq
              have b := HM1.out.qm
              have c := HM2.out.qm
              exact ⟨_, _, rfl, HROW.out.keep fun B hB hl => ⟨HM2.out.fr B hl (by omega) (by omega), by omega⟩, HG2.out.sl fun B hB => by omega⟩
            have HD : Hid (en lk ek = 0 → rdD l = (⟨acc, acc2⟩, lk, ek)) := fun h0 => by
              have h1 := (en_zero.1 h0).2
              obtain ⟨h2, h3⟩ := HJD.out
              injection h2 with h2a h2b
              have h4 := HST.out (h2b.trans h1)
              rw [HRD.out, HJR.out.2 h4, h3 h1, h2a, h2b]
            have HDN : Hid ((rdD l).2 = (lk, ek)) := by
              show _ = _
              rw [HRD.out]
              exact HJD.out.1
            have B3 : Hid (Bk wr w.heap.size #[.slice none 0 0, .slice none 0 0] 25) := HM2.out.res
            have U3 : Hid (Below w.heap.size w wr) := HM2.out.bl
            have Q3 : Hid (Bk wr q #[.slice ra rn rc, .slice ba bn bc] 25) := HM2.out.own
            have HQW : Hid (w.heap.size < q) := by have := HM2.out.gr; have := HM2.out.gq; show _ < _; omega
            clear HJD HJ2 HG2 HM2 HRD
            obtain ⟨E, hE⟩ : ∃ E, E = en lk ek := ⟨_, rfl⟩
            have HE : Hid (E = en lk ek) := hE
            rw [← hE] at EC2
            clear hE
            go_wp2_with fail
            refine EC2.out.mono ?_
            rintro x w4 ⟨rfl, hw4⟩
            have hw4' := hw4.symm
            subst hw4'
            clear hw4 EC2
            have d0 : wr.cell? ⟨w.heap.size, 0, none⟩ = some (Value.slice none 0 0) := B3.out.cell 0
            have d1 : wr.cell? ⟨w.heap.size, 1, none⟩ = some (Value.slice none 0 0) := B3.out.cell 1
            have f0 := B3.out.frozen 0
            have f1 := B3.out.frozen 1
            by_cases h0 : E = 0
            · subst h0
              have c0 : wr.cell? ⟨q, 0, none⟩ = some (Value.slice ra rn rc) := Q3.out.cell 0
              have c1 : wr.cell? ⟨q, 1, none⟩ = some (Value.slice ba bn bc) := Q3.out.cell 1
              have hz := en_zero.1 HE.out.symm
              have hdd := HD.out HE.out.symm
              rw [hz.1, hz.2] at hdd
              have HDD : Hid (rdD l = (⟨acc, acc2⟩, [], 0)) := hdd
              have HLM : Hid (LimD ⟨acc, acc2⟩) := (rdD_inv hdd).2
              have CC : Hid (Calls Tryz.prog 25 #[.agg #[.slice ra rn rc, .slice ba bn bc]] wr _) := canX _ ⟨acc, acc2⟩ wr (HX.out.keep fun _ _ _ => ⟨rfl, trivial⟩)
              clear hz hdd HD HDN HE
              go_wp2_with fail
              refine CC.out.mono ?_
              rintro x w5 ⟨⟨b, rfl, hb⟩, hb5⟩
              have HM : Hid (b = true ↔ MayD ⟨acc, acc2⟩) := hb.trans (canD_iff HLM.out)
              have B5 : Hid (Bk w5 w.heap.size #[.slice none 0 0, .slice none 0 0] 25) := B3.out.below hb5
              have Q5 : Hid (Bk w5 q #[.slice ra rn rc, .slice ba bn bc] 25) := Q3.out.below hb5
              have U5 : Hid (Below w.heap.size w w5) := bel2 U3.out hb5
              have X5 : Hid (IsR (fun B => q < B) w5 (.agg #[.slice ra rn rc, .slice ba bn bc]) ⟨acc, acc2⟩) := HX.out.below hb5
              clear c0 c1 d0 d1 f0 f1 hb5 hb CC HX B3 Q3 U3
              have d0 : w5.cell? ⟨w.heap.size, 0, none⟩ = some (Value.slice none 0 0) := B5.out.cell 0
              have d1 : w5.cell? ⟨w.heap.size, 1, none⟩ = some (Value.slice none 0 0) := B5.out.cell 1
              have f0 := B5.out.frozen 0
              have f1 := B5.out.frozen 1
              have hlw := B5.out.lt
              have HLW : Hid (w.heap.size < w5.heap.size) := hlw
              clear hlw
              cases b with
              | false =>
                go_wp2_with fail
                refine bodyPost_ret (retDb_tmp Tryz.results7 _ rfl (set2 B5.out _ _)) rfl ?_
                exact HP.out _ _ ⟨_, _, ⟨[], []⟩, 3, rfl, ⟨_, _, rfl, Sl.nil _ _, Sl.nil _ _⟩, .inr (.inr ⟨by rw [HDD.out]; rfl, fun h => absurd (HM.out.2 (by rw [HDD.out] at h; exact h)) (by decide), rfl, rfl⟩)⟩ (below_set (below_set U5.out (Nat.le_refl _)) (Nat.le_refl _))
              | true =>
                have c0 : w5.cell? ⟨q, 0, none⟩ = some (Value.slice ra rn rc) := Q5.out.cell 0
                have c1 : w5.cell? ⟨q, 1, none⟩ = some (Value.slice ba bn bc) := Q5.out.cell 1
                go_wp2_with fail
                refine bodyPost_ret (retDb_tmp Tryz.results7 _ rfl (set2 B5.out _ _)) rfl ?_
                exact HP.out _ _ ⟨_, _, ⟨acc, acc2⟩, 0, rfl, X5.out.keep (fun B hB _ => ⟨set_other2 w5 _ _ (fun e => by have := HQW.out; omega), trivial⟩), .inr (.inl ⟨by rw [HDD.out]; rfl, by rw [HDD.out]; exact HM.out.1 (by first | rfl | trivial), rfl, by rw [HDD.out]⟩)⟩ (below_set (below_set U5.out (Nat.le_refl _)) (Nat.le_refl _))
            · have dE : (E != 0) = true := by simpa using h0
              have HE0 : Hid (E ≠ 0) := h0
              clear h0
              go_wp2_with fail
              refine bodyPost_ret (retDb_tmp Tryz.results7 _ rfl (set2 B3.out _ _)) rfl ?_
              exact HP.out _ _ ⟨_, _, ⟨[], []⟩, E, rfl, ⟨_, _, rfl, Sl.nil _ _, Sl.nil _ _⟩, .inl (by rw [HDN.out]; exact ⟨fun h => HE0.out (HE.out.trans h), HE.out, rfl⟩)⟩ (below_set (below_set U3.out (Nat.le_refl _)) (Nat.le_refl _))
    · obtain rfl : j = N := by omega
      have HJR : Hid ((Rl, Re) = (lj, ej) ∧ (ej = 0 → Rs = acc)) := HJ.out.done
      clear EC
      have HM1 : Hid (RS w wm wr g h q lj ej #[.slice wa wn wc, .slice none 0 0]) := HM
      obtain ⟨ra, hra⟩ : ∃ a, a = wa := ⟨_, rfl⟩
      obtain ⟨rn, hrn⟩ : ∃ a, a = wn := ⟨_, rfl⟩
      obtain ⟨rc, hrc⟩ : ∃ a, a = wc := ⟨_, rfl⟩
      rw [← hra, ← hrn, ← hrc] at HM1 HG
      clear hra hrn hrc HM
      have hjr := HJR.out.1
      injection hjr with hja hjb
      subst hja hjb
      clear HJ hj
      go_upto_region 11 with fail
      have C11 : Hid (Calls Tryz.prog 21 #[.pointer (some ⟨g, 0, none⟩), .int .i64 10000] wr _) := N2.out wr g h HM1.out.st
      go_wp2_with fail
      refine C11.out.mono ?_
      rintro x wm2 ⟨rfl, s11, k11⟩
      have M11 : Hid (RS w wm2 wm2 g h q l2 e2 #[.slice ra rn rc, .slice none 0 0]) := (HM1.out.read s11 k11).next
      have HROW : Hid (Sl rowE (fun B => wm.heap.size ≤ B) wm2 (.slice ra rn rc) acc) := by
        have a := HM1.out.gq
        have b := HM1.out.qm
        exact (HG.out.sl (P := fun B => wm.heap.size ≤ B) fun B hB => by omega).keep fun B hB hl => ⟨k11.2.2.2.2 B hl (by omega), hB⟩
      clear s11 k11 C11 HG N2
      go_wp2_with fail
      go_loopw [9] (fun i wr => ∃ (j : Nat) (ba : Option Addr) (bn bc : Nat) (acc2 : List Bn) (lk : List UInt8) (ek : Int), j ≤ M ∧ i = .int .i64 (j : Int) ∧ Hid (acc2.length = j) ∧ Hid (RS w wm2 wr g h q lk ek #[.slice ra rn rc, .slice ba bn bc]) ∧ Hid (Gr brE wm2.heap.size (fun B => wm2.heap.size ≤ B) wr (.slice ba bn bc) acc2) ∧ Hid (Lp rdBn M (Bs, Bl, Be) j acc2 lk ek)) (fun i _ => M - (intOf i).toNat)
      case atStart => exact ⟨0, none, 0, 0, [], l2, e2, Nat.zero_le _, rfl, rfl, M11, Gr.nil _ _ _, HB0⟩
      case round =>
        obtain ⟨j, ba, bn, bc, acc2, lk, ek, hj, rfl, HA2, HM2, HG2, HJ2⟩ := hrel
        have EC : Hid (Calls Tryz.prog 22 #[.pointer (some ⟨g, 0, none⟩)] wr _) := rerr_rt _ _ _ _ _ HM2.out.st
        have HAl2 : Hid (acc2.length ≤ 100000) := by have := HA2.out; have := HMM.out; show _ ≤ _; omega
        clear M11 HB0
        by_cases hlt : j < M
        · have hjl : (j : Int) < (M : Int) := by omega
          by_cases h0 : ek = 0
          · subst h0
            go_wp2_with fail
            refine EC.out.mono ?_
            rintro x wz ⟨rfl, hwz⟩
            have hwz2 := hwz.symm
            subst hwz2
            clear hwz EC
            have T1 : Hid (Calls Tryz.prog 23 #[.pointer (some ⟨g, 0, none⟩), .int .i64 64] wr (Rr wr g h (.string (str (sText 64 lk 0).1)) (sText 64 lk 0).2.1 (sText 64 lk 0).2.2)) := rtext_rt wr g h lk 0 64 HM2.out.st
            have T2 : Hid (∀ W, RT W g h (sText 64 lk 0).2.1 (sText 64 lk 0).2.2 → Calls Tryz.prog 21 #[.pointer (some ⟨g, 0, none⟩), .int .i64 120] W (Rr W g h (.int .i64 (sNum 120 (sText 64 lk 0).2.1 (sText 64 lk 0).2.2).1) (sNum 120 (sText 64 lk 0).2.1 (sText 64 lk 0).2.2).2.1 (sNum 120 (sText 64 lk 0).2.1 (sText 64 lk 0).2.2).2.2)) := fun W r => rnum_rt W g h _ _ 120 r
            have hW : rdBn lk 0 = (⟨str (sText 64 lk 0).1, (rdL (sText 4096) (sNum 120 (sText 64 lk 0).2.1 (sText 64 lk 0).2.2).1.toNat (sNum 120 (sText 64 lk 0).2.1 (sText 64 lk 0).2.2).2.1 (sNum 120 (sText 64 lk 0).2.1 (sText 64 lk 0).2.2).2.2).1⟩, (rdL (sText 4096) (sNum 120 (sText 64 lk 0).2.1 (sText 64 lk 0).2.2).1.toNat (sNum 120 (sText 64 lk 0).2.1 (sText 64 lk 0).2.2).2.1 (sNum 120 (sText 64 lk 0).2.1 (sText 64 lk 0).2.2).2.2).2) := rfl
            generalize sText 64 lk 0 = Q1 at T1 T2 hW
            obtain ⟨Y1, m1, f1⟩ := Q1
            dsimp only at T1 T2 hW
            have n0 : 0 ≤ (sNum 120 m1 f1).1 := sNum_nat 120 _ _
            have nle : (sNum 120 m1 f1).1 ≤ 120 := num_top (m := 120) (by decide) _ _
            generalize sNum 120 m1 f1 = Q2 at T2 hW n0 nle
            obtain ⟨nE, m2, f2⟩ := Q2
            dsimp only at T2 n0 nle hW
            obtain ⟨K, rfl⟩ := Int.eq_ofNat_of_zero_le n0
            rw [Int.toNat_natCast] at hW
            have HF0 : Hid (Lp (sText 4096) K (rdL (sText 4096) K m2 f2) 0 [] m2 f2) := Lp.first _ _ _ _
            generalize rdL (sText 4096) K m2 f2 = RE at HF0 hW
            obtain ⟨Ee, El, Er⟩ := RE
            dsimp only at hW
            generalize str Y1 = br at T1 hW
            have HW : Hid (rdBn lk 0 = (⟨br, Ee⟩, El, Er)) := hW
            have HKb : Hid (K ≤ 120) := by show _ ≤ _; omega
            clear hW n0 nle
            go_wp2_with fail
            refine T1.out.mono ?_
            rintro x w10 ⟨rfl, s1, k1⟩
            have P1 : Hid (RW w wm2 wr (w10.alloc (.cells #[.string br, .slice none 0 0] 39)) g h q w10.heap.size m1 f1 _ #[.string br, .slice none 0 0] 39) := RW.first HM2.out _ 39 s1 k1
            obtain ⟨W11, hW11⟩ : ∃ W11, W11 = w10.alloc (.cells #[.string br, .slice none 0 0] 39) := ⟨_, rfl⟩
            obtain ⟨p, hp⟩ : ∃ p, p = w10.heap.size := ⟨_, rfl⟩
            rw [← hW11, ← hp] at P1
            have HW11 : Hid (W11 = _) := hW11
            have HPP : Hid (p = w10.heap.size) := hp
            clear s1 k1 hW11 hp T1
            go_upto_region 16 with fail
            rw [← HW11.out, ← HPP.out]
            have C2 : Hid (Calls Tryz.prog 21 #[.pointer (some ⟨g, 0, none⟩), .int .i64 120] W11 _) := T2.out W11 P1.out.rs.st
            clear HW11 HPP T2
            go_wp2_with fail
            refine C2.out.mono ?_
            rintro x w12 ⟨rfl, s2, k2⟩
            have P2 : Hid (RW w wm2 wr w12 g h q p m2 f2 _ _ 39) := P1.out.read s2 k2
            clear s2 k2 C2 P1
            obtain ⟨W0, hW0⟩ : ∃ W0, W0 = wr := ⟨_, rfl⟩
            rw [← hW0] at P2 HG2
            clear hW0 HM2
            go_wp2_with fail
            go_loopw [12] (fun i wr => ∃ (m : Nat) (ua : Option Addr) (un uc : Nat) (ac3 : List (List UInt8)) (lm : List UInt8) (em : Int), m ≤ K ∧ i = .int .i64 (m : Int) ∧ Hid (ac3.length = m) ∧ Hid (RW w wm2 W0 wr g h q p lm em #[.slice ra rn rc, .slice ba bn bc] #[.string br, .slice ua un uc] 39) ∧ Hid (Gr evE (p + 1) (fun B => p + 1 ≤ B) wr (.slice ua un uc) ac3) ∧ Hid (Lp (sText 4096) K (Ee, El, Er) m ac3 lm em)) (fun i _ => K - (intOf i).toNat)
            case atStart => exact ⟨0, none, 0, 0, [], m2, f2, Nat.zero_le _, rfl, rfl, P2, Gr.nil _ _ _, HF0⟩
            case round =>
              obtain ⟨m, ua, un, uc, ac3, lm, em, hm, rfl, HB, HP3, HQ3, HJ3⟩ := hrel
              have EC : Hid (Calls Tryz.prog 22 #[.pointer (some ⟨g, 0, none⟩)] wr _) := rerr_rt _ _ _ _ _ HP3.out.rs.st
              have HBl : Hid (ac3.length ≤ 1000) := by have := HB.out; have := HKb.out; show _ ≤ _; omega
              clear P2 HF0
              by_cases hlt2 : m < K
              · have hml : (m : Int) < (K : Int) := by omega
                by_cases h0 : em = 0
                · subst h0
                  go_wp2_with fail
                  refine EC.out.mono ?_
                  rintro x wz ⟨rfl, hwz⟩
                  have hwz2 := hwz.symm
                  subst hwz2
                  clear hwz EC
                  have HTX := rtext_rt wr.drew g h lm 0 4096 ((HP3.out.below (Below.refl _ wr).drew).rs.st)
                  generalize hTX : sText 4096 lm 0 = TX at HTX
                  obtain ⟨Y, lx, ex⟩ := TX
                  dsimp only at HTX
                  have HTC : Hid (Calls Tryz.prog 23 #[.pointer (some ⟨g, 0, none⟩), .int .i64 4096] wr.drew (Rr wr.drew g h (.string (str Y)) lx ex)) := HTX
                  have HNX : Hid (sText 4096 lm 0 = (Y, lx, ex)) := hTX
                  have HYl : Hid (Y.length ≤ 9223372036854775807) := by
                    have h1 := text_le 4096 (by decide) lm 0
                    rw [hTX] at h1
                    show _ ≤ _
                    dsimp only at h1
                    omega
                  have y4 : wr.cell? ⟨p, 1, none⟩ = some (.slice ua un uc) := HP3.out.wb.cell 1
                  have hM120 : (K : Int) ≤ 120 := by have := HKb.out; omega
                  clear HTX hTX
                  go_wp2_with fail
                  go_region_law (first
                    | (go_simp; go_at_call 23; refine HTC.out.mono ?_; rintro x w20 ⟨rfl, s20, k20⟩; obtain ⟨cap2, w21, hcv, hh21, hb21⟩ := conv_hb Y w20 HYl.out; obtain ⟨ua', un', uc', w22, HS⟩ := ev_step HP3.out HQ3.out s20 k20 hh21 hb21 HBl.out; have HSS : Hid (EvS _ _ _ _ _ _ _ _ _ _ _ _ _ _ _ _ _ _ _ _ _ _) := HS; have hr := HS.run; have a2 := HS.c2; have a3 := HS.c3; have a4 := HS.c4; have a5 := HS.c5; have a6 := HS.frz; clear HS s20 k20 hh21 hb21; generalize Y.length = zY at hcv hr HSS a4)
                    | (refine step_app_run rfl (.tmp 72) (.tmp 76) 37 rfl (.slice ua un uc) (.slice (some ⟨w21.heap.size, 0, none⟩) 1 1) rfl rfl (by with_reducible assumption) ?_))
                  all_goals go_wp2_with fail
                  all_goals exact ⟨⟨m + 1, ua', un', uc', ac3 ++ [Y], _, _, hlt2, by rw [Int.natCast_add]; rfl, (by show _ = _; rw [List.length_append, HB.out]; rfl), HSS.out.mid, HSS.out.ev, HJ3.out.more hlt2 (by rw [HNX.out]) (fun _ => by rw [HNX.out])⟩, by simp only [intOf]; omega⟩
                · have d0 : (em == 0) = false := by simpa using h0
                  have HJE : Hid ((El, Er) = (lm, em) ∧ (em = 0 → Ee = ac3)) := HJ3.out.err h0 (text_bad _)
                  clear h0 hml
                  go_wp2_with fail
                  refine EC.out.mono ?_
                  rintro x wz ⟨rfl, hwz⟩
                  have hwz2 := hwz.symm
                  subst hwz2
                  clear hwz EC
                  go_upto_region 21 with fail
                  obtain ⟨ba', bn', bc', w30, HS⟩ := br_step (x := ⟨br, ac3⟩) (v := .slice ua un uc) (i := 1) HP3.out rfl (HQ3.out.sl fun B hB => by have := HP3.out.p0; omega) HG2.out HAl2.out
                  have HSS : Hid (ApS brE 23 1 w wm2 wr w30 g h q lm em #[.slice ra rn rc, .slice ba bn bc] #[.string br, .slice ua un uc] ba bn bc ba' bn' bc' (acc2 ++ [⟨br, ac3⟩])) := HS
                  have hr : ∀ t, (Builtin.append_ #[23, 23] t #[.slice ba bn bc, .slice (some ⟨wr.heap.size, 0, none⟩) 1 1]).run Tryz.prog (wr.alloc (.cells #[.string br, .slice ua un uc] 39)) = .ok (.slice ba' bn' bc') w30 := HS.run
                  have a5 := HS.c5
                  have a6 := HS.frz
                  have y1 : wr.cell? ⟨q, 1, none⟩ = some (.slice ba bn bc) := HP3.out.rs.own.cell 1
                  have v0 : wr.cell? ⟨p, 0, none⟩ = some (.string br) := HP3.out.wb.cell 0
                  have v1 : wr.cell? ⟨p, 1, none⟩ = some (.slice ua un uc) := HP3.out.wb.cell 1
                  have hN4 : (M : Int) ≤ 10000 := by have := HMM.out; omega
                  clear HS
                  go_wp2_with (at_builtin; refine Lib.wpList_append_run _ rfl _ _ 23 23 rfl _ _ rfl rfl _ _ (hr _) ?_)
                  exact ⟨⟨j + 1, ba', bn', bc', acc2 ++ [(⟨br, ac3⟩ : Bn)], lm, em, hlt, by rw [Int.natCast_add]; rfl, (by show _ = _; rw [List.length_append, HA2.out]; rfl), HSS.out.rs, HSS.out.gr, HJ2.out.more hlt (by rw [HW.out]; exact HJE.out.1) (fun he => by rw [HW.out, HJE.out.2 he])⟩, by simp only [intOf]; omega⟩
              · obtain rfl : m = K := by omega
                have HJE : Hid ((El, Er) = (lm, em) ∧ (em = 0 → Ee = ac3)) := HJ3.out.done
                clear EC
                go_upto_region 21 with fail
                obtain ⟨ba', bn', bc', w30, HS⟩ := br_step (x := ⟨br, ac3⟩) (v := .slice ua un uc) (i := 1) HP3.out rfl (HQ3.out.sl fun B hB => by have := HP3.out.p0; omega) HG2.out HAl2.out
                have HSS : Hid (ApS brE 23 1 w wm2 wr w30 g h q lm em #[.slice ra rn rc, .slice ba bn bc] #[.string br, .slice ua un uc] ba bn bc ba' bn' bc' (acc2 ++ [⟨br, ac3⟩])) := HS
                have hr : ∀ t, (Builtin.append_ #[23, 23] t #[.slice ba bn bc, .slice (some ⟨wr.heap.size, 0, none⟩) 1 1]).run Tryz.prog (wr.alloc (.cells #[.string br, .slice ua un uc] 39)) = .ok (.slice ba' bn' bc') w30 := HS.run
                have a5 := HS.c5
                have a6 := HS.frz
                have y1 : wr.cell? ⟨q, 1, none⟩ = some (.slice ba bn bc) := HP3.out.rs.own.cell 1
                have v0 : wr.cell? ⟨p, 0, none⟩ = some (.string br) := HP3.out.wb.cell 0
                have v1 : wr.cell? ⟨p, 1, none⟩ = some (.slice ua un uc) := HP3.out.wb.cell 1
                have hN4 : (M : Int) ≤ 10000 := by have := HMM.out; omega
                clear HS
                go_wp2_with (at_builtin; refine Lib.wpList_append_run _ rfl _ _ 23 23 rfl _ _ rfl rfl _ _ (hr _) ?_)
                exact ⟨⟨j + 1, ba', bn', bc', acc2 ++ [(⟨br, ac3⟩ : Bn)], lm, em, hlt, by rw [Int.natCast_add]; rfl, (by show _ = _; rw [List.length_append, HA2.out]; rfl), HSS.out.rs, HSS.out.gr, HJ2.out.more hlt (by rw [HW.out]; exact HJE.out.1) (fun he => by rw [HW.out, HJE.out.2 he])⟩, by simp only [intOf]; omega⟩
          · have d0 : (ek == 0) = false := by simpa using h0
            have HJD : Hid ((Bl, Be) = (lk, ek) ∧ (ek = 0 → Bs = acc2)) := HJ2.out.err h0 bn_bad
            clear h0 hjl
            go_wp2_with fail
            refine EC.out.mono ?_
            rintro x wz ⟨rfl, hwz⟩
            have hwz2 := hwz.symm
            subst hwz2
            clear hwz EC
            go_upto_region 22 with fail
            have EC2 : Hid (Calls Tryz.prog 24 #[.pointer (some ⟨g, 0, none⟩)] wr _) := rend_rt wr g h lk ek HM2.out.st
            have HX : Hid (IsR (fun B => q < B) wr (.agg #[.slice ra rn rc, .slice ba bn bc]) ⟨acc, acc2⟩) := by
              have a := HM2.out.gq
              have b := HM1.out.qm
              have c := HM2.out.qm
              exact ⟨_, _, rfl, HROW.out.keep fun B hB hl => ⟨HM2.out.fr B hl (by omega) (by omega), by omega⟩, HG2.out.sl fun B hB => by omega⟩
            have HD : Hid (en lk ek = 0 → rdD l = (⟨acc, acc2⟩, lk, ek)) := fun h0 => by
              have h1 := (en_zero.1 h0).2
              obtain ⟨h2, h3⟩ := HJD.out
              injection h2 with h2a h2b
              have h4 := HST.out (h2b.trans h1)
              rw [HRD.out, HJR.out.2 h4, h3 h1, h2a, h2b]
            have HDN : Hid ((rdD l).2 = (lk, ek)) := by
              show _ = _
              rw [HRD.out]
              exact HJD.out.1
            have B3 : Hid (Bk wr w.heap.size #[.slice none 0 0, .slice none 0 0] 25) := HM2.out.res
            have U3 : Hid (Below w.heap.size w wr) := HM2.out.bl
            have Q3 : Hid (Bk wr q #[.slice ra rn rc, .slice ba bn bc] 25) := HM2.out.own
            have HQW : Hid (w.heap.size < q) := by have := HM2.out.gr; have := HM2.out.gq; show _ < _; omega
            clear HJD HJ2 HG2 HM2 HRD
            obtain ⟨E, hE⟩ : ∃ E, E = en lk ek := ⟨_, rfl⟩
            have HE : Hid (E = en lk ek) := hE
            rw [← hE] at EC2
            clear hE
            go_wp2_with fail
            refine EC2.out.mono ?_
            rintro x w4 ⟨rfl, hw4⟩
            have hw4' := hw4.symm
            subst hw4'
            clear hw4 EC2
            have d0 : wr.cell? ⟨w.heap.size, 0, none⟩ = some (Value.slice none 0 0) := B3.out.cell 0
            have d1 : wr.cell? ⟨w.heap.size, 1, none⟩ = some (Value.slice none 0 0) := B3.out.cell 1
            have f0 := B3.out.frozen 0
            have f1 := B3.out.frozen 1
            by_cases h0 : E = 0
            · subst h0
              have c0 : wr.cell? ⟨q, 0, none⟩ = some (Value.slice ra rn rc) := Q3.out.cell 0
              have c1 : wr.cell? ⟨q, 1, none⟩ = some (Value.slice ba bn bc) := Q3.out.cell 1
              have hz := en_zero.1 HE.out.symm
              have hdd := HD.out HE.out.symm
              rw [hz.1, hz.2] at hdd
              have HDD : Hid (rdD l = (⟨acc, acc2⟩, [], 0)) := hdd
              have HLM : Hid (LimD ⟨acc, acc2⟩) := (rdD_inv hdd).2
              have CC : Hid (Calls Tryz.prog 25 #[.agg #[.slice ra rn rc, .slice ba bn bc]] wr _) := canX _ ⟨acc, acc2⟩ wr (HX.out.keep fun _ _ _ => ⟨rfl, trivial⟩)
              clear hz hdd HD HDN HE
              go_wp2_with fail
              refine CC.out.mono ?_
              rintro x w5 ⟨⟨b, rfl, hb⟩, hb5⟩
              have HM : Hid (b = true ↔ MayD ⟨acc, acc2⟩) := hb.trans (canD_iff HLM.out)
              have B5 : Hid (Bk w5 w.heap.size #[.slice none 0 0, .slice none 0 0] 25) := B3.out.below hb5
              have Q5 : Hid (Bk w5 q #[.slice ra rn rc, .slice ba bn bc] 25) := Q3.out.below hb5
              have U5 : Hid (Below w.heap.size w w5) := bel2 U3.out hb5
              have X5 : Hid (IsR (fun B => q < B) w5 (.agg #[.slice ra rn rc, .slice ba bn bc]) ⟨acc, acc2⟩) := HX.out.below hb5
              clear c0 c1 d0 d1 f0 f1 hb5 hb CC HX B3 Q3 U3
              have d0 : w5.cell? ⟨w.heap.size, 0, none⟩ = some (Value.slice none 0 0) := B5.out.cell 0
              have d1 : w5.cell? ⟨w.heap.size, 1, none⟩ = some (Value.slice none 0 0) := B5.out.cell 1
              have f0 := B5.out.frozen 0
              have f1 := B5.out.frozen 1
              have hlw := B5.out.lt
              have HLW : Hid (w.heap.size < w5.heap.size) := hlw
              clear hlw
              cases b with
              | false =>
                go_wp2_with fail
                refine bodyPost_ret (retDb_tmp Tryz.results7 _ rfl (set2 B5.out _ _)) rfl ?_
                exact HP.out _ _ ⟨_, _, ⟨[], []⟩, 3, rfl, ⟨_, _, rfl, Sl.nil _ _, Sl.nil _ _⟩, .inr (.inr ⟨by rw [HDD.out]; rfl, fun h => absurd (HM.out.2 (by rw [HDD.out] at h; exact h)) (by decide), rfl, rfl⟩)⟩ (below_set (below_set U5.out (Nat.le_refl _)) (Nat.le_refl _))
              | true =>
                have c0 : w5.cell? ⟨q, 0, none⟩ = some (Value.slice ra rn rc) := Q5.out.cell 0
                have c1 : w5.cell? ⟨q, 1, none⟩ = some (Value.slice ba bn bc) := Q5.out.cell 1
                go_wp2_with fail
                refine bodyPost_ret (retDb_tmp Tryz.results7 _ rfl (set2 B5.out _ _)) rfl ?_
                exact HP.out _ _ ⟨_, _, ⟨acc, acc2⟩, 0, rfl, X5.out.keep (fun B hB _ => ⟨set_other2 w5 _ _ (fun e => by have := HQW.out; omega), trivial⟩), .inr (.inl ⟨by rw [HDD.out]; rfl, by rw [HDD.out]; exact HM.out.1 (by first | rfl | trivial), rfl, by rw [HDD.out]⟩)⟩ (below_set (below_set U5.out (Nat.le_refl _)) (Nat.le_refl _))
            · have dE : (E != 0) = true := by simpa using h0
              have HE0 : Hid (E ≠ 0) := h0
              clear h0
              go_wp2_with fail
              refine bodyPost_ret (retDb_tmp Tryz.results7 _ rfl (set2 B3.out _ _)) rfl ?_
              exact HP.out _ _ ⟨_, _, ⟨[], []⟩, E, rfl, ⟨_, _, rfl, Sl.nil _ _, Sl.nil _ _⟩, .inl (by rw [HDN.out]; exact ⟨fun h => HE0.out (HE.out.trans h), HE.out, rfl⟩)⟩ (below_set (below_set U3.out (Nat.le_refl _)) (Nat.le_refl _))
        · obtain rfl : j = M := by omega
          have HJD : Hid ((Bl, Be) = (lk, ek) ∧ (ek = 0 → Bs = acc2)) := HJ2.out.done
          clear EC
          go_upto_region 22 with fail
          have EC2 : Hid (Calls Tryz.prog 24 #[.pointer (some ⟨g, 0, none⟩)] wr _) := rend_rt wr g h lk ek HM2.out.st
          have HX : Hid (IsR (fun B => q < B) wr (.agg #[.slice ra rn rc, .slice ba bn bc]) ⟨acc, acc2⟩) := by
            have a := HM2.out.gq
            have b := HM1.out.qm
            have c := HM2.out.qm
            exact ⟨_, _, rfl, HROW.out.keep fun B hB hl => ⟨HM2.out.fr B hl (by omega) (by omega), by omega⟩, HG2.out.sl fun B hB => by omega⟩
          have HD : Hid (en lk ek = 0 → rdD l = (⟨acc, acc2⟩, lk, ek)) := fun h0 => by
            have h1 := (en_zero.1 h0).2
            obtain ⟨h2, h3⟩ := HJD.out
            injection h2 with h2a h2b
            have h4 := HST.out (h2b.trans h1)
            rw [HRD.out, HJR.out.2 h4, h3 h1, h2a, h2b]
          have HDN : Hid ((rdD l).2 = (lk, ek)) := by
            show _ = _
            rw [HRD.out]
            exact HJD.out.1
          have B3 : Hid (Bk wr w.heap.size #[.slice none 0 0, .slice none 0 0] 25) := HM2.out.res
          have U3 : Hid (Below w.heap.size w wr) := HM2.out.bl
          have Q3 : Hid (Bk wr q #[.slice ra rn rc, .slice ba bn bc] 25) := HM2.out.own
          have HQW : Hid (w.heap.size < q) := by have := HM2.out.gr; have := HM2.out.gq; show _ < _; omega
          clear HJD HJ2 HG2 HM2 HRD
          obtain ⟨E, hE⟩ : ∃ E, E = en lk ek := ⟨_, rfl⟩
          have HE : Hid (E = en lk ek) := hE
          rw [← hE] at EC2
          clear hE
          go_wp2_with fail
          refine EC2.out.mono ?_
          rintro x w4 ⟨rfl, hw4⟩
          have hw4' := hw4.symm
          subst hw4'
          clear hw4 EC2
          have d0 : wr.cell? ⟨w.heap.size, 0, none⟩ = some (Value.slice none 0 0) := B3.out.cell 0
          have d1 : wr.cell? ⟨w.heap.size, 1, none⟩ = some (Value.slice none 0 0) := B3.out.cell 1
          have f0 := B3.out.frozen 0
          have f1 := B3.out.frozen 1
          by_cases h0 : E = 0
          · subst h0
            have c0 : wr.cell? ⟨q, 0, none⟩ = some (Value.slice ra rn rc) := Q3.out.cell 0
            have c1 : wr.cell? ⟨q, 1, none⟩ = some (Value.slice ba bn bc) := Q3.out.cell 1
            have hz := en_zero.1 HE.out.symm
            have hdd := HD.out HE.out.symm
            rw [hz.1, hz.2] at hdd
            have HDD : Hid (rdD l = (⟨acc, acc2⟩, [], 0)) := hdd
            have HLM : Hid (LimD ⟨acc, acc2⟩) := (rdD_inv hdd).2
            have CC : Hid (Calls Tryz.prog 25 #[.agg #[.slice ra rn rc, .slice ba bn bc]] wr _) := canX _ ⟨acc, acc2⟩ wr (HX.out.keep fun _ _ _ => ⟨rfl, trivial⟩)
            clear hz hdd HD HDN HE
            go_wp2_with fail
            refine CC.out.mono ?_
            rintro x w5 ⟨⟨b, rfl, hb⟩, hb5⟩
            have HM : Hid (b = true ↔ MayD ⟨acc, acc2⟩) := hb.trans (canD_iff HLM.out)
            have B5 : Hid (Bk w5 w.heap.size #[.slice none 0 0, .slice none 0 0] 25) := B3.out.below hb5
            have Q5 : Hid (Bk w5 q #[.slice ra rn rc, .slice ba bn bc] 25) := Q3.out.below hb5
            have U5 : Hid (Below w.heap.size w w5) := bel2 U3.out hb5
            have X5 : Hid (IsR (fun B => q < B) w5 (.agg #[.slice ra rn rc, .slice ba bn bc]) ⟨acc, acc2⟩) := HX.out.below hb5
            clear c0 c1 d0 d1 f0 f1 hb5 hb CC HX B3 Q3 U3
            have d0 : w5.cell? ⟨w.heap.size, 0, none⟩ = some (Value.slice none 0 0) := B5.out.cell 0
            have d1 : w5.cell? ⟨w.heap.size, 1, none⟩ = some (Value.slice none 0 0) := B5.out.cell 1
            have f0 := B5.out.frozen 0
            have f1 := B5.out.frozen 1
            have hlw := B5.out.lt
            have HLW : Hid (w.heap.size < w5.heap.size) := hlw
            clear hlw
            cases b with
            | false =>
              go_wp2_with fail
              refine bodyPost_ret (retDb_tmp Tryz.results7 _ rfl (set2 B5.out _ _)) rfl ?_
              exact HP.out _ _ ⟨_, _, ⟨[], []⟩, 3, rfl, ⟨_, _, rfl, Sl.nil _ _, Sl.nil _ _⟩, .inr (.inr ⟨by rw [HDD.out]; rfl, fun h => absurd (HM.out.2 (by rw [HDD.out] at h; exact h)) (by decide), rfl, rfl⟩)⟩ (below_set (below_set U5.out (Nat.le_refl _)) (Nat.le_refl _))
            | true =>
              have c0 : w5.cell? ⟨q, 0, none⟩ = some (Value.slice ra rn rc) := Q5.out.cell 0
              have c1 : w5.cell? ⟨q, 1, none⟩ = some (Value.slice ba bn bc) := Q5.out.cell 1
              go_wp2_with fail
              refine bodyPost_ret (retDb_tmp Tryz.results7 _ rfl (set2 B5.out _ _)) rfl ?_
              exact HP.out _ _ ⟨_, _, ⟨acc, acc2⟩, 0, rfl, X5.out.keep (fun B hB _ => ⟨set_other2 w5 _ _ (fun e => by have := HQW.out; omega), trivial⟩), .inr (.inl ⟨by rw [HDD.out]; rfl, by rw [HDD.out]; exact HM.out.1 (by first | rfl | trivial), rfl, by rw [HDD.out]⟩)⟩ (below_set (below_set U5.out (Nat.le_refl _)) (Nat.le_refl _))
          · have dE : (E != 0) = true := by simpa using h0
            have HE0 : Hid (E ≠ 0) := h0
            clear h0
            go_wp2_with fail
            refine bodyPost_ret (retDb_tmp Tryz.results7 _ rfl (set2 B3.out _ _)) rfl ?_
            exact HP.out _ _ ⟨_, _, ⟨[], []⟩, E, rfl, ⟨_, _, rfl, Sl.nil _ _, Sl.nil _ _⟩, .inl (by rw [HDN.out]; exact ⟨fun h => HE0.out (HE.out.trans h), HE.out, rfl⟩)⟩ (below_set (below_set U3.out (Nat.le_refl _)) (Nat.le_refl _))
end Go.Proofs.YtkaaddahegkmgaaGreat
