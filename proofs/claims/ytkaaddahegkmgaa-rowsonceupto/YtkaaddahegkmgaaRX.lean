/- The walk of RowsOnce. -/
import Derived.Test.YtkaaddahegkmgaaRV
import Derived.Test.YtkaaddahegkmgaaRT
import Derived.Test.YtkaaddahegkmgaaCB
import Derived.Deep.RegionHeld3
import Derived.Deep.DeepCutAuto
import Derived.BigRegion
namespace Go.Proofs.Ytkaaddahegkmgaa
open Go.ChangeShapes Go.WideShapes Go.ChangeAt Go.RowKit
theorem BtS.shape {P : Nat → Prop} {w : World} {v : Value} {b : Bt} (h : BtS P w v b) : ∃ p c a k, v = .agg #[.string b.key, .int .i64 b.ex, .slice p b.row.length c, .slice a b.ws.length k] ∧ HB P w (.slice p b.row.length c) b.row ∧ Sl wtE P w (.slice a b.ws.length k) b.ws := by
  obtain ⟨vr, vw, rfl, h1, h2⟩ := h
  obtain ⟨p, c, rfl, _⟩ := h1.shape
  obtain ⟨a, k, rfl, _⟩ := h2.shape
  exact ⟨_, _, _, _, rfl, h1, h2⟩
/-- Two batches in a new block. -/
theorem ls_two (w : World) (a b : Bt) (p1 q1 p2 q2 : Value) (h1 : BtS (fun _ => True) w (.agg #[.string a.key, .int .i64 a.ex, p1, q1]) a) (h2 : BtS (fun _ => True) w (.agg #[.string b.key, .int .i64 b.ex, p2, q2]) b) :
    Ls btE (fun _ => True) (w.alloc (.cells #[.string a.key, .int .i64 a.ex, p1, q1, .string b.key, .int .i64 b.ex, p2, q2] 29)) (some ⟨w.heap.size, 0, none⟩) [a, b] := by
  obtain ⟨_, _, e1, r1, s1⟩ := h1
  obtain ⟨_, _, e2, r2, s2⟩ := h2
  cases e1
  cases e2
  have hb := bel1 w (.cells #[.string a.key, .int .i64 a.ex, p1, q1, .string b.key, .int .i64 b.ex, p2, q2] 29)
  have hc := cell_new w #[.string a.key, .int .i64 a.ex, p1, q1, .string b.key, .int .i64 b.ex, p2, q2] 29
  intro i x hx
  match i, hx with
  | 0, hx =>
    cases hx
    refine ⟨w.heap.size, 0, [.string a.key, .int .i64 a.ex, p1, q1], rfl, fun _ => trivial, fun j z hz => ?_, p1, q1, rfl, r1.below hb, s1.below hb⟩
    match j, hz with
    | 0, hz => cases hz; exact hc 0
    | 1, hz => cases hz; exact hc 1
    | 2, hz => cases hz; exact hc 2
    | 3, hz => cases hz; exact hc 3
    | j + 4, hz => simp at hz
  | 1, hx =>
    cases hx
    refine ⟨w.heap.size, 0, [.string b.key, .int .i64 b.ex, p2, q2], rfl, fun _ => trivial, fun j z hz => ?_, p2, q2, rfl, r2.below hb, s2.below hb⟩
    match j, hz with
    | 0, hz => cases hz; exact hc 4
    | 1, hz => cases hz; exact hc 5
    | 2, hz => cases hz; exact hc 6
    | 3, hz => cases hz; exact hc 7
    | j + 4, hz => simp at hz
  | i + 2, hx => simp at hx
theorem set4 {w : World} {g t : Nat} {x y z u : Value} {fz : Nat × Nat} (h : w.heap[g]? = some (.cells #[x, y, z, u] t fz)) (a b : Value) : ((w.setCell ⟨g, 0, none⟩ a).setCell ⟨g, 1, none⟩ b).heap[g]? = some (.cells #[a, b, z, u] t fz) := by
  simp [World.setCell, Array.getElem?_modify, h]
set_option maxHeartbeats 8000000 in
set_option maxRecDepth 100000 in
theorem once_walk (v0 v1 v2 : Value) (r : Db) (a b : Bt) (w : World) (h0 : IsR (fun _ => True) w v0 r) (h1 : BtS (fun _ => True) w v1 a) (h2 : BtS (fun _ => True) w v2 b) (hz : szDb r + szBt a + szBt b ≤ 1048576) :
    Calls Try.prog 5 #[v0, v1, v2] w fun e w' => e = .returned (.bool true) ∧ Below w.heap.size w w' := by
  obtain ⟨pu, cu, pb, cb, rfl, _, _⟩ := h0.shape
  obtain ⟨p1, c1, q1, k1, rfl, _, _⟩ := h1.shape
  obtain ⟨p2, c2, q2, k2, rfl, hr2, hw2⟩ := h2.shape
  have HV : Hid (IsR (fun _ => True) w (.agg #[.slice pu r.rows.length cu, .slice pb r.brs.length cb]) r) := h0
  have H1 : Hid (BtS (fun _ => True) w (.agg #[.string a.key, .int .i64 a.ex, .slice p1 a.row.length c1, .slice q1 a.ws.length k1]) a) := h1
  have H2 : Hid (BtS (fun _ => True) w (.agg #[.string b.key, .int .i64 b.ex, .slice p2 b.row.length c2, .slice q2 b.ws.length k2]) b) := h2
  have H3 : Hid (BtS (fun _ => True) w (.agg #[.string a.key, .int .i64 a.ex, .slice p2 b.row.length c2, .slice q2 b.ws.length k2]) ⟨a.key, a.ex, b.row, b.ws⟩) := ⟨_, _, rfl, hr2, hw2⟩
  have HZ : Hid (szDb r + szBt a + szBt b ≤ 1048576) := hz
  clear h0 h1 h2 hz hr2 hw2
  have HA : Hid (Below w.heap.size w (((w.alloc (.cells #[.slice pu r.rows.length cu, .slice pb r.brs.length cb] 25)).alloc (.cells #[.string a.key, .int .i64 a.ex, .slice p1 a.row.length c1, .slice q1 a.ws.length k1] 29)).alloc (.cells #[.string b.key, .int .i64 b.ex, .slice p2 b.row.length c2, .slice q2 b.ws.length k2] 29))) := bel2 (bel2 (bel1 _ _) (bel1 _ _)) (bel1 _ _)
  have O1 := old3 w (.cells #[.slice pu r.rows.length cu, .slice pb r.brs.length cb] 25) (.cells #[.string a.key, .int .i64 a.ex, .slice p1 a.row.length c1, .slice q1 a.ws.length k1] 29) (.cells #[.string b.key, .int .i64 b.ex, .slice p2 b.row.length c2, .slice q2 b.ws.length k2] 29)
  have O2 := mid3 w (.cells #[.slice pu r.rows.length cu, .slice pb r.brs.length cb] 25) (.cells #[.string a.key, .int .i64 a.ex, .slice p1 a.row.length c1, .slice q1 a.ws.length k1] 29) (.cells #[.string b.key, .int .i64 b.ex, .slice p2 b.row.length c2, .slice q2 b.ws.length k2] 29)
  have O3 := new3 w (.cells #[.slice pu r.rows.length cu, .slice pb r.brs.length cb] 25) (.cells #[.string a.key, .int .i64 a.ex, .slice p1 a.row.length c1, .slice q1 a.ws.length k1] 29) (.cells #[.string b.key, .int .i64 b.ex, .slice p2 b.row.length c2, .slice q2 b.ws.length k2] 29)
  have hsz : (((w.alloc (.cells #[.slice pu r.rows.length cu, .slice pb r.brs.length cb] 25)).alloc (.cells #[.string a.key, .int .i64 a.ex, .slice p1 a.row.length c1, .slice q1 a.ws.length k1] 29)).alloc (.cells #[.string b.key, .int .i64 b.ex, .slice p2 b.row.length c2, .slice q2 b.ws.length k2] 29)).heap.size = w.heap.size + 1 + 1 + 1 := by simp
  have LS := ls_two _ a b _ _ _ _ (H1.out.below HA.out) (H2.out.below HA.out)
  rw [hsz] at LS
  have HLS : Hid (Ls btE (fun _ => True) _ (some ⟨w.heap.size + 1 + 1 + 1, 0, none⟩) [a, b]) := LS
  clear LS hsz
  go_enter Try.func5, Try.ntmps5
  go_wp2_with fail
  generalize ((w.alloc (.cells #[.slice pu r.rows.length cu, .slice pb r.brs.length cb] 25)).alloc (.cells #[.string a.key, .int .i64 a.ex, .slice p1 a.row.length c1, .slice q1 a.ws.length k1] 29)).alloc (.cells #[.string b.key, .int .i64 b.ex, .slice p2 b.row.length c2, .slice q2 b.ws.length k2] 29) = w1 at HA O1 O2 O3 HLS ⊢
  have HA2 : Hid (Below w.heap.size w (w1.alloc (.cells #[.string a.key, .int .i64 a.ex, .slice p1 a.row.length c1, .slice q1 a.ws.length k1, .string b.key, .int .i64 b.ex, .slice p2 b.row.length c2, .slice q2 b.ws.length k2] 29))) := bel2 HA.out (bel1 _ _)
  have hbw := bel1 w1 (.cells #[.string a.key, .int .i64 a.ex, .slice p1 a.row.length c1, .slice q1 a.ws.length k1, .string b.key, .int .i64 b.ex, .slice p2 b.row.length c2, .slice q2 b.ws.length k2] 29)
  have O1 := row_below hbw O1
  have O2 := row_below hbw O2
  have O3 := row_below hbw O3
  clear hbw
  generalize w1.alloc (.cells #[.string a.key, .int .i64 a.ex, .slice p1 a.row.length c1, .slice q1 a.ws.length k1, .string b.key, .int .i64 b.ex, .slice p2 b.row.length c2, .slice q2 b.ws.length k2] 29) = w2 at HA2 O1 O2 O3 HLS ⊢
  refine (few_calls _ r _ 2 2 [a, b] rfl w2 (HV.out.below HA2.out) HLS.out ?_ (by decide)).mono ?_
  · have h1 := HZ.out
    have h2 := evN_sz r
    have h3 := wsN_sz a
    have h4 := wsN_sz b
    simp only [fewN, wsAll, List.map_cons, List.map_nil, List.sum_cons, List.sum_nil]
    omega
  rintro e w3 ⟨rfl, hb3⟩
  have HB3 : Hid (Below w.heap.size w w3) := bel2 HA2.out hb3
  have O1 := row_below hb3 O1
  have O2 := row_below hb3 O2
  have O3 := row_below hb3 O3
  by_cases hfew : fewN r [a, b] ≤ 400
  · have HF : Hid (r.rows.length + r.brs.length + evN r + wsN a + wsN b ≤ 400) := by
      simp only [fewN, wsAll, List.map_cons, List.map_nil, List.sum_cons, List.sum_nil] at hfew
      show _ ≤ _
      omega
    rw [decide_eq_true hfew]
    clear hfew hb3
    go_upto_region 3 with fail
    have HO : Hid (w3.heap[w.heap.size]? = _ ∧ w3.heap[w.heap.size + 1]? = _ ∧ w3.heap[w.heap.size + 2]? = _) := ⟨O1, O2, O3⟩
    have a0 := row_cell O2 (j := 0) rfl
    have a1 := row_cell O2 (j := 1) rfl
    have O3 : w3.heap[w.heap.size + 1 + 1]? = _ := O3
    have yf := row_frozen O3
    have b0 := row_cell O3 (j := 0) rfl
    have b1 := row_cell O3 (j := 1) rfl
    have HL3 : Hid (w.heap.size + 1 + 1 < w3.heap.size) := lt_of_row O3
    clear O1 O2 O3
    go_cut [] (fun wc => Hid (Below w.heap.size w wc ∧ wc.heap[w.heap.size]? = some (.cells #[.slice pu r.rows.length cu, .slice pb r.brs.length cb] 25 (0, 0)) ∧ wc.heap[w.heap.size + 1]? = some (.cells #[.string a.key, .int .i64 a.ex, .slice p1 a.row.length c1, .slice q1 a.ws.length k1] 29 (0, 0)) ∧ wc.heap[w.heap.size + 1 + 1]? = some (.cells #[.string a.key, .int .i64 a.ex, .slice p2 b.row.length c2, .slice q2 b.ws.length k2] 29 (0, 0))))
    case first =>
      go_region
      go_wp2_with fail
      go_meet
      case rel => exact ⟨(below_set (below_set HB3.out (by omega)) (by omega)).drew, (set_other2 w3 _ _ (by omega)).trans HO.out.1, (set_other2 w3 _ _ (by omega)).trans HO.out.2.1, set4 HO.out.2.2 _ _⟩
    case rest =>
      have HCT : Hid (_ ∧ _) := hcut
      clear hcut HO HL3 a0 a1 b0 b1 yf
      have HBc : Hid (Below w.heap.size w wc) := HCT.out.1
      have a0 := row_cell HCT.out.2.1 (j := 0) rfl
      have a1 := row_cell HCT.out.2.1 (j := 1) rfl
      have b0 := row_cell HCT.out.2.2.1 (j := 0) rfl
      have b1 := row_cell HCT.out.2.2.1 (j := 1) rfl
      have b2 := row_cell HCT.out.2.2.1 (j := 2) rfl
      have b3 := row_cell HCT.out.2.2.1 (j := 3) rfl
      have HSD : Hid (SmD r) := smD_of (n := 1048576) (by have := HZ.out; omega) (Nat.le_refl _) (by have := HF.out; omega)
      have AP : Hid (Calls Try.prog 9 _ wc _) := apply_calls _ _ r a wc (HV.out.below HBc.out) HSD.out (H1.out.below HBc.out) (by have h1 := HZ.out; have h2 := row_small (Nat.le_refl (szBt a)); omega) (by have := HF.out; omega) (by have := HF.out; omega)
      go_wp2_with fail
      refine AP.out.mono ?_
      rintro e w4 ⟨hres, hb4⟩
      have HB4 : Hid (Below w.heap.size w w4) := bel2 HBc.out hb4
      have HBc4 : Hid (Below wc.heap.size wc w4) := hb4
      clear a0 a1 b0 b1 b2 b3
      rcases hres with ⟨c, hc, _, _, u', b', rfl, hd⟩ | ⟨hm, hve, u', b', r', rfl, hd, hpt, hps, hsm⟩
      · obtain ⟨pu', cu', rfl, _⟩ := hd.rows.shape
        obtain ⟨pb', cb', rfl, _⟩ := hd.brs.shape
        have hc0 : (c == 0) = false := by simpa using hc
        clear hd hb4 AP
        go_wp2_with fail
        refine (awake_calls _).mono ?_
        rintro e w5 ⟨rfl, hb5⟩
        go_wp2_with fail
        go_ret
        exact ⟨rfl, bel2 (bel2 HB4.out (bel1 _ _)) hb5⟩
      · obtain ⟨pu', cu', rfl, _⟩ := hd.rows.shape
        obtain ⟨pb', cb', rfl, _⟩ := hd.brs.shape
        have HD : Hid (OwnD wc.heap.size w4 (.slice pu' r'.rows.length cu') (.slice pb' r'.brs.length cb') r') := hd
        have HLN : Hid (r'.rows.length ≤ 450 ∧ r'.brs.length ≤ 450) := by
          have h1 := pt_len hpt
          have h2 := puts_len hps
          have h3 := HF.out
          have h4 := sum_len wtLen a.ws fun y _ => by unfold wtLen; omega
          rw [← wsN_eq] at h4
          refine ⟨?_, ?_⟩ <;> omega
        have HSM : Hid (SmD r') := hsm
        have HVR : Hid (VerIs r'.rows a.key (a.ex + 1)) := pt_ver hpt
        have hb5 := bel1 w4 (.cells #[.slice pu' r'.rows.length cu', .slice pb' r'.brs.length cb'] 25)
        have HB5 : Hid (Below w.heap.size w (w4.alloc (.cells #[.slice pu' r'.rows.length cu', .slice pb' r'.brs.length cb'] 25))) := bel2 HB4.out hb5
        have HK5 : Hid (Below w4.heap.size w4 (w4.alloc (.cells #[.slice pu' r'.rows.length cu', .slice pb' r'.brs.length cb'] 25))) := hb5
        have x5 : (w4.alloc (.cells #[.slice pu' r'.rows.length cu', .slice pb' r'.brs.length cb'] 25)).heap[w4.heap.size]? = some (.cells #[.slice pu' r'.rows.length cu', .slice pb' r'.brs.length cb'] 25 (0, 0)) := heap_alloc_last _ _
        have r5 := row_below hb5 (row_below HBc4.out HCT.out.2.2.2)
        have HX5 : Hid (_ ∧ _) := ⟨x5, r5⟩
        have e0 := row_cell r5 (j := 0) rfl
        have e1 := row_cell r5 (j := 1) rfl
        have e2 := row_cell r5 (j := 2) rfl
        have e3 := row_cell r5 (j := 3) rfl
        have RC : Hid (Calls Try.prog 19 _ (w4.alloc (.cells #[.slice pu' r'.rows.length cu', .slice pb' r'.brs.length cb'] 25)) _) := rcheck_calls _ ⟨a.key, a.ex, b.row, b.ws⟩ _ (H3.out.below HB5.out).bis
        clear hd hpt hps hsm hve hb4 hb5 x5 r5 AP hm
        go_wp2_with fail
        generalize w4.alloc (.cells #[.slice pu' r'.rows.length cu', .slice pb' r'.brs.length cb'] 25) = w5 at HB5 HK5 HX5 RC e0 e1 e2 e3 ⊢
        refine RC.out.mono ?_
        rintro e w6 ⟨rfl, hb6⟩
        have HB6 : Hid (Below w.heap.size w w6) := bel2 HB5.out hb6
        have HK6 : Hid (Below w4.heap.size w4 w6) := bel2 HK5.out hb6
        have x6 := row_below hb6 HX5.out.1
        have r6 := row_below hb6 HX5.out.2
        have HX6 : Hid (_ ∧ _) := ⟨x6, r6⟩
        clear e0 e1 e2 e3 RC HX5
        by_cases hm : mayB ⟨a.key, a.ex, b.row, b.ws⟩ = true
        · have hck : ckE ⟨a.key, a.ex, b.row, b.ws⟩ = 0 := by unfold ckE; rw [if_pos hm]
          rw [hck]
          have HM : Hid (mayB ⟨a.key, a.ex, b.row, b.ws⟩ = true) := hm
          have f0 := row_cell x6 (j := 0) rfl
          have f1 := row_cell x6 (j := 1) rfl
          have g0 := row_cell r6 (j := 0) rfl
          have g1 := row_cell r6 (j := 1) rfl
          have g2 := row_cell r6 (j := 2) rfl
          have g3 := row_cell r6 (j := 3) rfl
          have AP : Hid (Calls Try.prog 9 _ w6 _) := apply_calls _ _ r' ⟨a.key, a.ex, b.row, b.ws⟩ w6 ((HD.out.below HK6.out).isR.keep fun B _ _ => ⟨rfl, trivial⟩) HSM.out (H3.out.below HB6.out) (by have h1 := HZ.out; have h2 := row_small (Nat.le_refl (szBt b)); show b.row.length ≤ _; omega) HLN.out.1 HLN.out.2
          clear hck hm x6 r6 hb6
          go_wp2_with fail
          refine AP.out.mono ?_
          rintro e w7 ⟨⟨c, hc, hc11, _, u7, b7, rfl, hd7⟩ | ⟨_, hve, _⟩, hb7⟩
          · have h11 : c = 11 := hc11 HM.out (fun h => absurd (ver_det HVR.out h) (by show ¬ a.ex + 1 = a.ex; omega))
            subst h11
            obtain ⟨pu7, cu7, rfl, _⟩ := hd7.rows.shape
            obtain ⟨pb7, cb7, rfl, _⟩ := hd7.brs.shape
            have hb8 := bel1 w7 (.cells #[.slice pu7 r'.rows.length cu7, .slice pb7 r'.brs.length cb7] 25)
            have HK8 : Hid (Below w4.heap.size w4 (w7.alloc (.cells #[.slice pu7 r'.rows.length cu7, .slice pb7 r'.brs.length cb7] 25))) := bel2 (bel2 HK6.out hb7) hb8
            have HB8 : Hid (Below w.heap.size w (w7.alloc (.cells #[.slice pu7 r'.rows.length cu7, .slice pb7 r'.brs.length cb7] 25))) := bel2 (bel2 HB6.out hb7) hb8
            have x8 := row_below hb8 (row_below hb7 HX6.out.1)
            have y0 := row_cell x8 (j := 0) rfl
            have y1 := row_cell x8 (j := 1) rfl
            have n0 := cell_new w7 #[.slice pu7 r'.rows.length cu7, .slice pb7 r'.brs.length cb7] 25 0
            have n1 := cell_new w7 #[.slice pu7 r'.rows.length cu7, .slice pb7 r'.brs.length cb7] 25 1
            have SC : Hid (Calls Try.prog 18 _ (w7.alloc (.cells #[.slice pu7 r'.rows.length cu7, .slice pb7 r'.brs.length cb7] 25)) _) := same_calls _ _ _ _ r' _ (HD.out.below HK8.out).isR ((hd7.below hb8).isR)
            clear hd7 hb7 hb8 x8 f0 f1 g0 g1 g2 g3 AP
            go_wp2_with fail
            refine SC.out.mono ?_
            rintro e w9 ⟨rfl, hb9⟩
            have HB9 : Hid (Below w.heap.size w w9) := bel2 HB8.out hb9
            clear y0 y1 n0 n1 SC hb9
            go_wp2_with fail
            refine (awake_calls w9).mono ?_
            rintro e w10 ⟨rfl, hb10⟩
            go_wp2_with fail
            go_ret
            exact ⟨rfl, bel2 HB9.out hb10⟩
          · exact absurd (ver_det HVR.out hve) (by show ¬ a.ex + 1 = a.ex; omega)
        · have hck : ckE ⟨a.key, a.ex, b.row, b.ws⟩ = 1 := by unfold ckE; rw [if_neg hm]
          rw [hck]
          clear hck hm x6 r6 hb6
          go_wp2_with fail
          refine (awake_calls w6).mono ?_
          rintro e w7 ⟨rfl, hb7⟩
          go_wp2_with fail
          go_ret
          exact ⟨rfl, bel2 HB6.out hb7⟩
  · rw [decide_eq_false hfew]
    clear hfew hb3 O1 O2 O3
    go_wp2_with fail
    refine (awake_calls w3).mono ?_
    rintro e w4 ⟨rfl, hb4⟩
    go_wp2_with fail
    go_ret
    exact ⟨rfl, bel2 HB3.out hb4⟩
end Go.Proofs.Ytkaaddahegkmgaa
