/- The walk of RowsWhole. -/
import Derived.Test.YtkaaddahegkmgaaRY
namespace Go.Proofs.Ytkaaddahegkmgaa
open Go.ChangeShapes Go.WideShapes Go.ChangeAt Go.RowKit
/-- Whether one of the first j writes is of the branch k. -/
def hasB (ws : List Wt) (k : ByteArray) (j : Nat) : Bool := (ws.take j).any fun t => t.br.toList == k.toList
theorem hasB_zero (ws : List Wt) (k : ByteArray) : hasB ws k 0 = false := by simp [hasB]
theorem hasB_succ {ws : List Wt} {k : ByteArray} {j : Nat} {t : Wt} (h : ws[j]? = some t) : hasB ws k (j + 1) = (hasB ws k j || (t.br.toList == k.toList)) := by
  unfold hasB
  rw [List.take_add_one, h]
  simp
theorem hasB_all {ws : List Wt} {k : ByteArray} (h : hasB ws k ws.length = false) : ∀ t ∈ ws, t.br ≠ k := by
  intro t ht he
  unfold hasB at h
  rw [List.take_length, List.any_eq_false] at h
  exact h t ht (by rw [he]; simp)
theorem ls_one (w : World) (b : Bt) (p q : Value) (h : BtS (fun _ => True) w (.agg #[.string b.key, .int .i64 b.ex, p, q]) b) :
    Ls btE (fun _ => True) (w.alloc (.cells #[.string b.key, .int .i64 b.ex, p, q] 29)) (some ⟨w.heap.size, 0, none⟩) [b] := by
  obtain ⟨_, _, e1, r1, s1⟩ := h
  cases e1
  have hb := bel1 w (.cells #[.string b.key, .int .i64 b.ex, p, q] 29)
  have hc := cell_new w #[.string b.key, .int .i64 b.ex, p, q] 29
  intro i x hx
  match i, hx with
  | 0, hx =>
    cases hx
    refine ⟨w.heap.size, 0, [.string b.key, .int .i64 b.ex, p, q], rfl, fun _ => trivial, fun j z hz => ?_, p, q, rfl, r1.below hb, s1.below hb⟩
    match j, hz with
    | 0, hz => cases hz; exact hc 0
    | 1, hz => cases hz; exact hc 1
    | 2, hz => cases hz; exact hc 2
    | 3, hz => cases hz; exact hc 3
    | j + 4, hz => simp at hz
  | i + 1, hx => simp at hx
set_option maxHeartbeats 16000000 in
set_option maxRecDepth 100000 in
theorem whole_walk (v0 v1 : Value) (key : ByteArray) (r : Db) (b : Bt) (w : World) (h0 : IsR (fun _ => True) w v0 r) (h1 : BtS (fun _ => True) w v1 b) (hz : szDb r + szBt b ≤ 1048576) :
    Calls Try.prog 4 #[v0, v1, .string key] w fun e w' => e = .returned (.bool true) ∧ Below w.heap.size w w' := by
  obtain ⟨pu, cu, pb, cb, rfl, _, _⟩ := h0.shape
  obtain ⟨p1, c1, q1, k1, rfl, hr1, hw1⟩ := h1.shape
  have HV : Hid (IsR (fun _ => True) w (.agg #[.slice pu r.rows.length cu, .slice pb r.brs.length cb]) r) := h0
  have H1 : Hid (BtS (fun _ => True) w (.agg #[.string b.key, .int .i64 b.ex, .slice p1 b.row.length c1, .slice q1 b.ws.length k1]) b) := h1
  have HR : Hid (HB (fun _ => True) w (.slice p1 b.row.length c1) b.row) := hr1
  obtain ⟨q1', k1', he, hwc, hwm, hws⟩ := hw1
  cases he
  have HWS : Hid (Ls wtE (fun _ => True) w q1 b.ws) := hws
  have HWM : Hid (b.ws.length ≤ 9223372036854775807) := Nat.le_trans hwc hwm
  have HZ : Hid (szDb r + szBt b ≤ 1048576) := hz
  clear h0 h1 hz hr1 hwc hwm hws
  have HA : Hid (Below w.heap.size w ((w.alloc (.cells #[.slice pu r.rows.length cu, .slice pb r.brs.length cb] 25)).alloc (.cells #[.string b.key, .int .i64 b.ex, .slice p1 b.row.length c1, .slice q1 b.ws.length k1] 29))) := bel2 (bel1 _ _) (bel1 _ _)
  have O1 := old2 w (.cells #[.slice pu r.rows.length cu, .slice pb r.brs.length cb] 25) (.cells #[.string b.key, .int .i64 b.ex, .slice p1 b.row.length c1, .slice q1 b.ws.length k1] 29)
  have O2 := new2 w (.cells #[.slice pu r.rows.length cu, .slice pb r.brs.length cb] 25) (.cells #[.string b.key, .int .i64 b.ex, .slice p1 b.row.length c1, .slice q1 b.ws.length k1] 29)
  have hsz : ((w.alloc (.cells #[.slice pu r.rows.length cu, .slice pb r.brs.length cb] 25)).alloc (.cells #[.string b.key, .int .i64 b.ex, .slice p1 b.row.length c1, .slice q1 b.ws.length k1] 29)).heap.size = w.heap.size + 1 + 1 := by simp
  have LS := ls_one _ b _ _ (H1.out.below HA.out)
  rw [hsz] at LS
  have HLS : Hid (Ls btE (fun _ => True) _ (some ⟨w.heap.size + 1 + 1, 0, none⟩) [b]) := LS
  clear LS hsz
  go_enter Try.func4, Try.ntmps4
  go_wp2_with fail
  generalize (w.alloc (.cells #[.slice pu r.rows.length cu, .slice pb r.brs.length cb] 25)).alloc (.cells #[.string b.key, .int .i64 b.ex, .slice p1 b.row.length c1, .slice q1 b.ws.length k1] 29) = w1 at HA O1 O2 HLS ⊢
  have HA2 : Hid (Below w.heap.size w (w1.alloc (.cells #[.string b.key, .int .i64 b.ex, .slice p1 b.row.length c1, .slice q1 b.ws.length k1] 29))) := bel2 HA.out (bel1 _ _)
  have hbw := bel1 w1 (.cells #[.string b.key, .int .i64 b.ex, .slice p1 b.row.length c1, .slice q1 b.ws.length k1] 29)
  have O1 := row_below hbw O1
  have O2 := row_below hbw O2
  clear hbw
  generalize w1.alloc (.cells #[.string b.key, .int .i64 b.ex, .slice p1 b.row.length c1, .slice q1 b.ws.length k1] 29) = w2 at HA2 O1 O2 HLS ⊢
  refine (few_calls _ r _ 1 1 [b] rfl w2 (HV.out.below HA2.out) HLS.out ?_ (by decide)).mono ?_
  · have h1 := HZ.out
    have h2 := evN_sz r
    have h3 := wsN_sz b
    simp only [fewN, wsAll, List.map_cons, List.map_nil, List.sum_cons, List.sum_nil]
    omega
  rintro e w3 ⟨rfl, hb3⟩
  have HB3 : Hid (Below w.heap.size w w3) := bel2 HA2.out hb3
  have O1 := row_below hb3 O1
  have O2 := row_below hb3 O2
  by_cases hfew : fewN r [b] ≤ 400
  · have HF : Hid (r.rows.length + r.brs.length + evN r + wsN b ≤ 400) := by
      simp only [fewN, wsAll, List.map_cons, List.map_nil, List.sum_cons, List.sum_nil] at hfew
      show _ ≤ _
      omega
    rw [decide_eq_true hfew]
    have HO : Hid (w3.heap[w.heap.size]? = _ ∧ w3.heap[w.heap.size + 1]? = _) := ⟨O1, O2⟩
    have a0 := row_cell O1 (j := 0) rfl
    have a1 := row_cell O1 (j := 1) rfl
    have b0 := row_cell O2 (j := 0) rfl
    have b1 := row_cell O2 (j := 1) rfl
    have b2 := row_cell O2 (j := 2) rfl
    have b3 := row_cell O2 (j := 3) rfl
    have HSD : Hid (SmD r) := smD_of (n := 1048576) (by have := HZ.out; omega) (Nat.le_refl _) (by have := HF.out; omega)
    have AP : Hid (Calls Try.prog 9 _ w3 _) := apply_calls _ _ r b w3 (HV.out.below HB3.out) HSD.out (H1.out.below HB3.out) (by have h1 := HZ.out; have h2 := row_small (Nat.le_refl (szBt b)); omega) (by have := HF.out; omega) (by have := HF.out; omega)
    clear hfew hb3 O1 O2 HA HA2 HLS
    go_wp2_with fail
    refine AP.out.mono ?_
    rintro e w4 ⟨hres, hb4⟩
    have HB4 : Hid (Below w.heap.size w w4) := bel2 HB3.out hb4
    have HK4 : Hid (Below w3.heap.size w3 w4) := hb4
    have r4 := row_below hb4 HO.out.1
    have s4 := row_below hb4 HO.out.2
    clear a0 a1 b0 b1 b2 b3
    rcases hres with ⟨c, hc, _, _, u', b', rfl, hd⟩ | ⟨hm, hve, u', b', r', rfl, hd, hpt, hps, hsm⟩
    · obtain ⟨pu', cu', rfl, _⟩ := hd.rows.shape
      obtain ⟨pb', cb', rfl, _⟩ := hd.brs.shape
      have hc0 : (c == 0) = false := by simpa using hc
      have hb5 := bel1 w4 (.cells #[.slice pu' r.rows.length cu', .slice pb' r.brs.length cb'] 25)
      have HB5 : Hid (Below w.heap.size w (w4.alloc (.cells #[.slice pu' r.rows.length cu', .slice pb' r.brs.length cb'] 25))) := bel2 HB4.out hb5
      have n0 := cell_new w4 #[.slice pu' r.rows.length cu', .slice pb' r.brs.length cb'] 25 0
      have n1 := cell_new w4 #[.slice pu' r.rows.length cu', .slice pb' r.brs.length cb'] 25 1
      have d0 := row_cell (row_below hb5 r4) (j := 0) rfl
      have d1 := row_cell (row_below hb5 r4) (j := 1) rfl
      have SC : Hid (Calls Try.prog 18 _ (w4.alloc (.cells #[.slice pu' r.rows.length cu', .slice pb' r.brs.length cb'] 25)) _) := same_calls _ _ _ _ r _ (hd.below hb5).isR (HV.out.below HB5.out)
      clear hd hb4 hb5 AP r4 s4
      go_wp2_with fail
      refine SC.out.mono ?_
      rintro e w6 ⟨rfl, hb6⟩
      have HB6 : Hid (Below w.heap.size w w6) := bel2 HB5.out hb6
      clear n0 n1 d0 d1 SC hb6
      go_wp2_with fail
      refine (awake_calls w6).mono ?_
      rintro e w7 ⟨rfl, hb7⟩
      go_wp2_with fail
      go_ret
      exact ⟨rfl, bel2 HB6.out hb7⟩
    · obtain ⟨pu', cu', rfl, _⟩ := hd.rows.shape
      obtain ⟨pb', cb', rfl, _⟩ := hd.brs.shape
      have HD : Hid (OwnD w3.heap.size w4 (.slice pu' r'.rows.length cu') (.slice pb' r'.brs.length cb') r') := hd
      have HX : Hid (Pt (fun x : Rw => x.key) ⟨b.key, b.ex + 1, b.row⟩ r.rows r'.rows ∧ Puts r.brs b.ws r'.brs ∧ SmD r') := ⟨hpt, hps, hsm⟩
      have HM : Hid (mayB b = true) := hm
      have hb5 := bel1 w4 (.cells #[.slice pu' r'.rows.length cu', .slice pb' r'.brs.length cb'] 25)
      have HB5 : Hid (Below w.heap.size w (w4.alloc (.cells #[.slice pu' r'.rows.length cu', .slice pb' r'.brs.length cb'] 25))) := bel2 HB4.out hb5
      have HK5 : Hid (Below w4.heap.size w4 (w4.alloc (.cells #[.slice pu' r'.rows.length cu', .slice pb' r'.brs.length cb'] 25))) := hb5
      have x5 : (w4.alloc (.cells #[.slice pu' r'.rows.length cu', .slice pb' r'.brs.length cb'] 25)).heap[w4.heap.size]? = some (.cells #[.slice pu' r'.rows.length cu', .slice pb' r'.brs.length cb'] 25 (0, 0)) := heap_alloc_last _ _
      have HR5 : Hid (_ ∧ _ ∧ _) := ⟨row_below hb5 r4, row_below hb5 s4, x5⟩
      have a0 := row_cell HR5.out.1 (j := 0) rfl
      have a1 := row_cell HR5.out.1 (j := 1) rfl
      have b0 := row_cell HR5.out.2.1 (j := 0) rfl
      have G1 : Hid (Calls Try.prog 12 _ (w4.alloc (.cells #[.slice pu' r'.rows.length cu', .slice pb' r'.brs.length cb'] 25)) _) := get_gz _ r key _ (HV.out.below HB5.out) HSD.out
      clear hd hpt hps hsm hm hve hb4 hb5 x5 r4 s4 AP HO
      go_wp2_with fail
      generalize w4.alloc (.cells #[.slice pu' r'.rows.length cu', .slice pb' r'.brs.length cb'] 25) = w5 at HB5 HK5 HR5 G1 a0 a1 b0 ⊢
      refine G1.out.mono ?_
      rintro e w6 ⟨⟨s6, n6, l6, p6, c6, ok6, rfl, hg6, _, hl6⟩, hb6⟩
      have hb7 := bel1 w6 (.cells #[.string s6, .int .i64 n6, .slice p6 l6.length c6] 37)
      have HB7 : Hid (Below w.heap.size w (w6.alloc (.cells #[.string s6, .int .i64 n6, .slice p6 l6.length c6] 37))) := bel2 (bel2 HB5.out hb6) hb7
      have HK7 : Hid (Below w5.heap.size w5 (w6.alloc (.cells #[.string s6, .int .i64 n6, .slice p6 l6.length c6] 37))) := bel2 hb6 hb7
      have x7 : (w6.alloc (.cells #[.string s6, .int .i64 n6, .slice p6 l6.length c6] 37)).heap[w6.heap.size]? = some (.cells #[.string s6, .int .i64 n6, .slice p6 l6.length c6] 37 (0, 0)) := heap_alloc_last _ _
      have HX7 : Hid (_ = _) := x7
      have HG6 : Hid (Gz (fun x : Rw => x.key) vb (0, []) r.rows key (n6, l6)) := hg6
      have HL6 : Hid (HB (fun _ => True) (w6.alloc (.cells #[.string s6, .int .i64 n6, .slice p6 l6.length c6] 37)) (.slice p6 l6.length c6) l6) := hl6.below hb7
      have r7 := row_below HK7.out HR5.out.2.2
      have d0 := row_cell r7 (j := 0) rfl
      have d1 := row_cell r7 (j := 1) rfl
      have G2 : Hid (Calls Try.prog 12 _ (w6.alloc (.cells #[.string s6, .int .i64 n6, .slice p6 l6.length c6] 37)) _) := get_gz _ r' key _ ((HD.out.below (bel2 HK5.out HK7.out)).isR.keep fun B _ _ => ⟨rfl, trivial⟩) HX.out.2.2
      clear a0 a1 b0 hg6 hl6 hb6 hb7 x7 r7 G1
      go_wp2_with fail
      generalize w6.alloc (.cells #[.string s6, .int .i64 n6, .slice p6 l6.length c6] 37) = w7 at HB7 HK7 HX7 HL6 G2 d0 d1 ⊢
      refine G2.out.mono ?_
      rintro e w8 ⟨⟨s8, n8, l8, p8, c8, ok8, rfl, hg8, _, hl8⟩, hb8⟩
      have hb9 := bel1 w8 (.cells #[.string s8, .int .i64 n8, .slice p8 l8.length c8] 37)
      have hb79 : Below w7.heap.size w7 (w8.alloc (.cells #[.string s8, .int .i64 n8, .slice p8 l8.length c8] 37)) := bel2 hb8 hb9
      have HB9 : Hid (Below w.heap.size w (w8.alloc (.cells #[.string s8, .int .i64 n8, .slice p8 l8.length c8] 37))) := bel2 HB7.out hb79
      have HK9 : Hid (Below w5.heap.size w5 (w8.alloc (.cells #[.string s8, .int .i64 n8, .slice p8 l8.length c8] 37))) := bel2 HK7.out hb79
      have HG8 : Hid (Gz (fun x : Rw => x.key) vb (0, []) r'.rows key (n8, l8)) := hg8
      have x9 := row_below hb79 HX7.out
      have d1 := row_cell x9 (j := 1) rfl
      have d2 := row_cell x9 (j := 2) rfl
      have y1 := cell_new w8 #[.string s8, .int .i64 n8, .slice p8 l8.length c8] 37 1
      have y2 := cell_new w8 #[.string s8, .int .i64 n8, .slice p8 l8.length c8] 37 2
      have HL8 : Hid (HB (fun _ => True) (w8.alloc (.cells #[.string s8, .int .i64 n8, .slice p8 l8.length c8] 37)) (.slice p8 l8.length c8) l8) := hl8.below hb9
      have HL6' : Hid (HB (fun _ => True) (w8.alloc (.cells #[.string s8, .int .i64 n8, .slice p8 l8.length c8] 37)) (.slice p6 l6.length c6) l6) := HL6.out.below hb79
      clear d0 hb8 hb9 hb79 hg8 hl8 x9 G2
      go_upto_region 9 with fail
      generalize w8.alloc (.cells #[.string s8, .int .i64 n8, .slice p8 l8.length c8] 37) = w9 at HB9 HK9 HL8 HL6' d1 d2 y1 y2 ⊢
      go_cut [9, 77] (fun _ s wc => s = .bool false ∧ Hid (Below w9.heap.size w9 wc))
      case first =>
        by_cases hk : key = b.key
        · subst hk
          have hkb : (b.key.toList == b.key.toList) = true := by simp
          rw [hkb]
          go_wp2_with fail
          go_meet
          case rel => exact ⟨rfl, Below.refl _ w9⟩
        · have hkb : (key.toList == b.key.toList) = false := beq_eq_false_iff_ne.2 (fun h => hk (tl_inj h))
          have hnl := gz_same HX.out.1 hk HG6.out HG8.out
          injection hnl with e1 e2
          subst e1 e2
          have SB : Hid (Calls Try.prog 16 _ w9 _) := sameBytes _ _ l6 w9 HL6'.out.bytes HL8.out.bytes
          rw [hkb]
          go_wp2_with fail
          refine SB.out.mono ?_
          rintro e w10 ⟨rfl, hb10⟩
          have HB10 : Hid (Below w9.heap.size w9 w10) := hb10
          clear hb10 SB
          go_wp2_with fail
          go_meet
          case rel => exact ⟨rfl, HB10.out⟩
      case rest =>
        obtain ⟨rfl, hcut⟩ := hcut
        have HBc : Hid (Below w.heap.size w wc) := bel2 HB9.out hcut.out
        have HKc : Hid (Below w5.heap.size w5 wc) := bel2 HK9.out hcut.out
        clear hcut HL8 HL6' d1 d2 y1 y2 HL6 HX7 HG6 HG8 HB7 HB9 HK7 HK9
        have r5 := row_below HKc.out HR5.out.2.1
        obtain ⟨L, hL⟩ : ∃ L, L = b.ws.length := ⟨_, rfl⟩
        have HL : Hid (L = b.ws.length) := hL
        have b3 : wc.cell? ⟨w.heap.size + 1, 3, none⟩ = some (.slice q1 L k1) := by rw [hL]; exact row_cell r5 (j := 3) rfl
        clear r5 hL
        go_wp2_with fail
        clear b3
        go_loopw [14, 16, 17, 18, 81] (fun s _ _ _ i wr => ∃ (j : Nat) (bb : Bool), j ≤ L ∧ i = .int .i64 (j : Int) ∧ s = .bool bb ∧ Hid (bb = hasB b.ws key j) ∧ Hid (Below wc.heap.size wc wr)) (fun _ _ _ _ i _ => L - (intOf i).toNat)
        case atStart => exact ⟨0, false, Nat.zero_le _, rfl, rfl, (hasB_zero _ _).symm, Below.refl _ wc⟩
        case round =>
          obtain ⟨j, bb, hj, rfl, rfl, HBB, HQ⟩ := hrel
          by_cases hlt : j < L
          · have hjl : (j : Int) < (L : Int) := by omega
            obtain ⟨t, ht⟩ : ∃ t, b.ws[j]? = some t := ⟨_, List.getElem?_eq_getElem (by have := HL.out; omega)⟩
            obtain ⟨B, o, ve, rfl, _, g0, g1, g2, g3, g4, hve⟩ := HWS.out.wt j t ht
            obtain ⟨pe, ce, rfl, _⟩ := hve.shape
            have HBr : Hid (Below w.heap.size w wr) := bel2 HBc.out HQ.out
            have e0 := cell_below g0 HBr.out
            have e1 := cell_below g1 HBr.out
            have e2 := cell_below g2 HBr.out
            have e3 := cell_below g3 HBr.out
            have e4 := cell_below g4 HBr.out
            have hbn := bel1 wr (.cells #[.string t.br, .string t.fk, .int .i64 t.kp, .int .i64 t.ta, .slice pe t.ev.length ce] 47)
            have x5 := row_below (bel2 (bel2 HKc.out HQ.out) hbn) HR5.out.2.2
            have f0 := row_cell x5 (j := 0) rfl
            have f1 := row_cell x5 (j := 1) rfl
            have n0 := cell_new wr #[.string t.br, .string t.fk, .int .i64 t.kp, .int .i64 t.ta, .slice pe t.ev.length ce] 47 0
            have n4 := cell_new wr #[.string t.br, .string t.fk, .int .i64 t.kp, .int .i64 t.ta, .slice pe t.ev.length ce] 47 4
            have N4 : Hid (_ = _) := n4
            have HBn : Hid (Below wc.heap.size wc (wr.alloc (.cells #[.string t.br, .string t.fk, .int .i64 t.kp, .int .i64 t.ta, .slice pe t.ev.length ce] 47))) := bel2 HQ.out hbn
            have HW : Hid (wrap64 ((j : Int) + 1) = ((j + 1 : Nat) : Int)) := wr1 hlt (by have h1 := HWM.out; have h2 := HL.out; omega)
            have HSU : Hid (hasB b.ws key (j + 1) = (hasB b.ws key j || (t.br.toList == key.toList))) := hasB_succ ht
            have HHS : Hid (∃ i x, Fst (fun x : Bn => x.key) r'.brs t.br i x ∧ t.ev.length ≤ x.ev.length) := puts_has HX.out.2.1 t (List.mem_of_getElem? ht)
            have EV : Hid (Calls Try.prog 14 _ (wr.alloc (.cells #[.string t.br, .string t.fk, .int .i64 t.kp, .int .i64 t.ta, .slice pe t.ev.length ce] 47)) _) := ev_gz _ r' t.br _ ((HD.out.below (bel2 HK5.out (bel2 HKc.out HBn.out))).isR.keep fun B _ _ => ⟨rfl, trivial⟩) HX.out.2.2
            clear ht g0 g1 g2 g3 g4 hve hj x5 hbn
            cases bb
            all_goals
              go_wp2_with fail
              refine EV.out.mono ?_
              rintro e w11 ⟨⟨l, p, c, ok, rfl, hg, hok, _⟩, hb11⟩
              have hokt : ok = true := by obtain ⟨i, x, h1, _⟩ := HHS.out; exact hok ⟨i, x, h1⟩
              subst hokt
              have hle : ¬ (l.length : Int) < (t.ev.length : Int) := by
                obtain ⟨i, x, h1, h2⟩ := HHS.out
                rcases hg with ⟨i', x', h3, rfl⟩ | ⟨h3, _⟩
                · rw [fst_one h3 h1]; omega
                · exact absurd h1.2.1 (h3 _ (fst_mem h1))
              have m4 := cell_below N4.out hb11
              have HB11 : Hid (Below wc.heap.size wc w11) := bel2 HBn.out hb11
              clear hg hok hb11 f0 f1 n0 n4 e0 e1 e2 e3 e4
              go_wp2_with fail
            · exact ⟨⟨j + 1, _, hlt, by rw [HW.out], rfl, by show _ = _; rw [HSU.out, ← HBB.out, Bool.false_or], HB11⟩, meas hlt HW.out⟩
            · exact ⟨⟨j + 1, _, hlt, by rw [HW.out], rfl, by show _ = _; rw [HSU.out, ← HBB.out, Bool.true_or], HB11⟩, meas hlt HW.out⟩
          · obtain rfl : j = L := by omega
            have HBr : Hid (Below w.heap.size w wr) := bel2 HBc.out HQ.out
            have HKr : Hid (Below w5.heap.size w5 wr) := bel2 HKc.out HQ.out
            have a0 := row_cell (row_below HKr.out HR5.out.1) (j := 0) rfl
            have a1 := row_cell (row_below HKr.out HR5.out.1) (j := 1) rfl
            have EV : Hid (Calls Try.prog 14 _ wr _) := ev_gz _ r key _ (HV.out.below HBr.out) HSD.out
            clear hj
            go_wp2_with fail
            refine EV.out.mono ?_
            rintro e w11 ⟨⟨l1, p1', c1', ok1, rfl, hg1, _, hl1⟩, hb11⟩
            have HB11 : Hid (Below w.heap.size w w11) := bel2 HBr.out hb11
            have HK11 : Hid (Below w5.heap.size w5 w11) := bel2 HKr.out hb11
            have HG1 : Hid (Gz (fun x : Bn => x.key) Bn.ev [] r.brs key l1) := hg1
            have HL1 : Hid (Sl evE (fun _ => True) w11 (.slice p1' l1.length c1') l1) := hl1
            have f0 := row_cell (row_below HK11.out HR5.out.2.2) (j := 0) rfl
            have f1 := row_cell (row_below HK11.out HR5.out.2.2) (j := 1) rfl
            have EV2 : Hid (Calls Try.prog 14 _ w11 _) := ev_gz _ r' key _ ((HD.out.below (bel2 HK5.out HK11.out)).isR.keep fun B _ _ => ⟨rfl, trivial⟩) HX.out.2.2
            clear a0 a1 hg1 hl1 hb11 EV
            go_wp2_with fail
            refine EV2.out.mono ?_
            rintro e w12 ⟨⟨l2, p2, c2, ok2, rfl, hg2, _, hl2⟩, hb12⟩
            have HB12 : Hid (Below w.heap.size w w12) := bel2 HB11.out hb12
            have HK12 : Hid (Below w5.heap.size w5 w12) := bel2 HK11.out hb12
            have HG2 : Hid (Gz (fun x : Bn => x.key) Bn.ev [] r'.brs key l2) := hg2
            have HL2 : Hid (Sl evE (fun _ => True) w12 (.slice p1' l1.length c1') l1 ∧ Sl evE (fun _ => True) w12 (.slice p2 l2.length c2) l2) := ⟨HL1.out.below hb12, hl2⟩
            have f0 := row_cell (row_below HK12.out HR5.out.2.2) (j := 0) rfl
            have f1 := row_cell (row_below HK12.out HR5.out.2.2) (j := 1) rfl
            have g0 := row_cell (row_below HK12.out HR5.out.2.1) (j := 0) rfl
            have GR : Hid (Calls Try.prog 12 _ w12 _) := get_gz _ r' b.key _ ((HD.out.below (bel2 HK5.out HK12.out)).isR.keep fun B _ _ => ⟨rfl, trivial⟩) HX.out.2.2
            clear hg2 hl2 hb12 EV2 HL1
            go_wp2_with fail
            refine GR.out.mono ?_
            rintro e w13 ⟨⟨s13, n13, l13, p13, c13, ok13, rfl, hg13, hok13, hl13⟩, hb13⟩
            have hgo := gz_of HX.out.1 hg13
            injection hgo with en el
            subst en el
            have hokt : ok13 = true := hok13 (by obtain ⟨i, hi⟩ := pt_fst HX.out.1; exact ⟨i, _, hi⟩)
            subst hokt
            have hb14 := bel1 w13 (.cells #[.string s13, .int .i64 (b.ex + 1), .slice p13 b.row.length c13] 37)
            have hb := bel2 hb13 hb14
            have HB14 : Hid (Below w.heap.size w (w13.alloc (.cells #[.string s13, .int .i64 (b.ex + 1), .slice p13 b.row.length c13] 37))) := bel2 HB12.out hb
            have HK14 : Hid (Below w5.heap.size w5 (w13.alloc (.cells #[.string s13, .int .i64 (b.ex + 1), .slice p13 b.row.length c13] 37))) := bel2 HK12.out hb
            have HL14 : Hid (Sl evE (fun _ => True) (w13.alloc (.cells #[.string s13, .int .i64 (b.ex + 1), .slice p13 b.row.length c13] 37)) (.slice p1' l1.length c1') l1 ∧ Sl evE (fun _ => True) (w13.alloc (.cells #[.string s13, .int .i64 (b.ex + 1), .slice p13 b.row.length c13] 37)) (.slice p2 l2.length c2) l2) := ⟨HL2.out.1.below hb, HL2.out.2.below hb⟩
            have HR14 : Hid (HB (fun _ => True) (w13.alloc (.cells #[.string s13, .int .i64 (b.ex + 1), .slice p13 b.row.length c13] 37)) (.slice p13 b.row.length c13) b.row) := hl13.below hb14
            have x14 : (w13.alloc (.cells #[.string s13, .int .i64 (b.ex + 1), .slice p13 b.row.length c13] 37)).heap[w13.heap.size]? = some (.cells #[.string s13, .int .i64 (b.ex + 1), .slice p13 b.row.length c13] 37 (0, 0)) := heap_alloc_last _ _
            have HX14 : Hid (_ = _) := x14
            have hwr : wrap64 (b.ex + 1) = b.ex + 1 := by
              have h := (mayB_iff b).1 HM.out
              have h1 := h.x0
              have h2 := h.x1
              unfold wrap64
              omega
            have AW : Hid (∀ W, Calls Try.prog 8 #[] W _) := awake_calls
            clear f0 f1 g0 hg13 hok13 hl13 hb13 hb14 hb x14 GR
            go_upto_region 23 with fail
            generalize w13.alloc (.cells #[.string s13, .int .i64 (b.ex + 1), .slice p13 b.row.length c13] 37) = w14 at HB14 HK14 HL14 HR14 HX14 ⊢
            have rest : Hid (∀ W, Below w14.heap.size w14 W → Calls Try.prog 16 #[.slice p13 b.row.length c13, .slice p1 b.row.length c1] W fun e W' => e = .returned (.bool true) ∧ Below W.heap.size W W') := fun W hW => sameBytes _ _ b.row W (HR14.out.below hW).bytes (HR.out.below (bel2 HB14.out hW)).bytes
            cases bb with
            | true =>
              have m1 := row_cell HX14.out (j := 1) rfl
              have m2 := row_cell HX14.out (j := 2) rfl
              have q1' := row_cell (row_below HK14.out HR5.out.2.1) (j := 1) rfl
              have q2' := row_cell (row_below HK14.out HR5.out.2.1) (j := 2) rfl
              go_wp2_with (simp only [hwr])
              refine (rest.out w14 (Below.refl _ w14)).mono ?_
              rintro e w15 ⟨rfl, hb15⟩
              have HB15 : Hid (Below w.heap.size w w15) := bel2 HB14.out hb15
              clear m1 m2 q1' q2' hb15
              go_wp2_with fail
              refine (AW.out w15).mono ?_
              rintro e w16 ⟨rfl, hb16⟩
              go_wp2_with fail
              go_ret
              exact ⟨rfl, bel2 HB15.out hb16⟩
            | false =>
              have hee := puts_same HX.out.2.1 (hasB_all (by rw [← HL.out]; exact HBB.out.symm)) _ _ HG1.out HG2.out
              subst hee
              have ST : Hid (Calls Try.prog 17 _ w14 _) := sameTexts_calls _ _ _ _ _ _ l1 w14 HL14.out.1 HL14.out.2
              go_wp2_with fail
              refine ST.out.mono ?_
              rintro e w15 ⟨rfl, hb15⟩
              have HB15 : Hid (Below w.heap.size w w15) := bel2 HB14.out hb15
              have HK15 : Hid (Below w14.heap.size w14 w15) := hb15
              have m1 := row_cell (row_below hb15 HX14.out) (j := 1) rfl
              have m2 := row_cell (row_below hb15 HX14.out) (j := 2) rfl
              have q1' := row_cell (row_below (bel2 HK14.out hb15) HR5.out.2.1) (j := 1) rfl
              have q2' := row_cell (row_below (bel2 HK14.out hb15) HR5.out.2.1) (j := 2) rfl
              clear hb15
              go_wp2_with (simp only [hwr])
              refine (rest.out w15 HK15.out).mono ?_
              rintro e w16 ⟨rfl, hb16⟩
              have HB16 : Hid (Below w.heap.size w w16) := bel2 HB15.out hb16
              clear m1 m2 q1' q2' hb16
              go_wp2_with fail
              refine (AW.out w16).mono ?_
              rintro e w17 ⟨rfl, hb17⟩
              go_wp2_with fail
              go_ret
              exact ⟨rfl, bel2 HB16.out hb17⟩
  · rw [decide_eq_false hfew]
    clear hfew hb3 O1 O2
    go_wp2_with fail
    refine (awake_calls w3).mono ?_
    rintro e w4 ⟨rfl, hb4⟩
    go_wp2_with fail
    go_ret
    exact ⟨rfl, bel2 HB3.out hb4⟩
end Go.Proofs.Ytkaaddahegkmgaa
