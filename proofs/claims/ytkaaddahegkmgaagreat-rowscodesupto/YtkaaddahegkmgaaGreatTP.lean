/- The contracts of the reference's SameTexts and Same. -/
import Derived.Test.YtkaaddahegkmgaaGreatMO
import Derived.BigQuiet
import Derived.Deep.QuietTactic
import Derived.BigRegion
import Derived.Deep.DeepCutAuto
import Derived.Deep.RegionLaw
import Derived.Deep.RegionHeld3
namespace Go.Proofs.YtkaaddahegkmgaaGreat
open Go.ChangeShapes Go.WideShapes Go.ChangeAt Go.RowKit
theorem conv_row {w : World} {p : Option Addr} {n c : Nat} {l : List UInt8} (h : Lib.HoldsBytes w (.slice p n c) l) : (convert 26 9 (.slice p n c)).run Tryz.prog w = .ok (.string (str l)) w := by
  obtain ⟨p', c', he, q⟩ := h
  cases he
  have := conv_string w p c l ⟨p, c, rfl, q⟩
  rwa [str_nums] at this
theorem take_more {α : Type} {l l2 : List α} {j : Nat} (h : j < l.length) (h2 : j < l2.length) (e : l.take j = l2.take j) (hx : l[j] = l2[j]) : l.take (j + 1) = l2.take (j + 1) := by
  rw [List.take_add_one, List.take_add_one, e, List.getElem?_eq_getElem h, List.getElem?_eq_getElem h2, hx]
theorem str_inj {l m : List UInt8} (h : str l = str m) : l = m := by
  have := congrArg (fun s : ByteArray => s.data.toList) h
  simpa [str] using this
set_option maxHeartbeats 2000000 in
theorem rtexts_calls (v v2 : Value) (l l2 : List (List UInt8)) (w : World) (hr : LR w v l) (hr2 : LR w v2 l2) :
    Calls Tryz.prog 31 #[v, v2] w fun e w' => (∃ r : Bool, e = .returned (.bool r) ∧ (r = true ↔ l = l2)) ∧ Below w.heap.size w w' := by
  obtain ⟨a, c, rfl, hc, hr⟩ := hr
  obtain ⟨a2, c2, rfl, _, hr2⟩ := hr2
  have HR : Hid (∀ (i : Nat) p, l[i]? = some p → ∃ B o x, a = some ⟨B, o, none⟩ ∧ w.cell? ⟨B, o + i, none⟩ = some x ∧ Lib.HoldsBytes w x p) := hr
  have HR2 : Hid (∀ (i : Nat) p, l2[i]? = some p → ∃ B o x, a2 = some ⟨B, o, none⟩ ∧ w.cell? ⟨B, o + i, none⟩ = some x ∧ Lib.HoldsBytes w x p) := hr2
  have HC : Hid (l.length ≤ 9223372036854775807) := hc
  clear hr hr2 hc
  by_cases hd : l.length = l2.length
  · rw [← hd]
    have HL : Hid (l.length = l2.length) := hd
    clear hd
    go_enter Tryz.func31, Tryz.ntmps31
    go_wp2_with fail
    go_loopw [5] (fun i wr => ∃ j : Nat, j ≤ l.length ∧ i = .int .i64 j ∧ Hid (l.take j = l2.take j) ∧ Hid (Below w.heap.size w wr)) (fun i _ => l.length - (intOf i).toNat)
    case atStart => exact ⟨0, Nat.zero_le _, rfl, rfl, Below.refl _ _⟩
    case round =>
      obtain ⟨j, hj, rfl, HE, HB⟩ := hrel
      by_cases hlt : j < l.length
      · have HL2 : Hid (j < l2.length) := HL.out ▸ hlt
        obtain ⟨p, hkp⟩ : ∃ f, l[j] = f := ⟨_, rfl⟩
        obtain ⟨p2, hkp2⟩ : ∃ f, l2[j]'HL2.out = f := ⟨_, rfl⟩
        obtain ⟨B, o, x, rfl, h0, hx⟩ := HR.out j p (by rw [List.getElem?_eq_getElem hlt, hkp])
        obtain ⟨B', o', x2, rfl, h0', hx'⟩ := HR2.out j p2 (by rw [List.getElem?_eq_getElem HL2.out, hkp2])
        have HKP : Hid (l[j] = p ∧ l2[j]'HL2.out = p2) := ⟨hkp, hkp2⟩
        clear hkp hkp2
        obtain ⟨xa, xn, xc, rfl⟩ : ∃ p n c, x = .slice p n c := by obtain ⟨p, c, rfl, _⟩ := hx; exact ⟨_, _, _, rfl⟩
        obtain ⟨ya, yn, yc, rfl⟩ : ∃ p n c, x2 = .slice p n c := by obtain ⟨p, c, rfl, _⟩ := hx'; exact ⟨_, _, _, rfl⟩
        have HB2 : Hid (Below w.heap.size w wr.drew) := HB.out.drew
        have cv := conv_row (holds_below hx HB2.out)
        have cv2 := conv_row (holds_below hx' HB2.out)
        have g0 := cell_below h0 HB.out
        have g0' := cell_below h0' HB.out
        have HI : Hid (str p = str p2 ↔ p = p2) := ⟨str_inj, fun h => by rw [h]⟩
        generalize str p = s at cv HI
        generalize str p2 = s2 at cv2 HI
        have HW : Hid (wrap64 ((j : Int) + 1) = ((j + 1 : Nat) : Int)) := wr1 hlt HC.out
        have hjl : (j : Int) < (l.length : Int) := by omega
        clear hx hx' h0 h0'
        by_cases he : s = s2
        · subst he
          have HPP : Hid (p = p2) := HI.out.1 rfl
          go_wp2_with fail
          go_region
          go_wp2_with fail
          exact ⟨⟨j + 1, hlt, by rw [HW.out], take_more hlt HL2.out HE.out (by rw [HKP.out.1, HKP.out.2, HPP.out]), HB2⟩, meas hlt HW.out⟩
        · have HNE : Hid (¬ (l = l2)) := fun h => by
            subst h
            exact he (HI.out.2 (HKP.out.1.symm.trans HKP.out.2))
          have hs : (s.toList == s2.toList) = false := beq_eq_false_iff_ne.2 (fun h => he (tl_inj h))
          go_wp2_with fail
          go_region
          go_wp2_with fail
          go_ret
          exact ⟨⟨false, rfl, ⟨fun h => (by cases h), fun h => absurd h HNE.out⟩⟩, HB2.out⟩
      · obtain rfl : j = l.length := by omega
        go_wp2_with fail
        go_ret
        have h := HE.out
        rw [List.take_length, HL.out, List.take_length] at h
        exact ⟨⟨true, rfl, ⟨fun _ => h, fun _ => rfl⟩⟩, HB.out⟩
  · have hd' : ((l.length : Int) != (l2.length : Int)) = true := by simp; omega
    go_enter Tryz.func31, Tryz.ntmps31
    go_wp2_with fail
    go_ret
    exact ⟨⟨false, rfl, ⟨fun h => (by cases h), fun h => absurd (congrArg List.length h) hd⟩⟩, Below.refl _ _⟩
theorem belN1x (w : World) : Below w.heap.size w w.drew := (Below.refl _ w).drew
theorem belNx (w : World) (n : Nat) : Below w.heap.size w (w.drewN n) := ⟨rfl, rfl, rfl, Nat.le_refl _, fun _ _ => rfl⟩
/-- What Same of the reference answers. -/
def SaX (r s : Db) (w : World) (e : Ending) (w' : World) : Prop := (∃ b, e = .returned (.bool b) ∧ (b = true ↔ r = s)) ∧ Below w.heap.size w w'
theorem sax_no {r s : Db} {w w' : World} (hn : ¬ r = s) (hb : Below w.heap.size w w') : SaX r s w (.returned (.bool false)) w' := ⟨⟨false, rfl, ⟨fun h => (by cases h), fun h => absurd h hn⟩⟩, hb⟩
set_option maxHeartbeats 16000000 in
set_option maxRecDepth 100000 in
theorem rsameX (v1 v2 : Value) (r s : Db) (w : World) (h1 : IsR (fun _ => True) w v1 r) (h2 : IsR (fun _ => True) w v2 s) : Calls Tryz.prog 11 #[v1, v2] w (SaX r s w) := by
  obtain ⟨pu, cu, pb, cb, rfl, hu, hb⟩ := h1.shape
  obtain ⟨pu2, cu2, pb2, cb2, rfl, hu2, hb2⟩ := h2.shape
  obtain ⟨_, _, e1, x1, x2, hls1⟩ := hu
  cases e1
  obtain ⟨_, _, e2, y1, y2, hls2⟩ := hb
  cases e2
  obtain ⟨_, _, e3, _, _, hls3⟩ := hu2
  cases e3
  obtain ⟨_, _, e4, _, _, hls4⟩ := hb2
  cases e4
  have HU : Hid (Ls rowE (fun _ => True) w pu r.rows) := hls1
  have HV : Hid (Ls brE (fun _ => True) w pb r.brs) := hls2
  have HU2 : Hid (Ls rowE (fun _ => True) w pu2 s.rows) := hls3
  have HV2 : Hid (Ls brE (fun _ => True) w pb2 s.brs) := hls4
  obtain ⟨R, hR⟩ : ∃ R, R = r.rows.length := ⟨_, rfl⟩
  obtain ⟨K, hK⟩ : ∃ K, K = r.brs.length := ⟨_, rfl⟩
  obtain ⟨R2, hR2⟩ : ∃ R, R = s.rows.length := ⟨_, rfl⟩
  obtain ⟨K2, hK2⟩ : ∃ K, K = s.brs.length := ⟨_, rfl⟩
  have HRK : Hid (R = r.rows.length ∧ K = r.brs.length ∧ R ≤ 9223372036854775807 ∧ K ≤ 9223372036854775807 ∧ R2 = s.rows.length ∧ K2 = s.brs.length) := ⟨hR, hK, by omega, by omega, hR2, hK2⟩
  rw [← hR, ← hK, ← hR2, ← hK2]
  have HA : Hid (Below w.heap.size w ((w.alloc (.cells #[.slice pu R cu, .slice pb K cb] 25)).alloc (.cells #[.slice pu2 R2 cu2, .slice pb2 K2 cb2] 25))) := box2 _ _ _
  have O1 := old2 w (.cells #[.slice pu R cu, .slice pb K cb] 25) (.cells #[.slice pu2 R2 cu2, .slice pb2 K2 cb2] 25)
  have O2 := new2 w (.cells #[.slice pu R cu, .slice pb K cb] 25) (.cells #[.slice pu2 R2 cu2, .slice pb2 K2 cb2] 25)
  clear hls1 hls2 hls3 hls4 x1 x2 y1 y2 h1 h2 hR hK hR2 hK2
  by_cases hr : R = R2
  · by_cases hk : K = K2
    · subst hr hk
      go_enter Tryz.func11, Tryz.ntmps11
      go_wp2_with fail
      generalize (w.alloc (.cells #[.slice pu R cu, .slice pb K cb] 25)).alloc (.cells #[.slice pu2 R cu2, .slice pb2 K cb2] 25) = w1 at HA O1 O2 ⊢
      have HO : Hid (w1.heap[w.heap.size]? = _ ∧ w1.heap[w.heap.size + 1]? = _) := ⟨O1, O2⟩
      clear O1 O2
      go_loopw [5, 6, 7] (fun i _ _ wr => ∃ j : Nat, j ≤ R ∧ i = .int .i64 (j : Int) ∧ Hid (∀ i, i < j → r.rows[i]? = s.rows[i]?) ∧ Hid (Below w1.heap.size w1 wr)) (fun i _ _ _ => R - (intOf i).toNat)
      case atStart => exact ⟨0, Nat.zero_le _, rfl, fun _ h => absurd h (Nat.not_lt_zero _), Below.refl _ _⟩
      case round =>
        obtain ⟨j, hj, rfl, HE, HQ⟩ := hrel
        have a0 := row_cell (row_below HQ.out HO.out.1) (j := 0) rfl
        have b0 := row_cell (row_below HQ.out HO.out.2) (j := 0) rfl
        by_cases hlt : j < R
        · have hjl : (j : Int) < (R : Int) := by omega
          obtain ⟨x, hx⟩ : ∃ y, r.rows[j]? = some y := ⟨_, List.getElem?_eq_getElem (by have := HRK.out; omega)⟩
          obtain ⟨y, hy⟩ : ∃ y, s.rows[j]? = some y := ⟨_, List.getElem?_eq_getElem (by have := HRK.out; omega)⟩
          have HXY : Hid (r.rows[j]? = some x ∧ s.rows[j]? = some y) := ⟨hx, hy⟩
          have HBw : Hid (Below w.heap.size w wr) := bel2 HA.out HQ.out
          obtain ⟨B, o, vb, rfl, _, k0, k1, k2, hv⟩ := (HU.out.below HBw.out).row j x hx
          obtain ⟨B2, o2, vb2, rfl, _, m0, m1, m2, hv2⟩ := (HU2.out.below HBw.out).row j y hy
          obtain ⟨pv, cv, rfl, _⟩ := hv.shape
          obtain ⟨pv2, cv2, rfl, _⟩ := hv2.shape
          have HW : Hid (wrap64 ((j : Int) + 1) = ((j + 1 : Nat) : Int)) := wr1 hlt HRK.out.2.2.1
          have HVV : Hid (HB (fun _ => True) wr (.slice pv x.row.length cv) x.row ∧ HB (fun _ => True) wr (.slice pv2 y.row.length cv2) y.row) := ⟨hv, hv2⟩
          clear hx hy hv hv2 hj
          go_upto_region 6 with fail
          go_cut [6, 7] (fun a b wx => Hid (∃ g1 g2, a = .pointer (some ⟨g1, 0, none⟩) ∧ b = .pointer (some ⟨g2, 0, none⟩) ∧ wx.heap[g1]? = some (.cells #[.string x.key, .int .i64 x.ver, .slice pv x.row.length cv] 47 (0, 0)) ∧ wx.heap[g2]? = some (.cells #[.string y.key, .int .i64 y.ver, .slice pv2 y.row.length cv2] 47 (0, 0))) ∧ Hid (Below wr.heap.size wr wx))
          case first =>
            go_region_held3 (fun W => W.cell? ⟨w.heap.size, 0, none⟩ = some (.slice (some ⟨B, o, none⟩) R cu) ∧ W.cell? ⟨w.heap.size + 1, 0, none⟩ = some (.slice (some ⟨B2, o2, none⟩) R cu2) ∧ W.cell? ⟨B, o + j * 3, none⟩ = some (.string x.key) ∧ W.cell? ⟨B, o + j * 3 + 1, none⟩ = some (.int .i64 x.ver) ∧ W.cell? ⟨B, o + j * 3 + 2, none⟩ = some (.slice pv x.row.length cv) ∧ W.cell? ⟨B2, o2 + j * 3, none⟩ = some (.string y.key) ∧ W.cell? ⟨B2, o2 + j * 3 + 1, none⟩ = some (.int .i64 y.ver) ∧ W.cell? ⟨B2, o2 + j * 3 + 2, none⟩ = some (.slice pv2 y.row.length cv2)) (go_keep) (fail)
            all_goals go_wp2_with fail
            all_goals go_meet
            all_goals (case rel => first | exact ⟨⟨wr.heap.size, wr.heap.size + 1, rfl, rfl, old2 wr _ _, new2 wr _ _⟩, (box2 wr _ _).drew⟩ | exact ⟨⟨wr.heap.size + 1, wr.heap.size, rfl, rfl, new2 wr _ _, old2 wr _ _⟩, (box2 wr _ _).drew⟩)
          case rest =>
            obtain ⟨hg, hbc⟩ := hcut
            obtain ⟨g1, g2, rfl, rfl, r1, r2⟩ := hg.out
            have HBc : Hid (Below w1.heap.size w1 wc) := bel2 HQ.out hbc.out
            have HF : Hid (Below w.heap.size w wc) := bel2 HA.out HBc.out
            have c0 := row_cell r1 (j := 0) rfl
            have c1 := row_cell r1 (j := 1) rfl
            have c2 := row_cell r1 (j := 2) rfl
            have d0 := row_cell r2 (j := 0) rfl
            have d1 := row_cell r2 (j := 1) rfl
            have d2 := row_cell r2 (j := 2) rfl
            have cv1 := conv_row (HVV.out.1.below hbc.out).bytes
            have cv2' := conv_row (HVV.out.2.below hbc.out).bytes
            clear hg hbc r1 r2 a0 b0 k0 k1 k2 m0 m1 m2
            have HEQ : Hid (r = s → x = y) := fun h => by
              obtain ⟨q1, q2⟩ := HXY.out
              rw [h, q2] at q1
              injection q1 with q3
              exact q3.symm
            by_cases hk : x.key = y.key
            · have hkk : (x.key.toList == y.key.toList) = true := by rw [hk]; exact beq_self_eq_true _
              have HK : Hid (x.key = y.key) := hk
              by_cases hv : x.ver = y.ver
              · have hvv : (x.ver == y.ver) = true := by simpa using hv
                have HV3 : Hid (x.ver = y.ver) := hv
                by_cases hw : x.row = y.row
                · have hss : ((str x.row).toList == (str y.row).toList) = true := by rw [hw]; exact beq_self_eq_true _
                  have HE2 : Hid (∀ i, i < j + 1 → r.rows[i]? = s.rows[i]?) := fun i hi => by
                    by_cases he : i = j
                    · subst he
                      obtain ⟨q1, q2⟩ := HXY.out
                      obtain ⟨ka, va, ra⟩ := x
                      obtain ⟨kb, vb, rb⟩ := y
                      rw [q1, q2]
                      have e1 : ka = kb := HK.out
                      have e2 : va = vb := HV3.out
                      have e3 : ra = rb := hw
                      rw [e1, e2, e3]
                    · exact HE.out i (by omega)
                  clear hk hv hw
                  go_wp2_with fail
                  exact ⟨⟨j + 1, hlt, by first | rfl | rw [HW.out], HE2, HBc⟩, meas hlt (by first | rfl | exact HW.out)⟩
                · have hss : ((str x.row).toList == (str y.row).toList) = false := beq_eq_false_iff_ne.2 (fun h => hw (str_inj (tl_inj h)))
                  have HNE : Hid (¬ r = s) := fun h => hw (by rw [HEQ.out h])
                  clear hk hv hw
                  go_wp2_with fail
                  go_ret
                  exact sax_no HNE.out HF.out
              · have hvv : (x.ver == y.ver) = false := by simpa using hv
                have HNE : Hid (¬ r = s) := fun h => hv (by rw [HEQ.out h])
                clear hk
                go_wp2_with fail
                go_ret
                exact sax_no HNE.out HF.out
            · have hkk : (x.key.toList == y.key.toList) = false := beq_eq_false_iff_ne.2 (fun h => hk (tl_inj h))
              have HNE : Hid (¬ r = s) := fun h => hk (by rw [HEQ.out h])
              clear hk
              go_wp2_with fail
              go_ret
              exact sax_no HNE.out HF.out
        · obtain rfl : j = R := by omega
          have HRR : Hid (r.rows = s.rows) := by
            show _ = _
            refine List.ext_getElem? fun i => ?_
            by_cases hi : i < j
            · exact HE.out i hi
            · rw [List.getElem?_eq_none (by have := HRK.out; omega), List.getElem?_eq_none (by have := HRK.out; omega)]
          go_wp2_with fail
          clear a0 b0 hj HE
          go_loopw [8] (fun i wr2 => ∃ q : Nat, q ≤ K ∧ i = .int .i64 (q : Int) ∧ Hid (∀ i, i < q → r.brs[i]? = s.brs[i]?) ∧ Hid (Below w1.heap.size w1 wr2)) (fun i _ => K - (intOf i).toNat)
          case atStart => exact ⟨0, Nat.zero_le _, rfl, fun _ h => absurd h (Nat.not_lt_zero _), HQ⟩
          case round =>
            obtain ⟨q, hq, rfl, HE, HQ2⟩ := hrel
            have a1 := row_cell (row_below HQ2.out HO.out.1) (j := 1) rfl
            have b1 := row_cell (row_below HQ2.out HO.out.2) (j := 1) rfl
            by_cases hlt2 : q < K
            · have hql : (q : Int) < (K : Int) := by omega
              obtain ⟨x, hx⟩ : ∃ y, r.brs[q]? = some y := ⟨_, List.getElem?_eq_getElem (by have := HRK.out; omega)⟩
              obtain ⟨y, hy⟩ : ∃ y, s.brs[q]? = some y := ⟨_, List.getElem?_eq_getElem (by have := HRK.out; omega)⟩
              have HXY : Hid (r.brs[q]? = some x ∧ s.brs[q]? = some y) := ⟨hx, hy⟩
              have HBw : Hid (Below w.heap.size w wr) := bel2 HA.out HQ2.out
              obtain ⟨B, o, vb, rfl, _, k0, k1, hv⟩ := (HV.out.below HBw.out).br q x hx
              obtain ⟨B2, o2, vb2, rfl, _, m0, m1, hv2⟩ := (HV2.out.below HBw.out).br q y hy
              obtain ⟨pv, cv, rfl, _⟩ := hv.shape
              obtain ⟨pv2, cv2, rfl, _⟩ := hv2.shape
              have HW : Hid (wrap64 ((q : Int) + 1) = ((q + 1 : Nat) : Int)) := wr1 hlt2 HRK.out.2.2.2.1
              have HEQ : Hid (r = s → x = y) := fun h => by
                obtain ⟨q1, q2⟩ := HXY.out
                rw [h, q2] at q1
                injection q1 with q3
                exact q3.symm
              have TX : Hid (∀ W, Below wr.heap.size wr W → Calls Tryz.prog 31 #[.slice pv x.ev.length cv, .slice pv2 y.ev.length cv2] W fun e w' => (∃ r : Bool, e = .returned (.bool r) ∧ (r = true ↔ x.ev = y.ev)) ∧ Below W.heap.size W w') := fun W hW => rtexts_calls _ _ x.ev y.ev W (lr_of (hv.below hW)) (lr_of (hv2.below hW))
              clear hx hy hv hv2 hq
              by_cases hk : x.key = y.key
              · have hkk : (x.key.toList == y.key.toList) = true := by rw [hk]; exact beq_self_eq_true _
                have HK : Hid (x.key = y.key) := hk
                clear hk
                go_upto_region 12 with fail
                go_cut [98] (fun t wx => Hid (∃ b, t = .bool (!b) ∧ (b = true ↔ x.ev = y.ev)) ∧ Hid (Below wr.heap.size wr wx))
                case first =>
                  go_region_held3 (fun W => W.cell? ⟨w.heap.size, 1, none⟩ = some (.slice (some ⟨B, o, none⟩) K cb) ∧ W.cell? ⟨w.heap.size + 1, 1, none⟩ = some (.slice (some ⟨B2, o2, none⟩) K cb2) ∧ W.cell? ⟨B, o + q * 2, none⟩ = some (.string x.key) ∧ W.cell? ⟨B, o + q * 2 + 1, none⟩ = some (.slice pv x.ev.length cv) ∧ W.cell? ⟨B2, o2 + q * 2, none⟩ = some (.string y.key) ∧ W.cell? ⟨B2, o2 + q * 2 + 1, none⟩ = some (.slice pv2 y.ev.length cv2)) (go_keep) (first
                    | (go_at_call 31; refine (TX.out _ (belN1x wr)).mono ?_; rintro e w3 ⟨⟨b, rfl, hb⟩, hb3⟩; have HBB : Hid (b = true ↔ x.ev = y.ev) := hb; have HB3 : Hid (Below wr.heap.size wr w3) := (Below.refl _ wr).drew.trans hb3; have z0 := cell_below a1 HB3.out; have z1 := cell_below b1 HB3.out; have z2 := cell_below k0 HB3.out; have z3 := cell_below k1 HB3.out; have z4 := cell_below m0 HB3.out; have z5 := cell_below m1 HB3.out; clear hb hb3)
                    | fail)
                  all_goals go_wp2_with fail
                  all_goals go_meet
                  all_goals (case rel => exact ⟨⟨b, rfl, HBB.out⟩, HB3⟩)
                case rest =>
                  obtain ⟨hb, hbc⟩ := hcut
                  obtain ⟨b, rfl, hbi⟩ := hb.out
                  have HBB : Hid (b = true ↔ x.ev = y.ev) := hbi
                  have HBc : Hid (Below w1.heap.size w1 wc) := bel2 HQ2.out hbc.out
                  clear hb hbc hbi a1 b1 k0 k1 m0 m1
                  cases b with
                  | true =>
                    have HE2 : Hid (∀ i, i < q + 1 → r.brs[i]? = s.brs[i]?) := fun i hi => by
                      by_cases he : i = q
                      · subst he
                        obtain ⟨q1, q2⟩ := HXY.out
                        obtain ⟨ka, ea⟩ := x
                        obtain ⟨kb, eb⟩ := y
                        rw [q1, q2]
                        have e1 : ka = kb := HK.out
                        have e2 : ea = eb := HBB.out.1 (by first | rfl | trivial)
                        rw [e1, e2]
                      · exact HE.out i (by omega)
                    go_wp2_with fail
                    exact ⟨⟨q + 1, hlt2, by first | rfl | rw [HW.out], HE2, HBc⟩, meas hlt2 (by first | rfl | exact HW.out)⟩
                  | false =>
                    have HNE : Hid (¬ r = s) := fun h => absurd (HBB.out.2 (by rw [HEQ.out h])) (by decide)
                    go_wp2_with fail
                    go_ret
                    exact sax_no HNE.out (bel2 HA.out HBc.out)
              · have hkk : (x.key.toList == y.key.toList) = false := beq_eq_false_iff_ne.2 (fun h => hk (tl_inj h))
                have HNE : Hid (¬ r = s) := fun h => hk (by rw [HEQ.out h])
                clear hk
                go_upto_region 12 with fail
                go_quiet (fail)
                go_wp2_with fail
                go_ret
                exact sax_no HNE.out (bel2 HA.out (HQ2.out.trans ((belNx wr _).mono HQ2.out.size)))
            · obtain rfl : q = K := by omega
              go_wp2_with fail
              go_ret
              refine ⟨⟨true, rfl, ⟨fun _ => ?_, fun _ => rfl⟩⟩, bel2 HA.out HQ2.out⟩
              have hbb : r.brs = s.brs := by
                refine List.ext_getElem? fun i => ?_
                by_cases hi : i < q
                · exact HE.out i hi
                · rw [List.getElem?_eq_none (by have := HRK.out; omega), List.getElem?_eq_none (by have := HRK.out; omega)]
              have hrr := HRR.out
              obtain ⟨r1, r2⟩ := r
              obtain ⟨s1, s2⟩ := s
              dsimp only at hbb hrr
              rw [hbb, hrr]
    · have hkb : ((K : Int) == (K2 : Int)) = false := by simp; omega
      have hkn : ((K : Int) != (K2 : Int)) = true := by simp; omega
      subst hr
      have HNE : Hid (¬ r = s) := fun h => by have := HRK.out; rw [h] at this; omega
      clear hk
      go_enter Tryz.func11, Tryz.ntmps11
      go_wp2_with fail
      go_ret
      exact sax_no HNE.out HA.out
  · have hkb : ((R : Int) == (R2 : Int)) = false := by simp; omega
    have hkn : ((R : Int) != (R2 : Int)) = true := by simp; omega
    have HNE : Hid (¬ r = s) := fun h => by have := HRK.out; rw [h] at this; omega
    clear hr
    go_enter Tryz.func11, Tryz.ntmps11
    go_wp2_with fail
    go_ret
    exact sax_no HNE.out HA.out
end Go.Proofs.YtkaaddahegkmgaaGreat
