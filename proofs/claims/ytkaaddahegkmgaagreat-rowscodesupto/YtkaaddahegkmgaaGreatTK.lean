/- The reference's Can, exactly. -/
import Derived.Test.YtkaaddahegkmgaaGreatMS
namespace Go.Proofs.YtkaaddahegkmgaaGreat
open Go.ChangeShapes Go.WideShapes Go.ChangeAt Go.RowKit
theorem kOk_may {ks : List ByteArray} {j : Nat} {k y : ByteArray} (h : UpTo ks j k) (hr : RiseK ks) (hy : ks[j]? = some y) (hk : y.data.toList.length ≤ 64) : kOk y k ((j : Int) == 0) = true := by
  have h1 : 1 ≤ y.size := hr.pos y (List.mem_of_getElem? hy)
  have h2 : y.size ≤ 64 := by rw [size_data]; exact hk
  unfold kOk
  rw [decide_eq_true h1, decide_eq_true h2]
  rcases Nat.eq_zero_or_pos j with h0 | h0
  · subst h0
    rfl
  · obtain ⟨i, rfl⟩ : ∃ i, j = i + 1 := ⟨j - 1, by omega⟩
    rw [hr.up i k y (h.last i rfl) hy, Bool.or_true]
    rfl
/-- What Can answers. -/
def CaX (r : Db) (w : World) (e : Ending) (w' : World) : Prop := (∃ b, e = .returned (.bool b) ∧ (b = true ↔ CanD r)) ∧ Below w.heap.size w w'
theorem cax_no {r : Db} {w w' : World} (hn : ¬ CanD r) (hb : Below w.heap.size w w') : CaX r w (.returned (.bool false)) w' := ⟨⟨false, rfl, ⟨fun h => (by cases h), fun h => absurd h hn⟩⟩, hb⟩
set_option maxHeartbeats 16000000 in
set_option maxRecDepth 100000 in
theorem canX (v : Value) (r : Db) (w : World) (hv : IsR (fun _ => True) w v r) : Calls Tryz.prog 25 #[v] w (CaX r w) := by
  obtain ⟨pu, cu, pb, cb, rfl, hu, hb⟩ := hv.shape
  obtain ⟨_, _, e1, x1, x2, hls1⟩ := hu
  cases e1
  obtain ⟨_, _, e2, y1, y2, hls2⟩ := hb
  cases e2
  have HU : Hid (Ls rowE (fun _ => True) w pu r.rows) := hls1
  have HV : Hid (Ls brE (fun _ => True) w pb r.brs) := hls2
  obtain ⟨R, hR⟩ : ∃ R, R = r.rows.length := ⟨_, rfl⟩
  obtain ⟨K, hK⟩ : ∃ K, K = r.brs.length := ⟨_, rfl⟩
  have HRK : Hid (R = r.rows.length ∧ K = r.brs.length ∧ R ≤ 9223372036854775807 ∧ K ≤ 9223372036854775807) := ⟨hR, hK, by omega, by omega⟩
  rw [← hR, ← hK]
  have HA : Hid (Below w.heap.size w (w.alloc (.cells #[.slice pu R cu, .slice pb K cb] 25))) := bel1 _ _
  have O1 : (w.alloc (.cells #[.slice pu R cu, .slice pb K cb] 25)).heap[w.heap.size]? = some (.cells #[.slice pu R cu, .slice pb K cb] 25 (0, 0)) := heap_alloc_last _ _
  have a0 := cell_new w #[.slice pu R cu, .slice pb K cb] 25 0
  have a1 := cell_new w #[.slice pu R cu, .slice pb K cb] 25 1
  clear hls1 hls2 x1 x2 y1 y2 hv hR hK
  by_cases hb1 : R ≤ 10000
  · by_cases hb2 : K ≤ 10000
    · have c1 : ¬ (10000 : Int) < (R : Int) := by omega
      have c2 : ¬ (10000 : Int) < (K : Int) := by omega
      have HBB : Hid (R ≤ 10000 ∧ K ≤ 10000) := ⟨hb1, hb2⟩
      clear hb1 hb2
      go_enter Tryz.func25, Tryz.ntmps25
      go_wp2_with fail
      generalize w.alloc (.cells #[.slice pu R cu, .slice pb K cb] 25) = w1 at HA O1 a0 a1 ⊢
      have HO : Hid (w1.heap[w.heap.size]? = _) := O1
      clear O1 a0 a1 c1 c2
      go_loopw [3, 4, 5] (fun last i _ wr => ∃ (j : Nat) (k : ByteArray), j ≤ R ∧ i = .int .i64 (j : Int) ∧ last = .string k ∧ Hid (UpTo (r.rows.map fun x => x.key) j k) ∧ Hid (∀ i x, i < j → r.rows[i]? = some x → LimR x ∧ 1 ≤ x.ver) ∧ Hid (Below w1.heap.size w1 wr)) (fun _ i _ _ => R - (intOf i).toNat)
      case atStart => exact ⟨0, _, Nat.zero_le _, rfl, rfl, UpTo.zero _ _, fun _ _ h => absurd h (Nat.not_lt_zero _), Below.refl _ _⟩
      case round =>
        obtain ⟨j, k, hj, rfl, rfl, HP, HI, HB⟩ := hrel
        have a0 := row_cell (row_below HB.out HO.out) (j := 0) rfl
        by_cases hlt : j < R
        · have hjl : (j : Int) < (R : Int) := by omega
          obtain ⟨x, hx⟩ : ∃ y, r.rows[j]? = some y := ⟨_, List.getElem?_eq_getElem (by have := HRK.out.1; omega)⟩
          have HX : Hid (r.rows[j]? = some x) := hx
          have HY : Hid ((r.rows.map fun x => x.key)[j]? = some x.key) := by show _ = _; rw [List.getElem?_map, hx]; rfl
          have HBw : Hid (Below w.heap.size w wr) := bel2 HA.out HB.out
          obtain ⟨B, o, vb, rfl, _, k0, k1, k2, hvb⟩ := (HU.out.below HBw.out).row j x hx
          obtain ⟨pv, cv, rfl, _⟩ := hvb.shape
          have HW : Hid (wrap64 ((j : Int) + 1) = ((j + 1 : Nat) : Int)) := wr1 hlt HRK.out.2.2.1
          have hbn := bel1 wr (.cells #[.string x.key, .int .i64 x.ver, .slice pv x.row.length cv] 47)
          have HBn : Hid (Below w1.heap.size w1 (wr.alloc (.cells #[.string x.key, .int .i64 x.ver, .slice pv x.row.length cv] 47))) := bel2 HB.out hbn
          have n0 := cell_new wr #[.string x.key, .int .i64 x.ver, .slice pv x.row.length cv] 47 0
          have n1 := cell_new wr #[.string x.key, .int .i64 x.ver, .slice pv x.row.length cv] 47 1
          have n2 := cell_new wr #[.string x.key, .int .i64 x.ver, .slice pv x.row.length cv] 47 2
          have KC : Hid (Calls Tryz.prog 55 _ (wr.alloc (.cells #[.string x.key, .int .i64 x.ver, .slice pv x.row.length cv] 47)) _) := key_calls x.key k ((j : Int) == 0) _
          obtain ⟨L, hL⟩ : ∃ L, L = x.row.length := ⟨_, rfl⟩
          have HL : Hid (L = x.row.length) := hL
          rw [← hL] at n0 n1 n2 k2 HBn KC
          clear hx hvb hbn hj hL
          go_wp2_with fail
          refine KC.out.mono ?_
          rintro e w2 ⟨rfl, rfl⟩
          clear KC k0 k1 k2
          cases hk : kOk x.key k ((j : Int) == 0) with
          | false =>
            have HNK : Hid (¬ (RiseK (r.rows.map fun x => x.key) ∧ x.key.data.toList.length ≤ 64)) := fun h => by
              rw [kOk_may HP.out h.1 HY.out h.2] at hk
              cases hk
            clear hk
            go_wp2_with fail
            go_ret
            exact cax_no (fun h => HNK.out ⟨h.kr, (h.r1 x (List.mem_of_getElem? HX.out)).key⟩) (bel2 HA.out HBn.out)
          | true =>
            have HP2 : Hid (UpTo (r.rows.map fun x => x.key) (j + 1) x.key) := HP.out.more HY.out hk
            have HKO : Hid (x.key.size ≤ 64) := (kOk_of hk).2.1
            clear hk
            by_cases hv1 : x.ver < 1
            · go_wp2_with fail
              go_ret
              exact cax_no (fun h => by have := h.ver x (List.mem_of_getElem? HX.out); omega) (bel2 HA.out HBn.out)
            · by_cases hv2 : 2147483648 < x.ver
              · go_wp2_with fail
                go_ret
                exact cax_no (fun h => by have := (h.r1 x (List.mem_of_getElem? HX.out)).hi; omega) (bel2 HA.out HBn.out)
              · by_cases hv3 : (524288 : Int) < (L : Int)
                · go_wp2_with fail
                  go_ret
                  exact cax_no (fun h => by have := (h.r1 x (List.mem_of_getElem? HX.out)).row; have := HL.out; omega) (bel2 HA.out HBn.out)
                · have HI2 : Hid (∀ i y, i < j + 1 → r.rows[i]? = some y → LimR y ∧ 1 ≤ y.ver) := fun i y hi hy => by
                    by_cases he : i = j
                    · subst he
                      rw [HX.out] at hy
                      cases hy
                      have hl := HL.out
                      have hk := HKO.out
                      rw [size_data] at hk
                      exact ⟨⟨hk, by omega, by omega, by omega⟩, by omega⟩
                    · exact HI.out i y (by omega) hy
                  go_wp2_with fail
                  exact ⟨⟨j + 1, _, hlt, by first | rfl | rw [HW.out], rfl, HP2, HI2, HBn⟩, meas hlt (by first | rfl | exact HW.out)⟩
        · obtain rfl : j = R := by omega
          go_wp2_with fail
          clear a0
          have HKR : Hid (RiseK (r.rows.map fun x => x.key)) := by
            have h := HP.out
            have hl : j = (r.rows.map fun x => x.key).length := by rw [List.length_map]; exact HRK.out.1
            rw [hl] at h
            exact h.rise
          have HRR : Hid (∀ x ∈ r.rows, LimR x ∧ 1 ≤ x.ver) := fun x hx => by
            obtain ⟨i, hi⟩ := List.getElem?_of_mem hx
            exact HI.out i x (by have := (List.getElem?_eq_some_iff.1 hi).1; have := HRK.out.1; omega) hi
          clear hj HP HI
          go_loopw [3, 6, 7, 8] (fun last i _ _ wr2 => ∃ (q : Nat) (k : ByteArray), q ≤ K ∧ i = .int .i64 (q : Int) ∧ last = .string k ∧ Hid (UpTo (r.brs.map fun x => x.key) q k) ∧ Hid (∀ i x, i < q → r.brs[i]? = some x → LimB x ∧ ∀ e ∈ x.ev, 1 ≤ e.length) ∧ Hid (Below w1.heap.size w1 wr2)) (fun _ i _ _ _ => K - (intOf i).toNat)
          case atStart => exact ⟨0, _, Nat.zero_le _, rfl, rfl, UpTo.zero _ _, fun _ _ h => absurd h (Nat.not_lt_zero _), HB⟩
          case round =>
            obtain ⟨q, kq, hq, rfl, rfl, HP, HI, HB2⟩ := hrel
            have a1 := row_cell (row_below HB2.out HO.out) (j := 1) rfl
            by_cases hlt2 : q < K
            · have hql : (q : Int) < (K : Int) := by omega
              obtain ⟨x, hx⟩ : ∃ y, r.brs[q]? = some y := ⟨_, List.getElem?_eq_getElem (by have := HRK.out.2.1; omega)⟩
              have HX : Hid (r.brs[q]? = some x) := hx
              have HY : Hid ((r.brs.map fun x => x.key)[q]? = some x.key) := by show _ = _; rw [List.getElem?_map, hx]; rfl
              have HBw : Hid (Below w.heap.size w wr) := bel2 HA.out HB2.out
              obtain ⟨B, o, vb, rfl, _, k0, k1, hvb⟩ := (HV.out.below HBw.out).br q x hx
              obtain ⟨pv, cv, rfl, hv1, hv2, hvl⟩ := hvb
              have HW : Hid (wrap64 ((q : Int) + 1) = ((q + 1 : Nat) : Int)) := wr1 hlt2 HRK.out.2.2.2
              obtain ⟨L, hL⟩ : ∃ L, L = x.ev.length := ⟨_, rfl⟩
              have HL : Hid (L = x.ev.length ∧ L ≤ 9223372036854775807) := ⟨hL, by omega⟩
              rw [← hL] at k1
              have hbn := bel1 wr (.cells #[.string x.key, .slice pv L cv] 39)
              have HBn : Hid (Below w1.heap.size w1 (wr.alloc (.cells #[.string x.key, .slice pv L cv] 39))) := bel2 HB2.out hbn
              have HEV : Hid (Ls evE (fun _ => True) (wr.alloc (.cells #[.string x.key, .slice pv L cv] 39)) pv x.ev) := hvl.below hbn
              have n0 := cell_new wr #[.string x.key, .slice pv L cv] 39 0
              have n1 := cell_new wr #[.string x.key, .slice pv L cv] 39 1
              have N1 : Hid (_ = _) := n1
              have N0 : Hid (_ = _) := n0
              have KC : Hid (Calls Tryz.prog 55 _ (wr.alloc (.cells #[.string x.key, .slice pv L cv] 39)) _) := key_calls x.key kq ((q : Int) == 0) _
              clear hx hvl hbn hq hL hv1 hv2
              go_wp2_with fail
              refine KC.out.mono ?_
              rintro e w2 ⟨rfl, rfl⟩
              clear KC k0 k1
              cases hk : kOk x.key kq ((q : Int) == 0) with
              | false =>
                have HNK : Hid (¬ (RiseK (r.brs.map fun x => x.key) ∧ x.key.data.toList.length ≤ 64)) := fun h => by
                  rw [kOk_may HP.out h.1 HY.out h.2] at hk
                  cases hk
                clear hk
                go_wp2_with fail
                go_ret
                exact cax_no (fun h => HNK.out ⟨h.kb, (h.b1 x (List.mem_of_getElem? HX.out)).key⟩) (bel2 HA.out HBn.out)
              | true =>
                have HP2 : Hid (UpTo (r.brs.map fun x => x.key) (q + 1) x.key) := HP.out.more HY.out hk
                have HKO : Hid (x.key.size ≤ 64) := (kOk_of hk).2.1
                clear hk
                by_cases hv1 : (120 : Int) < (L : Int)
                · go_wp2_with fail
                  go_ret
                  exact cax_no (fun h => by have := (h.b1 x (List.mem_of_getElem? HX.out)).len; have := HL.out; omega) (bel2 HA.out HBn.out)
                · have HV1 : Hid (L ≤ 120) := by show _ ≤ _; omega
                  go_wp2_with fail
                  clear hv1 n0 n1 a1
                  generalize hG : wr.heap.size = G at HBn HEV N1 N0 ⊢
                  generalize wr.alloc (.cells #[.string x.key, .slice pv L cv] 39) = w3 at HBn HEV N1 N0 ⊢
                  clear hG
                  go_loopw [8] (fun i wr3 => ∃ m : Nat, m ≤ L ∧ i = .int .i64 (m : Int) ∧ wr3 = w3 ∧ Hid (∀ i e, i < m → x.ev[i]? = some e → 1 ≤ e.length ∧ e.length ≤ 4096)) (fun i _ => L - (intOf i).toNat)
                  case atStart => exact ⟨0, Nat.zero_le _, rfl, rfl, fun _ _ h => absurd h (Nat.not_lt_zero _)⟩
                  case round =>
                    obtain ⟨m, hm, rfl, rfl, HE⟩ := hrel
                    have n1 := N1.out
                    by_cases hlt3 : m < L
                    · have hml : (m : Int) < (L : Int) := by omega
                      obtain ⟨y, hy⟩ : ∃ y, x.ev[m]? = some y := ⟨_, List.getElem?_eq_getElem (by have := HL.out.1; omega)⟩
                      have HYY : Hid (x.ev[m]? = some y) := hy
                      obtain ⟨B', o', ve, rfl, _, e0, hve⟩ := HEV.out.ev m y hy
                      obtain ⟨pe, ce, rfl, _⟩ := hve.shape
                      have HW3 : Hid (wrap64 ((m : Int) + 1) = ((m + 1 : Nat) : Int)) := wr1 hlt3 HL.out.2
                      obtain ⟨M, hM⟩ : ∃ M, M = y.length := ⟨_, rfl⟩
                      have HM : Hid (M = y.length) := hM
                      rw [← hM] at e0
                      clear hy hve hm hM
                      by_cases hz1 : (M : Int) < 1
                      · go_wp2_with fail
                        go_ret
                        exact cax_no (fun h => by have := h.ne x (List.mem_of_getElem? HX.out) y (List.mem_of_getElem? HYY.out); have := HM.out; omega) (bel2 HA.out HBn.out)
                      · by_cases hz2 : (4096 : Int) < (M : Int)
                        · go_wp2_with fail
                          go_ret
                          exact cax_no (fun h => by have := (h.b1 x (List.mem_of_getElem? HX.out)).ev y (List.mem_of_getElem? HYY.out); have := HM.out; omega) (bel2 HA.out HBn.out)
                        · have HE2 : Hid (∀ i e, i < m + 1 → x.ev[i]? = some e → 1 ≤ e.length ∧ e.length ≤ 4096) := fun i e hi he => by
                            by_cases hh : i = m
                            · subst hh
                              rw [HYY.out] at he
                              cases he
                              have := HM.out
                              omega
                            · exact HE.out i e (by omega) he
                          go_wp2_with fail
                          exact ⟨⟨m + 1, hlt3, by first | rfl | rw [HW3.out], by first | trivial | rfl, HE2⟩, meas hlt3 (by first | rfl | exact HW3.out)⟩
                    · obtain rfl : m = L := by omega
                      have m0 := N0.out
                      have n0 : Hid (∀ e ∈ x.ev, 1 ≤ e.length ∧ e.length ≤ 4096) := fun e he => by
                        obtain ⟨i, hi⟩ := List.getElem?_of_mem he
                        exact HE.out i e (by have := (List.getElem?_eq_some_iff.1 hi).1; have := HL.out.1; omega) hi
                      have HI2 : Hid (∀ i y, i < q + 1 → r.brs[i]? = some y → LimB y ∧ ∀ e ∈ y.ev, 1 ≤ e.length) := fun i y hi hy => by
                        by_cases he : i = q
                        · subst he
                          rw [HX.out] at hy
                          cases hy
                          have hk := HKO.out
                          rw [size_data] at hk
                          exact ⟨⟨hk, by rw [← HL.out.1]; exact HV1.out, fun e he => (n0.out e he).2⟩, fun e he => (n0.out e he).1⟩
                        · exact HI.out i y (by omega) hy
                      go_wp2_with fail
                      exact ⟨⟨q + 1, _, hlt2, by first | rfl | rw [HW.out], rfl, HP2, HI2, HBn⟩, meas hlt2 (by first | rfl | exact HW.out)⟩
            · obtain rfl : q = K := by omega
              go_wp2_with fail
              go_ret
              refine ⟨⟨true, rfl, ⟨fun _ => ?_, fun _ => rfl⟩⟩, bel2 HA.out HB2.out⟩
              have hk1 : UpTo (r.brs.map fun x => x.key) (r.brs.map fun x => x.key).length kq := by
                rw [List.length_map, ← HRK.out.2.1]
                exact HP.out
              have hall : ∀ x ∈ r.brs, LimB x ∧ ∀ e ∈ x.ev, 1 ≤ e.length := fun x hx => by
                obtain ⟨i, hi⟩ := List.getElem?_of_mem hx
                exact HI.out i x (by have := (List.getElem?_eq_some_iff.1 hi).1; have := HRK.out.2.1; omega) hi
              exact ⟨⟨by rw [← HRK.out.1]; exact HBB.out.1, fun x hx => (HRR.out x hx).1, by rw [← HRK.out.2.1]; exact HBB.out.2, fun x hx => (hall x hx).1⟩, HKR.out, hk1.rise, fun x hx => (HRR.out x hx).2, fun x hx => (hall x hx).2⟩
    · have c1 : ¬ (10000 : Int) < (R : Int) := by omega
      have c2 : (10000 : Int) < (K : Int) := by omega
      go_enter Tryz.func25, Tryz.ntmps25
      go_wp2_with fail
      go_ret
      exact cax_no (fun h => by have := h.b0; have := HRK.out; omega) HA.out
  · have c1 : (10000 : Int) < (R : Int) := by omega
    go_enter Tryz.func25, Tryz.ntmps25
    go_wp2_with fail
    go_ret
    exact cax_no (fun h => by have := h.r0; have := HRK.out; omega) HA.out
end Go.Proofs.YtkaaddahegkmgaaGreat
