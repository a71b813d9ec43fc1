/- The contract of few. -/
import Derived.Test.YtkaaddahegkmgaaRU
import Derived.Test.YtkaaddahegkmgaaRS
namespace Go.Proofs.Ytkaaddahegkmgaa
open Go.ChangeShapes Go.WideShapes Go.ChangeAt Go.RowKit
/-- How many writes and events a list of batches has. -/
def wsAll (bs : List Bt) : Nat := (bs.map wsN).sum
/-- What few counts. -/
def fewN (r : Db) (bs : List Bt) : Nat := r.rows.length + r.brs.length + evN r + wsAll bs
/-- A batch in a list. -/
def btE : El Bt where
  K := 4
  ty := 29
  I := fun P w cs b => ∃ vr vw, cs = [.string b.key, .int .i64 b.ex, vr, vw] ∧ HB P w vr b.row ∧ Sl wtE P w vw b.ws
  len := fun ⟨_, _, h, _⟩ => by rw [h]; rfl
  one := fun ⟨vr, vw, h, h1, h2⟩ z hz => by
    rw [h] at hz
    simp only [List.mem_cons, List.not_mem_nil, or_false] at hz
    rcases hz with rfl | rfl | rfl | rfl
    · rfl
    · rfl
    · exact h1.one
    · exact h2.one
  keep := fun ⟨vr, vw, h, h1, h2⟩ hk => ⟨vr, vw, h, h1.keep hk, h2.keep hk⟩
theorem Ls.bt {P : Nat → Prop} {w : World} {a : Option Addr} {xs : List Bt} (h : Ls btE P w a xs) (i : Nat) (x) (hx : xs[i]? = some x) : ∃ B o vr vw, a = some ⟨B, o, none⟩ ∧ P B ∧ w.cell? ⟨B, o + i * 4, none⟩ = some (.string x.key) ∧ w.cell? ⟨B, o + i * 4 + 1, none⟩ = some (.int .i64 x.ex) ∧ w.cell? ⟨B, o + i * 4 + 2, none⟩ = some vr ∧ w.cell? ⟨B, o + i * 4 + 3, none⟩ = some vw ∧ HB P w vr x.row ∧ Sl wtE P w vw x.ws := by
  obtain ⟨B, o, cs, ha, hB, hc, vr, vw, rfl, h1, h2⟩ := h i x hx
  exact ⟨B, o, vr, vw, ha, hB (by decide), hc 0 _ rfl, hc 1 _ rfl, hc 2 _ rfl, hc 3 _ rfl, h1, h2⟩
/-- The sum of the first j. -/
def sumT {α : Type} (f : α → Nat) (l : List α) (j : Nat) : Nat := ((l.take j).map f).sum
theorem sumT_zero {α : Type} (f : α → Nat) (l : List α) : sumT f l 0 = 0 := by simp [sumT]
theorem sumT_all {α : Type} (f : α → Nat) (l : List α) : sumT f l l.length = (l.map f).sum := by simp [sumT]
theorem sumT_succ {α : Type} (f : α → Nat) {l : List α} {j : Nat} {x : α} (h : l[j]? = some x) : sumT f l (j + 1) = sumT f l j + f x := by
  unfold sumT
  rw [List.take_add_one, h]
  simp
theorem sumT_le {α : Type} (f : α → Nat) (l : List α) (j : Nat) : sumT f l j ≤ (l.map f).sum := by
  have h : ((l.take j ++ l.drop j).map f).sum = (l.map f).sum := by rw [List.take_append_drop]
  rw [List.map_append, List.sum_append_nat] at h
  unfold sumT
  omega
/-- How many events a branch, a write has. -/
def evLen (x : Bn) : Nat := x.ev.length
def wtLen (t : Wt) : Nat := 1 + t.ev.length
theorem evN_eq (r : Db) : evN r = (r.brs.map evLen).sum := rfl
theorem wsN_eq (b : Bt) : wsN b = (b.ws.map wtLen).sum := rfl
theorem wrN {a b c : Nat} (hc : c = a + b) (h : c ≤ 9223372036854775807) : wrap64 ((a : Int) + (b : Int)) = (c : Int) := by
  unfold wrap64; omega
theorem wrOne {b c : Nat} (hc : c = 1 + b) (h : c ≤ 9223372036854775807) : wrap64 (1 + (b : Int)) = (c : Int) := by
  unfold wrap64; omega
set_option maxHeartbeats 8000000 in
set_option maxRecDepth 100000 in
theorem few_calls (v : Value) (r : Db) (la : Option Addr) (lc M : Nat) (bs : List Bt) (hM : bs.length = M) (w : World) (hv : IsR (fun _ => True) w v r) (hb : Ls btE (fun _ => True) w la bs) (hn : fewN r bs ≤ 100000000) (hm : M ≤ 1000) :
    Calls Try.prog 7 #[v, .slice la M lc] w fun e w' => e = .returned (.bool (decide (fewN r bs ≤ 400))) ∧ Below w.heap.size w w' := by
  obtain ⟨pu, cu, pb, cb, rfl, hu, hbr⟩ := hv.shape
  obtain ⟨p0, c0, he0, hlc, hcm, hls⟩ := hbr
  cases he0
  have HI : Hid (Ls brE (fun _ => True) w pb r.brs) := hls
  have HJ : Hid (Ls btE (fun _ => True) w la bs) := hb
  have HN : Hid (fewN r bs ≤ 100000000 ∧ bs.length = M ∧ M ≤ 1000) := ⟨hn, hM, hm⟩
  obtain ⟨R, hR⟩ : ∃ R, R = r.rows.length := ⟨_, rfl⟩
  obtain ⟨K, hK⟩ : ∃ K, K = r.brs.length := ⟨_, rfl⟩
  have HRK : Hid (R = r.rows.length ∧ K = r.brs.length) := ⟨hR, hK⟩
  have HT : Hid (R + K + (evN r + wsAll bs) ≤ 100000000) := by unfold fewN at hn; show _ ≤ _; omega
  rw [← hR, ← hK]
  have a0 := cell_new w #[.slice pu R cu, .slice pb K cb] 25 0
  have a1 := cell_new w #[.slice pu R cu, .slice pb K cb] 25 1
  have hb0 := bel1 w (.cells #[.slice pu R cu, .slice pb K cb] 25)
  have HB0 : Hid (Below w.heap.size w (w.alloc (.cells #[.slice pu R cu, .slice pb K cb] 25))) := hb0
  obtain ⟨Q, hQ⟩ : ∃ Q, Q = R + K := ⟨_, rfl⟩
  have HQ : Hid (Q = R + K) := hQ
  have hs0 : wrap64 ((R : Int) + (K : Int)) = (Q : Int) := wrN hQ (by have := HT.out; omega)
  clear hv hu hls hlc hcm hb hn hM hm hR hK hb0 hQ
  go_enter Try.func7, Try.ntmps7
  go_wp2_with (simp only [hs0])
  clear a0 a1 hs0
  go_loopw [5, 7, 22] (fun n _ i wr => ∃ j T : Nat, j ≤ K ∧ i = .int .i64 (j : Int) ∧ n = .int .i64 (T : Int) ∧ Hid (T = Q + sumT evLen r.brs j) ∧ Hid (Below w.heap.size w wr)) (fun _ _ i _ => K - (intOf i).toNat)
  case atStart => exact ⟨0, Q, Nat.zero_le _, rfl, rfl, by show _ = _; rw [sumT_zero]; rfl, HB0⟩
  case round =>
    obtain ⟨j, T, hj, rfl, rfl, HTT, HB⟩ := hrel
    by_cases hlt : j < K
    · have hjl : (j : Int) < (K : Int) := by omega
      obtain ⟨x, hx⟩ : ∃ x, r.brs[j]? = some x := ⟨_, List.getElem?_eq_getElem (by have := HRK.out.2; omega)⟩
      obtain ⟨B, o, e, rfl, _, g0, g1, hve⟩ := HI.out.br j x hx
      obtain ⟨pe, ce, rfl, _⟩ := hve.shape
      have k0 := cell_below g0 HB.out
      have k1 := cell_below g1 HB.out
      have HW : Hid (wrap64 ((j : Int) + 1) = ((j + 1 : Nat) : Int)) := wr1 hlt (by have := HT.out; omega)
      obtain ⟨T2, hT2⟩ : ∃ T2, T2 = T + x.ev.length := ⟨_, rfl⟩
      have H2 : Hid (T2 = Q + sumT evLen r.brs (j + 1)) := by
        have h1 := sumT_succ evLen hx
        have h2 := HTT.out
        have h3 : evLen x = x.ev.length := rfl
        show _ = _
        omega
      have hadd : wrap64 ((T : Int) + (x.ev.length : Int)) = (T2 : Int) := wrN hT2 (by
        have h1 := sumT_le evLen r.brs (j + 1)
        have h2 := HT.out; have h3 := H2.out; have h4 := HQ.out
        rw [evN_eq] at h2
        omega)
      have HBB : Hid (Below w.heap.size w (wr.alloc (.cells #[.string x.key, .slice pe x.ev.length ce] 56))) := HB.out.trans ((bel1 wr _).mono HB.out.size)
      have n1 := cell_new wr #[.string x.key, .slice pe x.ev.length ce] 56 1
      clear hx g0 g1 hve hj hT2
      go_wp2_with (simp only [hadd])
      exact ⟨⟨j + 1, T2, hlt, by rw [HW.out], rfl, H2, HBB⟩, meas hlt HW.out⟩
    · obtain rfl : j = K := by omega
      have HS : Hid (T = R + j + evN r) := by
        have h1 := HTT.out; have h2 := HQ.out; have h3 := sumT_all evLen r.brs; have h4 := HRK.out.2; have h5 := evN_eq r
        rw [← h4] at h3
        show _ = _
        omega
      go_wp2_with fail
      go_loopw [5, 9, 11, 34] (fun n _ _ i wr => ∃ j S : Nat, j ≤ M ∧ i = .int .i64 (j : Int) ∧ n = .int .i64 (S : Int) ∧ Hid (S = T + sumT wsN bs j) ∧ Hid (Below w.heap.size w wr)) (fun _ _ _ i _ => M - (intOf i).toNat)
      case atStart => exact ⟨0, T, Nat.zero_le _, rfl, rfl, by show _ = _; rw [sumT_zero]; rfl, HB⟩
      case round =>
        obtain ⟨k, S, hk, rfl, rfl, HSS, HB⟩ := hrel
        by_cases hlt : k < M
        · have hjl : (k : Int) < (M : Int) := by omega
          obtain ⟨b, hb⟩ : ∃ b, bs[k]? = some b := ⟨_, List.getElem?_eq_getElem (by have := HN.out; omega)⟩
          obtain ⟨B, o, vr, vw, rfl, _, g0, g1, g2, g3, hvr, hvw⟩ := HJ.out.bt k b hb
          obtain ⟨pr, cr, rfl, _⟩ := hvr.shape
          obtain ⟨pw, cw, he, hwc, hwm, hws⟩ := hvw
          subst he
          have k0 := cell_below g0 HB.out
          have k1 := cell_below g1 HB.out
          have k2 := cell_below g2 HB.out
          have k3 := cell_below g3 HB.out
          have HW : Hid (wrap64 ((k : Int) + 1) = ((k + 1 : Nat) : Int)) := wr1 hlt (by have := HN.out; omega)
          have HSM : Hid (sumT wsN bs (k + 1) = sumT wsN bs k + wsN b) := sumT_succ wsN hb
          have HLE : Hid (sumT wsN bs (k + 1) ≤ wsAll bs) := sumT_le wsN bs (k + 1)
          have HBB : Hid (Below w.heap.size w (wr.alloc (.cells #[.string b.key, .int .i64 b.ex, .slice pr b.row.length cr, .slice pw b.ws.length cw] 29))) := HB.out.trans ((bel1 wr _).mono HB.out.size)
          have n1 := cell_new wr #[.string b.key, .int .i64 b.ex, .slice pr b.row.length cr, .slice pw b.ws.length cw] 29 3
          have HWS : Hid (Ls wtE (fun _ => True) w pw b.ws) := hws
          have HWM : Hid (b.ws.length ≤ 9223372036854775807) := Nat.le_trans hwc hwm
          obtain ⟨L, hL⟩ : ∃ L, L = b.ws.length := ⟨_, rfl⟩
          rw [← hL] at k3 n1 HBB
          have HL : Hid (L = b.ws.length) := hL
          clear hb g0 g1 g2 g3 hvr hws hwc hwm hk hL
          go_wp2_with fail
          go_loopw [5, 11, 41] (fun n _ i wr => ∃ m U : Nat, m ≤ L ∧ i = .int .i64 (m : Int) ∧ n = .int .i64 (U : Int) ∧ Hid (U = S + sumT wtLen b.ws m) ∧ Hid (Below w.heap.size w wr)) (fun _ _ i _ => L - (intOf i).toNat)
          case atStart => exact ⟨0, S, Nat.zero_le _, rfl, rfl, by show _ = _; rw [sumT_zero]; rfl, HBB⟩
          case round =>
            obtain ⟨m, U, hm, rfl, rfl, HUU, HB⟩ := hrel
            by_cases hlt2 : m < L
            · have hml : (m : Int) < (L : Int) := by omega
              obtain ⟨t, ht⟩ : ∃ t, b.ws[m]? = some t := ⟨_, List.getElem?_eq_getElem (by have := HL.out; omega)⟩
              obtain ⟨B', o', ve, rfl, _, g0, g1, g2, g3, g4, hve⟩ := HWS.out.wt m t ht
              obtain ⟨pe, ce, rfl, _⟩ := hve.shape
              have e0 := cell_below g0 HB.out
              have e1 := cell_below g1 HB.out
              have e2 := cell_below g2 HB.out
              have e3 := cell_below g3 HB.out
              have e4 := cell_below g4 HB.out
              have HW2 : Hid (wrap64 ((m : Int) + 1) = ((m + 1 : Nat) : Int)) := wr1 hlt2 (by have := HWM.out; have := HL.out; omega)
              obtain ⟨L1, hL1⟩ : ∃ L1, L1 = 1 + t.ev.length := ⟨_, rfl⟩
              obtain ⟨U2, hU2⟩ : ∃ U2, U2 = U + L1 := ⟨_, rfl⟩
              have H2 : Hid (U2 = S + sumT wtLen b.ws (m + 1)) := by
                have h1 := sumT_succ wtLen ht
                have h2 := HUU.out
                have h3 : wtLen t = 1 + t.ev.length := rfl
                show _ = _
                omega
              have hbig : U2 ≤ 100000000 := by
                have h0 := sumT_le wtLen b.ws (m + 1)
                have h1 := HT.out; have h2 := HS.out; have h3 := HSS.out; have h4 := HSM.out; have h5 := HLE.out; have h7 := H2.out
                rw [← wsN_eq] at h0
                omega
              have hone : wrap64 (1 + (t.ev.length : Int)) = (L1 : Int) := wrOne hL1 (Nat.le_trans (Nat.le_trans (hU2 ▸ Nat.le_add_left L1 U) hbig) (by decide))
              have hadd : wrap64 ((U : Int) + (L1 : Int)) = (U2 : Int) := wrN hU2 (Nat.le_trans hbig (by decide))
              have HB2 : Hid (Below w.heap.size w (wr.alloc (.cells #[.string t.br, .string t.fk, .int .i64 t.kp, .int .i64 t.ta, .slice pe t.ev.length ce] 47))) := HB.out.trans ((bel1 wr _).mono HB.out.size)
              have n4 := cell_new wr #[.string t.br, .string t.fk, .int .i64 t.kp, .int .i64 t.ta, .slice pe t.ev.length ce] 47 4
              clear ht g0 g1 g2 g3 g4 hve hm hbig hL1 hU2
              go_wp2_with (simp only [hone, hadd])
              exact ⟨⟨m + 1, U2, hlt2, by rw [HW2.out], rfl, H2, HB2⟩, meas hlt2 HW2.out⟩
            · obtain rfl : m = L := by omega
              go_wp2_with fail
              refine ⟨⟨k + 1, U, hlt, by rw [HW.out], rfl, ?_, HB⟩, meas hlt HW.out⟩
              have h1 := HUU.out; have h2 := HL.out; have h3 := HSS.out; have h4 := HSM.out; have h5 := sumT_all wtLen b.ws; have h6 := wsN_eq b
              rw [← h2] at h5
              show _ = _
              omega
        · obtain rfl : k = M := by omega
          have hfin : S = fewN r bs := by
            have h1 := HS.out; have h2 := HRK.out; have h3 := HSS.out; have h4 := sumT_all wsN bs
            rw [HN.out.2.1] at h4
            unfold fewN wsAll
            omega
          rw [hfin]
          have hdec : (decide (((fewN r bs : Nat) : Int) ≤ 400)) = decide (fewN r bs ≤ 400) := by
            by_cases h : fewN r bs ≤ 400
            · rw [decide_eq_true h, decide_eq_true (by omega)]
            · rw [decide_eq_false h, decide_eq_false (by omega)]
          go_wp2_with (simp only [hdec])
          go_ret
          exact ⟨rfl, HB.out⟩
end Go.Proofs.Ytkaaddahegkmgaa
