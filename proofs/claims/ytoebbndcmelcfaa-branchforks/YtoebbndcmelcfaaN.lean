/- The walk of BranchForks. -/
import Derived.Test.YtoebbndcmelcfaaM
import Derived.Deep.DeepCutAuto
namespace Go.Proofs.Ytoebbndcmelcfaa
open Go.ChangeAt Go.ChangeShapes Go.Deep Go.RowKit Go.WideShapes
set_option maxHeartbeats 4000000 in
set_option maxRecDepth 100000 in
theorem forks_walk (a : Option Addr) (c NN : Nat) (hs : List Rw) (ys : List Ev) (N : Nat) (hN : hs.length = N) (hNc : N ≤ 200) (hc : N ≤ c) (keep : Int) (w : World) (hH : Hh w NN a hs ys) :
    Calls Try.prog 4 #[.slice a N c, .int .i64 keep] w fun e w' => e = .returned (.bool true) ∧ Below w.heap.size w w' := by
  have HH : Hid (Hh w NN a hs ys) := hH
  have HN : Hid (hs.length = N ∧ N ≤ 200) := ⟨hN, hNc⟩
  have HFw : Hid (Calls Try.prog 6 #[.slice a N c] w _) := few_calls a N c w
  have hfd : decide ((N : Int) ≤ 200) = true := decide_eq_true (by omega)
  rw [hfd] at HFw
  have HFo : Hid (∀ W, Below w.heap.size w W → Calls Try.prog 9 #[.slice a N c, .int .i64 keep] W fun e W' => ∃ v, e = .returned v ∧ Es (W.heap.size + 1) NN W' v ((List.range (nk keep N)).map (ex ys)) ∧ Below W.heap.size W W') := fun W hW => fork_calls a c NN hs ys N hN hNc keep W (hH.below hW)
  have hmn := nk_int keep N
  have hml := nk_le keep N
  have HIC := fork_isC ys (nk keep N) (by have := hH.len; omega)
  have HFE : Hid (∀ i, i < nk keep N → ex ((List.range (nk keep N)).map (ex ys)) i = ex ys i) := fun i hi => fork_ex ys _ i hi
  have hfl : ((List.range (nk keep N)).map (ex ys)).length = nk keep N := by simp
  generalize (List.range (nk keep N)).map (ex ys) = fs at HFo HIC HFE hfl
  generalize nk keep N = m at hmn hml HIC HFE hfl
  have HC1 : Hid (∀ (W : World) (fa : Option Addr) (fc : Nat) (rs : List Rw), Below w.heap.size w W → rs.length = m → RowE W fa rs → (∀ i, IsE W NN (rx rs i) (ex fs i)) → Calls Try.prog 16 #[.slice fa m fc, .slice a N c] W fun e W' => e = .returned (.int .i64 (m : Int)) ∧ Below W.heap.size W W') := fun W fa fc rs hW hl hr he => by
    refine (common_calls fa a fc c NN rs hs fs ys m N hl hN (by omega) hNc W hr he (by omega) (hH.row.below hW) (fun i => (hH.isE i).below hW) hH.len).mono ?_
    rintro e W' ⟨⟨k, rfl, hk⟩, hb⟩
    rw [hk.unique HIC]
    exact ⟨rfl, hb⟩
  have HEF : Hid (∀ (W : World) (fa : Option Addr) (fc : Nat) (rs : List Rw), Below w.heap.size w W → rs.length = m → RowE W fa rs → (∀ i, IsE W NN (rx rs i) (ex fs i)) → Calls Try.prog 19 #[.slice fa m fc, .slice a m c, .func (.func 20) #[] #[]] W fun e W' => e = .returned (.bool true) ∧ Below W.heap.size W W') := fun W fa fc rs hW hl hr he => ef_calls NN fa a fc c m rs hs ys W (by omega) (by omega) (by omega) hr (hH.row.below hW) (fun i hi => by rw [← HFE.out i hi]; exact he i) (fun i _ => (hH.isE i).below hW)
  have hcm : (m : Int) ≤ (c : Int) := by omega
  have hmm : ((m : Int) != (m : Int)) = false := by simp
  have hmq : ((m : Int) == (m : Int)) = true := by simp
  have HML : Hid (m ≤ 200) := by show m ≤ 200; omega
  have HFL : Hid (fs.length = m) := hfl
  clear hH hN hNc hc hfd HIC hfl HFE hml
  go_enter Try.func4, Try.ntmps4
  go_wp2_with fail
  refine HFw.out.mono ?_
  rintro e w1 ⟨rfl, hw⟩
  have hw' := hw.symm
  subst hw'
  clear hw HFw
  go_wp2_with fail
  refine (HFo.out w (Below.refl _ _)).mono ?_
  rintro e w1 ⟨v, rfl, hes, hb⟩
  obtain ⟨fa, fc, rs, rfl, hfc, hrl, hre, hie⟩ := hes.rows
  obtain ⟨fa', fc', g, o, la, ll, lc, hu, hga, hwr, hll⟩ := hes.wr
  cases hu
  rw [HFL.out] at hrl hga hwr ⊢
  have HCa : Hid (Calls Try.prog 16 #[.slice fa m fc, .slice a N c] w1 _) := HC1.out w1 fa fc rs hb hrl hre hie
  have HB1 : Hid (Below w.heap.size w w1) := hb
  have HGA : Hid (0 < m → fa = some ⟨g, o, none⟩) := hga
  have HWR : Hid (0 < m → Wr (w.heap.size + 1) g o m la ll lc w1) := hwr
  have HLL : Hid (∀ i, ll i ≤ 9223372036854775807) := hll
  clear hes hb hfc hrl hre hie hga hwr hll
  go_wp2_with fail
  refine HCa.out.mono ?_
  rintro e w2 ⟨rfl, hb⟩
  have HW2 : Hid (0 < m → Wr (w.heap.size + 1) g o m la ll lc w2) := fun h => (HWR.out h).below h hb
  have HB2 : Hid (Below w.heap.size w w2) := bel2 HB1.out hb
  clear hb HCa HWR
  go_wp2_with fail
  go_loopw [7, 8, 35] (fun _ _ i wr => ∃ j : Nat, j ≤ m ∧ i = .int .i64 (j : Int) ∧ Hid (0 < m → Wr (w.heap.size + 1) g o m la ll lc wr) ∧ Hid (Below w.heap.size w wr)) (fun _ _ i _ => m - (intOf i).toNat)
  case atStart => exact ⟨0, Nat.zero_le _, rfl, HW2, HB2⟩
  case round =>
    obtain ⟨j, hj, rfl, HWr, HBr⟩ := hrel
    by_cases hlt : j < m
    · have hga := HGA.out (by omega)
      subst hga
      have hW0 := HWr.out (by omega)
      obtain ⟨z, hz⟩ := hW0.tm j hlt
      have hfz := hW0.fr (o + j * 13 + 1)
      have hW1 := hW0.set ⟨g, o + j * 13 + 1, none⟩ (wrap64 (z + 1)) (fun i _ e => by injection e with _ e; omega)
      have hB1 : Below w.heap.size w (wr.setCell ⟨g, o + j * 13 + 1, none⟩ (.int .i64 (wrap64 (z + 1)))) := HBr.out.setCell (p := ⟨g, o + j * 13 + 1, none⟩) (by have := hW0.lg; show w.heap.size ≤ g; omega) _
      obtain ⟨W1, hW1e⟩ : ∃ W1, W1 = wr.setCell ⟨g, o + j * 13 + 1, none⟩ (.int .i64 (wrap64 (z + 1))) := ⟨_, rfl⟩
      rw [← hW1e] at hW1 hB1
      have HWE : Hid (W1 = wr.setCell ⟨g, o + j * 13 + 1, none⟩ (.int .i64 (wrap64 (z + 1)))) := hW1e
      have HW1 : Hid (Wr (w.heap.size + 1) g o m la ll lc W1) := hW1
      have HB3 : Hid (Below w.heap.size w W1) := hB1
      have hjm : (j : Int) < (m : Int) := by omega
      clear hW1e hW1 hB1 hW0
      go_upto_region 11 with fail
      rw [← HWE.out]
      have hsl := HW1.out.sl j hlt
      have hsl2 : W1.cell? ⟨g, o + j * 13 + 5 + 4, none⟩ = some (.slice (la j) (ll j) (lc j)) := hsl
      clear hz hfz
      have HEl : Hid (∀ (W : World) (k : Nat), Wr (w.heap.size + 1) g o m la ll lc W → k < ll j → ∃ B p, la j = some ⟨B, p, none⟩ ∧ w.heap.size + 1 ≤ B ∧ B ≠ g ∧ W.frozen? ⟨B, p + k * 5 + 1, none⟩ = false ∧ IntAt W ⟨B, p + k * 5 + 1, none⟩) := fun W k hW hk => hW.el j k hlt hk
      have HSl : Hid (∀ W : World, Wr (w.heap.size + 1) g o m la ll lc W → W.cell? ⟨g, o + j * 13 + 9, none⟩ = some (.slice (la j) (ll j) (lc j))) := fun W hW => hW.sl j hlt
      have HLj := HLL.out j
      have HLJ : Hid (ll j ≤ 9223372036854775807) := HLj
      clear HLj
      generalize la j = aj at HEl HSl hsl hsl2
      generalize ll j = lj at HEl HSl hsl hsl2 HLJ
      generalize lc j = cj at HSl hsl hsl2
      obtain ⟨wz, hwz⟩ : ∃ wz, wz = wr := ⟨_, rfl⟩
      rw [← hwz] at HWE
      clear hwz HWr HBr
      go_wp2_with fail
      go_loopw [8, 53] (fun _ i wq => ∃ q : Nat, q ≤ lj ∧ i = .int .i64 (q : Int) ∧ Hid (Wr (w.heap.size + 1) g o m la ll lc wq) ∧ Hid (Below w.heap.size w wq)) (fun _ i _ => lj - (intOf i).toNat)
      case atStart => exact ⟨0, Nat.zero_le _, rfl, HW1, HB3⟩
      case round =>
        obtain ⟨q, hq, rfl, HWq, HBq⟩ := hrel
        clear hsl hsl2
        by_cases hlq : q < lj
        · obtain ⟨B, p, rfl, hBlo, hBg, hfq, y, hy⟩ := HEl.out _ q HWq.out hlq
          have hs1 := HSl.out _ HWq.out
          have hs2 : wr.cell? ⟨g, o + j * 13 + 5 + 4, none⟩ = some (.slice (some ⟨B, p, none⟩) lj cj) := hs1
          have HWn : Hid (Wr (w.heap.size + 1) g o m la ll lc (wr.setCell ⟨B, p + q * 5 + 1, none⟩ (.int .i64 (wrap64 (y + 1))))) := HWq.out.set _ _ (fun i _ e => hBg (by injection e))
          have HBn : Hid (Below w.heap.size w (wr.setCell ⟨B, p + q * 5 + 1, none⟩ (.int .i64 (wrap64 (y + 1))))) := HBq.out.setCell (p := ⟨B, p + q * 5 + 1, none⟩) (by show w.heap.size ≤ B; omega) _
          have HWi : Hid (wrap64 ((q : Int) + 1) = ((q + 1 : Nat) : Int)) := wr1 hlq HLJ.out
          have hql : (q : Int) < (lj : Int) := by omega
          clear hBlo hBg
          go_wp2_with fail
          exact ⟨⟨q + 1, hlq, by rw [HWi.out], HWn, HBn⟩, meas hlq HWi.out⟩
        · obtain rfl : q = lj := by omega
          have HWi : Hid (wrap64 ((j : Int) + 1) = ((j + 1 : Nat) : Int)) := wr1 hlt (by have := HML.out; omega)
          go_wp2_with fail
          exact ⟨⟨j + 1, hlt, by first | rw [HWi.out] | exact congrArg _ (Int.natCast_succ j).symm, fun _ => HWq.out, HBq⟩, by first | exact meas hlt HWi.out | exact meas hlt (Int.natCast_succ j).symm⟩
    · obtain rfl : j = m := by omega
      go_wp2_with fail
      refine (HFo.out wr HBr.out).mono ?_
      rintro e w3 ⟨v, rfl, hes, hb⟩
      obtain ⟨ga, gc, rs2, rfl, hgc, hrl, hre, hie⟩ := hes.rows
      rw [HFL.out] at hrl ⊢
      have hb3 := bel2 HBr.out hb
      have HCa : Hid (Calls Try.prog 16 #[.slice ga j gc, .slice a N c] w3 _) := HC1.out w3 ga gc rs2 hb3 hrl hre hie
      have HRE : Hid (RowE w3 ga rs2) := hre
      have HIE : Hid (∀ i, IsE w3 NN (rx rs2 i) (ex fs i)) := hie
      have HRL : Hid (rs2.length = j) := hrl
      have HB3 : Hid (Below w.heap.size w w3) := hb3
      clear hes hb hb3 hgc hrl hre hie
      go_wp2_with fail
      refine HCa.out.mono ?_
      rintro e w4 ⟨rfl, hb⟩
      have HB4 : Hid (Below w.heap.size w w4) := bel2 HB3.out hb
      have HEa : Hid (Calls Try.prog 19 #[.slice ga j gc, .slice a j c, .func (.func 20) #[] #[]] w4 _) := HEF.out w4 ga gc rs2 HB4.out HRL.out (HRE.out.below hb) (fun i => (HIE.out i).below hb)
      clear hb HCa
      go_wp2_with fail
      refine HEa.out.mono ?_
      rintro e w5 ⟨rfl, hb⟩
      have HB5 : Hid (Below w.heap.size w w5) := bel2 HB4.out hb
      have HAw : Hid (Calls Try.prog 7 #[] w5 _) := awake_calls w5
      clear hb HEa
      go_wp2_with fail
      refine HAw.out.mono ?_
      rintro e w6 ⟨rfl, hb⟩
      go_wp2_with fail
      go_ret
      exact ⟨rfl, bel2 HB5.out hb⟩
set_option maxHeartbeats 1000000 in
theorem forks_many (a : Option Addr) (N c : Nat) (hN : ¬ N ≤ 200) (keep : Int) (w : World) :
    Calls Try.prog 4 #[.slice a N c, .int .i64 keep] w fun e w' => e = .returned (.bool true) ∧ Below w.heap.size w w' := by
  have hfd : decide ((N : Int) ≤ 200) = false := decide_eq_false (by omega)
  have HF : Hid (Calls Try.prog 6 #[.slice a N c] w fun e w' => e = .returned (.bool false) ∧ w' = w) := by
    have := few_calls a N c w
    rw [hfd] at this
    exact this
  have HA : Hid (Calls Try.prog 7 #[] w _) := awake_calls w
  clear hfd hN
  go_enter Try.func4, Try.ntmps4
  go_wp2_with fail
  refine HF.out.mono ?_
  rintro e w1 ⟨rfl, hw⟩
  have hw' := hw.symm
  subst hw'
  clear hw HF
  go_wp2_with fail
  refine HA.out.mono ?_
  rintro e w1 ⟨rfl, hb⟩
  go_wp2_with fail
  go_ret
  exact ⟨rfl, hb⟩
end Go.Proofs.Ytoebbndcmelcfaa
