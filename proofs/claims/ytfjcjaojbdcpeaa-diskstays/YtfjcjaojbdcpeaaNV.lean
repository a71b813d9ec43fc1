/- The contract of Crash. -/
import Derived.Test.YtfjcjaojbdcpeaaNU
namespace Go.Proofs.Ytfjcjaojbdcpeaa
open Go.ChangeShapes Go.WideShapes Go.ChangeAt Go.RowKit Go.Maps
theorem Dz.setg {lo g b n : Nat} {w w' : World} {D : DataW Value} {av : Int → Option Addr} {cv : Int → Nat} {bs : Int → List UInt8} {ss : Int → Int} (h : Dz lo w g b n D av cv bs ss) (k : KB g w w') (hgb : g ≠ b) : Dz lo w' g b n D av cv bs ss :=
  ⟨h.zm.kb k (fun e => hgb e.symm), h.hv, h.has, h.ints, fun j => (h.own j).keep (fun B hB => k.2.2.2.2 B ((h.own j).lt hB).2 (fun e => h.ng j (by rw [← blk_own _ (bs j).length (cv j), hB, e]))), h.apart, h.ng, h.nb, h.lg, h.lb, h.sm⟩
theorem crB_step {ks : List Int} {ss : Int → Int} {zs : List Int} {j : Nat} {z : Int} (hz : zs[j]? = some z) (bs : Int → List UInt8) : crB ks ss (zs.drop j) j bs = crB ks ss (zs.drop (j + 1)) (j + 1) (upd bs z ((bs z).take (ss z + kept ks j ((bs z).length - ss z)).toNat)) := by
  have hlt := (List.getElem?_eq_some_iff.1 hz).1
  rw [List.drop_eq_getElem_cons hlt]
  have : zs[j] = z := (List.getElem?_eq_some_iff.1 hz).2
  rw [this]
  rfl
/-- The list keeps. -/
def Kp (w : World) (kp : Option Addr) (ks : List Int) : Prop := ∀ i z, ks[i]? = some z → ∃ a, kp = some a ∧ w.cell? (a.add i) = some (.int .i64 z)
set_option maxHeartbeats 4000000 in
set_option maxRecDepth 100000 in
theorem crash_calls (lo g N : Nat) (room fuse : Int) (dead : Bool) (bs : Int → List UInt8) (ss : Int → Int) (ks : List Int) (kp : Option Addr) (kc : Nat) (w : World) (h : Dk lo w g room fuse dead N bs ss) (hS : Sur bs ss) (hN : N ≤ 900000) (hks : Kp w kp ks) (hkl : ks.length ≤ 140737488355328) :
    Calls Try.prog 18 #[.pointer (some ⟨g, 0, none⟩), .slice kp ks.length kc] w fun e w' => e = .returned (.int .i64 0) ∧ Dk lo w' g room (-1) false (N + 40) (crB ks ss (unsureOf bs ss) 0 bs) (fun k => ((crB ks ss (unsureOf bs ss) 0 bs k).length : Int)) ∧ Below lo w w' := by
  have HU : Hid (Calls Try.prog 44 #[.pointer (some ⟨g, 0, none⟩)] w _) := unsure_calls lo g N room fuse dead bs ss w h
  obtain ⟨b, n, D, av, cv, hn, hk, hd⟩ := h
  have HM : Hid (Calls Try.prog 35 #[.pointer (some ⟨g, 0, none⟩)] w _) := made_calls g b _ _ _ w hk
  have HNE : Hid (g ≠ b) := bk_ne hk hd.zm
  have HBk : Hid (Bk w g #[.int .i64 room, .int .i64 fuse, .bool dead, .map (some b)] 57) := hk
  have HD0 : Hid (Dz lo w g b n D av cv bs ss) := hd
  have HS0 : Hid (Sur bs ss) := hS
  have HN : Hid (n ≤ N ∧ N ≤ 900000) := ⟨hn, hN⟩
  have HKP : Hid (Kp w kp ks) := hks
  have HKL : Hid (ks.length ≤ 140737488355328) := hkl
  have HZM : Hid (∀ z ∈ unsureOf bs ss, 0 ≤ z ∧ z < 40) := fun z hz => ((zonesOf_mem bs z).1 (List.mem_filter.1 hz).1).1
  have HZL : Hid ((unsureOf bs ss).length ≤ 40) := Nat.le_trans (left_len _ _) (zonesOf_len bs)
  obtain ⟨F, hF⟩ : ∃ F, F = crB ks ss (unsureOf bs ss) 0 bs := ⟨_, rfl⟩
  have HFF : Hid (crB ks ss ((unsureOf bs ss).drop 0) 0 bs = F) := hF.symm
  rw [← hF]
  generalize unsureOf bs ss = zs at HU HZM HZL HFF
  obtain ⟨kn, hkn⟩ : ∃ kn, kn = ks.length := ⟨_, rfl⟩
  have HKN : Hid (kn = ks.length) := hkn
  rw [← hkn]
  clear hk hd hn hN hks hkl hS hF hkn
  go_enter Try.func18, Try.ntmps18
  go_wp2_with fail
  refine HM.out.mono ?_
  rintro e w1 ⟨rfl, hw⟩
  have hw' := hw.symm
  subst hw'
  clear hw HM
  go_wp2_with fail
  refine HU.out.mono ?_
  rintro e w1 ⟨⟨v, rfl, hz⟩, hb⟩
  have HB1 : Hid (Below w.heap.size w w1) := hb
  obtain ⟨va, vn, vc, rfl, hvn, hcell⟩ : ∃ va vn vc, v = .slice va vn vc ∧ vn = zs.length ∧ ∀ i z, zs[i]? = some z → ∃ B, va = some ⟨B, 0, none⟩ ∧ w.heap.size ≤ B ∧ w1.cell? ⟨B, i, none⟩ = some (.int .i64 z) := by
    rcases hz with ⟨rfl, rfl⟩ | ⟨B, c, rfl, hlo, hI⟩
    · exact ⟨none, 0, 0, rfl, rfl, fun i z hz => by simp at hz⟩
    · exact ⟨_, _, _, rfl, rfl, fun i z hz => ⟨B, rfl, hlo, hI i z hz⟩⟩
  have HCE : Hid (∀ i z, zs[i]? = some z → ∃ B, va = some ⟨B, 0, none⟩ ∧ w.heap.size ≤ B ∧ w1.cell? ⟨B, i, none⟩ = some (.int .i64 z)) := hcell
  have HVN : Hid (vn = zs.length) := hvn
  clear hz hb hcell hvn HU
  go_wp2_with fail
  go_loopw [5, 6, 7, 8, 15] (fun _ _ _ _ i wr => ∃ (j n' : Nat) (D' : DataW Value) (av' : Int → Option Addr) (cv' : Int → Nat) (bj : Int → List UInt8), i = .int .i64 (j : Int) ∧ j ≤ vn ∧ Hid (n' ≤ n + j) ∧ Hid (Dz lo wr g b n' D' av' cv' bj ss) ∧ Hid (Sur bj ss) ∧ Hid (crB ks ss (zs.drop j) j bj = F) ∧ Hid (KB b w1 wr)) (fun _ _ _ _ i _ => vn - (intOf i).toNat)
  case atStart => exact ⟨0, n, D, av, cv, bs, rfl, Nat.zero_le _, Nat.le_refl _, HD0.out.below HB1.out, HS0, HFF, KB.refl _ _⟩
  case round =>
    obtain ⟨j, n', D', av', cv', bj, rfl, hj, HNJ, HD, HS, HF, HK⟩ := hrel
    have HBr : Hid (Bk wr g #[.int .i64 room, .int .i64 fuse, .bool dead, .map (some b)] 57) := (HBk.out.below HB1.out).kb HK.out HNE.out
    have HKw : Hid (KB b w wr) := (KB.of_below HB1.out).trans HK.out
    by_cases hlt : j < vn
    · have hjl : (j : Int) < (vn : Int) := by omega
      have hj9 : (j : Int) < 40 := by have := HZL.out; have := HVN.out; omega
      obtain ⟨z, hz⟩ : ∃ z, zs[j]? = some z := ⟨_, List.getElem?_eq_getElem (by have := HVN.out; omega)⟩
      have HZ : Hid (0 ≤ z ∧ z < 40) := HZM.out z (List.mem_of_getElem? hz)
      obtain ⟨B, rfl, hBlo, hcz⟩ := HCE.out j z hz
      have hBb : B ≠ b := by have := World.ownsMap.lt HD0.out.zm; omega
      have hc1 := HK.out.cell hcz (show (⟨B, j, none⟩ : Addr).block ≠ b from hBb)
      have lk := Zm.lookAll (zone_wf HZ.out) (HD.out.hv z) wr HD.out.zm
      have x3 : wr.cell? ⟨g, 3, none⟩ = some (.map (some b)) := HBr.out.cell 3
      have hcr := crB_step (ks := ks) (ss := ss) hz bj
      rw [HF.out] at hcr
      have HCR : Hid (crB ks ss (zs.drop (j + 1)) (j + 1) (upd bj z ((bj z).take (ss z + kept ks j ((bj z).length - ss z)).toNat)) = F) := hcr.symm
      have hsz := HS.out z
      have hk0 := kept_in ks j (r := (bj z).length - ss z) (by omega)
      have HKS : Hid (∀ i zz, ks[i]? = some zz → ∃ a, kp = some a ∧ (wr.alloc (.cells #[.slice (av' z) (bj z).length (cv' z), .int .i64 (ss z)] 65)).cell? (a.add i) = some (.int .i64 zz)) := fun i zz hi => by
        obtain ⟨a, h1, h2⟩ := HKP.out i zz hi
        refine ⟨a, h1, cell_below (HKw.out.cell h2 ?_) (bel1 _ _)⟩
        intro e
        obtain ⟨es, clock, hes, _⟩ := HD0.out.zm
        have : (a.add i).block = b := e
        simp [World.cell?, this, hes] at h2
      obtain ⟨sz, hsze⟩ : ∃ sz, sz = ss z := ⟨_, rfl⟩
      obtain ⟨ln, hlne⟩ : ∃ ln, ln = (bj z).length := ⟨_, rfl⟩
      have hln2 := HD.out.sm z
      obtain ⟨K, hK⟩ : ∃ K, K = kept ks j ((bj z).length - ss z) := ⟨_, rfl⟩
      rw [← hK] at hk0
      dsimp only at lk
      rw [← hsze, ← hlne] at lk hk0 HKS
      rw [← hsze] at hsz
      rw [← hlne] at hln2 hsz
      have HKK : Hid (K = kept ks j ((ln : Int) - sz)) := by rw [hlne, hsze]; exact hK
      have HSE : Hid (sz = ss z) := hsze
      have HLE : Hid (ln = (bj z).length) := hlne
      have HRK : Hid (0 ≤ sz ∧ sz ≤ (ln : Int) ∧ 0 ≤ K ∧ K ≤ (ln : Int) - sz ∧ ln ≤ 16777216) := ⟨hsz.1, hsz.2, hk0.1, hk0.2, hln2⟩
      clear hz hBlo hcz hBb hcr hsz hk0 hsze hlne hK hln2
      go_upto_if 28 with fail
      go_cut [8] (fun x wx => x = .int .i64 K ∧ Hid (Below (wr.alloc (.cells #[.slice (av' z) ln (cv' z), .int .i64 sz] 65)).heap.size (wr.alloc (.cells #[.slice (av' z) ln (cv' z), .int .i64 sz] 65)) wx))
      case first =>
        by_cases hk0 : ks = []
        · have hkn : kn = 0 := by rw [HKN.out, hk0]; rfl
          subst hkn
          have hK0 : K = 0 := by rw [HKK.out]; unfold kept; rw [if_pos hk0]
          subst hK0
          clear hk0
          go_wp2_with fail
          go_meet
          exact ⟨rfl, Below.refl _ _⟩
        · have hpos : 0 < kn := by rw [HKN.out]; exact List.length_pos_iff.2 hk0
          have hposI : (0 : Int) < (kn : Int) := by omega
          obtain ⟨kz, hkz⟩ : ∃ kz, ks[j % kn]? = some kz := ⟨_, List.getElem?_eq_getElem (by rw [← HKN.out]; exact Nat.mod_lt _ hpos)⟩
          have hKv : K = min (max kz 0) ((ln : Int) - sz) := by
            rw [HKK.out]
            unfold kept
            rw [if_neg hk0, ← HKN.out, List.getD_eq_getElem?_getD, hkz]
            rfl
          obtain ⟨a, rfl, hka⟩ := HKS.out _ kz hkz
          have hne : ((kn : Int) == 0) = false := by simp; omega
          have htm : Int.tmod (j : Int) (kn : Int) = ((j % kn : Nat) : Int) := by rw [Int.ofNat_tmod]
          have hml : ((j % kn : Nat) : Int) < (kn : Int) := by have := Nat.mod_lt j hpos; omega
          have hm0 : (0 : Int) ≤ ((j % kn : Nat) : Int) := by omega
          have hwl : wrap64 ((ln : Int) - sz) = (ln : Int) - sz := by have := HRK.out; unfold wrap64; omega
          go_wp2_with fail
          go_region
          all_goals go_wp2_with fail
          all_goals go_meet
          all_goals exact ⟨by rw [hKv], (Below.refl _ _).drew⟩
      case rest =>
        obtain ⟨rfl, HBc⟩ := hcut
        obtain ⟨m, hm⟩ : ∃ m, m = (sz + K).toNat := ⟨_, rfl⟩
        have hmI : (m : Int) = sz + K := by have := HRK.out; omega
        have hml : m ≤ (bj z).length := by have := HRK.out; have := HLE.out; omega
        have hsm : ss z ≤ (m : Int) := by rw [← HSE.out]; have := HRK.out; omega
        have hs0 : 0 ≤ ss z := by rw [← HSE.out]; exact HRK.out.1
        have hmin : min sz (m : Int) = sz := by have := HRK.out; omega
        have hadd : wrap64 (sz + K) = (m : Int) := by rw [hmI]; have := HRK.out; unfold wrap64; omega
        have HMM : Hid (m = (ss z + kept ks j ((bj z).length - ss z)).toNat) := by
          show _ = _
          rw [hm, HKK.out, HSE.out, HLE.out]
        have hBwc : Below wr.heap.size wr wc := bel2 (bel1 _ _) HBc.out
        have hownz : Own lo wr (.slice (av' z) ln (cv' z)) (bj z) := by rw [HLE.out]; exact HD.out.own z
        have HFC : Hid (∀ W, Calls Try.prog 45 #[.agg #[.slice (av' z) ln (cv' z), .int .i64 sz], .int .i64 (m : Int)] W fun e w' => e = .returned (.agg #[.slice (av' z) m (cv' z), .int .i64 sz]) ∧ Below W.heap.size W w') := fun W => by
          have := first_own lo (av' z) ln (cv' z) m sz (bj z) wr W hownz hml
          rw [hmin] at this
          exact this
        have hnm : n' < maxLen := by
          have h1 := HNJ.out
          have h2 := HN.out
          have h3 := HZL.out
          have h4 := HVN.out
          exact maxLen_big (by omega)
        have HPU : Hid (∀ W, Below wr.heap.size wr W → Calls Try.prog 42 #[.pointer (some ⟨g, 0, none⟩), .int .i64 z, .agg #[.slice (av' z) m (cv' z), .int .i64 sz]] W fun e w' => e = .returned (.tuple #[]) ∧ (∃ n2 D2 av2 cv2, n2 ≤ n' + 1 ∧ Dz lo w' g b n2 D2 av2 cv2 (upd bj z ((bj z).take m)) ss) ∧ KB b W w') := fun W hB => by
          have hdW := HD.out.below hB
          by_cases e0 : m = 0
          · subst e0
            refine (put_none g b n' _ _ _ D' z (zone_wf HZ.out) (av' z) (cv' z) sz W (HBr.out.below hB) hdW.zm).mono fun e w' ⟨h1, h2, h3⟩ => ?_
            obtain ⟨D2, av2, cv2, hd2⟩ := hdW.cut (n' := n') h3 HZ.out hml hs0 hsm (fun hne => absurd rfl hne) (fun _ => h2)
            exact ⟨h1, ⟨n', D2, av2, cv2, Nat.le_succ _, hd2⟩, h3⟩
          · refine (put_some g b n' _ _ _ D' z (zone_wf HZ.out) (av' z) m (cv' z) sz W (HBr.out.below hB) hdW.zm hnm e0).mono fun e w' ⟨h1, h2, h3⟩ => ?_
            obtain ⟨D2, av2, cv2, hd2⟩ := hdW.cut (n' := n' + 1) h3 HZ.out hml hs0 hsm (fun _ => by rw [HSE.out] at h2; exact h2) (fun hne => absurd hne e0)
            exact ⟨h1, ⟨n' + 1, D2, av2, cv2, Nat.le_refl _, hd2⟩, h3⟩
        have bx : Bk wc wr.heap.size #[.slice (av' z) ln (cv' z), .int .i64 sz] 65 := (Bk.new wr _ _).below HBc.out
        have y0 : wc.cell? ⟨wr.heap.size, 0, none⟩ = some (.slice (av' z) ln (cv' z)) := bx.cell 0
        have y1 : wc.cell? ⟨wr.heap.size, 1, none⟩ = some (.int .i64 sz) := bx.cell 1
        have HBW : Hid (Below wr.heap.size wr wc) := hBwc
        have HSu : Hid (Sur (upd bj z ((bj z).take m)) ss) := HS.out.cut z hml hsm
        have HCR2 : Hid (crB ks ss (zs.drop (j + 1)) (j + 1) (upd bj z ((bj z).take m)) = F) := by
          have := HCR.out
          rw [← HMM.out] at this
          exact this
        clear hm hmI hml hsm hs0 hmin hBwc hownz hnm bx HCR HMM HBc lk hc1 x3
        go_wp2_with fail
        rw [hadd]
        refine (HFC.out _).mono ?_
        rintro e w4 ⟨rfl, hb4⟩
        have HB4 : Hid (Below wr.heap.size wr w4) := bel2 HBW.out hb4
        clear hb4 y0 y1
        go_wp2_with fail
        refine (HPU.out _ HB4.out).mono ?_
        rintro e w5 ⟨rfl, ⟨n2, D2, av2, cv2, hn2, hd2⟩, k5⟩
        have HN2 : Hid (n2 ≤ n + (j + 1)) := by have := HNJ.out; show _ ≤ _; omega
        have HD2 : Hid (Dz lo w5 g b n2 D2 av2 cv2 (upd bj z ((bj z).take m)) ss) := hd2
        have HK5 : Hid (KB b w1 w5) := (HK.out.trans (KB.of_below HB4.out)).trans k5
        clear hn2 hd2 k5 hadd
        go_wp2_with fail
        go_roundw
        case rel =>
          exact ⟨j + 1, n2, D2, av2, cv2, _, by first | rfl | (rw [Int.natCast_add]; rfl), hlt, HN2, HD2, HSu, HCR2, HK5⟩
        case measure =>
          simp only [intOf]
          omega
    · obtain rfl : j = vn := by omega
      have hdr : zs.drop j = [] := List.drop_eq_nil_iff.2 (by have := HVN.out; omega)
      have hbF : bj = F := by have := HF.out; rw [hdr] at this; exact this
      subst hbF
      have hnm : n' < maxLen := by
        have h1 := HNJ.out
        have h2 := HN.out
        have h3 := HZL.out
        have h4 := HVN.out
        exact maxLen_big (by omega)
      have SC : Hid (Calls Try.prog 43 #[.pointer (some ⟨g, 0, none⟩)] wr _) := secure_calls g b n' _ _ _ D' av' (fun k => (bj k).length) cv' ss wr HBr.out HD.out.zm hnm HD.out.hv
      clear hdr hnm HCE
      go_wp2_with fail
      refine SC.out.mono ?_
      rintro e w3 ⟨rfl, ⟨D3, q1, q2, q3⟩, k3⟩
      have HD3 : Dz lo w3 g b n' D3 av' cv' bj (fun k => ((bj k).length : Int)) := HD.out.turn k3 q1 q2 q3
      have hB3 := HBr.out.kb k3 HNE.out
      have hB4 := hB3.set 1 (.int .i64 (-1))
      have hB5 := hB4.set 2 (.bool false)
      have kk := (KB.setCell g w3 1 (.int .i64 (-1))).trans (KB.setCell g _ 2 (.bool false))
      have HFin : Hid (Dk lo ((w3.setCell ⟨g, 1, none⟩ (.int .i64 (-1))).setCell ⟨g, 2, none⟩ (.bool false)) g room (-1) false (N + 40) bj (fun k => ((bj k).length : Int)) ∧ Below lo w ((w3.setCell ⟨g, 1, none⟩ (.int .i64 (-1))).setCell ⟨g, 2, none⟩ (.bool false))) := by
        have h1 := HNJ.out
        have h2 := HN.out
        have h3 := HZL.out
        have h4 := HVN.out
        refine ⟨⟨b, n', D3, av', cv', by omega, hB5, HD3.setg kk HNE.out⟩, ?_⟩
        have l1 := HD0.out.lb
        have l2 := HD0.out.lg
        have l3 : lo ≤ w.heap.size := Nat.le_trans l2 (Nat.le_of_lt HBk.out.lt)
        have t1 := HKw.out.below l1 l3
        have t2 := k3.below l1 (Nat.le_trans l3 t1.size)
        exact (t1.trans t2).trans (kk.below l2 (Nat.le_trans l3 (t1.trans t2).size))
      have x1 : w3.cell? ⟨g, 1, none⟩ = some (.int .i64 fuse) := hB3.cell 1
      have x2 : w3.cell? ⟨g, 2, none⟩ = some (.bool dead) := hB3.cell 2
      have z1 := hB3.frozen 1
      have z2 := hB3.frozen 2
      clear q1 q2 q3 k3 HD3 hB3 hB4 hB5 kk SC
      go_wp2_with fail
      go_ret
      exact ⟨rfl, HFin.out.1, HFin.out.2⟩
end Go.Proofs.Ytfjcjaojbdcpeaa
