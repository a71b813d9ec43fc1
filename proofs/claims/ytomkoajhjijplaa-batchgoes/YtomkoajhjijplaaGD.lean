/- The contract of bytes.Clone; the walk of BatchGoes. -/
import Derived.Test.YtomkoajhjijplaaGC
import Derived.Lib.SliceRun
namespace Go.Proofs.Ytomkoajhjijplaa
open Go.ChangeShapes Go.WideShapes Go.ChangeAt Go.RowKit
/-- append of bytes to a row of the call's own: its run. -/
theorem app_own {lo : Nat} {W : World} {u : Value} {out l : List UInt8} {a : Addr} {c : Nat} (h2 : Own lo W u out) (h5 : lo ≤ W.heap.size) (hf : Lib.HoldsBytes W (.slice (some a) l.length c) l) (hb : out.length + l.length ≤ 1099511627776) :
    ∃ u' w1, (∀ ty, (Builtin.append_ #[22, 22] ty #[u, .slice (some a) l.length c]).run Try.prog W = .ok u' w1) ∧ Own lo w1 u' (out ++ l) ∧ Below lo W w1 := by
  obtain ⟨i0, hi, hz0, hz1, hz2⟩ := info_parts Try.info5
  have h0 : W.ownsRow lo 5 1 u out.length (bval out) := h2
  obtain ⟨pf, cf, hfe, _, hcell⟩ := hf
  cases hfe
  have key : ∀ ty, ∃ v' w', (Builtin.append_ #[22, 22] ty #[u, .slice (some a) l.length c]).run Try.prog W = .ok v' w' ∧ w'.ownsRow lo 5 1 v' (out.length + l.length) (bval out ++ bval l) ∧ W.grownBy w' u.ownBlock ∧ _ := fun ty =>
    run_append_own (P := Try.prog) (w := W) lo 22 ty 5 i0 (.int .u8 0) 1 1 Try.underlying22 hi hz0 hz1 hz2 rfl (by decide) u out.length (bval out) h0 a l.length c (bval l) (by simp [bval]) (by
      intro j u hj
      unfold bval at hj
      rw [List.getElem?_map] at hj
      obtain ⟨x, hx, rfl⟩ := Option.map_eq_some_iff.1 hj
      exact hcell a rfl j x hx) (by intro u hu; obtain ⟨x, _, rfl⟩ := List.mem_map.1 hu; rfl) (by unfold maxLen; omega) (by omega) h5
  obtain ⟨u', w1, hr, hown, hgrow, _⟩ := key 22
  refine ⟨u', w1, fun ty => hr, ?_, (Below.refl _ W).grown hgrow h5 (fun k hk => (World.ownsRow.lt h0 k hk).1)⟩
  show w1.ownsRow lo 5 1 u' _ _
  have e1 : (out ++ l).length = out.length + l.length := by simp
  have e2 : bval (out ++ l) = bval out ++ bval l := by simp [bval]
  rw [e1, e2]
  exact hown
set_option maxHeartbeats 1000000 in
theorem bclone_calls (a : Addr) (c : Nat) (l : List UInt8) (w : World) (hv : Lib.HoldsBytes w (.slice (some a) l.length c) l) (hl : l.length ≤ 1000000000) : Calls Try.prog 17 #[.slice (some a) l.length c] w (fun x w' => ∃ v', x = .returned v' ∧ Own w.heap.size w' v' l ∧ Below w.heap.size w w') := by
  have q22 : ∀ (w : World) (a : Option Addr) (n c n' c' : Nat), (binOp .eql 22 (.slice a n c) (.slice none n' c')).run Try.prog w = .ok (.bool a.isNone) w := fun w a n c n' c' => Lib.run_eql_slice_nil w _ _ a n c n' c' Try.underlying22
  have o1 : Own w.heap.size (w.alloc (.cells #[] 5)) (.slice (some ⟨w.heap.size, 0, none⟩) 0 0) [] := World.ownsRow_made w #[] 0 (Nat.le_refl _) (Nat.zero_le _) rfl
  have b1 := below_alloc w (.cells #[] 5)
  obtain ⟨v', w', hr, ho, hb⟩ := app_own o1 b1.size (holds_below hv b1) (by simp; omega)
  rw [List.nil_append] at ho
  have HO : Hid (Own w.heap.size w' v' l) := ho
  have HB : Hid (Below w.heap.size w w') := b1.trans hb
  clear hv hl o1 b1 ho hb
  go_enter Try.func17, Try.ntmps17
  go_wp2_with (at_builtin; refine Lib.wpList_append_run _ rfl _ _ 22 22 rfl _ _ rfl rfl _ _ (hr _) ?_)
  go_ret
  exact ⟨v', rfl, HO.out, HB.out⟩
theorem head_holds {w : World} {a : Addr} {c n : Nat} {l : List UInt8} (h : Lib.HoldsBytes w (.slice (some a) l.length c) l) (hn : n ≤ l.length) : ∃ a', headA (some a) c = some a' ∧ Lib.HoldsBytes w (.slice (some a') n c) (l.take n) := by
  obtain ⟨p, c', he, q1, q2⟩ := h
  cases he
  have hlen : (l.take n).length = n := by rw [List.length_take]; omega
  have ha : ∀ i, (a.add 0).add i = a.add i := fun i => by
    cases a
    simp [Addr.add]
  unfold headA
  by_cases h0 : c = 0
  · rw [if_pos h0]
    refine ⟨a, rfl, some a, c, by rw [hlen], (fun h => by cases h), fun b hb i x hx => ?_⟩
    cases hb
    refine q2 a rfl i x ?_
    rw [List.getElem?_take] at hx
    split at hx
    · exact hx
    · cases hx
  · rw [if_neg h0]
    refine ⟨a.add 0, rfl, some (a.add 0), c, by rw [hlen], (fun h => by cases h), fun b hb i x hx => ?_⟩
    cases hb
    rw [ha]
    refine q2 a rfl i x ?_
    rw [List.getElem?_take] at hx
    split at hx
    · exact hx
    · cases hx
theorem enc_pos (n : Nat) : 0 < (enc n).length := by
  unfold enc
  split <;> simp
theorem encB_pos (b : Bt) : 0 < (encB b).length := by
  rw [encB_eq]
  unfold eB eT
  have := enc_pos b.key.size
  simp only [List.length_append]
  omega
theorem encB_le {b : Bt} (hm : mayB b = true) : (encB b).length ≤ 100000000 := by
  have hM := (mayB_iff b).1 hm
  have h1 := lenBW b.ws (by0 sE [] b) hM.ww
  have h2 : b.ws.length * 600000 ≤ 4 * 600000 := Nat.mul_le_mul_right _ hM.n1
  have h3 : (by0 sE [] b).length ≤ 524500 := by
    have g1 := enc_length b.key.size (by have := hM.k1; omega)
    have g2 := enc_length b.ex.toNat (by have := hM.x1; omega)
    have g3 := enc_length b.row.length (by have := hM.r1; omega)
    have g4 := enc_length (b.ws.length : Int).toNat (by have := hM.n1; omega)
    have k1 := hM.k1
    have r1 := hM.r1
    show ([] ++ (enc b.key.size ++ b.key.data.toList) ++ enc b.ex.toNat ++ (enc b.row.length ++ b.row) ++ enc (b.ws.length : Int).toNat).length ≤ _
    simp only [List.nil_append, List.length_append, str_len]
    omega
  show (byW sE (by0 sE [] b) b.ws).length ≤ _
  omega
/-- What the good way of BatchGoes comes to. -/
structure GoF (b : Bt) (l : List UInt8) (m : UInt8) : Prop where
  pos : 0 < l.length
  le : l.length ≤ 100000000
  more : (decB (l ++ [m])).2 ≠ 0
  less : (decB (l.take (l.length - 1))).2 ≠ 0
theorem gof {b : Bt} (hm : mayB b = true) (m : UInt8) : GoF b (encB b) m := by
  have hp := encB_pos b
  refine ⟨hp, encB_le hm, decB_more hm m, ?_⟩
  have hl : encB b = (encB b).take ((encB b).length - 1) ++ [(encB b)[(encB b).length - 1]'(by omega)] := by
    have h1 := List.take_add_one (l := encB b) (i := (encB b).length - 1)
    rw [List.getElem?_eq_getElem (by omega), show (encB b).length - 1 + 1 = (encB b).length by omega, List.take_length] at h1
    exact h1
  exact decB_less hm hl
set_option maxHeartbeats 4000000 in
set_option maxRecDepth 100000 in
theorem goes_walk (v : Value) (b : Bt) (m : Int) (w : World) (h : BIs w v b) (hm0 : 0 ≤ m) (hm1 : m ≤ 255) :
    Calls Try.prog 5 #[v, .int .u8 m] w fun e w' => e = .returned (.bool true) ∧ Below w.heap.size w w' := by
  have HF : Hid (∀ W, Below w.heap.size w W → _) := fun W (hB : Below w.heap.size w W) => few_calls v b W (h.below hB)
  have HCK : Hid (∀ W, Below w.heap.size w W → _) := fun W (hB : Below w.heap.size w W) => check_calls v b W (h.below hB)
  obtain ⟨mb, hmb⟩ : ∃ mb : UInt8, mb = UInt8.ofNat m.toNat := ⟨_, rfl⟩
  have HMB : Hid (bval [mb] = [.int .u8 m]) := by
    show _ = _
    have e : ((UInt8.ofNat m.toNat).toNat : Int) = m := by rw [UInt8.toNat_ofNat']; omega
    rw [hmb]
    simp only [bval, List.map_cons, List.map_nil]
    rw [e]
  have HEN : Hid (mayB b = true → ∀ W, Below w.heap.size w W → Calls Try.prog 8 #[v] W fun x w' => ∃ p n c, x = .returned (.tuple #[.slice p n c, .int .i64 0]) ∧ Lib.HoldsBytes w' (.slice p n c) (encB b) ∧ Below W.heap.size W w' ∧ n ≤ c) := fun hm W hB => (encode2_calls v b W (h.below hB)).mono fun x w' ⟨p, n, c, h1, h2, h3, h4⟩ => by
    refine ⟨p, n, c, ?_, ?_, h3, h4⟩
    · rw [h1]
      have : ckE b = 0 := by unfold ckE; rw [if_pos hm]
      rw [this]
    · rw [if_pos hm] at h2
      exact h2
  have HG : Hid (mayB b = true → GoF b (encB b) mb) := fun hm => gof hm mb
  have HM : Hid (ckE b = if mayB b = true then 0 else 1) := rfl
  obtain ⟨rp, rn, rc, wa, wd, rfl, _, _, _⟩ := h
  generalize ckE b = K at HCK HM
  clear hmb hm0 hm1
  go_enter Try.func5, Try.ntmps5
  go_wp2_with fail
  generalize hW0 : w.alloc (Obj.cells #[.string b.key, .int .i64 b.ex, .slice rp rn rc, .slice wa b.ws.length wd] 25) = W0
  have HK0 : Hid (Bk W0 w.heap.size #[.string b.key, .int .i64 b.ex, .slice rp rn rc, .slice wa b.ws.length wd] 25) := by subst hW0; exact Bk.new w _ _
  have HB0 : Hid (Below w.heap.size w W0) := by subst hW0; exact bel1 _ _
  clear hW0
  refine (HF.out W0 HB0.out).mono ?_
  rintro e w1 ⟨⟨f1, rfl⟩, hb1⟩
  have T1 : Hid (Below w.heap.size w w1) := bel2 HB0.out hb1
  have HK1 : Hid (Bk w1 w.heap.size #[.string b.key, .int .i64 b.ex, .slice rp rn rc, .slice wa b.ws.length wd] 25) := HK0.out.below hb1
  clear hb1
  cases f1 with
  | false =>
    go_wp2_with fail
    refine (awake_calls _).mono ?_
    rintro e v6 ⟨rfl, hb6⟩
    have yT6 : Hid (Below w.heap.size w v6) := bel2 T1.out hb6
    clear hb6
    go_wp2_with fail
    go_ret
    exact ⟨rfl, yT6.out⟩
  | true =>
    have c0 : w1.cell? ⟨w.heap.size, 0, none⟩ = some (Value.string b.key) := HK1.out.cell 0
    have c1 : w1.cell? ⟨w.heap.size, 1, none⟩ = some (Value.int .i64 b.ex) := HK1.out.cell 1
    have c2 : w1.cell? ⟨w.heap.size, 2, none⟩ = some (Value.slice rp rn rc) := HK1.out.cell 2
    have c3 : w1.cell? ⟨w.heap.size, 3, none⟩ = some (Value.slice wa b.ws.length wd) := HK1.out.cell 3
    go_wp2_with fail
    refine (HCK.out w1 T1.out).mono ?_
    rintro e w2 ⟨rfl, hb2⟩
    have T2 : Hid (Below w.heap.size w w2) := bel2 T1.out hb2
    have HK2 : Hid (Bk w2 w.heap.size #[.string b.key, .int .i64 b.ex, .slice rp rn rc, .slice wa b.ws.length wd] 25) := HK1.out.below hb2
    clear hb2 c0 c1 c2 c3
    by_cases hm : mayB b = true
    · obtain rfl : K = 0 := by rw [HM.out, if_pos hm]
      have EN2 : Hid (Calls Try.prog 8 _ w2 _) := HEN.out hm w2 T2.out
      have G2 : Hid (GoF b (encB b) mb) := HG.out hm
      clear hm HEN HG HM
      generalize encB b = l at EN2 G2
      have c0 : w2.cell? ⟨w.heap.size, 0, none⟩ = some (Value.string b.key) := HK2.out.cell 0
      have c1 : w2.cell? ⟨w.heap.size, 1, none⟩ = some (Value.int .i64 b.ex) := HK2.out.cell 1
      have c2 : w2.cell? ⟨w.heap.size, 2, none⟩ = some (Value.slice rp rn rc) := HK2.out.cell 2
      have c3 : w2.cell? ⟨w.heap.size, 3, none⟩ = some (Value.slice wa b.ws.length wd) := HK2.out.cell 3
      go_wp2_with fail
      refine EN2.out.mono ?_
      rintro e w3 ⟨p3, n3, c3', rfl, hh3, hb3, hr3⟩
      have T3 : Hid (Below w.heap.size w w3) := bel2 T2.out hb3
      obtain ⟨a3, rfl⟩ : ∃ a, p3 = some a := by
        cases p3 with
        | some a => exact ⟨a, rfl⟩
        | none =>
          obtain ⟨p', c', he, q1, _⟩ := hh3
          cases he
          have := G2.out.pos
          rw [q1 rfl] at this
          exact absurd this (by simp)
      obtain rfl : n3 = l.length := by
        obtain ⟨p', c', he, _⟩ := hh3
        cases he
        rfl
      have HH3 : Hid (Lib.HoldsBytes w3 (.slice (some a3) l.length c3') l) := hh3
      have CL : Hid (Calls Try.prog 17 #[.slice (some a3) l.length c3'] w3 _) := bclone_calls a3 c3' l w3 hh3 (by have := G2.out.le; omega)
      obtain ⟨L, hL⟩ : ∃ L, L = l.length := ⟨_, rfl⟩
      have HLc : Hid (L = l.length ∧ L ≤ c3') := ⟨hL, by omega⟩
      have hpos : (0 : Int) < (L : Int) := by have := G2.out.pos; omega
      have hne : ((L : Int) == 0) = false := by simp; omega
      have sh := slice_head (some a3) L c3' (L - 1) (by have := HLc.out.2; omega)
      obtain ⟨a4, ha4, hh4⟩ := head_holds hh3 (n := l.length - 1) (by omega)
      rw [ha4] at sh
      rw [← hL] at CL hh4
      have hw1 : wrap64 ((L : Int) - 1) = ((L - 1 : Nat) : Int) := by unfold wrap64; have := G2.out.pos; have := G2.out.le; omega
      have hw2 : IntKind.i64.wrap ((L : Int) - 1) = ((L - 1 : Nat) : Int) := by rw [IntKind.wrap_i64]; have := G2.out.pos; have := G2.out.le; omega
      have HD4 : Hid (∀ W, Below w3.heap.size w3 W → Calls Try.prog 10 #[.slice (some a4) (L - 1) c3'] W (DeP W (decB (l.take (L - 1))))) := fun W hB => decode_calls _ _ W (holds_below hh4 hB) (by rw [List.length_take]; have := G2.out.le; omega)
      have HNE : Hid ((decB (l ++ [mb])).2 ≠ 0 ∧ (decB (l.take (L - 1))).2 ≠ 0) := ⟨G2.out.more, by rw [hL]; exact G2.out.less⟩
      rw [← hL]
      clear hh3 hb3 hr3 c0 c1 c2 c3 hL ha4 hh4
      generalize L - 1 = L1 at sh hw1 hw2 HD4 HNE
      go_wp2_with fail
      refine CL.out.mono ?_
      rintro e w5 ⟨v5, rfl, ho5, hb5⟩
      have hho : Lib.HoldsBytes (w5.alloc (.cells #[.int .u8 m] 5)) (.slice (some ⟨w5.heap.size, 0, none⟩) 1 1) [mb] := by
        have := holds_bval w5 [mb]
        rw [HMB.out] at this
        exact this
      obtain ⟨v6, w6, hr6, ho6, hb6⟩ := app_own (l := [mb]) (own_kept ho5 (w' := w5.alloc (.cells #[.int .u8 m] 5)) (fun B hB => (bel1 w5 _).block B (by have h0 : w5.ownsRow w3.heap.size 5 1 v5 l.length (bval l) := ho5; exact (World.ownsRow.lt h0 B hB).2))) (by have := hb5.size; simp; omega) hho (by simp; have := G2.out.le; omega)
      obtain ⟨vp, vn, vc, rfl⟩ := own_slice ho6
      have HB6 : Hid (Below w3.heap.size w3 w6) := (hb5.trans ((bel1 w5 _).mono hb5.size)).trans hb6
      have HH6 : Hid (Lib.HoldsBytes w6 (.slice vp vn vc) (l ++ [mb])) := own_holds ho6
      have DC6 : Hid (Calls Try.prog 10 #[.slice vp vn vc] w6 (DeP w6 (decB (l ++ [mb])))) := decode_calls _ _ w6 HH6.out (by simp; have := G2.out.le; omega)
      obtain ⟨va5, vn5, vc5, rfl⟩ := own_slice ho5
      clear ho5 hb5 hho ho6 hb6 CL
      generalize decB (l ++ [mb]) = R6 at DC6 HNE
      obtain ⟨b6, E6⟩ := R6
      generalize decB (l.take L1) = R7 at HD4 HNE
      obtain ⟨b7, E7⟩ := R7
      go_wp2_with (at_builtin; refine Lib.wpList_append_run _ rfl _ _ 22 22 rfl _ _ rfl rfl _ _ (hr6 _) ?_)
      refine DC6.out.mono ?_
      rintro e w7 ⟨u7, rfl, hu7, hb7⟩
      obtain ⟨up, un, uc, ua, ud, rfl, _, _, _⟩ := hu7
      dsimp only
      have HB7 : Hid (Below w3.heap.size w3 (w7.alloc (.cells #[.string b6.key, .int .i64 b6.ex, .slice up un uc, .slice ua b6.ws.length ud] 25))) := bel2 (bel2 HB6.out hb7) (bel1 _ _)
      obtain ⟨W8, hW8⟩ : ∃ W8, W8 = w7.alloc (.cells #[.string b6.key, .int .i64 b6.ex, .slice up un uc, .slice ua b6.ws.length ud] 25) := ⟨_, rfl⟩
      rw [← hW8] at HB7
      have HW8 : Hid (W8 = _) := hW8
      have DC8 : Hid (Calls Try.prog 10 _ W8 _) := HD4.out W8 HB7.out
      clear hb7 hW8 hr6 DC6
      go_upto_region 7 with fail
      rw [← HW8.out]
      go_wp2_with fail
      refine DC8.out.mono ?_
      rintro e w9 ⟨u9, rfl, hu9, hb9⟩
      obtain ⟨xp, xn, xc, xa, xd, rfl, _, _, _⟩ := hu9
      dsimp only
      have T9 : Hid (Below w.heap.size w w9) := bel2 (bel2 T3.out HB7.out) hb9
      have e6 : (E6 != 0) = true := by simpa using HNE.out.1
      have e7 : (E7 != 0) = true := by simpa using HNE.out.2
      clear hb9 DC8
      go_wp2_with fail
      refine (awake_calls _).mono ?_
      rintro e v6 ⟨rfl, hb6⟩
      have yT6 : Hid (Below w.heap.size w v6) := bel2 (bel2 T9.out (bel1 _ _)) hb6
      clear hb6
      go_wp2_with fail
      go_ret
      exact ⟨rfl, yT6.out⟩
    · obtain rfl : K = 1 := by rw [HM.out, if_neg hm]
      clear hm
      go_wp2_with fail
      refine (awake_calls _).mono ?_
      rintro e v6 ⟨rfl, hb6⟩
      have yT6 : Hid (Below w.heap.size w v6) := bel2 T2.out hb6
      clear hb6
      go_wp2_with fail
      go_ret
      exact ⟨rfl, yT6.out⟩
end Go.Proofs.Ytomkoajhjijplaa
