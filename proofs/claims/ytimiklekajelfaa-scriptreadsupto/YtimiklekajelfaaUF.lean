/- The walk of ScriptReads, where the list has at most 1048576 steps and the bytes are at most so many. -/
import Derived.Test.YtimiklekajelfaaSP
import Derived.Test.YtimiklekajelfaaUE
namespace Go.Proofs.Ytimiklekajelfaa
open Go.ChangeShapes Go.WideShapes Go.ChangeAt Go.RowKit
set_option maxHeartbeats 1000000 in
set_option maxRecDepth 100000 in
theorem efr_calls (P P2 : Nat → Prop) (a a2 : Option Addr) (c c2 N : Nat) (xs : List Sp) (hN : xs.length = N) (hm : N ≤ 9223372036854775807) (w : World) (h : LsS P w a xs) (h2 : LsS P2 w a2 xs) :
    Calls Try.prog 14 #[.slice a N c, .slice a2 N c2, .func (.func 17) #[] #[]] w fun e w' => e = .returned (.bool true) ∧ Below w.heap.size w w' := by
  have HI : Hid (LsS P w a xs) := h
  have HI2 : Hid (LsS P2 w a2 xs) := h2
  have HN : Hid (xs.length = N ∧ N ≤ 9223372036854775807) := ⟨hN, hm⟩
  have dl : ((N : Int) != (N : Int)) = false := by simp
  clear h h2 hN hm
  go_enter Try.func14, Try.ntmps14
  go_wp2_with fail
  go_loopw [7, 8, 9, 17] (fun _ _ _ i wr => ∃ j : Nat, j ≤ N ∧ i = .int .i64 (j : Int) ∧ Hid (Below w.heap.size w wr)) (fun _ _ _ i _ => N - (intOf i).toNat)
  case atStart => exact ⟨0, Nat.zero_le _, rfl, Below.refl _ _⟩
  case round =>
    obtain ⟨j, hj, rfl, HB⟩ := hrel
    by_cases hlt : j < N
    · have hjl : (j : Int) < (N : Int) := by omega
      obtain ⟨x, hx⟩ : ∃ x, xs[j]? = some x := ⟨_, List.getElem?_eq_getElem (by have := HN.out; omega)⟩
      obtain ⟨B, o, vb, vk, rfl, _, h5, hv⟩ := HI.out j x hx
      obtain ⟨B', o', vb', vk', rfl, _, h5', hv'⟩ := HI2.out j x hx
      have HV : Hid (IsV P w vb vk x) := hv
      have HV' : Hid (IsV P2 w vb' vk' x) := hv'
      have HW : Hid (wrap64 ((j : Int) + 1) = ((j + 1 : Nat) : Int)) := wr1 hlt HN.out.2
      have g5 : AtS wr B (o + j * 5) vb vk x := At5.below h5 HB.out
      have g5' : AtS wr B' (o' + j * 5) vb' vk' x := At5.below h5' HB.out
      obtain ⟨pb, cb, rfl, _⟩ := hv.1.shape
      obtain ⟨pk, ck, rfl, _⟩ := hv.2.shape
      obtain ⟨pb', cb', rfl, _⟩ := hv'.1.shape
      obtain ⟨pk', ck', rfl, _⟩ := hv'.2.shape
      obtain ⟨k, s, n, b, ks⟩ := x
      dsimp only at *
      have G5' : Hid (AtS (wr.alloc (.cells #[.int .i64 k, .int .i64 s, .int .i64 n, .slice pb b.length cb, .slice pk ks.length ck] 28)) B' (o' + j * 5) _ _ ⟨k, s, n, b, ks⟩) := At5.below g5' (bel1 wr _)
      have bB : Below w.heap.size w ((wr.alloc (.cells #[.int .i64 k, .int .i64 s, .int .i64 n, .slice pb b.length cb, .slice pk ks.length ck] 28)).alloc (.cells #[.int .i64 k, .int .i64 s, .int .i64 n, .slice pb' b.length cb', .slice pk' ks.length ck'] 28)) := HB.out.trans (((bel1 wr _).mono HB.out.size).trans ((bel1 _ _).mono (by have := HB.out.size; simp; omega)))
      have HBB : Hid (Below w.heap.size w _) := bB
      have SC0 := rsame_calls P P2 ⟨k, s, n, b, ks⟩ ⟨k, s, n, b, ks⟩ (.slice pb b.length cb) (.slice pk ks.length ck) (.slice pb' b.length cb') (.slice pk' ks.length ck') _ (HV.out.below bB) (HV'.out.below bB)
      rw [sameB_refl] at SC0
      unfold rowS at SC0
      dsimp only at SC0
      have SC : Hid (Calls Try.prog 17 _ _ _) := SC0
      obtain ⟨q0, q1, q2, q3, q4⟩ := g5
      dsimp only at q0 q1 q2 q3 q4
      clear hx h5 h5' hv hv' g5' bB SC0 hj
      go_upto_region 6 with fail
      clear q0 q1 q2 q3 q4
      obtain ⟨q0, q1, q2, q3, q4⟩ := G5'.out
      dsimp only at q0 q1 q2 q3 q4
      go_upto_region 7 with fail
      clear q0 q1 q2 q3 q4
      have E1 : Hid (At5 _ wr.heap.size 0 _ _ _ _ _) := (box_at wr (.int .i64 k) (.int .i64 s) (.int .i64 n) (.slice pb b.length cb) (.slice pk ks.length ck)).below (bel1 _ (.cells #[.int .i64 k, .int .i64 s, .int .i64 n, .slice pb' b.length cb', .slice pk' ks.length ck'] 28))
      have E2 : Hid (At5 _ (wr.heap.size + 1) 0 _ _ _ _ _) := box_at' (wr.alloc (.cells #[.int .i64 k, .int .i64 s, .int .i64 n, .slice pb b.length cb, .slice pk ks.length ck] 28)) (wr.heap.size + 1) (by simp) (.int .i64 k) (.int .i64 s) (.int .i64 n) (.slice pb' b.length cb') (.slice pk' ks.length ck')
      obtain ⟨q0, q1, q2, q3, q4⟩ := E1.out
      obtain ⟨y0, y1, y2, y3, y4⟩ := E2.out
      go_wp2_with fail
      refine SC.out.mono ?_
      rintro e w2 ⟨rfl, hb2⟩
      have HB2 : Hid (Below w.heap.size w w2) := HBB.out.trans (hb2.mono HBB.out.size)
      clear hb2 SC q0 q1 q2 q3 q4 y0 y1 y2 y3 y4
      go_wp2_with fail
      exact ⟨⟨j + 1, hlt, by rw [HW.out], HB2⟩, meas hlt HW.out⟩
    · obtain rfl : j = N := by omega
      go_wp2_with fail
      go_ret
      exact ⟨rfl, HB.out⟩
set_option maxHeartbeats 1000000 in
set_option maxRecDepth 100000 in
theorem reads_walk (a : Option Addr) (c N : Nat) (xs : List Sp) (hN : xs.length = N) (hm : N ≤ 1048576) (wf : ∀ x ∈ xs, WfS x) (vb : Value) (bs : List UInt8) (w : World) (h : LsS (fun _ => True) w a xs) (hb : Lib.HoldsBytes w vb bs) (hbl : bs.length ≤ 1048576) :
    Calls Try.prog 3 #[.slice a N c, vb] w fun e w' => e = .returned (.bool true) ∧ Below w.heap.size w w' := by
  have HI : Hid (LsS (fun _ => True) w a xs) := h
  have HN : Hid (xs.length = N ∧ N ≤ 1048576) := ⟨hN, hm⟩
  have WF : Hid (∀ x ∈ xs, WfS x) := wf
  have HV : Hid (Lib.HoldsBytes w vb bs) := hb
  have HBL : Hid (bs.length ≤ 1048576) := hbl
  have FC : Hid (Calls Try.prog 7 #[.slice a N c] w _) := few_calls _ a c N xs hN (by omega) w h
  obtain ⟨pb, nb, cb, rfl⟩ : ∃ a m c, vb = .slice a m c := by obtain ⟨p, cap, rfl, q1, q2⟩ := hb; exact ⟨_, _, _, rfl⟩
  clear h hN hm wf hb hbl
  go_enter Try.func3, Try.ntmps3
  go_wp2_with fail
  refine FC.out.mono ?_
  rintro e w1 ⟨⟨r, rfl⟩, hb1⟩
  have HB1 : Hid (Below w.heap.size w w1) := hb1
  clear hb1 FC
  cases r with
  | false =>
    go_wp2_with fail
    refine (awake_calls w1).mono ?_
    rintro e w2 ⟨rfl, hb2⟩
    have HB2 : Hid (Below w.heap.size w w2) := bel2 HB1.out hb2
    clear hb2
    go_wp2_with fail
    go_ret
    exact ⟨rfl, HB2.out⟩
  | true =>
    have S1 := step_calls w1 (.slice pb nb cb) bs (holds_below HV.out HB1.out) (by have := HBL.out; omega)
    have S2 : Hid (∀ W, Below w.heap.size w W → Calls Try.prog 10 #[.slice pb nb cb] W (StP W (stR bs))) := fun W hb => rstep_calls W _ bs (holds_below HV.out hb) (by have := HBL.out; omega)
    generalize stR bs = R at S1 S2
    obtain ⟨⟨k, s, n, b, ks⟩, ok⟩ := R
    have C1 : Hid (Calls Try.prog 9 #[.slice pb nb cb] w1 (StP w1 (⟨k, s, n, b, ks⟩, ok))) := S1
    clear S1
    go_wp2_with fail
    refine C1.out.mono ?_
    rintro e w2 ⟨vb2, vk2, rfl, hi2, hb2⟩
    obtain ⟨pb2, cb2, rfl, _⟩ := hi2.1.shape
    obtain ⟨pk2, ck2, rfl, _⟩ := hi2.2.shape
    unfold rowS
    dsimp only
    have E2 : Hid (At5 (w2.alloc (.cells #[.int .i64 k, .int .i64 s, .int .i64 n, .slice pb2 b.length cb2, .slice pk2 ks.length ck2] 28)) w2.heap.size 0 (.int .i64 k) (.int .i64 s) (.int .i64 n) (.slice pb2 b.length cb2) (.slice pk2 ks.length ck2)) := box_at w2 _ _ _ _ _
    have I2 : Hid (IsV (fun _ => True) (w2.alloc (.cells #[.int .i64 k, .int .i64 s, .int .i64 n, .slice pb2 b.length cb2, .slice pk2 ks.length ck2] 28)) (.slice pb2 b.length cb2) (.slice pk2 ks.length ck2) ⟨k, s, n, b, ks⟩) := hi2.keep fun B hB hl => ⟨(bel1 w2 _).block B hl, trivial⟩
    have B2 : Hid (Below w.heap.size w (w2.alloc (.cells #[.int .i64 k, .int .i64 s, .int .i64 n, .slice pb2 b.length cb2, .slice pk2 ks.length ck2] 28))) := bel2 (bel2 HB1.out hb2) (bel1 w2 _)
    clear hi2 hb2 C1
    go_upto_region 4 with fail
    generalize w2.alloc (.cells #[.int .i64 k, .int .i64 s, .int .i64 n, .slice pb2 b.length cb2, .slice pk2 ks.length ck2] 28) = W2 at E2 I2 B2 ⊢
    generalize w2.heap.size = q2 at E2 ⊢
    have C2 : Hid (Calls Try.prog 10 #[.slice pb nb cb] W2 (StP W2 (⟨k, s, n, b, ks⟩, ok))) := S2.out W2 B2.out
    clear S2
    go_wp2_with fail
    refine C2.out.mono ?_
    rintro e w3 ⟨vb3, vk3, rfl, hi3, hb3⟩
    obtain ⟨pb3, cb3, rfl, _⟩ := hi3.1.shape
    obtain ⟨pk3, ck3, rfl, _⟩ := hi3.2.shape
    unfold rowS
    dsimp only
    have hb3a : Below W2.heap.size W2 (w3.alloc (.cells #[.int .i64 k, .int .i64 s, .int .i64 n, .slice pb3 b.length cb3, .slice pk3 ks.length ck3] 28)) := bel2 hb3 (bel1 w3 _)
    have E3 : Hid (At5 (w3.alloc (.cells #[.int .i64 k, .int .i64 s, .int .i64 n, .slice pb3 b.length cb3, .slice pk3 ks.length ck3] 28)) w3.heap.size 0 (.int .i64 k) (.int .i64 s) (.int .i64 n) (.slice pb3 b.length cb3) (.slice pk3 ks.length ck3)) := box_at w3 _ _ _ _ _
    have E3b : Hid (At5 (w3.alloc (.cells #[.int .i64 k, .int .i64 s, .int .i64 n, .slice pb3 b.length cb3, .slice pk3 ks.length ck3] 28)) q2 0 (.int .i64 k) (.int .i64 s) (.int .i64 n) (.slice pb2 b.length cb2) (.slice pk2 ks.length ck2)) := E2.out.below hb3a
    have I3 : Hid (IsV (fun _ => True) (w3.alloc (.cells #[.int .i64 k, .int .i64 s, .int .i64 n, .slice pb3 b.length cb3, .slice pk3 ks.length ck3] 28)) (.slice pb3 b.length cb3) (.slice pk3 ks.length ck3) ⟨k, s, n, b, ks⟩) := hi3.keep fun B hB hl => ⟨(bel1 w3 _).block B hl, trivial⟩
    have I3b : Hid (IsV (fun _ => True) (w3.alloc (.cells #[.int .i64 k, .int .i64 s, .int .i64 n, .slice pb3 b.length cb3, .slice pk3 ks.length ck3] 28)) (.slice pb2 b.length cb2) (.slice pk2 ks.length ck2) ⟨k, s, n, b, ks⟩) := I2.out.below hb3a
    have B3 : Hid (Below w.heap.size w (w3.alloc (.cells #[.int .i64 k, .int .i64 s, .int .i64 n, .slice pb3 b.length cb3, .slice pk3 ks.length ck3] 28))) := bel2 B2.out hb3a
    clear hi3 hb3 hb3a C2 E2 I2
    go_upto_region 5 with fail
    generalize w3.alloc (.cells #[.int .i64 k, .int .i64 s, .int .i64 n, .slice pb3 b.length cb3, .slice pk3 ks.length ck3] 28) = W3 at E3 E3b I3 I3b B3 ⊢
    generalize w3.heap.size = q3 at E3 ⊢
    have P1 : Hid (Calls Try.prog 12 #[.slice a N c] W3 _) := putAll_calls _ a c N xs HN.out.1 (by have := HN.out.2; omega) WF.out W3 (HI.out.below B3.out)
    have P2 : Hid (∀ W, Below w.heap.size w W → Calls Try.prog 13 #[.slice a N c] W fun e w' => ∃ v, e = .returned v ∧ Lib.HoldsBytes w' v (putAll xs) ∧ Below W.heap.size W w') := fun W hb => rputAll_calls _ a c N xs HN.out.1 (by have := HN.out.2; omega) WF.out W (HI.out.below hb)
    generalize putAll xs = pl at P1 P2
    go_wp2_with fail
    refine P1.out.mono ?_
    rintro e w4 ⟨v4, rfl, ho4, hb4⟩
    have hh4 : Lib.HoldsBytes w4 v4 pl := own_holds ho4
    obtain ⟨p4, c4, rfl⟩ := ho4.shp
    have H4 : Hid (Lib.HoldsBytes w4 (.slice p4 pl.length c4) pl) := hh4
    have X4 : Hid (Below W3.heap.size W3 w4) := hb4
    have P3 : Hid (Calls Try.prog 13 #[.slice a N c] w4 _) := P2.out w4 (bel2 B3.out hb4)
    clear ho4 hb4 hh4 P1 P2
    go_wp2_with fail
    refine P3.out.mono ?_
    rintro e w5 ⟨v5, rfl, hv5, hb5⟩
    have EQ0 := equal_calls (.slice p4 pl.length c4) v5 pl pl w5 (holds_below H4.out hb5) hv5
    have e1 : (pl == pl) = true := by simp
    rw [e1] at EQ0
    obtain ⟨p5, n5, c5, rfl⟩ : ∃ a m c, v5 = .slice a m c := by obtain ⟨p, cap, rfl, q1, q2⟩ := hv5; exact ⟨_, _, _, rfl⟩
    have EQ : Hid (Calls Try.prog 11 #[.slice p4 pl.length c4, .slice p5 n5 c5] w5 fun e w' => e = .returned (.bool true) ∧ w' = w5) := EQ0
    have X5 : Hid (Below W3.heap.size W3 w5) := bel2 X4.out hb5
    have PA1 : Hid (Calls Try.prog 15 #[.slice pb nb cb] w5 _) := parse_calls _ bs w5 (holds_below HV.out (bel2 B3.out X5.out)) (by have := HBL.out; omega)
    have PA2 : Hid (∀ W, Below w.heap.size w W → Calls Try.prog 16 #[.slice pb nb cb] W fun e w' => ∃ u, e = .returned u ∧ GrS W.heap.size (fun B => W.heap.size ≤ B) w' u (parseB bs) ∧ Below W.heap.size W w') := fun W hb => rparse_calls _ bs W (holds_below HV.out hb) (by have := HBL.out; omega)
    have hyl := parseB_len bs
    generalize parseB bs = ys at PA1 PA2 hyl
    have HYL : Hid (ys.length ≤ 1048576) := by show _ ≤ _; have := HBL.out; omega
    clear hv5 hb5 P3 EQ0 e1 hyl
    go_wp2_with fail
    refine EQ.out.mono ?_
    rintro e w6 ⟨rfl, hw6⟩
    rw [hw6]
    clear hw6 EQ
    go_wp2_with fail
    refine PA1.out.mono ?_
    rintro e w7 ⟨u7, rfl, hg7, hb7⟩
    obtain ⟨a7, c7, rfl, _⟩ := hg7.shape
    have L7 : Hid (LsS (fun _ => True) w7 a7 ys) := hg7.ls fun _ _ => trivial
    have X7 : Hid (Below W3.heap.size W3 w7) := bel2 X5.out hb7
    have PA3 : Hid (Calls Try.prog 16 #[.slice pb nb cb] w7 _) := PA2.out w7 (bel2 B3.out X7.out)
    clear hg7 hb7 PA1 PA2
    go_wp2_with fail
    refine PA3.out.mono ?_
    rintro e w8 ⟨u8, rfl, hg8, hb8⟩
    obtain ⟨a8, c8, rfl, _⟩ := hg8.shape
    have X8 : Hid (Below W3.heap.size W3 w8) := bel2 X7.out hb8
    have EC : Hid (Calls Try.prog 14 #[.slice a7 ys.length c7, .slice a8 ys.length c8, .func (.func 17) #[] #[]] w8 _) := efr_calls (fun _ => True) (fun _ => True) _ _ c7 c8 _ ys rfl (by have := HYL.out; omega) w8 (L7.out.below hb8) (hg8.ls fun _ _ => trivial)
    clear hg8 hb8 PA3
    go_wp2_with fail
    refine EC.out.mono ?_
    rintro e w9 ⟨rfl, hb9⟩
    have X9 : Hid (Below W3.heap.size W3 w9) := bel2 X8.out hb9
    have SM0 := rsame_calls (fun _ => True) (fun _ => True) ⟨k, s, n, b, ks⟩ ⟨k, s, n, b, ks⟩ (.slice pb2 b.length cb2) (.slice pk2 ks.length ck2) (.slice pb3 b.length cb3) (.slice pk3 ks.length ck3) w9 (I3b.out.below X9.out) (I3.out.below X9.out)
    rw [sameB_refl] at SM0
    unfold rowS at SM0
    dsimp only at SM0
    have SM : Hid (Calls Try.prog 17 _ w9 _) := SM0
    clear hb9 EC SM0
    obtain ⟨a0, a1, a2, a3, a4⟩ := E3.out.below X9.out
    obtain ⟨b0, b1, b2, b3, b4⟩ := E3b.out.below X9.out
    have dok : (ok == ok) = true := by cases ok <;> rfl
    go_wp2_with fail
    refine SM.out.mono ?_
    rintro e w10 ⟨rfl, hb10⟩
    have X10 : Hid (Below W3.heap.size W3 w10) := bel2 X9.out hb10
    clear hb10 SM a0 a1 a2 a3 a4 b0 b1 b2 b3 b4
    go_wp2_with fail
    refine (awake_calls w10).mono ?_
    rintro e w11 ⟨rfl, hb11⟩
    have X11 : Hid (Below w.heap.size w w11) := bel2 (bel2 B3.out X10.out) hb11
    clear hb11
    go_wp2_with fail
    go_ret
    exact ⟨rfl, X11.out⟩
end Go.Proofs.Ytimiklekajelfaa
