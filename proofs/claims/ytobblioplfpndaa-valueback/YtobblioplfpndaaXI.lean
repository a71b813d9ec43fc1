/- The walk of ValueBack. -/
import Derived.Test.YtobblioplfpndaaXG
import Derived.Test.YtobblioplfpndaaVK
import Derived.Test.YtobblioplfpndaaVC
import Derived.Test.YtobblioplfpndaaPE
import Derived.Deep.DeepCutAuto
namespace Go.Proofs.Ytobblioplfpndaa
open Go.ChangeShapes Go.WideShapes Go.ChangeAt Go.RowKit
theorem psR_back {n : Nat} {t : Tv} (m : May n t) (hf : FitT n t) : psR (bytesT n t) = (t, 0) := by
  have h := rdV_back 4 n t [] m.1 hf
  rw [List.append_nil] at h
  have hr : rdR (bytesT n t) 0 = (t, [], 0) := by
    unfold rdR afR
    rw [h]
    have := m.2
    dsimp only
    rw [if_neg (by simp only [List.length_nil]; omega), if_pos rfl]
  unfold psR
  rw [hr]
  rfl
theorem psR_inv {l : List UInt8} (h : (psR l).2 = 0) : May 5 (psR l).1 ∧ bytesT 5 (psR l).1 = l := by
  obtain ⟨t, l1, e1, hR⟩ : ∃ t l1 e1, rdV 4 l 0 = (t, l1, e1) := ⟨_, _, _, rfl⟩
  have hr : rdR l 0 = afR l.length (t, l1, e1) := by unfold rdR; rw [hR]
  have hen : ∀ (l : List UInt8) (e : Int), e ≠ 0 → en l e ≠ 0 := by
    intro l e he
    unfold en
    rw [if_neg (by simpa using he)]
    exact he
  by_cases hE : en (rdR l 0).2.1 (rdR l 0).2.2 = 0
  · have hp : psR l = ((rdR l 0).1, 0) := by unfold psR; rw [if_pos hE]
    rw [hp]
    rw [hr] at hE ⊢
    unfold afR at hE ⊢
    dsimp only at hE ⊢
    by_cases hb : 1000 < (l.length : Int) - (l1.length : Int)
    · rw [if_pos hb] at hE
      exact absurd hE (hen _ _ (flE_ne (by decide)))
    · rw [if_neg hb] at hE ⊢
      by_cases h0 : e1 = 0
      · rw [if_pos h0] at hE ⊢
        subst h0
        dsimp only at hE ⊢
        have hl1 : l1.length = 0 := by
          unfold en at hE
          rw [if_pos (by decide)] at hE
          split at hE
          · assumption
          · cases hE
        have hl1' := List.eq_nil_of_length_eq_zero hl1
        subst hl1'
        have hi := rdV_inv 4 l t [] hR
        rw [List.append_nil] at hi
        refine ⟨⟨hi.1, ?_⟩, hi.2.symm⟩
        rw [← hi.2]
        simp only [List.length_nil] at hb
        omega
      · rw [if_neg h0] at hE
        exact absurd hE (hen _ _ h0)
  · have hp : psR l = (zT, en (rdR l 0).2.1 (rdR l 0).2.2) := by unfold psR; rw [if_neg hE]
    rw [hp] at h
    exact absurd h hE
theorem holds_nilB (w : World) : Lib.HoldsBytes w (.slice none 0 0) [] := ⟨none, 0, rfl, fun _ => rfl, fun a ha => by cases ha⟩
theorem Is.five {w : World} : ∀ {n : Nat} {v : Value} {t : Tv}, Is w n v t → ∃ k x b s a m c, v = .agg #[.int .i64 k, .int .i64 x, .int .u64 b, .string s, .slice a m c]
  | 0, _, _, h => h.elim
  | _ + 1, _, .mk k x b s l, ⟨a, c, hv, _, _⟩ => ⟨k, x, b, s, a, l.length, c, hv⟩
set_option maxHeartbeats 2000000 in
set_option maxRecDepth 100000 in
theorem back_walk (n : Nat) (v : Value) (t : Tv) (b : Value) (l : List UInt8) (w : World) (hn : 5 ≤ n) (h : Is w n v t) (hb : Lib.HoldsBytes w b l) (hl : l.length ≤ 281474976710656) :
    Calls Try.prog 6 #[v, b] w fun e w' => e = .returned (.bool true) ∧ Below w.heap.size w w' := by
  have HF1 : Hid (∀ W, Below w.heap.size w W → _) := fun W (hB : Below w.heap.size w W) => fine_calls n v t W (h.below hB)
  have HK1 : Hid (∀ W, Below w.heap.size w W → _) := fun W (hB : Below w.heap.size w W) => check_calls n v t W (h.below hB)
  have HP1 : Hid (May n t → ∀ W, Below w.heap.size w W → Calls Try.prog 28 #[.slice none 0 0, v] W fun e w' => ∃ v', e = .returned v' ∧ Lib.HoldsBytes w' v' (bytesT n t) ∧ Below W.heap.size W w') := fun m W hB => (put_calls n v t _ [] W (h.below hB) (holds_nilB W) (by simp)).mono fun e w' ⟨v', he, hm, _, hb⟩ => ⟨v', he, hm m, hb⟩
  have HPB : Hid (∀ W, Below w.heap.size w W → Calls Try.prog 25 #[b] W (PsP W (psR l))) := fun W hB => parse_calls W b l (holds_below hb hB) hl
  have HPV : Hid (May n t → ∀ W v', Lib.HoldsBytes W v' (bytesT n t) → Calls Try.prog 25 #[v'] W (PsP W (t, 0))) := fun m W v' hv => by
    have := parse_calls W v' (bytesT n t) hv (by have := m.2; omega)
    rwa [psR_back m h.fitT] at this
  have HS : Hid (∀ W u, Below w.heap.size w W → Is W 5 u t → Calls Try.prog 22 #[u, v] W fun e w' => e = .returned (.bool true) ∧ Below W.heap.size W w') := fun W u hB hu => (same_calls n u t v t W (hu.up hn) (h.below hB)).mono fun e w' ⟨⟨r, he, hr⟩, hb⟩ => by
    obtain rfl := hr.2 rfl
    exact ⟨he, hb⟩
  have HI : Hid ((psR l).2 = 0 → May 5 (psR l).1 ∧ bytesT 5 (psR l).1 = l) := psR_inv
  have HQ1 : Hid (∀ W u t2, May 5 t2 → Is W 5 u t2 → Calls Try.prog 20 #[u] W fun e w' => e = .returned (.int .i64 0) ∧ Below W.heap.size W w') := fun W u t2 m hu => (check_calls 5 u t2 W hu).mono fun e w' ⟨⟨r, he, hr, _⟩, hb⟩ => by
    obtain rfl := hr m
    exact ⟨he, hb⟩
  have HQ2 : Hid (∀ W u t2, May 5 t2 → Is W 5 u t2 → Calls Try.prog 28 #[.slice none 0 0, u] W fun e w' => ∃ p m c, e = .returned (.slice p m c) ∧ Lib.HoldsBytes w' (.slice p m c) (bytesT 5 t2) ∧ Below W.heap.size W w') := fun W u t2 m hu => (put_calls 5 u t2 _ [] W hu (holds_nilB W) (by simp)).mono fun e w' ⟨v', he, hm, _, hb⟩ => by
    have hh := hm m
    obtain ⟨p, c, rfl, q1, q2⟩ := hh
    exact ⟨p, _, c, he, ⟨p, c, rfl, q1, q2⟩, hb⟩
  have HEq : Hid (∀ W v', Below w.heap.size w W → Lib.HoldsBytes W v' l → Calls Try.prog 27 #[v', b] W fun e w' => e = .returned (.bool true) ∧ w' = W) := fun W v' hB hv => (equal_calls v' b l l W hv (holds_below hb hB)).mono fun e w' ⟨he, hw⟩ => ⟨by rw [he]; simp, hw⟩
  have HM : Hid (May n t ∨ ¬ May n t) := Classical.em _
  obtain ⟨k, x, bb, s, aa, m, c, rfl⟩ := h.five
  obtain ⟨ba, bm, bc, rfl⟩ : ∃ p m c, b = .slice p m c := by obtain ⟨p, cap, rfl, q1, q2⟩ := hb; exact ⟨_, _, _, rfl⟩
  generalize psR l = R at HPB HI
  obtain ⟨t2, E⟩ := R
  clear h hb hl hn
  go_enter Try.func6, Try.ntmps6
  go_wp2_with fail
  generalize hW0 : w.alloc (Obj.cells #[.int .i64 k, .int .i64 x, .int .u64 bb, .string s, .slice aa m c] 25) = W0
  have HA : Hid (At5 W0 w.heap.size 0 (.int .i64 k) (.int .i64 x) (.int .u64 bb) (.string s) (.slice aa m c)) := by subst hW0; exact box_at w _ _ _ _ _
  have HB0 : Hid (Below w.heap.size w W0) := by subst hW0; exact bel1 _ _
  clear hW0
  refine (HF1.out W0 HB0.out).mono ?_
  rintro e w1 ⟨⟨f1, rfl⟩, hb1⟩
  have T1 : Hid (Below W0.heap.size W0 w1) := hb1
  clear hb1
  obtain ⟨p0, p1, p2, p3, p4⟩ := HA.out.below T1.out
  cases f1 with
  | false =>
    clear p0 p1 p2 p3 p4
    go_wp2_with fail
    refine (HPB.out w1 (bel2 HB0.out T1.out)).mono ?_
    rintro e v1 ⟨u, rfl, hu, hbv⟩
    dsimp only at hu
    have Tv1 : Hid (Below W0.heap.size W0 v1) := bel2 T1.out hbv
    clear hbv
    obtain ⟨yk, yx, yb, ys, ya, ym, yc, rfl⟩ := hu.five
    have yU : Hid (Is (v1.alloc (.cells #[.int .i64 yk, .int .i64 yx, .int .u64 yb, .string ys, .slice ya ym yc] 25)) 5 (.agg #[.int .i64 yk, .int .i64 yx, .int .u64 yb, .string ys, .slice ya ym yc]) t2) := hu.below (bel1 _ _)
    have yO : Hid (At5 (v1.alloc (.cells #[.int .i64 yk, .int .i64 yx, .int .u64 yb, .string ys, .slice ya ym yc] 25)) v1.heap.size 0 (.int .i64 yk) (.int .i64 yx) (.int .u64 yb) (.string ys) (.slice ya ym yc)) := box_at v1 _ _ _ _ _
    have yT : Hid (Below W0.heap.size W0 (v1.alloc (.cells #[.int .i64 yk, .int .i64 yx, .int .u64 yb, .string ys, .slice ya ym yc] 25))) := bel2 Tv1.out (bel1 _ _)
    obtain ⟨yW, hW⟩ : ∃ W2, W2 = v1.alloc (.cells #[.int .i64 yk, .int .i64 yx, .int .u64 yb, .string ys, .slice ya ym yc] 25) := ⟨_, rfl⟩
    obtain ⟨yq, hq⟩ : ∃ q, q = v1.heap.size := ⟨_, rfl⟩
    rw [← hW] at yU yO yT
    rw [← hq] at yO
    have yHW : Hid (yW = _) := hW
    have yHQ : Hid (yq = v1.heap.size) := hq
    clear hu hW hq
    go_upto_region 6 with fail
    rw [← yHW.out, ← yHQ.out]
    rcases Classical.em (E = 0) with h0 | h0
    · have h0' := h0
      subst h0'
      obtain ⟨M2, L2⟩ := HI.out rfl
      have HM2 : Hid (May 5 t2) := M2
      have HL2 : Hid (bytesT 5 t2 = l) := L2
      clear M2 L2 h0
      obtain ⟨r0, r1, r2, r3, r4⟩ := yO.out
      go_wp2_with fail
      refine (HQ1.out _ _ t2 HM2.out yU.out).mono ?_
      rintro e v2 ⟨rfl, hbv⟩
      have Tv2 : Hid (Below yW.heap.size yW v2) := hbv
      clear hbv r0 r1 r2 r3 r4
      obtain ⟨r0, r1, r2, r3, r4⟩ := yO.out.below Tv2.out
      go_wp2_with fail
      refine (HQ2.out _ _ t2 HM2.out (yU.out.below Tv2.out)).mono ?_
      rintro e v3 ⟨vp, vm, vc, rfl, hv3, hbv⟩
      have Tv3 : Hid (Below W0.heap.size W0 v3) := bel2 (bel2 yT.out Tv2.out) hbv
      have EC : Hid (Calls Try.prog 27 #[.slice vp vm vc, .slice ba bm bc] v3 _) := HEq.out v3 _ (bel2 HB0.out Tv3.out) (by rw [← HL2.out]; exact hv3)
      clear hbv hv3 r0 r1 r2 r3 r4
      go_wp2_with fail
      refine EC.out.mono ?_
      rintro e v4 ⟨rfl, hv4⟩
      have hv4' := hv4.symm
      subst hv4'
      clear hv4
      go_wp2_with fail
      refine (awake_calls _).mono ?_
      rintro e v5 ⟨rfl, hbv⟩
      have Tv5 : Hid (Below W0.heap.size W0 v5) := bel2 Tv3.out hbv
      clear hbv
      go_wp2_with fail
      go_ret
      exact ⟨rfl, bel2 HB0.out Tv5.out⟩
    · have dE : (E != 0) = true := by simpa using h0
      clear h0
      go_wp2_with fail
      refine (awake_calls _).mono ?_
      rintro e v5 ⟨rfl, hbv⟩
      have Tv5 : Hid (Below W0.heap.size W0 v5) := bel2 yT.out hbv
      clear hbv
      go_wp2_with fail
      go_ret
      exact ⟨rfl, bel2 HB0.out Tv5.out⟩
  | true =>
    go_wp2_with fail
    refine (HK1.out w1 (bel2 HB0.out T1.out)).mono ?_
    rintro e w2 ⟨⟨r, rfl, hr1, hr2⟩, hb2⟩
    have T2 : Hid (Below W0.heap.size W0 w2) := bel2 T1.out hb2
    clear hb2 p0 p1 p2 p3 p4
    rcases HM.out with hm | hm
    · have hr := hr1 hm
      clear hr1 hr2
      subst hr
      have HMm : Hid (May n t) := hm
      clear hm
      obtain ⟨p0, p1, p2, p3, p4⟩ := HA.out.below T2.out
      go_wp2_with fail
      refine (HP1.out HMm.out w2 (bel2 HB0.out T2.out)).mono ?_
      rintro e w3 ⟨v', rfl, hv3, hb3⟩
      have T3 : Hid (Below W0.heap.size W0 w3) := bel2 T2.out hb3
      have PC : Hid (Calls Try.prog 25 #[v'] w3 (PsP w3 (t, 0))) := HPV.out HMm.out w3 v' hv3
      obtain ⟨ja, jm, jc, rfl⟩ : ∃ p m c, v' = .slice p m c := by obtain ⟨p, cap, rfl, q1, q2⟩ := hv3; exact ⟨_, _, _, rfl⟩
      clear hb3 hv3 p0 p1 p2 p3 p4
      go_wp2_with fail
      refine PC.out.mono ?_
      rintro e w4 ⟨u, rfl, hu, hb4⟩
      dsimp only at hu
      have T4 : Hid (Below W0.heap.size W0 w4) := bel2 T3.out hb4
      clear hb4
      obtain ⟨zk, zx, zb, zs, za, zm, zc, rfl⟩ := hu.five
      have zU : Hid (Is (w4.alloc (.cells #[.int .i64 zk, .int .i64 zx, .int .u64 zb, .string zs, .slice za zm zc] 25)) 5 (.agg #[.int .i64 zk, .int .i64 zx, .int .u64 zb, .string zs, .slice za zm zc]) t) := hu.below (bel1 _ _)
      have zO : Hid (At5 (w4.alloc (.cells #[.int .i64 zk, .int .i64 zx, .int .u64 zb, .string zs, .slice za zm zc] 25)) w4.heap.size 0 (.int .i64 zk) (.int .i64 zx) (.int .u64 zb) (.string zs) (.slice za zm zc)) := box_at w4 _ _ _ _ _
      have zTT : Hid (Below W0.heap.size W0 (w4.alloc (.cells #[.int .i64 zk, .int .i64 zx, .int .u64 zb, .string zs, .slice za zm zc] 25))) := bel2 T4.out (bel1 _ _)
      obtain ⟨zW, hW⟩ : ∃ W2, W2 = w4.alloc (.cells #[.int .i64 zk, .int .i64 zx, .int .u64 zb, .string zs, .slice za zm zc] 25) := ⟨_, rfl⟩
      obtain ⟨zq, hq⟩ : ∃ q, q = w4.heap.size := ⟨_, rfl⟩
      rw [← hW] at zU zO zTT
      rw [← hq] at zO
      have zHW : Hid (zW = _) := hW
      have zHQ : Hid (zq = w4.heap.size) := hq
      clear hu hW hq
      go_upto_region 3 with fail
      rw [← zHW.out, ← zHQ.out]
      obtain ⟨p0, p1, p2, p3, p4⟩ := HA.out.below zTT.out
      obtain ⟨r0, r1, r2, r3, r4⟩ := zO.out
      go_wp2_with fail
      refine (HS.out _ _ (bel2 HB0.out zTT.out) zU.out).mono ?_
      rintro e w5 ⟨rfl, hb5⟩
      have T5 : Hid (Below W0.heap.size W0 w5) := bel2 zTT.out hb5
      clear hb5 p0 p1 p2 p3 p4 r0 r1 r2 r3 r4
      go_wp2_with fail
      refine (HPB.out w5 (bel2 HB0.out T5.out)).mono ?_
      rintro e v1 ⟨u, rfl, hu, hbv⟩
      dsimp only at hu
      have Tv1 : Hid (Below W0.heap.size W0 v1) := bel2 T5.out hbv
      clear hbv
      obtain ⟨yk, yx, yb, ys, ya, ym, yc, rfl⟩ := hu.five
      have yU : Hid (Is (v1.alloc (.cells #[.int .i64 yk, .int .i64 yx, .int .u64 yb, .string ys, .slice ya ym yc] 25)) 5 (.agg #[.int .i64 yk, .int .i64 yx, .int .u64 yb, .string ys, .slice ya ym yc]) t2) := hu.below (bel1 _ _)
      have yO : Hid (At5 (v1.alloc (.cells #[.int .i64 yk, .int .i64 yx, .int .u64 yb, .string ys, .slice ya ym yc] 25)) v1.heap.size 0 (.int .i64 yk) (.int .i64 yx) (.int .u64 yb) (.string ys) (.slice ya ym yc)) := box_at v1 _ _ _ _ _
      have yT : Hid (Below W0.heap.size W0 (v1.alloc (.cells #[.int .i64 yk, .int .i64 yx, .int .u64 yb, .string ys, .slice ya ym yc] 25))) := bel2 Tv1.out (bel1 _ _)
      obtain ⟨yW, hW⟩ : ∃ W2, W2 = v1.alloc (.cells #[.int .i64 yk, .int .i64 yx, .int .u64 yb, .string ys, .slice ya ym yc] 25) := ⟨_, rfl⟩
      obtain ⟨yq, hq⟩ : ∃ q, q = v1.heap.size := ⟨_, rfl⟩
      rw [← hW] at yU yO yT
      rw [← hq] at yO
      have yHW : Hid (yW = _) := hW
      have yHQ : Hid (yq = v1.heap.size) := hq
      clear hu hW hq
      go_upto_region 6 with fail
      rw [← yHW.out, ← yHQ.out]
      rcases Classical.em (E = 0) with h0 | h0
      · have h0' := h0
        subst h0'
        obtain ⟨M2, L2⟩ := HI.out rfl
        have HM2 : Hid (May 5 t2) := M2
        have HL2 : Hid (bytesT 5 t2 = l) := L2
        clear M2 L2 h0
        obtain ⟨r0, r1, r2, r3, r4⟩ := yO.out
        go_wp2_with fail
        refine (HQ1.out _ _ t2 HM2.out yU.out).mono ?_
        rintro e v2 ⟨rfl, hbv⟩
        have Tv2 : Hid (Below yW.heap.size yW v2) := hbv
        clear hbv r0 r1 r2 r3 r4
        obtain ⟨r0, r1, r2, r3, r4⟩ := yO.out.below Tv2.out
        go_wp2_with fail
        refine (HQ2.out _ _ t2 HM2.out (yU.out.below Tv2.out)).mono ?_
        rintro e v3 ⟨vp, vm, vc, rfl, hv3, hbv⟩
        have Tv3 : Hid (Below W0.heap.size W0 v3) := bel2 (bel2 yT.out Tv2.out) hbv
        have EC : Hid (Calls Try.prog 27 #[.slice vp vm vc, .slice ba bm bc] v3 _) := HEq.out v3 _ (bel2 HB0.out Tv3.out) (by rw [← HL2.out]; exact hv3)
        clear hbv hv3 r0 r1 r2 r3 r4
        go_wp2_with fail
        refine EC.out.mono ?_
        rintro e v4 ⟨rfl, hv4⟩
        have hv4' := hv4.symm
        subst hv4'
        clear hv4
        go_wp2_with fail
        refine (awake_calls _).mono ?_
        rintro e v5 ⟨rfl, hbv⟩
        have Tv5 : Hid (Below W0.heap.size W0 v5) := bel2 Tv3.out hbv
        clear hbv
        go_wp2_with fail
        go_ret
        exact ⟨rfl, bel2 HB0.out Tv5.out⟩
      · have dE : (E != 0) = true := by simpa using h0
        clear h0
        go_wp2_with fail
        refine (awake_calls _).mono ?_
        rintro e v5 ⟨rfl, hbv⟩
        have Tv5 : Hid (Below W0.heap.size W0 v5) := bel2 yT.out hbv
        clear hbv
        go_wp2_with fail
        go_ret
        exact ⟨rfl, bel2 HB0.out Tv5.out⟩
    · have hr := hr2 hm
      clear hr1 hr2 hm
      subst hr
      go_wp2_with fail
      refine (HPB.out w2 (bel2 HB0.out T2.out)).mono ?_
      rintro e v1 ⟨u, rfl, hu, hbv⟩
      dsimp only at hu
      have Tv1 : Hid (Below W0.heap.size W0 v1) := bel2 T2.out hbv
      clear hbv
      obtain ⟨yk, yx, yb, ys, ya, ym, yc, rfl⟩ := hu.five
      have yU : Hid (Is (v1.alloc (.cells #[.int .i64 yk, .int .i64 yx, .int .u64 yb, .string ys, .slice ya ym yc] 25)) 5 (.agg #[.int .i64 yk, .int .i64 yx, .int .u64 yb, .string ys, .slice ya ym yc]) t2) := hu.below (bel1 _ _)
      have yO : Hid (At5 (v1.alloc (.cells #[.int .i64 yk, .int .i64 yx, .int .u64 yb, .string ys, .slice ya ym yc] 25)) v1.heap.size 0 (.int .i64 yk) (.int .i64 yx) (.int .u64 yb) (.string ys) (.slice ya ym yc)) := box_at v1 _ _ _ _ _
      have yT : Hid (Below W0.heap.size W0 (v1.alloc (.cells #[.int .i64 yk, .int .i64 yx, .int .u64 yb, .string ys, .slice ya ym yc] 25))) := bel2 Tv1.out (bel1 _ _)
      obtain ⟨yW, hW⟩ : ∃ W2, W2 = v1.alloc (.cells #[.int .i64 yk, .int .i64 yx, .int .u64 yb, .string ys, .slice ya ym yc] 25) := ⟨_, rfl⟩
      obtain ⟨yq, hq⟩ : ∃ q, q = v1.heap.size := ⟨_, rfl⟩
      rw [← hW] at yU yO yT
      rw [← hq] at yO
      have yHW : Hid (yW = _) := hW
      have yHQ : Hid (yq = v1.heap.size) := hq
      clear hu hW hq
      go_upto_region 6 with fail
      rw [← yHW.out, ← yHQ.out]
      rcases Classical.em (E = 0) with h0 | h0
      · have h0' := h0
        subst h0'
        obtain ⟨M2, L2⟩ := HI.out rfl
        have HM2 : Hid (May 5 t2) := M2
        have HL2 : Hid (bytesT 5 t2 = l) := L2
        clear M2 L2 h0
        obtain ⟨r0, r1, r2, r3, r4⟩ := yO.out
        go_wp2_with fail
        refine (HQ1.out _ _ t2 HM2.out yU.out).mono ?_
        rintro e v2 ⟨rfl, hbv⟩
        have Tv2 : Hid (Below yW.heap.size yW v2) := hbv
        clear hbv r0 r1 r2 r3 r4
        obtain ⟨r0, r1, r2, r3, r4⟩ := yO.out.below Tv2.out
        go_wp2_with fail
        refine (HQ2.out _ _ t2 HM2.out (yU.out.below Tv2.out)).mono ?_
        rintro e v3 ⟨vp, vm, vc, rfl, hv3, hbv⟩
        have Tv3 : Hid (Below W0.heap.size W0 v3) := bel2 (bel2 yT.out Tv2.out) hbv
        have EC : Hid (Calls Try.prog 27 #[.slice vp vm vc, .slice ba bm bc] v3 _) := HEq.out v3 _ (bel2 HB0.out Tv3.out) (by rw [← HL2.out]; exact hv3)
        clear hbv hv3 r0 r1 r2 r3 r4
        go_wp2_with fail
        refine EC.out.mono ?_
        rintro e v4 ⟨rfl, hv4⟩
        have hv4' := hv4.symm
        subst hv4'
        clear hv4
        go_wp2_with fail
        refine (awake_calls _).mono ?_
        rintro e v5 ⟨rfl, hbv⟩
        have Tv5 : Hid (Below W0.heap.size W0 v5) := bel2 Tv3.out hbv
        clear hbv
        go_wp2_with fail
        go_ret
        exact ⟨rfl, bel2 HB0.out Tv5.out⟩
      · have dE : (E != 0) = true := by simpa using h0
        clear h0
        go_wp2_with fail
        refine (awake_calls _).mono ?_
        rintro e v5 ⟨rfl, hbv⟩
        have Tv5 : Hid (Below W0.heap.size W0 v5) := bel2 yT.out hbv
        clear hbv
        go_wp2_with fail
        go_ret
        exact ⟨rfl, bel2 HB0.out Tv5.out⟩
end Go.Proofs.Ytobblioplfpndaa
