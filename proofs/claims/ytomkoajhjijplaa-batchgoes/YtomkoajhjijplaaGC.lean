/- The walk of BatchBack. -/
import Derived.Test.YtomkoajhjijplaaFA
import Derived.Test.YtomkoajhjijplaaGA
import Derived.Test.YtomkoajhjijplaaGB
namespace Go.Proofs.Ytomkoajhjijplaa
open Go.ChangeShapes Go.WideShapes Go.ChangeAt Go.RowKit
set_option maxHeartbeats 4000000 in
set_option maxRecDepth 100000 in
theorem back_walk (v : Value) (b : Bt) (xv : Value) (lx : List UInt8) (w : World) (h : BIs w v b) (hx : Lib.HoldsBytes w xv lx) (hl : lx.length ≤ 281474976710656) :
    Calls Try.prog 4 #[v, xv] w fun e w' => e = .returned (.bool true) ∧ Below w.heap.size w w' := by
  have HF : Hid (∀ W, Below w.heap.size w W → _) := fun W (hB : Below w.heap.size w W) => few_calls v b W (h.below hB)
  have HCK : Hid (∀ W, Below w.heap.size w W → _) := fun W (hB : Below w.heap.size w W) => check_calls v b W (h.below hB)
  have HXH : Hid (∀ W, Below w.heap.size w W → Lib.HoldsBytes W xv lx) := fun W hB => holds_below hx hB
  have HEN : Hid (mayB b = true → ∀ W, Below w.heap.size w W → Calls Try.prog 8 #[v] W fun x w' => ∃ p n c, x = .returned (.tuple #[.slice p n c, .int .i64 0]) ∧ Lib.HoldsBytes w' (.slice p n c) (encB b) ∧ Below W.heap.size W w') := fun hm W hB => (encode_calls v b W (h.below hB)).mono fun x w' ⟨p, n, c, h1, h2, h3⟩ => by
    refine ⟨p, n, c, ?_, ?_, h3⟩
    · rw [h1]
      have : ckE b = 0 := by unfold ckE; rw [if_pos hm]
      rw [this]
    · rw [if_pos hm] at h2
      exact h2
  have HDE : Hid (mayB b = true → ∀ W v', Lib.HoldsBytes W v' (encB b) → Calls Try.prog 10 #[v'] W (DeP W (b, 0))) := fun hm W v' hv => by
    have hle : (encB b).length ≤ 281474976710656 := by
      have hM := (mayB_iff b).1 hm
      have h1 := lenBW b.ws (by0 sE [] b) hM.ww
      have h2 : b.ws.length * 600000 ≤ 4 * 600000 := Nat.mul_le_mul_right _ hM.n1
      have h3 : (by0 sE [] b).length ≤ 524500 := by
        have g1 := enc_length b.key.size (by have := hM.k1; omega)
        have g2 := enc_length b.ex.toNat (by have := hM.x1; omega)
        have g3 := enc_length b.row.length (by have := hM.r1; omega)
        have g4 := enc_length (b.ws.length : Int).toNat (by have := hM.n1; omega)
        have k1 := hM.k1
        have r1 := hM.r1
        show ([] ++ (enc b.key.size ++ b.key.data.toList) ++ enc b.ex.toNat ++ (enc b.row.length ++ b.row) ++ enc (b.ws.length : Int).toNat).length ≤ _
        simp only [List.nil_append, List.length_append, str_len]
        omega
      show (byW sE (by0 sE [] b) b.ws).length ≤ _
      omega
    have := decode_calls v' (encB b) W hv hle
    rwa [decB_back hm] at this
  have HDX : Hid (∀ W, Below w.heap.size w W → Calls Try.prog 10 #[xv] W (DeP W (decB lx))) := fun W hB => decode_calls xv lx W (holds_below hx hB) hl
  have HI : Hid ((decB lx).2 = 0 → mayB (decB lx).1 = true ∧ encB (decB lx).1 = lx) := decB_inv
  have HSm : Hid (∀ W u, Below w.heap.size w W → BIs W u b → Calls Try.prog 16 #[v, u] W fun e w' => e = .returned (.bool true) ∧ Below W.heap.size W w') := fun W u hB hu => (same_calls v u b b W (h.below hB) hu).mono fun e w' ⟨⟨r, he, hr⟩, hb⟩ => by
    obtain rfl := hr.2 rfl
    exact ⟨he, hb⟩
  have HM : Hid (ckE b = if mayB b = true then 0 else 1) := rfl
  obtain ⟨rp, rn, rc, wa, wd, rfl, _, _, _⟩ := h
  obtain ⟨xa, xm, xc, rfl⟩ : ∃ p n c, xv = .slice p n c := by obtain ⟨p, c, rfl, _⟩ := hx; exact ⟨_, _, _, rfl⟩
  generalize decB lx = R at HDX HI
  obtain ⟨b2, E⟩ := R
  dsimp only at HI
  generalize ckE b = K at HCK HM
  clear hx hl
  go_enter Try.func4, Try.ntmps4
  go_wp2_with fail
  generalize hW0 : w.alloc (Obj.cells #[.string b.key, .int .i64 b.ex, .slice rp rn rc, .slice wa b.ws.length wd] 25) = W0
  have HK0 : Hid (Bk W0 w.heap.size #[.string b.key, .int .i64 b.ex, .slice rp rn rc, .slice wa b.ws.length wd] 25) := by subst hW0; exact Bk.new w _ _
  have HB0 : Hid (Below w.heap.size w W0) := by subst hW0; exact bel1 _ _
  clear hW0
  refine (HF.out W0 HB0.out).mono ?_
  rintro e w1 ⟨⟨f1, rfl⟩, hb1⟩
  have T1 : Hid (Below w.heap.size w w1) := bel2 HB0.out hb1
  have HK1 : Hid (Bk w1 w.heap.size #[.string b.key, .int .i64 b.ex, .slice rp rn rc, .slice wa b.ws.length wd] 25) := HK0.out.below hb1
  clear hb1
  cases f1 with
  | false =>
    go_wp2_with fail
    refine (HDX.out w1 T1.out).mono ?_
    rintro e v1 ⟨u, rfl, hu, hbv⟩
    dsimp only at hu
    obtain ⟨yp, yn, yc, za, zd, rfl, hy1, hy2, hy3⟩ := hu
    have yI : Hid (BIs (v1.alloc (.cells #[.string b2.key, .int .i64 b2.ex, .slice yp yn yc, .slice za b2.ws.length zd] 25)) (.agg #[.string b2.key, .int .i64 b2.ex, .slice yp yn yc, .slice za b2.ws.length zd]) b2) := BIs.below (w := v1) ⟨yp, yn, yc, za, zd, rfl, hy1, hy2, hy3⟩ (bel1 _ _)
    have yK : Hid (Bk (v1.alloc (.cells #[.string b2.key, .int .i64 b2.ex, .slice yp yn yc, .slice za b2.ws.length zd] 25)) v1.heap.size #[.string b2.key, .int .i64 b2.ex, .slice yp yn yc, .slice za b2.ws.length zd] 25) := Bk.new v1 _ _
    have yT : Hid (Below w.heap.size w (v1.alloc (.cells #[.string b2.key, .int .i64 b2.ex, .slice yp yn yc, .slice za b2.ws.length zd] 25))) := bel2 (bel2 T1.out hbv) (bel1 _ _)
    obtain ⟨yW, hW⟩ : ∃ W2, W2 = v1.alloc (.cells #[.string b2.key, .int .i64 b2.ex, .slice yp yn yc, .slice za b2.ws.length zd] 25) := ⟨_, rfl⟩
    obtain ⟨yq, hq⟩ : ∃ q, q = v1.heap.size := ⟨_, rfl⟩
    rw [← hW] at yI yK yT
    rw [← hq] at yK
    have yHW : Hid (yW = _) := hW
    have yHQ : Hid (yq = v1.heap.size) := hq
    clear hy1 hy2 hy3 hW hq hbv
    go_upto_region 7 with fail
    rw [← yHW.out, ← yHQ.out]
    by_cases h0 : E = 0
    · subst h0
      have HI2 : Hid (mayB b2 = true ∧ encB b2 = lx) := HI.out (by trivial)
      have EC2 : Hid (Calls Try.prog 8 #[.agg #[.string b2.key, .int .i64 b2.ex, .slice yp yn yc, .slice za b2.ws.length zd]] yW fun x w' => ∃ p n c, x = .returned (.tuple #[.slice p n c, .int .i64 0]) ∧ Lib.HoldsBytes w' (.slice p n c) lx ∧ Below yW.heap.size yW w') := (encode_calls _ b2 yW yI.out).mono fun x w' ⟨p, n, c, h1, h2, h3⟩ => by
        have hm := HI2.out.1
        refine ⟨p, n, c, ?_, ?_, h3⟩
        · rw [h1]
          have : ckE b2 = 0 := by unfold ckE; rw [if_pos hm]
          rw [this]
        · rw [if_pos hm, HI2.out.2] at h2
          exact h2
      have y0 : yW.cell? ⟨yq, 0, none⟩ = some (Value.string b2.key) := yK.out.cell 0
      have y1 : yW.cell? ⟨yq, 1, none⟩ = some (Value.int .i64 b2.ex) := yK.out.cell 1
      have y2 : yW.cell? ⟨yq, 2, none⟩ = some (Value.slice yp yn yc) := yK.out.cell 2
      have y3 : yW.cell? ⟨yq, 3, none⟩ = some (Value.slice za b2.ws.length zd) := yK.out.cell 3
      go_wp2_with fail
      refine EC2.out.mono ?_
      rintro e v3 ⟨p3, n3, c3, rfl, hh3, hb3⟩
      have yT3 : Hid (Below w.heap.size w v3) := bel2 yT.out hb3
      have yK3 : Hid (Bk v3 yq #[.string b2.key, .int .i64 b2.ex, .slice yp yn yc, .slice za b2.ws.length zd] 25) := yK.out.below hb3
      have yI3 : Hid (BIs v3 (.agg #[.string b2.key, .int .i64 b2.ex, .slice yp yn yc, .slice za b2.ws.length zd]) b2) := yI.out.below hb3
      have EQ3 : Hid (Calls Try.prog 14 #[.slice p3 n3 c3, .slice xa xm xc] v3 fun e w' => e = .returned (.bool true) ∧ w' = v3) := (equal_calls _ _ lx lx v3 hh3 (HXH.out v3 yT3.out)).mono fun e w' ⟨he, hw⟩ => ⟨by rw [he]; simp, hw⟩
      have CK3 : Hid (Calls Try.prog 12 #[.agg #[.string b2.key, .int .i64 b2.ex, .slice yp yn yc, .slice za b2.ws.length zd]] v3 fun x w' => x = .returned (.int .i64 0) ∧ Below v3.heap.size v3 w') := (check_calls _ b2 v3 yI3.out).mono fun x w' ⟨h1, h2⟩ => ⟨by rw [h1]; have : ckE b2 = 0 := (by unfold ckE; rw [if_pos HI2.out.1]); rw [this], h2⟩
      clear hh3 hb3 y0 y1 y2 y3 EC2
      have z0 : v3.cell? ⟨yq, 0, none⟩ = some (Value.string b2.key) := yK3.out.cell 0
      have z1 : v3.cell? ⟨yq, 1, none⟩ = some (Value.int .i64 b2.ex) := yK3.out.cell 1
      have z2 : v3.cell? ⟨yq, 2, none⟩ = some (Value.slice yp yn yc) := yK3.out.cell 2
      have z3 : v3.cell? ⟨yq, 3, none⟩ = some (Value.slice za b2.ws.length zd) := yK3.out.cell 3
      go_wp2_with fail
      refine EQ3.out.mono ?_
      rintro e v4 ⟨rfl, hw4⟩
      have hw4' := hw4.symm
      subst hw4'
      clear hw4
      go_wp2_with fail
      refine CK3.out.mono ?_
      rintro e v5 ⟨rfl, hb5⟩
      have yT5 : Hid (Below w.heap.size w v5) := bel2 yT3.out hb5
      clear hb5
      go_wp2_with fail
      refine (awake_calls _).mono ?_
      rintro e v6 ⟨rfl, hb6⟩
      have yT6 : Hid (Below w.heap.size w v6) := bel2 yT5.out hb6
      clear hb6
      go_wp2_with fail
      go_ret
      exact ⟨rfl, yT6.out⟩
    · have dE : (E != 0) = true := by simpa using h0
      clear h0
      go_wp2_with fail
      refine (awake_calls _).mono ?_
      rintro e v6 ⟨rfl, hb6⟩
      have yT6 : Hid (Below w.heap.size w v6) := bel2 yT.out hb6
      clear hb6
      go_wp2_with fail
      go_ret
      exact ⟨rfl, yT6.out⟩
  | true =>
    have c0 : w1.cell? ⟨w.heap.size, 0, none⟩ = some (Value.string b.key) := HK1.out.cell 0
    have c1 : w1.cell? ⟨w.heap.size, 1, none⟩ = some (Value.int .i64 b.ex) := HK1.out.cell 1
    have c2 : w1.cell? ⟨w.heap.size, 2, none⟩ = some (Value.slice rp rn rc) := HK1.out.cell 2
    have c3 : w1.cell? ⟨w.heap.size, 3, none⟩ = some (Value.slice wa b.ws.length wd) := HK1.out.cell 3
    go_wp2_with fail
    refine (HCK.out w1 T1.out).mono ?_
    rintro e w2 ⟨rfl, hb2⟩
    have T2 : Hid (Below w.heap.size w w2) := bel2 T1.out hb2
    have HK2 : Hid (Bk w2 w.heap.size #[.string b.key, .int .i64 b.ex, .slice rp rn rc, .slice wa b.ws.length wd] 25) := HK1.out.below hb2
    clear hb2 c0 c1 c2 c3
    by_cases hm : mayB b = true
    · obtain rfl : K = 0 := by rw [HM.out, if_pos hm]
      have EN2 : Hid (Calls Try.prog 8 _ w2 _) := HEN.out hm w2 T2.out
      have HD2 : Hid (∀ W v', Lib.HoldsBytes W v' (encB b) → Calls Try.prog 10 #[v'] W (DeP W (b, 0))) := HDE.out hm
      clear hm
      have c0 : w2.cell? ⟨w.heap.size, 0, none⟩ = some (Value.string b.key) := HK2.out.cell 0
      have c1 : w2.cell? ⟨w.heap.size, 1, none⟩ = some (Value.int .i64 b.ex) := HK2.out.cell 1
      have c2 : w2.cell? ⟨w.heap.size, 2, none⟩ = some (Value.slice rp rn rc) := HK2.out.cell 2
      have c3 : w2.cell? ⟨w.heap.size, 3, none⟩ = some (Value.slice wa b.ws.length wd) := HK2.out.cell 3
      go_wp2_with fail
      refine EN2.out.mono ?_
      rintro e w3 ⟨p3, n3, c3', rfl, hh3, hb3⟩
      have T3 : Hid (Below w.heap.size w w3) := bel2 T2.out hb3
      have HK3 : Hid (Bk w3 w.heap.size #[.string b.key, .int .i64 b.ex, .slice rp rn rc, .slice wa b.ws.length wd] 25) := HK2.out.below hb3
      have DC3 : Hid (Calls Try.prog 10 #[.slice p3 n3 c3'] w3 (DeP w3 (b, 0))) := HD2.out w3 _ hh3
      clear hh3 hb3 c0 c1 c2 c3
      go_wp2_with fail
      refine DC3.out.mono ?_
      rintro e w4 ⟨u, rfl, hu, hb4⟩
      dsimp only at hu
      have hu2 := hu
      obtain ⟨up, un, uc, ua, ud, rfl, _, _, _⟩ := hu2
      have HU : Hid (BIs (w4.alloc (.cells #[.string b.key, .int .i64 b.ex, .slice up un uc, .slice ua b.ws.length ud] 25)) (.agg #[.string b.key, .int .i64 b.ex, .slice up un uc, .slice ua b.ws.length ud]) b) := hu.below (bel1 _ _)
      have T4 : Hid (Below w.heap.size w (w4.alloc (.cells #[.string b.key, .int .i64 b.ex, .slice up un uc, .slice ua b.ws.length ud] 25))) := bel2 (bel2 T3.out hb4) (bel1 _ _)
      have HK4 : Hid (Bk (w4.alloc (.cells #[.string b.key, .int .i64 b.ex, .slice up un uc, .slice ua b.ws.length ud] 25)) w.heap.size #[.string b.key, .int .i64 b.ex, .slice rp rn rc, .slice wa b.ws.length wd] 25) := (HK3.out.below hb4).below (bel1 _ _)
      have HU4 : Hid (Bk (w4.alloc (.cells #[.string b.key, .int .i64 b.ex, .slice up un uc, .slice ua b.ws.length ud] 25)) w4.heap.size #[.string b.key, .int .i64 b.ex, .slice up un uc, .slice ua b.ws.length ud] 25) := Bk.new w4 _ _
      obtain ⟨W5, hW5⟩ : ∃ W5, W5 = w4.alloc (.cells #[.string b.key, .int .i64 b.ex, .slice up un uc, .slice ua b.ws.length ud] 25) := ⟨_, rfl⟩
      obtain ⟨q5, hq5⟩ : ∃ q5, q5 = w4.heap.size := ⟨_, rfl⟩
      rw [← hW5] at HU T4 HK4 HU4
      rw [← hq5] at HU4
      have HW5 : Hid (W5 = _) := hW5
      have HQ5 : Hid (q5 = w4.heap.size) := hq5
      clear hu hb4 hW5 hq5
      go_upto_region 4 with fail
      rw [← HW5.out, ← HQ5.out]
      have SC : Hid (Calls Try.prog 16 _ W5 _) := HSm.out W5 _ T4.out HU.out
      have c0 : W5.cell? ⟨w.heap.size, 0, none⟩ = some (Value.string b.key) := HK4.out.cell 0
      have c1 : W5.cell? ⟨w.heap.size, 1, none⟩ = some (Value.int .i64 b.ex) := HK4.out.cell 1
      have c2 : W5.cell? ⟨w.heap.size, 2, none⟩ = some (Value.slice rp rn rc) := HK4.out.cell 2
      have c3 : W5.cell? ⟨w.heap.size, 3, none⟩ = some (Value.slice wa b.ws.length wd) := HK4.out.cell 3
      have d0 : W5.cell? ⟨q5, 0, none⟩ = some (Value.string b.key) := HU4.out.cell 0
      have d1 : W5.cell? ⟨q5, 1, none⟩ = some (Value.int .i64 b.ex) := HU4.out.cell 1
      have d2 : W5.cell? ⟨q5, 2, none⟩ = some (Value.slice up un uc) := HU4.out.cell 2
      have d3 : W5.cell? ⟨q5, 3, none⟩ = some (Value.slice ua b.ws.length ud) := HU4.out.cell 3
      go_wp2_with fail
      refine SC.out.mono ?_
      rintro e w6 ⟨rfl, hb6⟩
      have T6 : Hid (Below w.heap.size w w6) := bel2 T4.out hb6
      clear hb6 c0 c1 c2 c3 d0 d1 d2 d3
      go_wp2_with fail
      refine (HDX.out w6 T6.out).mono ?_
      rintro e v1 ⟨u, rfl, hu, hbv⟩
      dsimp only at hu
      obtain ⟨yp, yn, yc, za, zd, rfl, hy1, hy2, hy3⟩ := hu
      have yI : Hid (BIs (v1.alloc (.cells #[.string b2.key, .int .i64 b2.ex, .slice yp yn yc, .slice za b2.ws.length zd] 25)) (.agg #[.string b2.key, .int .i64 b2.ex, .slice yp yn yc, .slice za b2.ws.length zd]) b2) := BIs.below (w := v1) ⟨yp, yn, yc, za, zd, rfl, hy1, hy2, hy3⟩ (bel1 _ _)
      have yK : Hid (Bk (v1.alloc (.cells #[.string b2.key, .int .i64 b2.ex, .slice yp yn yc, .slice za b2.ws.length zd] 25)) v1.heap.size #[.string b2.key, .int .i64 b2.ex, .slice yp yn yc, .slice za b2.ws.length zd] 25) := Bk.new v1 _ _
      have yT : Hid (Below w.heap.size w (v1.alloc (.cells #[.string b2.key, .int .i64 b2.ex, .slice yp yn yc, .slice za b2.ws.length zd] 25))) := bel2 (bel2 T6.out hbv) (bel1 _ _)
      obtain ⟨yW, hW⟩ : ∃ W2, W2 = v1.alloc (.cells #[.string b2.key, .int .i64 b2.ex, .slice yp yn yc, .slice za b2.ws.length zd] 25) := ⟨_, rfl⟩
      obtain ⟨yq, hq⟩ : ∃ q, q = v1.heap.size := ⟨_, rfl⟩
      rw [← hW] at yI yK yT
      rw [← hq] at yK
      have yHW : Hid (yW = _) := hW
      have yHQ : Hid (yq = v1.heap.size) := hq
      clear hy1 hy2 hy3 hW hq hbv
      go_upto_region 7 with fail
      rw [← yHW.out, ← yHQ.out]
      by_cases h0 : E = 0
      · subst h0
        have HI2 : Hid (mayB b2 = true ∧ encB b2 = lx) := HI.out (by trivial)
        have EC2 : Hid (Calls Try.prog 8 #[.agg #[.string b2.key, .int .i64 b2.ex, .slice yp yn yc, .slice za b2.ws.length zd]] yW fun x w' => ∃ p n c, x = .returned (.tuple #[.slice p n c, .int .i64 0]) ∧ Lib.HoldsBytes w' (.slice p n c) lx ∧ Below yW.heap.size yW w') := (encode_calls _ b2 yW yI.out).mono fun x w' ⟨p, n, c, h1, h2, h3⟩ => by
          have hm := HI2.out.1
          refine ⟨p, n, c, ?_, ?_, h3⟩
          · rw [h1]
            have : ckE b2 = 0 := by unfold ckE; rw [if_pos hm]
            rw [this]
          · rw [if_pos hm, HI2.out.2] at h2
            exact h2
        have y0 : yW.cell? ⟨yq, 0, none⟩ = some (Value.string b2.key) := yK.out.cell 0
        have y1 : yW.cell? ⟨yq, 1, none⟩ = some (Value.int .i64 b2.ex) := yK.out.cell 1
        have y2 : yW.cell? ⟨yq, 2, none⟩ = some (Value.slice yp yn yc) := yK.out.cell 2
        have y3 : yW.cell? ⟨yq, 3, none⟩ = some (Value.slice za b2.ws.length zd) := yK.out.cell 3
        go_wp2_with fail
        refine EC2.out.mono ?_
        rintro e v3 ⟨p3, n3, c3, rfl, hh3, hb3⟩
        have yT3 : Hid (Below w.heap.size w v3) := bel2 yT.out hb3
        have yK3 : Hid (Bk v3 yq #[.string b2.key, .int .i64 b2.ex, .slice yp yn yc, .slice za b2.ws.length zd] 25) := yK.out.below hb3
        have yI3 : Hid (BIs v3 (.agg #[.string b2.key, .int .i64 b2.ex, .slice yp yn yc, .slice za b2.ws.length zd]) b2) := yI.out.below hb3
        have EQ3 : Hid (Calls Try.prog 14 #[.slice p3 n3 c3, .slice xa xm xc] v3 fun e w' => e = .returned (.bool true) ∧ w' = v3) := (equal_calls _ _ lx lx v3 hh3 (HXH.out v3 yT3.out)).mono fun e w' ⟨he, hw⟩ => ⟨by rw [he]; simp, hw⟩
        have CK3 : Hid (Calls Try.prog 12 #[.agg #[.string b2.key, .int .i64 b2.ex, .slice yp yn yc, .slice za b2.ws.length zd]] v3 fun x w' => x = .returned (.int .i64 0) ∧ Below v3.heap.size v3 w') := (check_calls _ b2 v3 yI3.out).mono fun x w' ⟨h1, h2⟩ => ⟨by rw [h1]; have : ckE b2 = 0 := (by unfold ckE; rw [if_pos HI2.out.1]); rw [this], h2⟩
        clear hh3 hb3 y0 y1 y2 y3 EC2
        have z0 : v3.cell? ⟨yq, 0, none⟩ = some (Value.string b2.key) := yK3.out.cell 0
        have z1 : v3.cell? ⟨yq, 1, none⟩ = some (Value.int .i64 b2.ex) := yK3.out.cell 1
        have z2 : v3.cell? ⟨yq, 2, none⟩ = some (Value.slice yp yn yc) := yK3.out.cell 2
        have z3 : v3.cell? ⟨yq, 3, none⟩ = some (Value.slice za b2.ws.length zd) := yK3.out.cell 3
        go_wp2_with fail
        refine EQ3.out.mono ?_
        rintro e v4 ⟨rfl, hw4⟩
        have hw4' := hw4.symm
        subst hw4'
        clear hw4
        go_wp2_with fail
        refine CK3.out.mono ?_
        rintro e v5 ⟨rfl, hb5⟩
        have yT5 : Hid (Below w.heap.size w v5) := bel2 yT3.out hb5
        clear hb5
        go_wp2_with fail
        refine (awake_calls _).mono ?_
        rintro e v6 ⟨rfl, hb6⟩
        have yT6 : Hid (Below w.heap.size w v6) := bel2 yT5.out hb6
        clear hb6
        go_wp2_with fail
        go_ret
        exact ⟨rfl, yT6.out⟩
      · have dE : (E != 0) = true := by simpa using h0
        clear h0
        go_wp2_with fail
        refine (awake_calls _).mono ?_
        rintro e v6 ⟨rfl, hb6⟩
        have yT6 : Hid (Below w.heap.size w v6) := bel2 yT.out hb6
        clear hb6
        go_wp2_with fail
        go_ret
        exact ⟨rfl, yT6.out⟩
    · obtain rfl : K = 1 := by rw [HM.out, if_neg hm]
      clear hm
      go_wp2_with fail
      refine (HDX.out w2 T2.out).mono ?_
      rintro e v1 ⟨u, rfl, hu, hbv⟩
      dsimp only at hu
      obtain ⟨yp, yn, yc, za, zd, rfl, hy1, hy2, hy3⟩ := hu
      have yI : Hid (BIs (v1.alloc (.cells #[.string b2.key, .int .i64 b2.ex, .slice yp yn yc, .slice za b2.ws.length zd] 25)) (.agg #[.string b2.key, .int .i64 b2.ex, .slice yp yn yc, .slice za b2.ws.length zd]) b2) := BIs.below (w := v1) ⟨yp, yn, yc, za, zd, rfl, hy1, hy2, hy3⟩ (bel1 _ _)
      have yK : Hid (Bk (v1.alloc (.cells #[.string b2.key, .int .i64 b2.ex, .slice yp yn yc, .slice za b2.ws.length zd] 25)) v1.heap.size #[.string b2.key, .int .i64 b2.ex, .slice yp yn yc, .slice za b2.ws.length zd] 25) := Bk.new v1 _ _
      have yT : Hid (Below w.heap.size w (v1.alloc (.cells #[.string b2.key, .int .i64 b2.ex, .slice yp yn yc, .slice za b2.ws.length zd] 25))) := bel2 (bel2 T2.out hbv) (bel1 _ _)
      obtain ⟨yW, hW⟩ : ∃ W2, W2 = v1.alloc (.cells #[.string b2.key, .int .i64 b2.ex, .slice yp yn yc, .slice za b2.ws.length zd] 25) := ⟨_, rfl⟩
      obtain ⟨yq, hq⟩ : ∃ q, q = v1.heap.size := ⟨_, rfl⟩
      rw [← hW] at yI yK yT
      rw [← hq] at yK
      have yHW : Hid (yW = _) := hW
      have yHQ : Hid (yq = v1.heap.size) := hq
      clear hy1 hy2 hy3 hW hq hbv
      go_upto_region 7 with fail
      rw [← yHW.out, ← yHQ.out]
      by_cases h0 : E = 0
      · subst h0
        have HI2 : Hid (mayB b2 = true ∧ encB b2 = lx) := HI.out (by trivial)
        have EC2 : Hid (Calls Try.prog 8 #[.agg #[.string b2.key, .int .i64 b2.ex, .slice yp yn yc, .slice za b2.ws.length zd]] yW fun x w' => ∃ p n c, x = .returned (.tuple #[.slice p n c, .int .i64 0]) ∧ Lib.HoldsBytes w' (.slice p n c) lx ∧ Below yW.heap.size yW w') := (encode_calls _ b2 yW yI.out).mono fun x w' ⟨p, n, c, h1, h2, h3⟩ => by
          have hm := HI2.out.1
          refine ⟨p, n, c, ?_, ?_, h3⟩
          · rw [h1]
            have : ckE b2 = 0 := by unfold ckE; rw [if_pos hm]
            rw [this]
          · rw [if_pos hm, HI2.out.2] at h2
            exact h2
        have y0 : yW.cell? ⟨yq, 0, none⟩ = some (Value.string b2.key) := yK.out.cell 0
        have y1 : yW.cell? ⟨yq, 1, none⟩ = some (Value.int .i64 b2.ex) := yK.out.cell 1
        have y2 : yW.cell? ⟨yq, 2, none⟩ = some (Value.slice yp yn yc) := yK.out.cell 2
        have y3 : yW.cell? ⟨yq, 3, none⟩ = some (Value.slice za b2.ws.length zd) := yK.out.cell 3
        go_wp2_with fail
        refine EC2.out.mono ?_
        rintro e v3 ⟨p3, n3, c3, rfl, hh3, hb3⟩
        have yT3 : Hid (Below w.heap.size w v3) := bel2 yT.out hb3
        have yK3 : Hid (Bk v3 yq #[.string b2.key, .int .i64 b2.ex, .slice yp yn yc, .slice za b2.ws.length zd] 25) := yK.out.below hb3
        have yI3 : Hid (BIs v3 (.agg #[.string b2.key, .int .i64 b2.ex, .slice yp yn yc, .slice za b2.ws.length zd]) b2) := yI.out.below hb3
        have EQ3 : Hid (Calls Try.prog 14 #[.slice p3 n3 c3, .slice xa xm xc] v3 fun e w' => e = .returned (.bool true) ∧ w' = v3) := (equal_calls _ _ lx lx v3 hh3 (HXH.out v3 yT3.out)).mono fun e w' ⟨he, hw⟩ => ⟨by rw [he]; simp, hw⟩
        have CK3 : Hid (Calls Try.prog 12 #[.agg #[.string b2.key, .int .i64 b2.ex, .slice yp yn yc, .slice za b2.ws.length zd]] v3 fun x w' => x = .returned (.int .i64 0) ∧ Below v3.heap.size v3 w') := (check_calls _ b2 v3 yI3.out).mono fun x w' ⟨h1, h2⟩ => ⟨by rw [h1]; have : ckE b2 = 0 := (by unfold ckE; rw [if_pos HI2.out.1]); rw [this], h2⟩
        clear hh3 hb3 y0 y1 y2 y3 EC2
        have z0 : v3.cell? ⟨yq, 0, none⟩ = some (Value.string b2.key) := yK3.out.cell 0
        have z1 : v3.cell? ⟨yq, 1, none⟩ = some (Value.int .i64 b2.ex) := yK3.out.cell 1
        have z2 : v3.cell? ⟨yq, 2, none⟩ = some (Value.slice yp yn yc) := yK3.out.cell 2
        have z3 : v3.cell? ⟨yq, 3, none⟩ = some (Value.slice za b2.ws.length zd) := yK3.out.cell 3
        go_wp2_with fail
        refine EQ3.out.mono ?_
        rintro e v4 ⟨rfl, hw4⟩
        have hw4' := hw4.symm
        subst hw4'
        clear hw4
        go_wp2_with fail
        refine CK3.out.mono ?_
        rintro e v5 ⟨rfl, hb5⟩
        have yT5 : Hid (Below w.heap.size w v5) := bel2 yT3.out hb5
        clear hb5
        go_wp2_with fail
        refine (awake_calls _).mono ?_
        rintro e v6 ⟨rfl, hb6⟩
        have yT6 : Hid (Below w.heap.size w v6) := bel2 yT5.out hb6
        clear hb6
        go_wp2_with fail
        go_ret
        exact ⟨rfl, yT6.out⟩
      · have dE : (E != 0) = true := by simpa using h0
        clear h0
        go_wp2_with fail
        refine (awake_calls _).mono ?_
        rintro e v6 ⟨rfl, hb6⟩
        have yT6 : Hid (Below w.heap.size w v6) := bel2 yT.out hb6
        clear hb6
        go_wp2_with fail
        go_ret
        exact ⟨rfl, yT6.out⟩
end Go.Proofs.Ytomkoajhjijplaa
