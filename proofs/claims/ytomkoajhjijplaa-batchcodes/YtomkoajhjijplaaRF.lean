/- The walk of BatchCodes. -/
import Derived.Test.YtomkoajhjijplaaRE
import Derived.Test.YtomkoajhjijplaaGB
namespace Go.Proofs.Ytomkoajhjijplaa
open Go.ChangeShapes Go.WideShapes Go.ChangeAt Go.RowKit Go.BigFrame
theorem same_as {P : Prop} {R r : Bool} (h : R = true ↔ P) (h2 : r = true ↔ P) : r = R := by
  cases R <;> cases r <;> simp_all
set_option maxHeartbeats 8000000 in
set_option maxRecDepth 100000 in
theorem codes_walk (v : Value) (b : Bt) (v2 : Value) (b2 : Bt) (xv : Value) (lx : List UInt8) (w : World) (h : BIs w v b) (h2 : BIs w v2 b2) (hx : Lib.HoldsBytes w xv lx) (hl : lx.length ≤ 140737488351232) :
    Calls Try.prog 3 #[v, v2, xv] w fun e w' => e = .returned (.bool true) ∧ Below w.heap.size w w' := by
  have HF1 : Hid (∀ W, Below w.heap.size w W → _) := fun W (hB : Below w.heap.size w W) => few_calls v b W (h.below hB)
  have HF2 : Hid (∀ W, Below w.heap.size w W → _) := fun W (hB : Below w.heap.size w W) => few_calls v2 b2 W (h2.below hB)
  have HC1 : Hid (∀ W, Below w.heap.size w W → _) := fun W (hB : Below w.heap.size w W) => check_calls v b W (h.below hB)
  have HC2 : Hid (∀ W, Below w.heap.size w W → _) := fun W (hB : Below w.heap.size w W) => rcheck_calls v b W (h.below hB)
  have HE1 : Hid (∀ W, Below w.heap.size w W → Calls Try.prog 8 #[v] W fun x w' => ∃ p n c, x = .returned (.tuple #[.slice p n c, .int .i64 (ckE b)]) ∧ Lib.HoldsBytes w' (.slice p n c) (if mayB b = true then encB b else []) ∧ Below W.heap.size W w') := fun W hB => encode_calls v b W (h.below hB)
  have HE2 : Hid (∀ W, Below w.heap.size w W → Calls Try.prog 9 #[v] W fun x w' => ∃ p n c, x = .returned (.tuple #[.slice p n c, .int .i64 (ckE b)]) ∧ Lib.HoldsBytes w' (.slice p n c) (if mayB b = true then encB b else []) ∧ Below W.heap.size W w') := fun W hB => rencode_calls v b W (h.below hB)
  have HD1 : Hid (∀ W, Below w.heap.size w W → Calls Try.prog 10 #[xv] W (DeP W (decB lx))) := fun W hB => decode_calls xv lx W (holds_below hx hB) (by omega)
  have HD2 : Hid (∀ W, Below w.heap.size w W → Calls Try.prog 11 #[xv] W (DeP W (decB lx))) := fun W hB => rdecode_calls xv lx W (holds_below hx hB) hl
  obtain ⟨R, hR⟩ : ∃ R : Bool, R = true ↔ b = b2 := ⟨@decide (b = b2) (Classical.propDecidable _), by simp⟩
  have HS1 : Hid (∀ W, Below w.heap.size w W → Calls Try.prog 16 #[v, v2] W fun e w' => e = .returned (.bool R) ∧ Below W.heap.size W w') := fun W hB => (same_calls v v2 b b2 W (h.below hB) (h2.below hB)).mono fun e w' ⟨⟨r, he, hr⟩, hb⟩ => ⟨by rw [he, same_as hR hr], hb⟩
  have HS2 : Hid (∀ W, Below w.heap.size w W → Calls Try.prog 15 #[v, v2] W fun e w' => e = .returned (.bool R) ∧ Below W.heap.size W w') := fun W hB => (rsame_calls v v2 b b2 W (h.below hB) (h2.below hB)).mono fun e w' ⟨⟨r, he, hr⟩, hb⟩ => ⟨by rw [he, same_as hR hr], hb⟩
  have HS3 : Hid (∀ W, Below w.heap.size w W → Calls Try.prog 16 #[v, v] W fun e w' => e = .returned (.bool true) ∧ Below W.heap.size W w') := fun W hB => (same_calls v v b b W (h.below hB) (h.below hB)).mono fun e w' ⟨⟨r, he, hr⟩, hb⟩ => by
    obtain rfl := hr.2 rfl
    exact ⟨he, hb⟩
  obtain ⟨ap, an, ac, aa, ad, rfl, _, _, _⟩ := h
  obtain ⟨bp, bn, bc, ba, bd, rfl, _, _, _⟩ := h2
  obtain ⟨xva, xvm, xvc, rfl⟩ : ∃ p n c, xv = .slice p n c := by obtain ⟨p, c, rfl, _⟩ := hx; exact ⟨_, _, _, rfl⟩
  generalize decB lx = DR at HD1 HD2
  obtain ⟨b3, E⟩ := DR
  generalize (if mayB b = true then encB b else []) = O at HE1 HE2
  generalize ckE b = K at HC1 HC2 HE1 HE2
  clear hx hl hR
  have k0 := (Bk.new w #[.string b.key, .int .i64 b.ex, .slice ap an ac, .slice aa b.ws.length ad] 25).below (bel1 _ (.cells #[.string b2.key, .int .i64 b2.ex, .slice bp bn bc, .slice ba b2.ws.length bd] 25))
  have k1 := Bk.new (w.alloc (.cells #[.string b.key, .int .i64 b.ex, .slice ap an ac, .slice aa b.ws.length ad] 25)) #[.string b2.key, .int .i64 b2.ex, .slice bp bn bc, .slice ba b2.ws.length bd] 25
  have hz : (w.alloc (.cells #[.string b.key, .int .i64 b.ex, .slice ap an ac, .slice aa b.ws.length ad] 25)).heap.size = w.heap.size + 1 := by simp
  rw [hz] at k1
  have hbb : Below w.heap.size w ((w.alloc (.cells #[.string b.key, .int .i64 b.ex, .slice ap an ac, .slice aa b.ws.length ad] 25)).alloc (.cells #[.string b2.key, .int .i64 b2.ex, .slice bp bn bc, .slice ba b2.ws.length bd] 25)) := bel2 (bel1 _ _) (bel1 _ _)
  obtain ⟨W0, hW0⟩ : ∃ W0, W0 = (w.alloc (.cells #[.string b.key, .int .i64 b.ex, .slice ap an ac, .slice aa b.ws.length ad] 25)).alloc (.cells #[.string b2.key, .int .i64 b2.ex, .slice bp bn bc, .slice ba b2.ws.length bd] 25) := ⟨_, rfl⟩
  rw [← hW0] at k0 k1 hbb
  have HW0 : Hid (W0 = _) := hW0
  have HA0 : Hid (Bk W0 w.heap.size #[.string b.key, .int .i64 b.ex, .slice ap an ac, .slice aa b.ws.length ad] 25) := k0
  have HB0 : Hid (Bk W0 (w.heap.size + 1) #[.string b2.key, .int .i64 b2.ex, .slice bp bn bc, .slice ba b2.ws.length bd] 25) := k1
  have HBB : Hid (Below w.heap.size w W0) := hbb
  clear k0 k1 hz hbb hW0
  go_enter Try.func3, Try.ntmps3
  go_upto_region 1 with fail
  rw [← HW0.out]
  clear HW0
  have x0 : W0.cell? ⟨w.heap.size, 0, none⟩ = some (.string b.key) := HA0.out.cell 0
  have x1 : W0.cell? ⟨w.heap.size, 1, none⟩ = some (.int .i64 b.ex) := HA0.out.cell 1
  have x2 : W0.cell? ⟨w.heap.size, 2, none⟩ = some (.slice ap an ac) := HA0.out.cell 2
  have x3 : W0.cell? ⟨w.heap.size, 3, none⟩ = some (.slice aa b.ws.length ad) := HA0.out.cell 3
  go_wp2_with fail
  refine (HF1.out W0 HBB.out).mono ?_
  rintro e w1 ⟨⟨f1, rfl⟩, hb1⟩
  have T1 : Hid (Below W0.heap.size W0 w1) := hb1
  clear hb1 x0 x1 x2 x3 HF1
  cases f1 with
  | false =>
    go_wp2_with fail
    refine (awake_calls _).mono ?_
    rintro e w2 ⟨rfl, hb2⟩
    have T2 : Hid (Below W0.heap.size W0 w2) := bel2 T1.out hb2
    clear hb2
    go_wp2_with fail
    go_ret
    exact ⟨rfl, bel2 HBB.out T2.out⟩
  | true =>
    have x0 : w1.cell? ⟨w.heap.size + 1, 0, none⟩ = some (.string b2.key) := (HB0.out.below T1.out).cell 0
    have x1 : w1.cell? ⟨w.heap.size + 1, 1, none⟩ = some (.int .i64 b2.ex) := (HB0.out.below T1.out).cell 1
    have x2 : w1.cell? ⟨w.heap.size + 1, 2, none⟩ = some (.slice bp bn bc) := (HB0.out.below T1.out).cell 2
    have x3 : w1.cell? ⟨w.heap.size + 1, 3, none⟩ = some (.slice ba b2.ws.length bd) := (HB0.out.below T1.out).cell 3
    go_wp2_with fail
    refine (HF2.out w1 (bel2 HBB.out T1.out)).mono ?_
    rintro e w2 ⟨⟨f2, rfl⟩, hb2⟩
    have T2 : Hid (Below W0.heap.size W0 w2) := bel2 T1.out hb2
    clear hb2 x0 x1 x2 x3 HF2 T1
    cases f2 with
    | false =>
      go_wp2_with fail
      refine (awake_calls _).mono ?_
      rintro e w3 ⟨rfl, hb3⟩
      have T3 : Hid (Below W0.heap.size W0 w3) := bel2 T2.out hb3
      clear hb3
      go_wp2_with fail
      go_ret
      exact ⟨rfl, bel2 HBB.out T3.out⟩
    | true =>
    have x0 : w2.cell? ⟨w.heap.size, 0, none⟩ = some (.string b.key) := (HA0.out.below T2.out).cell 0
    have x1 : w2.cell? ⟨w.heap.size, 1, none⟩ = some (.int .i64 b.ex) := (HA0.out.below T2.out).cell 1
    have x2 : w2.cell? ⟨w.heap.size, 2, none⟩ = some (.slice ap an ac) := (HA0.out.below T2.out).cell 2
    have x3 : w2.cell? ⟨w.heap.size, 3, none⟩ = some (.slice aa b.ws.length ad) := (HA0.out.below T2.out).cell 3
    go_wp2_with fail
    refine (HE1.out w2 (bel2 HBB.out T2.out)).mono ?_
    rintro e w3 ⟨p3, n3, c3, rfl, hh3, hb3⟩
    have T3 : Hid (Below W0.heap.size W0 w3) := bel2 T2.out hb3
    have G3 : Hid (Lib.HoldsBytes w3 (.slice p3 n3 c3) O) := hh3
    clear hh3 hb3 x0 x1 x2 x3 HE1 T2
    have x0 : w3.cell? ⟨w.heap.size, 0, none⟩ = some (.string b.key) := (HA0.out.below T3.out).cell 0
    have x1 : w3.cell? ⟨w.heap.size, 1, none⟩ = some (.int .i64 b.ex) := (HA0.out.below T3.out).cell 1
    have x2 : w3.cell? ⟨w.heap.size, 2, none⟩ = some (.slice ap an ac) := (HA0.out.below T3.out).cell 2
    have x3 : w3.cell? ⟨w.heap.size, 3, none⟩ = some (.slice aa b.ws.length ad) := (HA0.out.below T3.out).cell 3
    go_wp2_with fail
    refine (HE2.out w3 (bel2 HBB.out T3.out)).mono ?_
    rintro e w4 ⟨p4, n4, c4, rfl, hh4, hb4⟩
    have T4 : Hid (Below W0.heap.size W0 w4) := bel2 T3.out hb4
    have G4 : Hid (Lib.HoldsBytes w4 (.slice p3 n3 c3) O ∧ Lib.HoldsBytes w4 (.slice p4 n4 c4) O) := ⟨holds_below G3.out hb4, hh4⟩
    clear hh4 hb4 x0 x1 x2 x3 HE2 T3 G3
    go_wp2_with fail
    refine (HD1.out w4 (bel2 HBB.out T4.out)).mono ?_
    rintro e w5 ⟨u, rfl, hu, hb5⟩
    dsimp only at hu
    have hu2 := hu
    obtain ⟨xp, xn, xc, xa, xd, rfl, _, _, _⟩ := hu2
    have U0 : Hid (BIs (w5.alloc (.cells #[.string b3.key, .int .i64 b3.ex, .slice xp xn xc, .slice xa b3.ws.length xd] 25)) (.agg #[.string b3.key, .int .i64 b3.ex, .slice xp xn xc, .slice xa b3.ws.length xd]) b3) := hu.below (bel1 _ _)
    have HX0 : Hid (Bk (w5.alloc (.cells #[.string b3.key, .int .i64 b3.ex, .slice xp xn xc, .slice xa b3.ws.length xd] 25)) w5.heap.size #[.string b3.key, .int .i64 b3.ex, .slice xp xn xc, .slice xa b3.ws.length xd] 25) := Bk.new w5 _ _
    have T5 : Hid (Below W0.heap.size W0 (w5.alloc (.cells #[.string b3.key, .int .i64 b3.ex, .slice xp xn xc, .slice xa b3.ws.length xd] 25))) := bel2 (bel2 T4.out hb5) (bel1 _ _)
    have G5 : Hid (Lib.HoldsBytes (w5.alloc (.cells #[.string b3.key, .int .i64 b3.ex, .slice xp xn xc, .slice xa b3.ws.length xd] 25)) (.slice p3 n3 c3) O ∧ Lib.HoldsBytes (w5.alloc (.cells #[.string b3.key, .int .i64 b3.ex, .slice xp xn xc, .slice xa b3.ws.length xd] 25)) (.slice p4 n4 c4) O) := ⟨holds_below G4.out.1 (bel2 hb5 (bel1 _ _)), holds_below G4.out.2 (bel2 hb5 (bel1 _ _))⟩
    obtain ⟨W3, hW⟩ : ∃ W3, W3 = w5.alloc (.cells #[.string b3.key, .int .i64 b3.ex, .slice xp xn xc, .slice xa b3.ws.length xd] 25) := ⟨_, rfl⟩
    obtain ⟨qx, hq⟩ : ∃ q, q = w5.heap.size := ⟨_, rfl⟩
    rw [← hW] at U0 HX0 T5 G5
    rw [← hq] at HX0
    have HW3 : Hid (W3 = _) := hW
    have HQX : Hid (qx = w5.heap.size) := hq
    clear hu hb5 hW hq HD1 T4 G4
    go_upto_region 6 with fail
    rw [← HW3.out, ← HQX.out]
    clear HW3 HQX
    go_wp2_with fail
    refine (HD2.out W3 (bel2 HBB.out T5.out)).mono ?_
    rintro e w6 ⟨u, rfl, hu, hb6⟩
    dsimp only at hu
    have hu2 := hu
    obtain ⟨yp, yn, yc, ya, yd, rfl, _, _, _⟩ := hu2
    have U2 : Hid (BIs (w6.alloc (.cells #[.string b3.key, .int .i64 b3.ex, .slice yp yn yc, .slice ya b3.ws.length yd] 25)) (.agg #[.string b3.key, .int .i64 b3.ex, .slice yp yn yc, .slice ya b3.ws.length yd]) b3) := hu.below (bel1 _ _)
    have U1 : Hid (BIs (w6.alloc (.cells #[.string b3.key, .int .i64 b3.ex, .slice yp yn yc, .slice ya b3.ws.length yd] 25)) (.agg #[.string b3.key, .int .i64 b3.ex, .slice xp xn xc, .slice xa b3.ws.length xd]) b3) := (U0.out.below hb6).below (bel1 _ _)
    have HY : Hid (Bk (w6.alloc (.cells #[.string b3.key, .int .i64 b3.ex, .slice yp yn yc, .slice ya b3.ws.length yd] 25)) w6.heap.size #[.string b3.key, .int .i64 b3.ex, .slice yp yn yc, .slice ya b3.ws.length yd] 25) := Bk.new w6 _ _
    have HX : Hid (Bk (w6.alloc (.cells #[.string b3.key, .int .i64 b3.ex, .slice yp yn yc, .slice ya b3.ws.length yd] 25)) qx #[.string b3.key, .int .i64 b3.ex, .slice xp xn xc, .slice xa b3.ws.length xd] 25) := (HX0.out.below hb6).below (bel1 _ _)
    have HT : Hid (Below W0.heap.size W0 (w6.alloc (.cells #[.string b3.key, .int .i64 b3.ex, .slice yp yn yc, .slice ya b3.ws.length yd] 25))) := bel2 (bel2 T5.out hb6) (bel1 _ _)
    have G6 : Hid (Lib.HoldsBytes (w6.alloc (.cells #[.string b3.key, .int .i64 b3.ex, .slice yp yn yc, .slice ya b3.ws.length yd] 25)) (.slice p3 n3 c3) O ∧ Lib.HoldsBytes (w6.alloc (.cells #[.string b3.key, .int .i64 b3.ex, .slice yp yn yc, .slice ya b3.ws.length yd] 25)) (.slice p4 n4 c4) O) := ⟨holds_below G5.out.1 (bel2 hb6 (bel1 _ _)), holds_below G5.out.2 (bel2 hb6 (bel1 _ _))⟩
    obtain ⟨W5, hW⟩ : ∃ W5, W5 = w6.alloc (.cells #[.string b3.key, .int .i64 b3.ex, .slice yp yn yc, .slice ya b3.ws.length yd] 25) := ⟨_, rfl⟩
    obtain ⟨qy, hq⟩ : ∃ q, q = w6.heap.size := ⟨_, rfl⟩
    rw [← hW] at U1 U2 HY HX HT G6
    rw [← hq] at HY
    have HW5 : Hid (W5 = _) := hW
    have HQY : Hid (qy = w6.heap.size) := hq
    have HA : Hid (Bk W5 w.heap.size #[.string b.key, .int .i64 b.ex, .slice ap an ac, .slice aa b.ws.length ad] 25) := HA0.out.below HT.out
    have HB : Hid (Bk W5 (w.heap.size + 1) #[.string b2.key, .int .i64 b2.ex, .slice bp bn bc, .slice ba b2.ws.length bd] 25) := HB0.out.below HT.out
    have HT5 : Hid (Below w.heap.size w W5) := bel2 HBB.out HT.out
    have HEq : Hid (∀ W, Below W5.heap.size W5 W → Calls Try.prog 14 #[.slice p3 n3 c3, .slice p4 n4 c4] W fun e w' => e = .returned (.bool true) ∧ Below W.heap.size W w') := fun W hB => (equal_calls _ _ O O W (holds_below G6.out.1 hB) (holds_below G6.out.2 hB)).mono fun e w' ⟨he, hw⟩ => ⟨by rw [he]; simp, by rw [hw]; exact Below.refl _ _⟩
    have HSx : Hid (∀ W, Below W5.heap.size W5 W → Calls Try.prog 15 #[.agg #[.string b3.key, .int .i64 b3.ex, .slice xp xn xc, .slice xa b3.ws.length xd], .agg #[.string b3.key, .int .i64 b3.ex, .slice yp yn yc, .slice ya b3.ws.length yd]] W fun e w' => e = .returned (.bool true) ∧ Below W.heap.size W w') := fun W hB => (rsame_calls _ _ b3 b3 W (U1.out.below hB) (U2.out.below hB)).mono fun e w' ⟨⟨r, he, hr⟩, hb⟩ => by
      obtain rfl := hr.2 rfl
      exact ⟨he, hb⟩
    clear hu hb6 hW hq HD2 T5 G5 U0 HX0 HT HA0 HB0 HBB
    go_upto_region 7 with fail
    rw [← HW5.out, ← HQY.out]
    clear HW5 HQY U1 U2 G6
    have a50 : W5.cell? ⟨w.heap.size, 0, none⟩ = some (.string b.key) := (HA.out.below (Below.refl _ W5)).cell 0
    have a51 : W5.cell? ⟨w.heap.size, 1, none⟩ = some (.int .i64 b.ex) := (HA.out.below (Below.refl _ W5)).cell 1
    have a52 : W5.cell? ⟨w.heap.size, 2, none⟩ = some (.slice ap an ac) := (HA.out.below (Below.refl _ W5)).cell 2
    have a53 : W5.cell? ⟨w.heap.size, 3, none⟩ = some (.slice aa b.ws.length ad) := (HA.out.below (Below.refl _ W5)).cell 3
    have b50 : W5.cell? ⟨w.heap.size + 1, 0, none⟩ = some (.string b2.key) := (HB.out.below (Below.refl _ W5)).cell 0
    have b51 : W5.cell? ⟨w.heap.size + 1, 1, none⟩ = some (.int .i64 b2.ex) := (HB.out.below (Below.refl _ W5)).cell 1
    have b52 : W5.cell? ⟨w.heap.size + 1, 2, none⟩ = some (.slice bp bn bc) := (HB.out.below (Below.refl _ W5)).cell 2
    have b53 : W5.cell? ⟨w.heap.size + 1, 3, none⟩ = some (.slice ba b2.ws.length bd) := (HB.out.below (Below.refl _ W5)).cell 3
    have c50 : W5.cell? ⟨qx, 0, none⟩ = some (.string b3.key) := (HX.out.below (Below.refl _ W5)).cell 0
    have c51 : W5.cell? ⟨qx, 1, none⟩ = some (.int .i64 b3.ex) := (HX.out.below (Below.refl _ W5)).cell 1
    have c52 : W5.cell? ⟨qx, 2, none⟩ = some (.slice xp xn xc) := (HX.out.below (Below.refl _ W5)).cell 2
    have c53 : W5.cell? ⟨qx, 3, none⟩ = some (.slice xa b3.ws.length xd) := (HX.out.below (Below.refl _ W5)).cell 3
    have d50 : W5.cell? ⟨qy, 0, none⟩ = some (.string b3.key) := (HY.out.below (Below.refl _ W5)).cell 0
    have d51 : W5.cell? ⟨qy, 1, none⟩ = some (.int .i64 b3.ex) := (HY.out.below (Below.refl _ W5)).cell 1
    have d52 : W5.cell? ⟨qy, 2, none⟩ = some (.slice yp yn yc) := (HY.out.below (Below.refl _ W5)).cell 2
    have d53 : W5.cell? ⟨qy, 3, none⟩ = some (.slice ya b3.ws.length yd) := (HY.out.below (Below.refl _ W5)).cell 3
    go_region_held3 (fun w' => w'.cell? ⟨w.heap.size, 0, none⟩ = some (.string b.key) ∧ w'.cell? ⟨w.heap.size, 1, none⟩ = some (.int .i64 b.ex) ∧ w'.cell? ⟨w.heap.size, 2, none⟩ = some (.slice ap an ac) ∧ w'.cell? ⟨w.heap.size, 3, none⟩ = some (.slice aa b.ws.length ad) ∧ w'.cell? ⟨w.heap.size + 1, 0, none⟩ = some (.string b2.key) ∧ w'.cell? ⟨w.heap.size + 1, 1, none⟩ = some (.int .i64 b2.ex) ∧ w'.cell? ⟨w.heap.size + 1, 2, none⟩ = some (.slice bp bn bc) ∧ w'.cell? ⟨w.heap.size + 1, 3, none⟩ = some (.slice ba b2.ws.length bd) ∧ w'.cell? ⟨qx, 0, none⟩ = some (.string b3.key) ∧ w'.cell? ⟨qx, 1, none⟩ = some (.int .i64 b3.ex) ∧ w'.cell? ⟨qx, 2, none⟩ = some (.slice xp xn xc) ∧ w'.cell? ⟨qx, 3, none⟩ = some (.slice xa b3.ws.length xd) ∧ w'.cell? ⟨qy, 0, none⟩ = some (.string b3.key) ∧ w'.cell? ⟨qy, 1, none⟩ = some (.int .i64 b3.ex) ∧ w'.cell? ⟨qy, 2, none⟩ = some (.slice yp yn yc) ∧ w'.cell? ⟨qy, 3, none⟩ = some (.slice ya b3.ws.length yd)) (go_keep) (first
      | (go_at_call 12; refine (HC1.out _ (bel2 HT5.out (Below.refl _ W5).drew)).mono ?_; rintro e w6 ⟨rfl, hb⟩; have T6 : Hid (Below W5.heap.size W5 w6) := bel2 (Below.refl _ W5).drew hb; have a60 : w6.cell? ⟨w.heap.size, 0, none⟩ = some (.string b.key) := (HA.out.below T6.out).cell 0; have a61 : w6.cell? ⟨w.heap.size, 1, none⟩ = some (.int .i64 b.ex) := (HA.out.below T6.out).cell 1; have a62 : w6.cell? ⟨w.heap.size, 2, none⟩ = some (.slice ap an ac) := (HA.out.below T6.out).cell 2; have a63 : w6.cell? ⟨w.heap.size, 3, none⟩ = some (.slice aa b.ws.length ad) := (HA.out.below T6.out).cell 3; have b60 : w6.cell? ⟨w.heap.size + 1, 0, none⟩ = some (.string b2.key) := (HB.out.below T6.out).cell 0; have b61 : w6.cell? ⟨w.heap.size + 1, 1, none⟩ = some (.int .i64 b2.ex) := (HB.out.below T6.out).cell 1; have b62 : w6.cell? ⟨w.heap.size + 1, 2, none⟩ = some (.slice bp bn bc) := (HB.out.below T6.out).cell 2; have b63 : w6.cell? ⟨w.heap.size + 1, 3, none⟩ = some (.slice ba b2.ws.length bd) := (HB.out.below T6.out).cell 3; have c60 : w6.cell? ⟨qx, 0, none⟩ = some (.string b3.key) := (HX.out.below T6.out).cell 0; have c61 : w6.cell? ⟨qx, 1, none⟩ = some (.int .i64 b3.ex) := (HX.out.below T6.out).cell 1; have c62 : w6.cell? ⟨qx, 2, none⟩ = some (.slice xp xn xc) := (HX.out.below T6.out).cell 2; have c63 : w6.cell? ⟨qx, 3, none⟩ = some (.slice xa b3.ws.length xd) := (HX.out.below T6.out).cell 3; have d60 : w6.cell? ⟨qy, 0, none⟩ = some (.string b3.key) := (HY.out.below T6.out).cell 0; have d61 : w6.cell? ⟨qy, 1, none⟩ = some (.int .i64 b3.ex) := (HY.out.below T6.out).cell 1; have d62 : w6.cell? ⟨qy, 2, none⟩ = some (.slice yp yn yc) := (HY.out.below T6.out).cell 2; have d63 : w6.cell? ⟨qy, 3, none⟩ = some (.slice ya b3.ws.length yd) := (HY.out.below T6.out).cell 3; clear a50 a51 a52 a53 b50 b51 b52 b53 c50 c51 c52 c53 d50 d51 d52 d53; clear hb)
      | (go_at_call 13; refine (HC2.out _ (bel2 HT5.out T6.out)).mono ?_; rintro e w7 ⟨rfl, hb⟩; have T7 : Hid (Below W5.heap.size W5 w7) := bel2 T6.out hb; have a70 : w7.cell? ⟨w.heap.size, 0, none⟩ = some (.string b.key) := (HA.out.below T7.out).cell 0; have a71 : w7.cell? ⟨w.heap.size, 1, none⟩ = some (.int .i64 b.ex) := (HA.out.below T7.out).cell 1; have a72 : w7.cell? ⟨w.heap.size, 2, none⟩ = some (.slice ap an ac) := (HA.out.below T7.out).cell 2; have a73 : w7.cell? ⟨w.heap.size, 3, none⟩ = some (.slice aa b.ws.length ad) := (HA.out.below T7.out).cell 3; have b70 : w7.cell? ⟨w.heap.size + 1, 0, none⟩ = some (.string b2.key) := (HB.out.below T7.out).cell 0; have b71 : w7.cell? ⟨w.heap.size + 1, 1, none⟩ = some (.int .i64 b2.ex) := (HB.out.below T7.out).cell 1; have b72 : w7.cell? ⟨w.heap.size + 1, 2, none⟩ = some (.slice bp bn bc) := (HB.out.below T7.out).cell 2; have b73 : w7.cell? ⟨w.heap.size + 1, 3, none⟩ = some (.slice ba b2.ws.length bd) := (HB.out.below T7.out).cell 3; have c70 : w7.cell? ⟨qx, 0, none⟩ = some (.string b3.key) := (HX.out.below T7.out).cell 0; have c71 : w7.cell? ⟨qx, 1, none⟩ = some (.int .i64 b3.ex) := (HX.out.below T7.out).cell 1; have c72 : w7.cell? ⟨qx, 2, none⟩ = some (.slice xp xn xc) := (HX.out.below T7.out).cell 2; have c73 : w7.cell? ⟨qx, 3, none⟩ = some (.slice xa b3.ws.length xd) := (HX.out.below T7.out).cell 3; have d70 : w7.cell? ⟨qy, 0, none⟩ = some (.string b3.key) := (HY.out.below T7.out).cell 0; have d71 : w7.cell? ⟨qy, 1, none⟩ = some (.int .i64 b3.ex) := (HY.out.below T7.out).cell 1; have d72 : w7.cell? ⟨qy, 2, none⟩ = some (.slice yp yn yc) := (HY.out.below T7.out).cell 2; have d73 : w7.cell? ⟨qy, 3, none⟩ = some (.slice ya b3.ws.length yd) := (HY.out.below T7.out).cell 3; clear a60 a61 a62 a63 b60 b61 b62 b63 c60 c61 c62 c63 d60 d61 d62 d63; clear hb)
      | (go_at_call 14; refine (HEq.out _ T7.out).mono ?_; rintro e w8 ⟨rfl, hb⟩; have T8 : Hid (Below W5.heap.size W5 w8) := bel2 T7.out hb; have a80 : w8.cell? ⟨w.heap.size, 0, none⟩ = some (.string b.key) := (HA.out.below T8.out).cell 0; have a81 : w8.cell? ⟨w.heap.size, 1, none⟩ = some (.int .i64 b.ex) := (HA.out.below T8.out).cell 1; have a82 : w8.cell? ⟨w.heap.size, 2, none⟩ = some (.slice ap an ac) := (HA.out.below T8.out).cell 2; have a83 : w8.cell? ⟨w.heap.size, 3, none⟩ = some (.slice aa b.ws.length ad) := (HA.out.below T8.out).cell 3; have b80 : w8.cell? ⟨w.heap.size + 1, 0, none⟩ = some (.string b2.key) := (HB.out.below T8.out).cell 0; have b81 : w8.cell? ⟨w.heap.size + 1, 1, none⟩ = some (.int .i64 b2.ex) := (HB.out.below T8.out).cell 1; have b82 : w8.cell? ⟨w.heap.size + 1, 2, none⟩ = some (.slice bp bn bc) := (HB.out.below T8.out).cell 2; have b83 : w8.cell? ⟨w.heap.size + 1, 3, none⟩ = some (.slice ba b2.ws.length bd) := (HB.out.below T8.out).cell 3; have c80 : w8.cell? ⟨qx, 0, none⟩ = some (.string b3.key) := (HX.out.below T8.out).cell 0; have c81 : w8.cell? ⟨qx, 1, none⟩ = some (.int .i64 b3.ex) := (HX.out.below T8.out).cell 1; have c82 : w8.cell? ⟨qx, 2, none⟩ = some (.slice xp xn xc) := (HX.out.below T8.out).cell 2; have c83 : w8.cell? ⟨qx, 3, none⟩ = some (.slice xa b3.ws.length xd) := (HX.out.below T8.out).cell 3; have d80 : w8.cell? ⟨qy, 0, none⟩ = some (.string b3.key) := (HY.out.below T8.out).cell 0; have d81 : w8.cell? ⟨qy, 1, none⟩ = some (.int .i64 b3.ex) := (HY.out.below T8.out).cell 1; have d82 : w8.cell? ⟨qy, 2, none⟩ = some (.slice yp yn yc) := (HY.out.below T8.out).cell 2; have d83 : w8.cell? ⟨qy, 3, none⟩ = some (.slice ya b3.ws.length yd) := (HY.out.below T8.out).cell 3; clear a70 a71 a72 a73 b70 b71 b72 b73 c70 c71 c72 c73 d70 d71 d72 d73; clear hb)
      | (go_at_call_of 15 (Value.agg #[.string b3.key, .int .i64 b3.ex, .slice xp xn xc, .slice xa b3.ws.length xd]); refine (HSx.out _ T8.out).mono ?_; rintro e w9 ⟨rfl, hb⟩; have T9 : Hid (Below W5.heap.size W5 w9) := bel2 T8.out hb; have a90 : w9.cell? ⟨w.heap.size, 0, none⟩ = some (.string b.key) := (HA.out.below T9.out).cell 0; have a91 : w9.cell? ⟨w.heap.size, 1, none⟩ = some (.int .i64 b.ex) := (HA.out.below T9.out).cell 1; have a92 : w9.cell? ⟨w.heap.size, 2, none⟩ = some (.slice ap an ac) := (HA.out.below T9.out).cell 2; have a93 : w9.cell? ⟨w.heap.size, 3, none⟩ = some (.slice aa b.ws.length ad) := (HA.out.below T9.out).cell 3; have b90 : w9.cell? ⟨w.heap.size + 1, 0, none⟩ = some (.string b2.key) := (HB.out.below T9.out).cell 0; have b91 : w9.cell? ⟨w.heap.size + 1, 1, none⟩ = some (.int .i64 b2.ex) := (HB.out.below T9.out).cell 1; have b92 : w9.cell? ⟨w.heap.size + 1, 2, none⟩ = some (.slice bp bn bc) := (HB.out.below T9.out).cell 2; have b93 : w9.cell? ⟨w.heap.size + 1, 3, none⟩ = some (.slice ba b2.ws.length bd) := (HB.out.below T9.out).cell 3; have c90 : w9.cell? ⟨qx, 0, none⟩ = some (.string b3.key) := (HX.out.below T9.out).cell 0; have c91 : w9.cell? ⟨qx, 1, none⟩ = some (.int .i64 b3.ex) := (HX.out.below T9.out).cell 1; have c92 : w9.cell? ⟨qx, 2, none⟩ = some (.slice xp xn xc) := (HX.out.below T9.out).cell 2; have c93 : w9.cell? ⟨qx, 3, none⟩ = some (.slice xa b3.ws.length xd) := (HX.out.below T9.out).cell 3; have d90 : w9.cell? ⟨qy, 0, none⟩ = some (.string b3.key) := (HY.out.below T9.out).cell 0; have d91 : w9.cell? ⟨qy, 1, none⟩ = some (.int .i64 b3.ex) := (HY.out.below T9.out).cell 1; have d92 : w9.cell? ⟨qy, 2, none⟩ = some (.slice yp yn yc) := (HY.out.below T9.out).cell 2; have d93 : w9.cell? ⟨qy, 3, none⟩ = some (.slice ya b3.ws.length yd) := (HY.out.below T9.out).cell 3; clear a80 a81 a82 a83 b80 b81 b82 b83 c80 c81 c82 c83 d80 d81 d82 d83; clear hb)
      | (go_at_call_of 16 (Value.agg #[.string b2.key, .int .i64 b2.ex, .slice bp bn bc, .slice ba b2.ws.length bd]); refine (HS1.out _ (bel2 HT5.out T9.out)).mono ?_; rintro e w20 ⟨rfl, hb⟩; have T20 : Hid (Below W5.heap.size W5 w20) := bel2 T9.out hb; have a200 : w20.cell? ⟨w.heap.size, 0, none⟩ = some (.string b.key) := (HA.out.below T20.out).cell 0; have a201 : w20.cell? ⟨w.heap.size, 1, none⟩ = some (.int .i64 b.ex) := (HA.out.below T20.out).cell 1; have a202 : w20.cell? ⟨w.heap.size, 2, none⟩ = some (.slice ap an ac) := (HA.out.below T20.out).cell 2; have a203 : w20.cell? ⟨w.heap.size, 3, none⟩ = some (.slice aa b.ws.length ad) := (HA.out.below T20.out).cell 3; have b200 : w20.cell? ⟨w.heap.size + 1, 0, none⟩ = some (.string b2.key) := (HB.out.below T20.out).cell 0; have b201 : w20.cell? ⟨w.heap.size + 1, 1, none⟩ = some (.int .i64 b2.ex) := (HB.out.below T20.out).cell 1; have b202 : w20.cell? ⟨w.heap.size + 1, 2, none⟩ = some (.slice bp bn bc) := (HB.out.below T20.out).cell 2; have b203 : w20.cell? ⟨w.heap.size + 1, 3, none⟩ = some (.slice ba b2.ws.length bd) := (HB.out.below T20.out).cell 3; have c200 : w20.cell? ⟨qx, 0, none⟩ = some (.string b3.key) := (HX.out.below T20.out).cell 0; have c201 : w20.cell? ⟨qx, 1, none⟩ = some (.int .i64 b3.ex) := (HX.out.below T20.out).cell 1; have c202 : w20.cell? ⟨qx, 2, none⟩ = some (.slice xp xn xc) := (HX.out.below T20.out).cell 2; have c203 : w20.cell? ⟨qx, 3, none⟩ = some (.slice xa b3.ws.length xd) := (HX.out.below T20.out).cell 3; have d200 : w20.cell? ⟨qy, 0, none⟩ = some (.string b3.key) := (HY.out.below T20.out).cell 0; have d201 : w20.cell? ⟨qy, 1, none⟩ = some (.int .i64 b3.ex) := (HY.out.below T20.out).cell 1; have d202 : w20.cell? ⟨qy, 2, none⟩ = some (.slice yp yn yc) := (HY.out.below T20.out).cell 2; have d203 : w20.cell? ⟨qy, 3, none⟩ = some (.slice ya b3.ws.length yd) := (HY.out.below T20.out).cell 3; clear a90 a91 a92 a93 b90 b91 b92 b93 c90 c91 c92 c93 d90 d91 d92 d93; clear hb)
      | (go_at_call_of 15 (Value.agg #[.string b2.key, .int .i64 b2.ex, .slice bp bn bc, .slice ba b2.ws.length bd]); refine (HS2.out _ (bel2 HT5.out T20.out)).mono ?_; rintro e w21 ⟨rfl, hb⟩; have T21 : Hid (Below W5.heap.size W5 w21) := bel2 T20.out hb; have a210 : w21.cell? ⟨w.heap.size, 0, none⟩ = some (.string b.key) := (HA.out.below T21.out).cell 0; have a211 : w21.cell? ⟨w.heap.size, 1, none⟩ = some (.int .i64 b.ex) := (HA.out.below T21.out).cell 1; have a212 : w21.cell? ⟨w.heap.size, 2, none⟩ = some (.slice ap an ac) := (HA.out.below T21.out).cell 2; have a213 : w21.cell? ⟨w.heap.size, 3, none⟩ = some (.slice aa b.ws.length ad) := (HA.out.below T21.out).cell 3; have b210 : w21.cell? ⟨w.heap.size + 1, 0, none⟩ = some (.string b2.key) := (HB.out.below T21.out).cell 0; have b211 : w21.cell? ⟨w.heap.size + 1, 1, none⟩ = some (.int .i64 b2.ex) := (HB.out.below T21.out).cell 1; have b212 : w21.cell? ⟨w.heap.size + 1, 2, none⟩ = some (.slice bp bn bc) := (HB.out.below T21.out).cell 2; have b213 : w21.cell? ⟨w.heap.size + 1, 3, none⟩ = some (.slice ba b2.ws.length bd) := (HB.out.below T21.out).cell 3; have c210 : w21.cell? ⟨qx, 0, none⟩ = some (.string b3.key) := (HX.out.below T21.out).cell 0; have c211 : w21.cell? ⟨qx, 1, none⟩ = some (.int .i64 b3.ex) := (HX.out.below T21.out).cell 1; have c212 : w21.cell? ⟨qx, 2, none⟩ = some (.slice xp xn xc) := (HX.out.below T21.out).cell 2; have c213 : w21.cell? ⟨qx, 3, none⟩ = some (.slice xa b3.ws.length xd) := (HX.out.below T21.out).cell 3; have d210 : w21.cell? ⟨qy, 0, none⟩ = some (.string b3.key) := (HY.out.below T21.out).cell 0; have d211 : w21.cell? ⟨qy, 1, none⟩ = some (.int .i64 b3.ex) := (HY.out.below T21.out).cell 1; have d212 : w21.cell? ⟨qy, 2, none⟩ = some (.slice yp yn yc) := (HY.out.below T21.out).cell 2; have d213 : w21.cell? ⟨qy, 3, none⟩ = some (.slice ya b3.ws.length yd) := (HY.out.below T21.out).cell 3; clear a200 a201 a202 a203 b200 b201 b202 b203 c200 c201 c202 c203 d200 d201 d202 d203; clear hb)
      | (go_at_call 16; refine (HS3.out _ (bel2 HT5.out T21.out)).mono ?_; rintro e w22 ⟨rfl, hb⟩; have T22 : Hid (Below W5.heap.size W5 w22) := bel2 T21.out hb; have a220 : w22.cell? ⟨w.heap.size, 0, none⟩ = some (.string b.key) := (HA.out.below T22.out).cell 0; have a221 : w22.cell? ⟨w.heap.size, 1, none⟩ = some (.int .i64 b.ex) := (HA.out.below T22.out).cell 1; have a222 : w22.cell? ⟨w.heap.size, 2, none⟩ = some (.slice ap an ac) := (HA.out.below T22.out).cell 2; have a223 : w22.cell? ⟨w.heap.size, 3, none⟩ = some (.slice aa b.ws.length ad) := (HA.out.below T22.out).cell 3; have b220 : w22.cell? ⟨w.heap.size + 1, 0, none⟩ = some (.string b2.key) := (HB.out.below T22.out).cell 0; have b221 : w22.cell? ⟨w.heap.size + 1, 1, none⟩ = some (.int .i64 b2.ex) := (HB.out.below T22.out).cell 1; have b222 : w22.cell? ⟨w.heap.size + 1, 2, none⟩ = some (.slice bp bn bc) := (HB.out.below T22.out).cell 2; have b223 : w22.cell? ⟨w.heap.size + 1, 3, none⟩ = some (.slice ba b2.ws.length bd) := (HB.out.below T22.out).cell 3; have c220 : w22.cell? ⟨qx, 0, none⟩ = some (.string b3.key) := (HX.out.below T22.out).cell 0; have c221 : w22.cell? ⟨qx, 1, none⟩ = some (.int .i64 b3.ex) := (HX.out.below T22.out).cell 1; have c222 : w22.cell? ⟨qx, 2, none⟩ = some (.slice xp xn xc) := (HX.out.below T22.out).cell 2; have c223 : w22.cell? ⟨qx, 3, none⟩ = some (.slice xa b3.ws.length xd) := (HX.out.below T22.out).cell 3; have d220 : w22.cell? ⟨qy, 0, none⟩ = some (.string b3.key) := (HY.out.below T22.out).cell 0; have d221 : w22.cell? ⟨qy, 1, none⟩ = some (.int .i64 b3.ex) := (HY.out.below T22.out).cell 1; have d222 : w22.cell? ⟨qy, 2, none⟩ = some (.slice yp yn yc) := (HY.out.below T22.out).cell 2; have d223 : w22.cell? ⟨qy, 3, none⟩ = some (.slice ya b3.ws.length yd) := (HY.out.below T22.out).cell 3; clear a210 a211 a212 a213 b210 b211 b212 b213 c210 c211 c212 c213 d210 d211 d212 d213; clear hb)
      | (go_at_call 7; refine (awake_calls _).mono ?_; rintro e w23 ⟨rfl, hb⟩; have T23 : Hid (Below W5.heap.size W5 w23) := bel2 T22.out hb; have a230 : w23.cell? ⟨w.heap.size, 0, none⟩ = some (.string b.key) := (HA.out.below T23.out).cell 0; have a231 : w23.cell? ⟨w.heap.size, 1, none⟩ = some (.int .i64 b.ex) := (HA.out.below T23.out).cell 1; have a232 : w23.cell? ⟨w.heap.size, 2, none⟩ = some (.slice ap an ac) := (HA.out.below T23.out).cell 2; have a233 : w23.cell? ⟨w.heap.size, 3, none⟩ = some (.slice aa b.ws.length ad) := (HA.out.below T23.out).cell 3; have b230 : w23.cell? ⟨w.heap.size + 1, 0, none⟩ = some (.string b2.key) := (HB.out.below T23.out).cell 0; have b231 : w23.cell? ⟨w.heap.size + 1, 1, none⟩ = some (.int .i64 b2.ex) := (HB.out.below T23.out).cell 1; have b232 : w23.cell? ⟨w.heap.size + 1, 2, none⟩ = some (.slice bp bn bc) := (HB.out.below T23.out).cell 2; have b233 : w23.cell? ⟨w.heap.size + 1, 3, none⟩ = some (.slice ba b2.ws.length bd) := (HB.out.below T23.out).cell 3; have c230 : w23.cell? ⟨qx, 0, none⟩ = some (.string b3.key) := (HX.out.below T23.out).cell 0; have c231 : w23.cell? ⟨qx, 1, none⟩ = some (.int .i64 b3.ex) := (HX.out.below T23.out).cell 1; have c232 : w23.cell? ⟨qx, 2, none⟩ = some (.slice xp xn xc) := (HX.out.below T23.out).cell 2; have c233 : w23.cell? ⟨qx, 3, none⟩ = some (.slice xa b3.ws.length xd) := (HX.out.below T23.out).cell 3; have d230 : w23.cell? ⟨qy, 0, none⟩ = some (.string b3.key) := (HY.out.below T23.out).cell 0; have d231 : w23.cell? ⟨qy, 1, none⟩ = some (.int .i64 b3.ex) := (HY.out.below T23.out).cell 1; have d232 : w23.cell? ⟨qy, 2, none⟩ = some (.slice yp yn yc) := (HY.out.below T23.out).cell 2; have d233 : w23.cell? ⟨qy, 3, none⟩ = some (.slice ya b3.ws.length yd) := (HY.out.below T23.out).cell 3; clear a220 a221 a222 a223 b220 b221 b222 b223 c220 c221 c222 c223 d220 d221 d222 d223; clear hb))
    clear a230 a231 a232 a233 b230 b231 b232 b233 c230 c231 c232 c233 d230 d231 d232 d233
    go_wp2_with fail
    go_ret
    exact ⟨rfl, bel2 HT5.out T23.out⟩
end Go.Proofs.Ytomkoajhjijplaa
