/- The walk of RowsCodes. -/
import Derived.Test.YtkaaddahegkmgaaGreatTE
import Derived.Test.YtkaaddahegkmgaaGreatTR
import Derived.Test.YtkaaddahegkmgaaGreatTP
import Derived.Test.YtkaaddahegkmgaaGreatTO
import Derived.Test.YtkaaddahegkmgaaGreatMU
import Derived.BigRegion
import Derived.Deep.RegionHeld3
namespace Go.Proofs.YtkaaddahegkmgaaGreat
open Go.ChangeShapes Go.WideShapes Go.ChangeAt Go.RowKit
theorem same_as {P : Prop} {R r : Bool} (h : R = true ↔ P) (h2 : r = true ↔ P) : r = R := by
  cases R <;> cases r <;> simp_all
set_option maxHeartbeats 16000000 in
set_option maxRecDepth 100000 in
theorem codes_walk (v0 v1 : Value) (p : Option Addr) (n c0 : Nat) (r s : Db) (bl : List UInt8) (w : World) (h0 : IsR (fun _ => True) w v0 r) (h1 : IsR (fun _ => True) w v1 s) (hx : Lib.HoldsBytes w (.slice p n c0) bl) (hz : szDk r ≤ 1048576) (hz1 : szDk s ≤ 1048576) (hl : bl.length ≤ 1048576) :
    Calls Tryz.prog 3 #[v0, v1, .slice p n c0] w fun e w' => e = .returned (.bool true) ∧ Below w.heap.size w w' := by
  obtain ⟨pu, cu, pb, cb, rfl, _, _⟩ := h0.shape
  obtain ⟨pu2, cu2, pb2, cb2, rfl, _, _⟩ := h1.shape
  have few0 : fewN r [] ≤ 100000000 := by have h1 := szDk_db r; have h2 := evN_sz r; simp only [fewN, wsAll, List.map_nil, List.sum_nil]; omega
  have few1 : fewN s [] ≤ 100000000 := by have h1 := szDk_db s; have h2 := evN_sz s; simp only [fewN, wsAll, List.map_nil, List.sum_nil]; omega
  have HF1 : Hid (∀ W, Below w.heap.size w W → _) := fun W (hB : Below w.heap.size w W) => few_calls _ r none 0 0 [] rfl W (h0.below hB) (Ls.nil _ _ _) few0 (by decide)
  have HF2 : Hid (∀ W, Below w.heap.size w W → _) := fun W (hB : Below w.heap.size w W) => few_calls _ s none 0 0 [] rfl W (h1.below hB) (Ls.nil _ _ _) few1 (by decide)
  have HD1 : Hid (∀ W, Below w.heap.size w W → Calls Tryz.prog 6 #[.slice p n c0] W (DcX bl W)) := fun W hB => decodeX _ bl W (holds_below hx hB) (by omega)
  have HD2 : Hid (∀ W, Below w.heap.size w W → Calls Tryz.prog 7 #[.slice p n c0] W (DcX bl W)) := fun W hB => rdecodeX _ bl W (holds_below hx hB) (by omega)
  obtain ⟨R, hR⟩ : ∃ R : Bool, R = true ↔ r = s := ⟨@decide (r = s) (Classical.propDecidable _), by simp⟩
  have HS1 : Hid (∀ W, Below w.heap.size w W → Calls Tryz.prog 12 #[.agg #[.slice pu r.rows.length cu, .slice pb r.brs.length cb], .agg #[.slice pu2 s.rows.length cu2, .slice pb2 s.brs.length cb2]] W fun e w' => e = .returned (.bool R) ∧ Below W.heap.size W w') := fun W hB => (sameX _ _ r s W (h0.below hB) (h1.below hB)).mono fun e w' ⟨⟨r, he, hr⟩, hb⟩ => ⟨by rw [he, same_as hR hr], hb⟩
  have HS2 : Hid (∀ W, Below w.heap.size w W → Calls Tryz.prog 11 #[.agg #[.slice pu r.rows.length cu, .slice pb r.brs.length cb], .agg #[.slice pu2 s.rows.length cu2, .slice pb2 s.brs.length cb2]] W fun e w' => e = .returned (.bool R) ∧ Below W.heap.size W w') := fun W hB => (rsameX _ _ r s W (h0.below hB) (h1.below hB)).mono fun e w' ⟨⟨r, he, hr⟩, hb⟩ => ⟨by rw [he, same_as hR hr], hb⟩
  have HS3 : Hid (∀ W, Below w.heap.size w W → Calls Tryz.prog 12 #[.agg #[.slice pu r.rows.length cu, .slice pb r.brs.length cb], .agg #[.slice pu r.rows.length cu, .slice pb r.brs.length cb]] W fun e w' => e = .returned (.bool true) ∧ Below W.heap.size W w') := fun W hB => (sameX _ _ r r W (h0.below hB) (h0.below hB)).mono fun e w' ⟨⟨r, he, hr⟩, hb⟩ => by
    obtain rfl := hr.2 rfl
    exact ⟨he, hb⟩
  have HBG : Hid (fewN r [] ≤ 400 → BgD r) := fun h => bgD_of hz (Nat.le_refl _) (by simp only [fewN, wsAll, List.map_nil, List.sum_nil] at h; omega)
  have HR0 : Hid (IsR (fun _ => True) w (.agg #[.slice pu r.rows.length cu, .slice pb r.brs.length cb]) r) := h0
  clear hx hl hR few0 few1 h0 h1 hz hz1
  have k0 := (Bk.new w #[.slice pu r.rows.length cu, .slice pb r.brs.length cb] 25).below (bel1 _ (.cells #[.slice pu2 s.rows.length cu2, .slice pb2 s.brs.length cb2] 25))
  have k1 := Bk.new (w.alloc (.cells #[.slice pu r.rows.length cu, .slice pb r.brs.length cb] 25)) #[.slice pu2 s.rows.length cu2, .slice pb2 s.brs.length cb2] 25
  have hz : (w.alloc (.cells #[.slice pu r.rows.length cu, .slice pb r.brs.length cb] 25)).heap.size = w.heap.size + 1 := by simp
  rw [hz] at k1
  have hbb : Below w.heap.size w ((w.alloc (.cells #[.slice pu r.rows.length cu, .slice pb r.brs.length cb] 25)).alloc (.cells #[.slice pu2 s.rows.length cu2, .slice pb2 s.brs.length cb2] 25)) := bel2 (bel1 _ _) (bel1 _ _)
  obtain ⟨W0, hW0⟩ : ∃ W0, W0 = (w.alloc (.cells #[.slice pu r.rows.length cu, .slice pb r.brs.length cb] 25)).alloc (.cells #[.slice pu2 s.rows.length cu2, .slice pb2 s.brs.length cb2] 25) := ⟨_, rfl⟩
  rw [← hW0] at k0 k1 hbb
  have HW0 : Hid (W0 = _) := hW0
  have HA0 : Hid (Bk W0 w.heap.size #[.slice pu r.rows.length cu, .slice pb r.brs.length cb] 25) := k0
  have HB0 : Hid (Bk W0 (w.heap.size + 1) #[.slice pu2 s.rows.length cu2, .slice pb2 s.brs.length cb2] 25) := k1
  have HBB : Hid (Below w.heap.size w W0) := hbb
  clear k0 k1 hz hbb hW0
  go_enter Tryz.func3, Tryz.ntmps3
  go_upto_region 1 with fail
  rw [← HW0.out]
  clear HW0
  have x0 : W0.cell? ⟨w.heap.size, 0, none⟩ = some (.slice pu r.rows.length cu) := HA0.out.cell 0
  have x1 : W0.cell? ⟨w.heap.size, 1, none⟩ = some (.slice pb r.brs.length cb) := HA0.out.cell 1
  go_wp2_with fail
  refine (HF1.out W0 HBB.out).mono ?_
  rintro e w1 ⟨rfl, hb1⟩
  have T1 : Hid (Below W0.heap.size W0 w1) := hb1
  clear hb1 x0 x1 HF1
  by_cases hf1 : fewN r [] ≤ 400
  · rw [decide_eq_true hf1]
    have HBD : Hid (BgD r) := HBG.out hf1
    clear hf1 HBG
    have x0 : w1.cell? ⟨w.heap.size + 1, 0, none⟩ = some (.slice pu2 s.rows.length cu2) := (HB0.out.below T1.out).cell 0
    have x1 : w1.cell? ⟨w.heap.size + 1, 1, none⟩ = some (.slice pb2 s.brs.length cb2) := (HB0.out.below T1.out).cell 1
    go_wp2_with fail
    refine (HF2.out w1 (bel2 HBB.out T1.out)).mono ?_
    rintro e w2 ⟨rfl, hb2⟩
    have T2 : Hid (Below W0.heap.size W0 w2) := bel2 T1.out hb2
    clear hb2 x0 x1 HF2 T1
    by_cases hf2 : fewN s [] ≤ 400
    · rw [decide_eq_true hf2]
      clear hf2
      go_wp2_with fail
      refine (HD1.out w2 (bel2 HBB.out T2.out)).mono ?_
      rintro e w3 ⟨⟨u3, b3, x3, E, rfl, hu, hd⟩, hb3⟩
      obtain ⟨px, cx, pxb, cxb, he3, _, _⟩ := hu.shape
      cases he3
      have HDE : Hid (DeX (rdD bl) E x3) := hd
      have U0 : Hid (IsR (fun _ => True) (w3.alloc (.cells #[.slice px x3.rows.length cx, .slice pxb x3.brs.length cxb] 25)) (.agg #[.slice px x3.rows.length cx, .slice pxb x3.brs.length cxb]) x3) := hu.below (bel1 _ _)
      have HX0 : Hid (Bk (w3.alloc (.cells #[.slice px x3.rows.length cx, .slice pxb x3.brs.length cxb] 25)) w3.heap.size #[.slice px x3.rows.length cx, .slice pxb x3.brs.length cxb] 25) := Bk.new w3 _ _
      have T5 : Hid (Below W0.heap.size W0 (w3.alloc (.cells #[.slice px x3.rows.length cx, .slice pxb x3.brs.length cxb] 25))) := bel2 (bel2 T2.out hb3) (bel1 _ _)
      obtain ⟨W3, hW⟩ : ∃ W3, W3 = w3.alloc (.cells #[.slice px x3.rows.length cx, .slice pxb x3.brs.length cxb] 25) := ⟨_, rfl⟩
      obtain ⟨qx, hq⟩ : ∃ q, q = w3.heap.size := ⟨_, rfl⟩
      rw [← hW] at U0 HX0 T5
      rw [← hq] at HX0
      have HW3 : Hid (W3 = _) := hW
      have HQX : Hid (qx = w3.heap.size) := hq
      clear hu hd hb3 hW hq HD1 T2
      go_upto_region 4 with fail
      rw [← HW3.out, ← HQX.out]
      clear HW3 HQX
      go_wp2_with fail
      refine (HD2.out W3 (bel2 HBB.out T5.out)).mono ?_
      rintro e w6 ⟨⟨u4, b4, x4, E4, rfl, hu, hd⟩, hb6⟩
      obtain ⟨rfl, rfl⟩ := DeX.det HDE.out hd
      obtain ⟨py, cy, pyb, cyb, he4, _, _⟩ := hu.shape
      cases he4
      have U2 : Hid (IsR (fun _ => True) (w6.alloc (.cells #[.slice py x3.rows.length cy, .slice pyb x3.brs.length cyb] 25)) (.agg #[.slice py x3.rows.length cy, .slice pyb x3.brs.length cyb]) x3) := hu.below (bel1 _ _)
      have U1 : Hid (IsR (fun _ => True) (w6.alloc (.cells #[.slice py x3.rows.length cy, .slice pyb x3.brs.length cyb] 25)) (.agg #[.slice px x3.rows.length cx, .slice pxb x3.brs.length cxb]) x3) := (U0.out.below hb6).below (bel1 _ _)
      have HY : Hid (Bk (w6.alloc (.cells #[.slice py x3.rows.length cy, .slice pyb x3.brs.length cyb] 25)) w6.heap.size #[.slice py x3.rows.length cy, .slice pyb x3.brs.length cyb] 25) := Bk.new w6 _ _
      have HX : Hid (Bk (w6.alloc (.cells #[.slice py x3.rows.length cy, .slice pyb x3.brs.length cyb] 25)) qx #[.slice px x3.rows.length cx, .slice pxb x3.brs.length cxb] 25) := (HX0.out.below hb6).below (bel1 _ _)
      have HT : Hid (Below W0.heap.size W0 (w6.alloc (.cells #[.slice py x3.rows.length cy, .slice pyb x3.brs.length cyb] 25))) := bel2 (bel2 T5.out hb6) (bel1 _ _)
      obtain ⟨W5, hW⟩ : ∃ W5, W5 = w6.alloc (.cells #[.slice py x3.rows.length cy, .slice pyb x3.brs.length cyb] 25) := ⟨_, rfl⟩
      obtain ⟨qy, hq⟩ : ∃ q, q = w6.heap.size := ⟨_, rfl⟩
      rw [← hW] at U1 U2 HY HX HT
      rw [← hq] at HY
      have HW5 : Hid (W5 = _) := hW
      have HQY : Hid (qy = w6.heap.size) := hq
      have HA : Hid (Bk W5 w.heap.size #[.slice pu r.rows.length cu, .slice pb r.brs.length cb] 25) := HA0.out.below HT.out
      have HB : Hid (Bk W5 (w.heap.size + 1) #[.slice pu2 s.rows.length cu2, .slice pb2 s.brs.length cb2] 25) := HB0.out.below HT.out
      have HT5 : Hid (Below w.heap.size w W5) := bel2 HBB.out HT.out
      have HSx : Hid (∀ W, Below W5.heap.size W5 W → Calls Tryz.prog 11 #[.agg #[.slice px x3.rows.length cx, .slice pxb x3.brs.length cxb], .agg #[.slice py x3.rows.length cy, .slice pyb x3.brs.length cyb]] W fun e w' => e = .returned (.bool true) ∧ Below W.heap.size W w') := fun W hB => (rsameX _ _ x3 x3 W (U1.out.below hB) (U2.out.below hB)).mono fun e w' ⟨⟨r, he, hr⟩, hb⟩ => by
        obtain rfl := hr.2 rfl
        exact ⟨he, hb⟩
      have HE1 : Hid (∀ W, Below w.heap.size w W → Calls Tryz.prog 9 #[.agg #[.slice pu r.rows.length cu, .slice pb r.brs.length cb]] W fun e w' => ∃ u, e = .returned u ∧ Lib.HoldsBytes w' u (encD r) ∧ Below W.heap.size W w') := fun W hB => encode_calls _ r W (HR0.out.below hB) HBD.out
      have HE2 : Hid (∀ W, Below w.heap.size w W → Calls Tryz.prog 10 #[.agg #[.slice pu r.rows.length cu, .slice pb r.brs.length cb]] W fun e w' => ∃ u, e = .returned u ∧ Lib.HoldsBytes w' u (encD r) ∧ Below W.heap.size W w') := fun W hB => rencode_calls _ r W (HR0.out.below hB) HBD.out
      clear hu hd hb6 hW hq HD2 T5 U0 HX0 HT HA0 HB0 HBB HDE
      go_upto_region 5 with fail
      rw [← HW5.out, ← HQY.out]
      clear HW5 HQY U1 U2
      have a50 : W5.cell? ⟨w.heap.size, 0, none⟩ = some (.slice pu r.rows.length cu) := (HA.out.below (Below.refl _ W5)).cell 0
      have a51 : W5.cell? ⟨w.heap.size, 1, none⟩ = some (.slice pb r.brs.length cb) := (HA.out.below (Below.refl _ W5)).cell 1
      have b50 : W5.cell? ⟨w.heap.size + 1, 0, none⟩ = some (.slice pu2 s.rows.length cu2) := (HB.out.below (Below.refl _ W5)).cell 0
      have b51 : W5.cell? ⟨w.heap.size + 1, 1, none⟩ = some (.slice pb2 s.brs.length cb2) := (HB.out.below (Below.refl _ W5)).cell 1
      have c50 : W5.cell? ⟨qx, 0, none⟩ = some (.slice px x3.rows.length cx) := (HX.out.below (Below.refl _ W5)).cell 0
      have c51 : W5.cell? ⟨qx, 1, none⟩ = some (.slice pxb x3.brs.length cxb) := (HX.out.below (Below.refl _ W5)).cell 1
      have d50 : W5.cell? ⟨qy, 0, none⟩ = some (.slice py x3.rows.length cy) := (HY.out.below (Below.refl _ W5)).cell 0
      have d51 : W5.cell? ⟨qy, 1, none⟩ = some (.slice pyb x3.brs.length cyb) := (HY.out.below (Below.refl _ W5)).cell 1
      go_region_held3 (fun w' => w'.cell? ⟨w.heap.size, 0, none⟩ = some (.slice pu r.rows.length cu) ∧ w'.cell? ⟨w.heap.size, 1, none⟩ = some (.slice pb r.brs.length cb) ∧ w'.cell? ⟨w.heap.size + 1, 0, none⟩ = some (.slice pu2 s.rows.length cu2) ∧ w'.cell? ⟨w.heap.size + 1, 1, none⟩ = some (.slice pb2 s.brs.length cb2) ∧ w'.cell? ⟨qx, 0, none⟩ = some (.slice px x3.rows.length cx) ∧ w'.cell? ⟨qx, 1, none⟩ = some (.slice pxb x3.brs.length cxb) ∧ w'.cell? ⟨qy, 0, none⟩ = some (.slice py x3.rows.length cy) ∧ w'.cell? ⟨qy, 1, none⟩ = some (.slice pyb x3.brs.length cyb)) (go_keep) (first
        | (go_at_call 9; refine (HE1.out _ (bel2 HT5.out (Below.refl _ W5).drew)).mono ?_; rintro e w6 ⟨u6, rfl, hh6, hb⟩; have T6 : Hid (Below W5.heap.size W5 w6) := bel2 (Below.refl _ W5).drew hb; obtain ⟨p6, n6, c6, rfl⟩ : ∃ p n c, u6 = .slice p n c := (by obtain ⟨p, c, rfl, _⟩ := hh6; exact ⟨_, _, _, rfl⟩); have G6 : Hid (Lib.HoldsBytes w6 (.slice p6 n6 c6) (encD r)) := hh6; clear hh6; have a60 : w6.cell? ⟨w.heap.size, 0, none⟩ = some (.slice pu r.rows.length cu) := (HA.out.below T6.out).cell 0; have a61 : w6.cell? ⟨w.heap.size, 1, none⟩ = some (.slice pb r.brs.length cb) := (HA.out.below T6.out).cell 1; have b60 : w6.cell? ⟨w.heap.size + 1, 0, none⟩ = some (.slice pu2 s.rows.length cu2) := (HB.out.below T6.out).cell 0; have b61 : w6.cell? ⟨w.heap.size + 1, 1, none⟩ = some (.slice pb2 s.brs.length cb2) := (HB.out.below T6.out).cell 1; have c60 : w6.cell? ⟨qx, 0, none⟩ = some (.slice px x3.rows.length cx) := (HX.out.below T6.out).cell 0; have c61 : w6.cell? ⟨qx, 1, none⟩ = some (.slice pxb x3.brs.length cxb) := (HX.out.below T6.out).cell 1; have d60 : w6.cell? ⟨qy, 0, none⟩ = some (.slice py x3.rows.length cy) := (HY.out.below T6.out).cell 0; have d61 : w6.cell? ⟨qy, 1, none⟩ = some (.slice pyb x3.brs.length cyb) := (HY.out.below T6.out).cell 1; clear a50 a51 b50 b51 c50 c51 d50 d51; clear hb)
        | (go_at_call 10; refine (HE2.out _ (bel2 HT5.out T6.out)).mono ?_; rintro e w7 ⟨u7, rfl, hh7, hb⟩; have T7 : Hid (Below W5.heap.size W5 w7) := bel2 T6.out hb; obtain ⟨p7, n7, c7, rfl⟩ : ∃ p n c, u7 = .slice p n c := (by obtain ⟨p, c, rfl, _⟩ := hh7; exact ⟨_, _, _, rfl⟩); have G7 : Hid (Lib.HoldsBytes w7 (.slice p6 n6 c6) (encD r) ∧ Lib.HoldsBytes w7 (.slice p7 n7 c7) (encD r)) := ⟨holds_below G6.out hb, hh7⟩; clear hh7 G6; have a70 : w7.cell? ⟨w.heap.size, 0, none⟩ = some (.slice pu r.rows.length cu) := (HA.out.below T7.out).cell 0; have a71 : w7.cell? ⟨w.heap.size, 1, none⟩ = some (.slice pb r.brs.length cb) := (HA.out.below T7.out).cell 1; have b70 : w7.cell? ⟨w.heap.size + 1, 0, none⟩ = some (.slice pu2 s.rows.length cu2) := (HB.out.below T7.out).cell 0; have b71 : w7.cell? ⟨w.heap.size + 1, 1, none⟩ = some (.slice pb2 s.brs.length cb2) := (HB.out.below T7.out).cell 1; have c70 : w7.cell? ⟨qx, 0, none⟩ = some (.slice px x3.rows.length cx) := (HX.out.below T7.out).cell 0; have c71 : w7.cell? ⟨qx, 1, none⟩ = some (.slice pxb x3.brs.length cxb) := (HX.out.below T7.out).cell 1; have d70 : w7.cell? ⟨qy, 0, none⟩ = some (.slice py x3.rows.length cy) := (HY.out.below T7.out).cell 0; have d71 : w7.cell? ⟨qy, 1, none⟩ = some (.slice pyb x3.brs.length cyb) := (HY.out.below T7.out).cell 1; clear a60 a61 b60 b61 c60 c61 d60 d61; clear hb)
        | (go_at_call 8; refine (equal_calls _ _ (encD r) (encD r) _ G7.out.1 G7.out.2).mono ?_; rintro e w8 ⟨he, hw⟩; rw [beq_self_eq_true] at he; subst he; have hb : Below w7.heap.size w7 w8 := (by rw [hw]; exact Below.refl _ _); have T8 : Hid (Below W5.heap.size W5 w8) := bel2 T7.out hb; clear hw G7; have a80 : w8.cell? ⟨w.heap.size, 0, none⟩ = some (.slice pu r.rows.length cu) := (HA.out.below T8.out).cell 0; have a81 : w8.cell? ⟨w.heap.size, 1, none⟩ = some (.slice pb r.brs.length cb) := (HA.out.below T8.out).cell 1; have b80 : w8.cell? ⟨w.heap.size + 1, 0, none⟩ = some (.slice pu2 s.rows.length cu2) := (HB.out.below T8.out).cell 0; have b81 : w8.cell? ⟨w.heap.size + 1, 1, none⟩ = some (.slice pb2 s.brs.length cb2) := (HB.out.below T8.out).cell 1; have c80 : w8.cell? ⟨qx, 0, none⟩ = some (.slice px x3.rows.length cx) := (HX.out.below T8.out).cell 0; have c81 : w8.cell? ⟨qx, 1, none⟩ = some (.slice pxb x3.brs.length cxb) := (HX.out.below T8.out).cell 1; have d80 : w8.cell? ⟨qy, 0, none⟩ = some (.slice py x3.rows.length cy) := (HY.out.below T8.out).cell 0; have d81 : w8.cell? ⟨qy, 1, none⟩ = some (.slice pyb x3.brs.length cyb) := (HY.out.below T8.out).cell 1; clear a70 a71 b70 b71 c70 c71 d70 d71; clear hb)
        | (go_at_call_of 11 (Value.agg #[.slice px x3.rows.length cx, .slice pxb x3.brs.length cxb]); refine (HSx.out _ T8.out).mono ?_; rintro e w9 ⟨rfl, hb⟩; have T9 : Hid (Below W5.heap.size W5 w9) := bel2 T8.out hb; have a90 : w9.cell? ⟨w.heap.size, 0, none⟩ = some (.slice pu r.rows.length cu) := (HA.out.below T9.out).cell 0; have a91 : w9.cell? ⟨w.heap.size, 1, none⟩ = some (.slice pb r.brs.length cb) := (HA.out.below T9.out).cell 1; have b90 : w9.cell? ⟨w.heap.size + 1, 0, none⟩ = some (.slice pu2 s.rows.length cu2) := (HB.out.below T9.out).cell 0; have b91 : w9.cell? ⟨w.heap.size + 1, 1, none⟩ = some (.slice pb2 s.brs.length cb2) := (HB.out.below T9.out).cell 1; have c90 : w9.cell? ⟨qx, 0, none⟩ = some (.slice px x3.rows.length cx) := (HX.out.below T9.out).cell 0; have c91 : w9.cell? ⟨qx, 1, none⟩ = some (.slice pxb x3.brs.length cxb) := (HX.out.below T9.out).cell 1; have d90 : w9.cell? ⟨qy, 0, none⟩ = some (.slice py x3.rows.length cy) := (HY.out.below T9.out).cell 0; have d91 : w9.cell? ⟨qy, 1, none⟩ = some (.slice pyb x3.brs.length cyb) := (HY.out.below T9.out).cell 1; clear a80 a81 b80 b81 c80 c81 d80 d81; clear hb)
        | (go_at_call_of 12 (Value.agg #[.slice pu2 s.rows.length cu2, .slice pb2 s.brs.length cb2]); refine (HS1.out _ (bel2 HT5.out T9.out)).mono ?_; rintro e w20 ⟨rfl, hb⟩; have T20 : Hid (Below W5.heap.size W5 w20) := bel2 T9.out hb; have a200 : w20.cell? ⟨w.heap.size, 0, none⟩ = some (.slice pu r.rows.length cu) := (HA.out.below T20.out).cell 0; have a201 : w20.cell? ⟨w.heap.size, 1, none⟩ = some (.slice pb r.brs.length cb) := (HA.out.below T20.out).cell 1; have b200 : w20.cell? ⟨w.heap.size + 1, 0, none⟩ = some (.slice pu2 s.rows.length cu2) := (HB.out.below T20.out).cell 0; have b201 : w20.cell? ⟨w.heap.size + 1, 1, none⟩ = some (.slice pb2 s.brs.length cb2) := (HB.out.below T20.out).cell 1; have c200 : w20.cell? ⟨qx, 0, none⟩ = some (.slice px x3.rows.length cx) := (HX.out.below T20.out).cell 0; have c201 : w20.cell? ⟨qx, 1, none⟩ = some (.slice pxb x3.brs.length cxb) := (HX.out.below T20.out).cell 1; have d200 : w20.cell? ⟨qy, 0, none⟩ = some (.slice py x3.rows.length cy) := (HY.out.below T20.out).cell 0; have d201 : w20.cell? ⟨qy, 1, none⟩ = some (.slice pyb x3.brs.length cyb) := (HY.out.below T20.out).cell 1; clear a90 a91 b90 b91 c90 c91 d90 d91; clear hb)
        | (go_at_call_of 11 (Value.agg #[.slice pu2 s.rows.length cu2, .slice pb2 s.brs.length cb2]); refine (HS2.out _ (bel2 HT5.out T20.out)).mono ?_; rintro e w21 ⟨rfl, hb⟩; have T21 : Hid (Below W5.heap.size W5 w21) := bel2 T20.out hb; have a210 : w21.cell? ⟨w.heap.size, 0, none⟩ = some (.slice pu r.rows.length cu) := (HA.out.below T21.out).cell 0; have a211 : w21.cell? ⟨w.heap.size, 1, none⟩ = some (.slice pb r.brs.length cb) := (HA.out.below T21.out).cell 1; have b210 : w21.cell? ⟨w.heap.size + 1, 0, none⟩ = some (.slice pu2 s.rows.length cu2) := (HB.out.below T21.out).cell 0; have b211 : w21.cell? ⟨w.heap.size + 1, 1, none⟩ = some (.slice pb2 s.brs.length cb2) := (HB.out.below T21.out).cell 1; have c210 : w21.cell? ⟨qx, 0, none⟩ = some (.slice px x3.rows.length cx) := (HX.out.below T21.out).cell 0; have c211 : w21.cell? ⟨qx, 1, none⟩ = some (.slice pxb x3.brs.length cxb) := (HX.out.below T21.out).cell 1; have d210 : w21.cell? ⟨qy, 0, none⟩ = some (.slice py x3.rows.length cy) := (HY.out.below T21.out).cell 0; have d211 : w21.cell? ⟨qy, 1, none⟩ = some (.slice pyb x3.brs.length cyb) := (HY.out.below T21.out).cell 1; clear a200 a201 b200 b201 c200 c201 d200 d201; clear hb)
        | (go_at_call 12; refine (HS3.out _ (bel2 HT5.out T21.out)).mono ?_; rintro e w22 ⟨rfl, hb⟩; have T22 : Hid (Below W5.heap.size W5 w22) := bel2 T21.out hb; have a220 : w22.cell? ⟨w.heap.size, 0, none⟩ = some (.slice pu r.rows.length cu) := (HA.out.below T22.out).cell 0; have a221 : w22.cell? ⟨w.heap.size, 1, none⟩ = some (.slice pb r.brs.length cb) := (HA.out.below T22.out).cell 1; have b220 : w22.cell? ⟨w.heap.size + 1, 0, none⟩ = some (.slice pu2 s.rows.length cu2) := (HB.out.below T22.out).cell 0; have b221 : w22.cell? ⟨w.heap.size + 1, 1, none⟩ = some (.slice pb2 s.brs.length cb2) := (HB.out.below T22.out).cell 1; have c220 : w22.cell? ⟨qx, 0, none⟩ = some (.slice px x3.rows.length cx) := (HX.out.below T22.out).cell 0; have c221 : w22.cell? ⟨qx, 1, none⟩ = some (.slice pxb x3.brs.length cxb) := (HX.out.below T22.out).cell 1; have d220 : w22.cell? ⟨qy, 0, none⟩ = some (.slice py x3.rows.length cy) := (HY.out.below T22.out).cell 0; have d221 : w22.cell? ⟨qy, 1, none⟩ = some (.slice pyb x3.brs.length cyb) := (HY.out.below T22.out).cell 1; clear a210 a211 b210 b211 c210 c211 d210 d211; clear hb)
        | (go_at_call 5; refine (awake_calls _).mono ?_; rintro e w23 ⟨rfl, hb⟩; have T23 : Hid (Below W5.heap.size W5 w23) := bel2 T22.out hb; have a230 : w23.cell? ⟨w.heap.size, 0, none⟩ = some (.slice pu r.rows.length cu) := (HA.out.below T23.out).cell 0; have a231 : w23.cell? ⟨w.heap.size, 1, none⟩ = some (.slice pb r.brs.length cb) := (HA.out.below T23.out).cell 1; have b230 : w23.cell? ⟨w.heap.size + 1, 0, none⟩ = some (.slice pu2 s.rows.length cu2) := (HB.out.below T23.out).cell 0; have b231 : w23.cell? ⟨w.heap.size + 1, 1, none⟩ = some (.slice pb2 s.brs.length cb2) := (HB.out.below T23.out).cell 1; have c230 : w23.cell? ⟨qx, 0, none⟩ = some (.slice px x3.rows.length cx) := (HX.out.below T23.out).cell 0; have c231 : w23.cell? ⟨qx, 1, none⟩ = some (.slice pxb x3.brs.length cxb) := (HX.out.below T23.out).cell 1; have d230 : w23.cell? ⟨qy, 0, none⟩ = some (.slice py x3.rows.length cy) := (HY.out.below T23.out).cell 0; have d231 : w23.cell? ⟨qy, 1, none⟩ = some (.slice pyb x3.brs.length cyb) := (HY.out.below T23.out).cell 1; clear a220 a221 b220 b221 c220 c221 d220 d221; clear hb))
      clear a230 a231 b230 b231 c230 c231 d230 d231
      go_wp2_with fail
      go_ret
      exact ⟨rfl, bel2 HT5.out T23.out⟩
    · rw [decide_eq_false hf2]
      clear hf2
      go_wp2_with fail
      refine (awake_calls _).mono ?_
      rintro e w3 ⟨rfl, hb3⟩
      have T3 : Hid (Below W0.heap.size W0 w3) := bel2 T2.out hb3
      clear hb3
      go_wp2_with fail
      go_ret
      exact ⟨rfl, bel2 HBB.out T3.out⟩
  · rw [decide_eq_false hf1]
    clear hf1
    go_wp2_with fail
    refine (awake_calls _).mono ?_
    rintro e w2 ⟨rfl, hb2⟩
    have T2 : Hid (Below W0.heap.size W0 w2) := bel2 T1.out hb2
    clear hb2
    go_wp2_with fail
    go_ret
    exact ⟨rfl, bel2 HBB.out T2.out⟩
end Go.Proofs.YtkaaddahegkmgaaGreat
