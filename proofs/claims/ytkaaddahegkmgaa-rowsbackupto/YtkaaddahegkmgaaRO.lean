/- The contract of Same of two that are the same. -/
import Derived.Test.YtkaaddahegkmgaaRN
namespace Go.Proofs.Ytkaaddahegkmgaa
open Go.ChangeShapes Go.WideShapes Go.ChangeAt Go.RowKit
theorem sameBytes (v1 v2 : Value) (l : List UInt8) (w : World) (h1 : Lib.HoldsBytes w v1 l) (h2 : Lib.HoldsBytes w v2 l) : Calls Try.prog 16 #[v1, v2] w fun e w' => e = .returned (.bool true) ∧ Below w.heap.size w w' :=
  (equal_calls v1 v2 l l w h1 h2).mono (fun e w' h => by
    obtain ⟨rfl, rfl⟩ := h
    exact ⟨by rw [beq_self_eq_true], Below.refl _ _⟩)
set_option maxHeartbeats 4000000 in
set_option maxRecDepth 100000 in
theorem equalev_calls (P Q : Nat → Prop) (v1 v2 : Value) (xs : List (List UInt8)) (w : World) (h1 : Sl evE P w v1 xs) (h2 : Sl evE Q w v2 xs) :
    Calls Try.prog 32 #[v1, v2, .func (.func 16) #[] #[]] w fun e w' => e = .returned (.bool true) ∧ Below w.heap.size w w' := by
  obtain ⟨a1, c1, rfl, n1, n2, l1⟩ := h1
  obtain ⟨a2, c2, rfl, _, _, l2⟩ := h2
  have H1 : Hid (Ls evE P w a1 xs) := l1
  have H2 : Hid (Ls evE Q w a2 xs) := l2
  have HN : Hid (xs.length ≤ 9223372036854775807) := Nat.le_trans n1 n2
  clear l1 l2 n1 n2
  go_enter Try.func32, Try.ntmps32
  go_wp2_with fail
  go_loopw [7, 8, 9, 17] (fun _ _ _ i wr => ∃ j : Nat, j ≤ xs.length ∧ i = .int .i64 (j : Int) ∧ Hid (Below w.heap.size w wr)) (fun _ _ _ i _ => xs.length - (intOf i).toNat)
  case atStart => exact ⟨0, Nat.zero_le _, rfl, Below.refl _ _⟩
  case round =>
    obtain ⟨j, hj, rfl, HB⟩ := hrel
    by_cases hlt : j < xs.length
    · have hgj := List.getElem?_eq_getElem hlt
      obtain ⟨B, o, vb, rfl, _, k0, hv⟩ := (H1.out.below HB.out).ev j _ hgj
      obtain ⟨B2, o2, vb2, rfl, _, m0, hv2⟩ := (H2.out.below HB.out).ev j _ hgj
      have hjl : (j : Int) < (xs.length : Int) := by omega
      have HW : Hid (wrap64 ((j : Int) + 1) = ((j + 1 : Nat) : Int)) := wr1 hlt HN.out
      generalize xs[j] = x at hv hv2 k0 m0
      obtain ⟨pv, cv, rfl, _⟩ := hv.shape
      obtain ⟨pv2, cv2, rfl, _⟩ := hv2.shape
      have V1 : Hid (∀ W, Below wr.heap.size wr W → Calls Try.prog 16 #[.slice pv x.length cv, .slice pv2 x.length cv2] W fun e w' => e = .returned (.bool true) ∧ Below W.heap.size W w') := fun W hW => sameBytes _ _ x W (hv.below hW).bytes (hv2.below hW).bytes
      clear hgj hv hv2
      go_wp2_with fail
      refine (V1.out wr (Below.refl _ _)).mono ?_
      rintro e w3 ⟨rfl, hb3⟩
      have HB3 : Hid (Below w.heap.size w w3) := bel2 HB.out hb3
      clear hb3
      go_wp2_with fail
      exact ⟨⟨j + 1, hlt, by first | rfl | rw [HW.out], HB3⟩, meas hlt (by first | rfl | exact HW.out)⟩
    · obtain rfl : j = xs.length := by omega
      go_wp2_with fail
      go_ret
      exact ⟨rfl, HB.out⟩
theorem box2 (w : World) (a b : Obj) : Below w.heap.size w ((w.alloc a).alloc b) := bel2 (bel1 _ _) (bel1 _ _)
set_option maxHeartbeats 2000000 in
set_option maxRecDepth 100000 in
theorem sameRow_calls (P Q : Nat → Prop) (x : Rw) (p p2 : Option Addr) (c c2 : Nat) (w : World) (h1 : HB P w (.slice p x.row.length c) x.row) (h2 : HB Q w (.slice p2 x.row.length c2) x.row) :
    Calls Try.prog 34 #[.agg #[.string x.key, .int .i64 x.ver, .slice p x.row.length c], .agg #[.string x.key, .int .i64 x.ver, .slice p2 x.row.length c2]] w fun e w' => e = .returned (.bool true) ∧ Below w.heap.size w w' := by
  obtain ⟨key, ver, row⟩ := x
  dsimp only at h1 h2 ⊢
  have hb := box2 w (.cells #[.string key, .int .i64 ver, .slice p row.length c] 37) (.cells #[.string key, .int .i64 ver, .slice p2 row.length c2] 37)
  have SC : Hid (Calls Try.prog 16 _ _ _) := sameBytes _ _ row _ (h1.below hb).bytes (h2.below hb).bytes
  have HB1 : Hid (Below w.heap.size w _) := hb
  have hk : (key.toList == key.toList) = true := beq_self_eq_true _
  clear h1 h2 hb
  go_enter Try.func34, Try.ntmps34
  go_wp2_with fail
  refine SC.out.mono ?_
  rintro e w3 ⟨rfl, hb3⟩
  go_wp2_with fail
  go_ret
  exact ⟨rfl, bel2 HB1.out hb3⟩
set_option maxHeartbeats 2000000 in
set_option maxRecDepth 100000 in
theorem sameBr_calls (P Q : Nat → Prop) (x : Bn) (p p2 : Option Addr) (c c2 : Nat) (w : World) (h1 : Sl evE P w (.slice p x.ev.length c) x.ev) (h2 : Sl evE Q w (.slice p2 x.ev.length c2) x.ev) :
    Calls Try.prog 36 #[.agg #[.string x.key, .slice p x.ev.length c], .agg #[.string x.key, .slice p2 x.ev.length c2]] w fun e w' => e = .returned (.bool true) ∧ Below w.heap.size w w' := by
  obtain ⟨key, ev⟩ := x
  dsimp only at h1 h2 ⊢
  have hb := box2 w (.cells #[.string key, .slice p ev.length c] 56) (.cells #[.string key, .slice p2 ev.length c2] 56)
  have SC : Hid (Calls Try.prog 32 _ _ _) := equalev_calls P Q _ _ ev _ (h1.below hb) (h2.below hb)
  have HB1 : Hid (Below w.heap.size w _) := hb
  have hk : (key.toList == key.toList) = true := beq_self_eq_true _
  clear h1 h2 hb
  go_enter Try.func36, Try.ntmps36
  go_wp2_with fail
  refine SC.out.mono ?_
  rintro e w3 ⟨rfl, hb3⟩
  go_wp2_with fail
  go_ret
  exact ⟨rfl, bel2 HB1.out hb3⟩
set_option maxHeartbeats 4000000 in
set_option maxRecDepth 100000 in
theorem equalrow_calls (P Q : Nat → Prop) (v1 v2 : Value) (xs : List Rw) (w : World) (h1 : Sl rowE P w v1 xs) (h2 : Sl rowE Q w v2 xs) :
    Calls Try.prog 33 #[v1, v2, .func (.func 34) #[] #[]] w fun e w' => e = .returned (.bool true) ∧ Below w.heap.size w w' := by
  obtain ⟨a1, c1, rfl, n1, n2, l1⟩ := h1
  obtain ⟨a2, c2, rfl, _, _, l2⟩ := h2
  have H1 : Hid (Ls rowE P w a1 xs) := l1
  have H2 : Hid (Ls rowE Q w a2 xs) := l2
  have HN : Hid (xs.length ≤ 9223372036854775807) := Nat.le_trans n1 n2
  clear l1 l2 n1 n2
  go_enter Try.func33, Try.ntmps33
  go_wp2_with fail
  go_loopw [7, 8, 9, 17] (fun _ _ _ i wr => ∃ j : Nat, j ≤ xs.length ∧ i = .int .i64 (j : Int) ∧ Hid (Below w.heap.size w wr)) (fun _ _ _ i _ => xs.length - (intOf i).toNat)
  case atStart => exact ⟨0, Nat.zero_le _, rfl, Below.refl _ _⟩
  case round =>
    obtain ⟨j, hj, rfl, HB⟩ := hrel
    by_cases hlt : j < xs.length
    · have hgj := List.getElem?_eq_getElem hlt
      obtain ⟨B, o, vb, rfl, _, k0, k1, k2, hv⟩ := (H1.out.below HB.out).row j _ hgj
      obtain ⟨B2, o2, vb2, rfl, _, m0, m1, m2, hv2⟩ := (H2.out.below HB.out).row j _ hgj
      have hjl : (j : Int) < (xs.length : Int) := by omega
      have HW : Hid (wrap64 ((j : Int) + 1) = ((j + 1 : Nat) : Int)) := wr1 hlt HN.out
      generalize xs[j] = x at hv hv2 k0 k1 k2 m0 m1 m2
      obtain ⟨pv, cv, rfl, _⟩ := hv.shape
      obtain ⟨pv2, cv2, rfl, _⟩ := hv2.shape
      have V1 : Hid (∀ W, Below wr.heap.size wr W → Calls Try.prog 34 #[.agg #[.string x.key, .int .i64 x.ver, .slice pv x.row.length cv], .agg #[.string x.key, .int .i64 x.ver, .slice pv2 x.row.length cv2]] W fun e w' => e = .returned (.bool true) ∧ Below W.heap.size W w') := fun W hW => sameRow_calls P Q x _ _ _ _ W (hv.below hW) (hv2.below hW)
      clear hgj hv hv2
      have g0 := cell_below m0 (bel1 wr (.cells #[.string x.key, .int .i64 x.ver, .slice pv x.row.length cv] 37))
      have g1 := cell_below m1 (bel1 wr (.cells #[.string x.key, .int .i64 x.ver, .slice pv x.row.length cv] 37))
      have g2 := cell_below m2 (bel1 wr (.cells #[.string x.key, .int .i64 x.ver, .slice pv x.row.length cv] 37))
      go_wp2_with fail
      refine (V1.out _ (box2 wr _ _)).mono ?_
      rintro e w3 ⟨rfl, hb3⟩
      have HB3 : Hid (Below w.heap.size w w3) := bel2 HB.out (bel2 (box2 wr _ _) hb3)
      clear hb3
      go_wp2_with fail
      exact ⟨⟨j + 1, hlt, by first | rfl | rw [HW.out], HB3⟩, meas hlt (by first | rfl | exact HW.out)⟩
    · obtain rfl : j = xs.length := by omega
      go_wp2_with fail
      go_ret
      exact ⟨rfl, HB.out⟩
set_option maxHeartbeats 4000000 in
set_option maxRecDepth 100000 in
theorem equalbr_calls (P Q : Nat → Prop) (v1 v2 : Value) (xs : List Bn) (w : World) (h1 : Sl brE P w v1 xs) (h2 : Sl brE Q w v2 xs) :
    Calls Try.prog 35 #[v1, v2, .func (.func 36) #[] #[]] w fun e w' => e = .returned (.bool true) ∧ Below w.heap.size w w' := by
  obtain ⟨a1, c1, rfl, n1, n2, l1⟩ := h1
  obtain ⟨a2, c2, rfl, _, _, l2⟩ := h2
  have H1 : Hid (Ls brE P w a1 xs) := l1
  have H2 : Hid (Ls brE Q w a2 xs) := l2
  have HN : Hid (xs.length ≤ 9223372036854775807) := Nat.le_trans n1 n2
  clear l1 l2 n1 n2
  go_enter Try.func35, Try.ntmps35
  go_wp2_with fail
  go_loopw [7, 8, 9, 17] (fun _ _ _ i wr => ∃ j : Nat, j ≤ xs.length ∧ i = .int .i64 (j : Int) ∧ Hid (Below w.heap.size w wr)) (fun _ _ _ i _ => xs.length - (intOf i).toNat)
  case atStart => exact ⟨0, Nat.zero_le _, rfl, Below.refl _ _⟩
  case round =>
    obtain ⟨j, hj, rfl, HB⟩ := hrel
    by_cases hlt : j < xs.length
    · have hgj := List.getElem?_eq_getElem hlt
      obtain ⟨B, o, vb, rfl, _, k0, k1, hv⟩ := (H1.out.below HB.out).br j _ hgj
      obtain ⟨B2, o2, vb2, rfl, _, m0, m1, hv2⟩ := (H2.out.below HB.out).br j _ hgj
      have hjl : (j : Int) < (xs.length : Int) := by omega
      have HW : Hid (wrap64 ((j : Int) + 1) = ((j + 1 : Nat) : Int)) := wr1 hlt HN.out
      generalize xs[j] = x at hv hv2 k0 k1 m0 m1
      obtain ⟨pv, cv, rfl, _⟩ := hv.shape
      obtain ⟨pv2, cv2, rfl, _⟩ := hv2.shape
      have V1 : Hid (∀ W, Below wr.heap.size wr W → Calls Try.prog 36 #[.agg #[.string x.key, .slice pv x.ev.length cv], .agg #[.string x.key, .slice pv2 x.ev.length cv2]] W fun e w' => e = .returned (.bool true) ∧ Below W.heap.size W w') := fun W hW => sameBr_calls P Q x _ _ _ _ W (hv.below hW) (hv2.below hW)
      clear hgj hv hv2
      have g0 := cell_below m0 (bel1 wr (.cells #[.string x.key, .slice pv x.ev.length cv] 56))
      have g1 := cell_below m1 (bel1 wr (.cells #[.string x.key, .slice pv x.ev.length cv] 56))
      go_wp2_with fail
      refine (V1.out _ (box2 wr _ _)).mono ?_
      rintro e w3 ⟨rfl, hb3⟩
      have HB3 : Hid (Below w.heap.size w w3) := bel2 HB.out (bel2 (box2 wr _ _) hb3)
      clear hb3
      go_wp2_with fail
      exact ⟨⟨j + 1, hlt, by first | rfl | rw [HW.out], HB3⟩, meas hlt (by first | rfl | exact HW.out)⟩
    · obtain rfl : j = xs.length := by omega
      go_wp2_with fail
      go_ret
      exact ⟨rfl, HB.out⟩
set_option maxHeartbeats 2000000 in
set_option maxRecDepth 100000 in
/-- Same of two that are the same. -/
theorem same_calls (P Q : Nat → Prop) (v1 v2 : Value) (r : Db) (w : World) (h1 : IsR P w v1 r) (h2 : IsR Q w v2 r) : Calls Try.prog 18 #[v1, v2] w fun e w' => e = .returned (.bool true) ∧ Below w.heap.size w w' := by
  obtain ⟨pu, cu, pb, cb, rfl, hu, hb⟩ := h1.shape
  obtain ⟨pu2, cu2, pb2, cb2, rfl, hu2, hb2⟩ := h2.shape
  have hx := box2 w (.cells #[.slice pu r.rows.length cu, .slice pb r.brs.length cb] 25) (.cells #[.slice pu2 r.rows.length cu2, .slice pb2 r.brs.length cb2] 25)
  have HO := old2 w (.cells #[.slice pu r.rows.length cu, .slice pb r.brs.length cb] 25) (.cells #[.slice pu2 r.rows.length cu2, .slice pb2 r.brs.length cb2] 25)
  have HO2 := new2 w (.cells #[.slice pu r.rows.length cu, .slice pb r.brs.length cb] 25) (.cells #[.slice pu2 r.rows.length cu2, .slice pb2 r.brs.length cb2] 25)
  have EB : Hid (∀ W, Below w.heap.size w W → Calls Try.prog 35 _ W _) := fun W hW => equalbr_calls P Q _ _ r.brs W (hb.below hW) (hb2.below hW)
  have ER : Hid (∀ W, Below w.heap.size w W → Calls Try.prog 33 _ W _) := fun W hW => equalrow_calls P Q _ _ r.rows W (hu.below hW) (hu2.below hW)
  clear hu hb hu2 hb2 h1 h2
  go_enter Try.func18, Try.ntmps18
  go_wp2_with fail
  generalize (w.alloc (.cells #[.slice pu r.rows.length cu, .slice pb r.brs.length cb] 25)).alloc (.cells #[.slice pu2 r.rows.length cu2, .slice pb2 r.brs.length cb2] 25) = w1 at hx HO HO2 ⊢
  refine (ER.out _ hx).mono ?_
  rintro e w2 ⟨rfl, hb2⟩
  have HB2 : Hid (Below w.heap.size w w2) := bel2 hx hb2
  have r1 := row_below hb2 HO
  have r2 := row_below hb2 HO2
  have a0 := row_cell r1 (j := 0) rfl
  have a1 := row_cell r1 (j := 1) rfl
  have c0 := row_cell r2 (j := 0) rfl
  have c1 := row_cell r2 (j := 1) rfl
  clear hx hb2 HO HO2 r1 r2
  go_wp2_with fail
  refine (EB.out _ HB2.out).mono ?_
  rintro e w3 ⟨rfl, hb3⟩
  go_wp2_with fail
  go_ret
  exact ⟨rfl, bel2 HB2.out hb3⟩
end Go.Proofs.Ytkaaddahegkmgaa
