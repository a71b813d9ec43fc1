/- The contracts of slices.EqualFunc over a list that lies twice, and of few. -/
import Derived.Test.YtimiklekajelfaaSL
import Derived.Test.YtimiklekajelfaaSO
namespace Go.Proofs.Ytimiklekajelfaa
open Go.ChangeShapes Go.WideShapes Go.ChangeAt Go.RowKit
set_option maxHeartbeats 1000000 in
set_option maxRecDepth 100000 in
theorem efs_calls (P P2 : Nat → Prop) (a a2 : Option Addr) (c c2 N : Nat) (xs : List Sp) (hN : xs.length = N) (hm : N ≤ 9223372036854775807) (w : World) (h : LsS P w a xs) (h2 : LsS P2 w a2 xs) :
    Calls Try.prog 14 #[.slice a N c, .slice a2 N c2, .func (.func 18) #[] #[]] w fun e w' => e = .returned (.bool true) ∧ Below w.heap.size w w' := by
  have HI : Hid (LsS P w a xs) := h
  have HI2 : Hid (LsS P2 w a2 xs) := h2
  have HN : Hid (xs.length = N ∧ N ≤ 9223372036854775807) := ⟨hN, hm⟩
  have dl : ((N : Int) != (N : Int)) = false := by simp
  clear h h2 hN hm
  go_enter Try.func14, Try.ntmps14
  go_wp2_with fail
  go_loopw [7, 8, 9, 17] (fun _ _ _ i wr => ∃ j : Nat, j ≤ N ∧ i = .int .i64 (j : Int) ∧ Hid (Below w.heap.size w wr)) (fun _ _ _ i _ => N - (intOf i).toNat)
  case atStart => exact ⟨0, Nat.zero_le _, rfl, Below.refl _ _⟩
  case round =>
    obtain ⟨j, hj, rfl, HB⟩ := hrel
    by_cases hlt : j < N
    · have hjl : (j : Int) < (N : Int) := by omega
      obtain ⟨x, hx⟩ : ∃ x, xs[j]? = some x := ⟨_, List.getElem?_eq_getElem (by have := HN.out; omega)⟩
      obtain ⟨B, o, vb, vk, rfl, _, h5, hv⟩ := HI.out j x hx
      obtain ⟨B', o', vb', vk', rfl, _, h5', hv'⟩ := HI2.out j x hx
      have HV : Hid (IsV P w vb vk x) := hv
      have HV' : Hid (IsV P2 w vb' vk' x) := hv'
      have HW : Hid (wrap64 ((j : Int) + 1) = ((j + 1 : Nat) : Int)) := wr1 hlt HN.out.2
      have g5 : AtS wr B (o + j * 5) vb vk x := At5.below h5 HB.out
      have g5' : AtS wr B' (o' + j * 5) vb' vk' x := At5.below h5' HB.out
      obtain ⟨pb, cb, rfl, _⟩ := hv.1.shape
      obtain ⟨pk, ck, rfl, _⟩ := hv.2.shape
      obtain ⟨pb', cb', rfl, _⟩ := hv'.1.shape
      obtain ⟨pk', ck', rfl, _⟩ := hv'.2.shape
      obtain ⟨k, s, n, b, ks⟩ := x
      dsimp only at *
      have G5' : Hid (AtS (wr.alloc (.cells #[.int .i64 k, .int .i64 s, .int .i64 n, .slice pb b.length cb, .slice pk ks.length ck] 28)) B' (o' + j * 5) _ _ ⟨k, s, n, b, ks⟩) := At5.below g5' (bel1 wr _)
      have bB : Below w.heap.size w ((wr.alloc (.cells #[.int .i64 k, .int .i64 s, .int .i64 n, .slice pb b.length cb, .slice pk ks.length ck] 28)).alloc (.cells #[.int .i64 k, .int .i64 s, .int .i64 n, .slice pb' b.length cb', .slice pk' ks.length ck'] 28)) := HB.out.trans (((bel1 wr _).mono HB.out.size).trans ((bel1 _ _).mono (by have := HB.out.size; simp; omega)))
      have HBB : Hid (Below w.heap.size w _) := bB
      have SC0 := same_calls P P2 ⟨k, s, n, b, ks⟩ ⟨k, s, n, b, ks⟩ (.slice pb b.length cb) (.slice pk ks.length ck) (.slice pb' b.length cb') (.slice pk' ks.length ck') _ (HV.out.below bB) (HV'.out.below bB)
      rw [sameB_refl] at SC0
      unfold rowS at SC0
      dsimp only at SC0
      have SC : Hid (Calls Try.prog 18 _ _ _) := SC0
      obtain ⟨q0, q1, q2, q3, q4⟩ := g5
      dsimp only at q0 q1 q2 q3 q4
      clear hx h5 h5' hv hv' g5' bB SC0 hj
      go_upto_region 6 with fail
      clear q0 q1 q2 q3 q4
      obtain ⟨q0, q1, q2, q3, q4⟩ := G5'.out
      dsimp only at q0 q1 q2 q3 q4
      go_upto_region 7 with fail
      clear q0 q1 q2 q3 q4
      have E1 : Hid (At5 _ wr.heap.size 0 _ _ _ _ _) := (box_at wr (.int .i64 k) (.int .i64 s) (.int .i64 n) (.slice pb b.length cb) (.slice pk ks.length ck)).below (bel1 _ (.cells #[.int .i64 k, .int .i64 s, .int .i64 n, .slice pb' b.length cb', .slice pk' ks.length ck'] 28))
      have E2 : Hid (At5 _ (wr.heap.size + 1) 0 _ _ _ _ _) := box_at' (wr.alloc (.cells #[.int .i64 k, .int .i64 s, .int .i64 n, .slice pb b.length cb, .slice pk ks.length ck] 28)) (wr.heap.size + 1) (by simp) (.int .i64 k) (.int .i64 s) (.int .i64 n) (.slice pb' b.length cb') (.slice pk' ks.length ck')
      obtain ⟨q0, q1, q2, q3, q4⟩ := E1.out
      obtain ⟨y0, y1, y2, y3, y4⟩ := E2.out
      go_wp2_with fail
      refine SC.out.mono ?_
      rintro e w2 ⟨rfl, hb2⟩
      have HB2 : Hid (Below w.heap.size w w2) := HBB.out.trans (hb2.mono HBB.out.size)
      clear hb2 SC q0 q1 q2 q3 q4 y0 y1 y2 y3 y4
      go_wp2_with fail
      exact ⟨⟨j + 1, hlt, by rw [HW.out], HB2⟩, meas hlt HW.out⟩
    · obtain rfl : j = N := by omega
      go_wp2_with fail
      go_ret
      exact ⟨rfl, HB.out⟩
set_option maxHeartbeats 1000000 in
set_option maxRecDepth 100000 in
theorem few_calls (P : Nat → Prop) (a : Option Addr) (c N : Nat) (xs : List Sp) (hN : xs.length = N) (hm : N ≤ 9223372036854775807) (w : World) (h : LsS P w a xs) :
    Calls Try.prog 7 #[.slice a N c] w fun e w' => (∃ r, e = .returned (.bool r)) ∧ Below w.heap.size w w' := by
  have HI : Hid (LsS P w a xs) := h
  have HN : Hid (xs.length = N ∧ N ≤ 9223372036854775807) := ⟨hN, hm⟩
  clear h hN hm
  go_enter Try.func7, Try.ntmps7
  go_wp2_with fail
  go_loopw [3, 5, 10] (fun u _ i wr => ∃ (j : Nat) (z : Int), j ≤ N ∧ i = .int .i64 (j : Int) ∧ u = .int .i64 z ∧ Hid (Below w.heap.size w wr)) (fun _ _ i _ => N - (intOf i).toNat)
  case atStart => exact ⟨0, _, Nat.zero_le _, rfl, rfl, Below.refl _ _⟩
  case round =>
    obtain ⟨j, z, hj, rfl, rfl, HB⟩ := hrel
    by_cases hlt : j < N
    · have hjl : (j : Int) < (N : Int) := by omega
      obtain ⟨x, hx⟩ : ∃ x, xs[j]? = some x := ⟨_, List.getElem?_eq_getElem (by have := HN.out; omega)⟩
      obtain ⟨B, o, vb, vk, rfl, _, h5, hv⟩ := HI.out j x hx
      have HW : Hid (wrap64 ((j : Int) + 1) = ((j + 1 : Nat) : Int)) := wr1 hlt HN.out.2
      have g5 : AtS wr B (o + j * 5) vb vk x := At5.below h5 HB.out
      obtain ⟨pb, cb, rfl, _⟩ := hv.1.shape
      obtain ⟨pk, ck, rfl, _⟩ := hv.2.shape
      obtain ⟨k, s, n, b, ks⟩ := x
      dsimp only at *
      have HBB : Hid (Below w.heap.size w (wr.alloc (.cells #[.int .i64 k, .int .i64 s, .int .i64 n, .slice pb b.length cb, .slice pk ks.length ck] 28))) := HB.out.trans ((bel1 wr _).mono HB.out.size)
      obtain ⟨q0, q1, q2, q3, q4⟩ := g5
      dsimp only at q0 q1 q2 q3 q4
      have A0 : Hid (At5 _ wr.heap.size 0 _ _ _ _ _) := box_at wr (.int .i64 k) (.int .i64 s) (.int .i64 n) (.slice pb b.length cb) (.slice pk ks.length ck)
      clear hx h5 hv hj
      go_upto_region 5 with fail
      clear q0 q1 q2 q3 q4
      obtain ⟨q0, q1, q2, q3, q4⟩ := A0.out
      go_wp2_with fail
      exact ⟨⟨j + 1, _, hlt, by rw [HW.out], rfl, HBB⟩, meas hlt HW.out⟩
    · obtain rfl : j = N := by omega
      go_wp2_with fail
      go_ret
      exact ⟨⟨_, rfl⟩, HB.out⟩
end Go.Proofs.Ytimiklekajelfaa
