/- The contracts of the reference's one and Put. -/
import Derived.Test.YtimiklekajelfaaUA
import Derived.Test.YtimiklekajelfaaUB
namespace Go.Proofs.Ytimiklekajelfaa
open Go.ChangeShapes Go.WideShapes Go.ChangeAt Go.RowKit
theorem one_calls (P : Nat → Prop) (x : Sp) (vb vk : Value) (w : World) (h : IsV P w vb vk x) (wf : WfS x) (hm : mayB x = true) :
    Calls Try.prog 34 #[.agg (rowS vb vk x)] w fun e w' => e = .returned (.string (str (putS x))) ∧ Below w.heap.size w w' := by
  have m := may_of hm
  obtain ⟨k, s, n, b, ks⟩ := x
  have hk := fld_rng m.f0
  dsimp only at hk
  unfold putS
  dsimp only
  have hk8 : k = 1 ∨ k = 2 ∨ k = 3 ∨ k = 4 ∨ k = 5 ∨ k = 6 ∨ k = 7 ∨ k = 8 := by omega
  rcases hk8 with rfl | rfl | rfl | rfl | rfl | rfl | rfl | rfl
  · exact one1_calls P s n b ks vb vk w h wf m
  · exact one2_calls P s n b ks vb vk w h wf m
  · exact one3_calls P s n b ks vb vk w h wf m
  · exact one4_calls P s n b ks vb vk w h wf m
  · exact one5_calls P s n b ks vb vk w h wf m
  · exact one6_calls P s n b ks vb vk w h wf m
  · exact one7_calls P s n b ks vb vk w h wf m
  · exact one8_calls P s n b ks vb vk w h wf m
set_option maxHeartbeats 1000000 in
set_option maxRecDepth 100000 in
theorem rputAll_calls (P : Nat → Prop) (a : Option Addr) (c N : Nat) (xs : List Sp) (hN : xs.length = N) (hc : N ≤ 2000000) (wf : ∀ x ∈ xs, WfS x) (w : World) (h : LsS P w a xs) :
    Calls Try.prog 13 #[.slice a N c] w fun e w' => ∃ v, e = .returned v ∧ Lib.HoldsBytes w' v (putAll xs) ∧ Below w.heap.size w w' := by
  have HI : Hid (LsS P w a xs) := h
  have HN : Hid (xs.length = N) := hN
  have HC : Hid (N ≤ 2000000) := hc
  have WF : Hid (∀ x ∈ xs, WfS x) := wf
  clear h hN hc wf
  go_enter Try.func13, Try.ntmps13
  go_wp2_with fail
  go_loopw [3, 4] (fun u i wr => ∃ (j : Nat) (p : Option Addr) (cu : Nat), j ≤ N ∧ i = .int .i64 (j : Int) ∧ u = .slice p (putAll (xs.take j)).length cu ∧ Hid (Lib.HoldsBytes wr (.slice p (putAll (xs.take j)).length cu) (putAll (xs.take j))) ∧ Hid (Below w.heap.size w wr)) (fun _ i _ => N - (intOf i).toNat)
  case atStart => exact ⟨0, none, 0, Nat.zero_le _, rfl, rfl, holds_nil _, Below.refl _ _⟩
  case round =>
    obtain ⟨j, p, cu, hj, rfl, rfl, HO, HB⟩ := hrel
    by_cases hlt : j < N
    · have hjl : (j : Int) < (N : Int) := by omega
      obtain ⟨x, hx⟩ : ∃ x, xs[j]? = some x := ⟨_, List.getElem?_eq_getElem (by have := HN.out; omega)⟩
      obtain ⟨B, o, vb, vk, rfl, _, h5, hv⟩ := HI.out j x hx
      have WX : Hid (WfS x) := WF.out x (List.mem_of_getElem? hx)
      have HV : Hid (IsV P wr vb vk x) := hv.below HB.out
      have MC : Hid (Calls Try.prog 29 #[.agg (rowS vb vk x)] wr _) := rmay_calls P x vb vk wr HV.out
      have A0 : Hid (AtS wr B (o + j * 5) vb vk x) := At5.below h5 HB.out
      have HL : Hid ((putAll (xs.take j)).length ≤ 17009 * 2000000) := by
        show _ ≤ _
        have h1 := putAll_len (xs.take j) (fun y hy => WF.out y (List.mem_of_mem_take hy))
        rw [List.length_take] at h1
        have := HC.out
        omega
      have HT : Hid (xs.take (j + 1) = xs.take j ++ [x]) := by show _ = _; rw [List.take_add_one, hx]; rfl
      have HW : Hid (wrap64 ((j : Int) + 1) = ((j + 1 : Nat) : Int)) := wr1 hlt (by have := HC.out; omega)
      obtain ⟨pb, cb, rfl, _⟩ := hv.1.shape
      obtain ⟨pk, ck, rfl, _⟩ := hv.2.shape
      obtain ⟨k, s, n, b, ks⟩ := x
      unfold rowS at *
      dsimp only at *
      obtain ⟨q0, q1, q2, q3, q4⟩ := A0.out
      dsimp only at q0 q1 q2 q3 q4
      clear hx h5 hv hj
      cases hmb : mayB ⟨k, s, n, b, ks⟩ with
      | false =>
        have HS : Hid (putAll (xs.take (j + 1)) = putAll (xs.take j)) := by show _ = _; rw [HT.out, putAll_skip _ _ hmb]
        rw [hmb] at MC
        clear hmb
        go_wp2_with fail
        refine MC.out.mono ?_
        rintro e w2 ⟨rfl, hb2⟩
        have HO3 : Hid (Lib.HoldsBytes w2 (.slice p (putAll (xs.take j)).length cu) (putAll (xs.take j))) := holds_below HO.out hb2
        have HB3 : Hid (Below w.heap.size w w2) := bel2 HB.out hb2
        clear hb2 MC
        go_wp2_with fail
        exact ⟨⟨j + 1, p, cu, hlt, by rw [HW.out], by rw [HS.out], (by show Lib.HoldsBytes _ _ _; rw [HS.out]; exact HO3.out), HB3⟩, meas hlt HW.out⟩
      | true =>
        have HS : Hid (putAll (xs.take (j + 1)) = putAll (xs.take j) ++ txt ⟨k, s, n, b, ks⟩) := by show _ = _; rw [HT.out, putAll_more _ _ hmb]
        have HTL : Hid ((putS ⟨k, s, n, b, ks⟩).length ≤ 17000) := putS_len WX.out hmb
        have HM : Hid (mayB ⟨k, s, n, b, ks⟩ = true) := hmb
        rw [hmb] at MC
        clear hmb
        go_wp2_with fail
        refine MC.out.mono ?_
        rintro e w2 ⟨rfl, hb2⟩
        have HO3 : Hid (Lib.HoldsBytes w2 (.slice p (putAll (xs.take j)).length cu) (putAll (xs.take j))) := holds_below HO.out hb2
        have HB3 : Hid (Below w.heap.size w w2) := bel2 HB.out hb2
        have PC0 := one_calls P ⟨k, s, n, b, ks⟩ (.slice pb b.length cb) (.slice pk ks.length ck) w2 (HV.out.below hb2) WX.out HM.out
        unfold rowS at PC0
        dsimp only at PC0
        have htx : txt ⟨k, s, n, b, ks⟩ = enc (putS ⟨k, s, n, b, ks⟩).length ++ putS ⟨k, s, n, b, ks⟩ := rfl
        generalize putS ⟨k, s, n, b, ks⟩ = bs at PC0 htx HTL
        have PC : Hid (Calls Try.prog 34 #[.agg #[.int .i64 k, .int .i64 s, .int .i64 n, .slice pb b.length cb, .slice pk ks.length ck]] w2 _) := PC0
        have HTX : Hid (txt ⟨k, s, n, b, ks⟩ = enc bs.length ++ bs) := htx
        have A2 := A0.out.below hb2
        clear hb2 MC PC0 htx q0 q1 q2 q3 q4
        obtain ⟨q0, q1, q2, q3, q4⟩ := A2
        dsimp only at q0 q1 q2 q3 q4
        go_upto_region 6 with fail
        go_wp2_with fail
        refine PC.out.mono ?_
        rintro e w3 ⟨rfl, hb3⟩
        have HB4 : Hid (Below w.heap.size w w3) := bel2 HB3.out hb3
        have hsz : (str bs).size = bs.length := by simp [str, ByteArray.size]
        have hd : (str bs).data.toList = bs := by simp [str]
        have TC0 := refText_calls (.slice p (putAll (xs.take j)).length cu) (putAll (xs.take j)) (str bs) w3 (holds_below HO3.out hb3) (by have := HL.out; omega) (by rw [hsz]; have := HTL.out; omega)
        rw [hsz, hd, List.append_assoc, ← HTX.out, ← HS.out] at TC0
        have TC : Hid (Calls Try.prog 33 #[.slice p (putAll (xs.take j)).length cu, .string (str bs)] w3 (RB w3 (putAll (xs.take (j + 1))))) := TC0
        clear TC0 hsz hd hb3 PC
        go_wp2_with fail
        refine TC.out.mono ?_
        rintro e w4 ⟨v4, rfl, go4, gb4⟩
        have HB5 : Hid (Below w.heap.size w w4) := bel2 HB4.out gb4
        have HO5 : Hid (Lib.HoldsBytes w4 v4 (putAll (xs.take (j + 1)))) := own_holds go4
        obtain ⟨a4, c4, rfl⟩ := go4.shp
        clear go4 gb4 TC
        go_wp2_with fail
        exact ⟨⟨j + 1, a4, c4, hlt, by rw [HW.out], rfl, HO5, HB5⟩, meas hlt HW.out⟩
    · obtain rfl : j = N := by omega
      have HO2 : Hid (Lib.HoldsBytes wr (.slice p (putAll (xs.take j)).length cu) (putAll xs)) := by have := HO.out; rw [show xs.take j = xs by rw [← HN.out, List.take_length]] at this ⊢; exact this
      go_wp2_with fail
      go_ret
      exact ⟨_, rfl, HO2.out, HB.out⟩
end Go.Proofs.Ytimiklekajelfaa
