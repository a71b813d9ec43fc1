/- The contracts of the reference's bytes and Check. -/
import Derived.Test.YtlcgjehepalmcaaYD
import Derived.Test.YtlcgjehepalmcaaYC
namespace Go.Proofs.Ytlcgjehepalmcaa
open Go.ChangeShapes Go.WideShapes Go.ChangeAt Go.RowKit Go.BigFrame
set_option maxHeartbeats 2000000 in
set_option maxRecDepth 100000 in
theorem bytes_list (n d : Nat) (ih : BytesAt n) (x : Int) (b : Int) (s : ByteArray) (a : Option Addr) (c : Nat) (l : List Tv) (bv : Value) (L : List UInt8) (w : World) (hn : l.length ≤ 12) (hr : Row (Is w n) w a l) (hs : ∀ (i : Nat) t, l[i]? = some t → ShapeT n (d : Int) t) (hv : Lib.HoldsBytes w bv L) (hl : L.length + BD (d + 1) ≤ 70368744177663) :
    Calls Try.prog 55 #[bv, .agg #[.int .i64 4, .int .i64 x, .int .u64 b, .string s, .slice a l.length c]] w (RH w (L ++ enc 4 ++ enc l.length ++ (l.map (bytesT n)).flatten)) := by
  have hbd : ∀ (i : Nat) t, l[i]? = some t → (bytesT n t).length ≤ BD d := fun i t ht => bytes_bd n d t (hs i t ht)
  have hfl : ∀ j, (((l.take j).map (bytesT n)).flatten).length ≤ 12 * BD d := fun j => by
    have h1 := flat_le (n := n) (l := l) (j := j)
    have h2 := flat_bd l hbd
    have h3 : l.length * BD d ≤ 12 * BD d := Nat.mul_le_mul_right _ hn
    omega
  have e1 : (enc 4).length = 1 := enc_one (by omega)
  have e2 : (enc l.length).length = 1 := enc_one hn
  simp only [BD] at hl
  have HN : Hid (∀ W, Below w.heap.size w W → Calls Try.prog 51 #[bv, .int .i64 4] W (RB W (L ++ enc 4))) := fun W hB => refNum_calls bv L 4 (by omega) W (holds_below hv hB) (by omega)
  have HM : Hid (∀ W v, Lib.HoldsBytes W v (L ++ enc 4) → Calls Try.prog 51 #[v, .int .i64 (l.length : Int)] W (RB W (L ++ enc 4 ++ enc l.length))) := fun W v h => by
    have := refNum_calls v (L ++ enc 4) (l.length : Int) (by omega) W h (by rw [List.length_append]; omega)
    rwa [Int.toNat_natCast] at this
  obtain ⟨M, hM⟩ : ∃ M, M = L ++ enc 4 ++ enc l.length := ⟨_, rfl⟩
  have hml : M.length = L.length + 2 := by rw [hM, List.length_append, List.length_append]; omega
  rw [← hM] at HM ⊢
  obtain ⟨bp, bm, bc, rfl⟩ := holds_slice hv
  have HI : Hid (∀ (j : Nat) (hj : j < l.length) (v : Value) (bv : Value) (W : World), Is W n v (l[j]) → Lib.HoldsBytes W bv (M ++ ((l.take j).map (bytesT n)).flatten) → Calls Try.prog 55 #[bv, v] W (RH W (M ++ ((l.take (j + 1)).map (bytesT n)).flatten))) := fun j hj v bv W hi hb => by
    have := ih d v l[j] bv _ W hi (hs j _ (List.getElem?_eq_getElem hj)) hb (by rw [List.length_append]; have := hfl j; omega)
    rwa [List.append_assoc, ← flat_more hj] at this
  have HR : Hid (Row (Is w n) w a l) := hr
  obtain ⟨N, hN⟩ : ∃ N, N = l.length := ⟨_, rfl⟩
  rw [← hN] at HM ⊢
  have HNN : Hid (N = l.length ∧ N ≤ 12) := ⟨hN, by omega⟩
  clear hr hv hl hs hbd hfl e1 e2 hM hml hN hn ih
  go_enter Try.func55, Try.ntmps55
  go_wp2_with fail
  refine (HN.out _ (bel1 _ _)).mono ?_
  rintro e w1 ⟨v1, rfl, ho, hb⟩
  have HV : Hid (Lib.HoldsBytes w1 v1 _) := own_holds ho
  have HB : Hid (Below w.heap.size w w1) := bel2 (bel1 _ _) hb
  have HP : Hid (At5 w1 w.heap.size 0 (.int .i64 4) (.int .i64 x) (.int .u64 b) (.string s) (.slice a N c)) := (box_at w (.int .i64 4) (.int .i64 x) (.int .u64 b) (.string s) (.slice a N c)).below hb
  clear ho hb
  obtain ⟨p0, p1, p2, p3, p4⟩ := HP.out
  go_wp2_with fail
  refine (HM.out _ _ HV.out).mono ?_
  rintro e w2 ⟨v2, rfl, ho, hb⟩
  have HV2 : Hid (Lib.HoldsBytes w2 v2 M) := own_holds ho
  have HB2 : Hid (Below w.heap.size w w2) := bel2 HB.out hb
  have HP2 : Hid (At5 w2 w.heap.size 0 (.int .i64 4) (.int .i64 x) (.int .u64 b) (.string s) (.slice a N c)) := HP.out.below hb
  clear ho hb p0 p1 p2 p3 p4
  go_wp2_with fail
  go_loopw [0, 5] (fun bb i wr => ∃ j : Nat, j ≤ N ∧ i = .int .i64 j ∧ Hid (Lib.HoldsBytes wr bb (M ++ ((l.take j).map (bytesT n)).flatten)) ∧ Hid (Below w2.heap.size w2 wr)) (fun _ i _ => N - (intOf i).toNat)
  case atStart => exact ⟨0, Nat.zero_le _, rfl, by simpa using HV2, Below.refl _ _⟩
  case round =>
    obtain ⟨j, hj, rfl, HE, HBr⟩ := hrel
    obtain ⟨p0, p1, p2, p3, p4⟩ := HP2.out.below HBr.out
    by_cases hlt : j < N
    · have HT : Hid (j < l.length) := by have := HNN.out.1; show _ < _; omega
      obtain ⟨B, o, c0, c1, c2, c3, c4, rfl, h5, hi⟩ := HR.out j _ (List.getElem?_eq_getElem HT.out)
      obtain ⟨k', x', b', s', a', m', c', rfl, rfl, rfl, rfl, rfl⟩ := hi.shape
      have HBw := bel2 HB2.out HBr.out
      obtain ⟨e0, e1, e2, e3, e4⟩ := h5.below HBw
      have C0 : Hid (Calls Try.prog 55 #[_, _] wr _) := HI.out j HT.out _ _ wr (hi.below HBw) HE.out
      have HW : Hid (wrap64 ((j : Int) + 1) = ((j + 1 : Nat) : Int)) := wr1 hlt (by have := HNN.out.2; omega)
      have hjl : (j : Int) < (N : Int) := by omega
      clear hi h5 HBw
      go_wp2_with fail
      refine C0.out.mono ?_
      rintro x w3 ⟨v3, rfl, hv3, hb3⟩
      have HV3 : Hid (Lib.HoldsBytes w3 v3 _) := hv3
      have HB3 : Hid (Below w2.heap.size w2 w3) := bel2 HBr.out hb3
      clear hv3 hb3
      go_wp2_with fail
      exact ⟨⟨j + 1, hlt, by rw [HW.out], HV3, HB3⟩, meas hlt HW.out⟩
    · obtain rfl : j = N := by omega
      go_wp2_with fail
      go_ret
      refine ⟨_, rfl, ?_, bel2 HB2.out HBr.out⟩
      have := HE.out
      rwa [List.take_of_length_le (by have := HNN.out.1; omega)] at this
theorem bytes_calls45 : ∀ n, BytesAt n := by
  intro n
  induction n with
  | zero => intro d v t b L w h; exact h.elim
  | succ n ih =>
    rintro d v ⟨k, x, b, s, l⟩ bv L w ⟨a, c, rfl, hf, hr⟩ ⟨hfi, hk, hs⟩ hv hl
    obtain ⟨b, rfl⟩ : ∃ m : Nat, b = m := ⟨b.toNat, by have := hf.b0; omega⟩
    obtain ⟨k0, k4, _, _, _, _, hsz, hn0, hn⟩ := hfi
    have hd : 210 ≤ BD d := by cases d <;> simp [BD]
    by_cases h4 : k = 4
    · subst h4
      obtain ⟨d', rfl⟩ : ∃ d', d = d' + 1 := ⟨d - 1, by have := hk rfl; omega⟩
      have := bytes_list n d' ih x b s a c l bv L w hn hr (fun i t ht => by have := hs i t ht; rwa [show (((d' + 1 : Nat) : Int) - 1) = (d' : Int) by omega] at this) hv hl
      unfold bytesT
      rw [if_neg (by decide), if_neg (by decide), if_neg (by decide), if_pos rfl, ← List.append_assoc, ← List.append_assoc]
      exact this
    · obtain rfl : l = [] := List.eq_nil_of_length_eq_zero (hn0.resolve_left h4)
      have hx : (Lit.int .i64 x).wf = true := by
        have h1 := hf.x0
        have h2 := hf.x1
        simp only [Lit.wf, IntKind.min, IntKind.max, IntKind.signed, IntKind.bits, Bool.and_eq_true, decide_eq_true_eq, if_true]
        omega
      have := bytes_flat k x b s a c bv L w k0 (by omega) hx (by have := hf.b1; omega) hsz hv (by omega)
      unfold bytesT
      rw [if_neg (c := k = 4) h4, Int.toNat_natCast]
      exact this
end Go.Proofs.Ytlcgjehepalmcaa
