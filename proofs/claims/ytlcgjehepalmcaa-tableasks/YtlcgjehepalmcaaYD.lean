/- The contract of the reference's bytes. -/
import Derived.Test.YtlcgjehepalmcaaVK
import Derived.Test.YtlcgjehepalmcaaPP
import Derived.Deep.DeepCutAuto
namespace Go.Proofs.Ytlcgjehepalmcaa
open Go.ChangeShapes Go.WideShapes Go.ChangeAt Go.RowKit Go.BigFrame
def BD : Nat → Nat
  | 0 => 210
  | d + 1 => 210 + 13 * BD d
theorem flat_bd {n B : Nat} : ∀ (l : List Tv), (∀ (i : Nat) t, l[i]? = some t → (bytesT n t).length ≤ B) → ((l.map (bytesT n)).flatten).length ≤ l.length * B
  | [], _ => by simp
  | t :: l, h => by
    have h0 := h 0 t rfl
    have h1 := flat_bd l (fun i u hu => h (i + 1) u (by simpa using hu))
    simp only [List.map_cons, List.flatten_cons, List.length_append, List.length_cons]
    rw [Nat.succ_mul]
    omega
theorem bytes_bd : ∀ (n d : Nat) (t : Tv), ShapeT n (d : Int) t → (bytesT n t).length ≤ BD d
  | 0, _, _, h => h.elim
  | n + 1, d, .mk k x b s l, ⟨hf, hk, hl⟩ => by
    obtain ⟨k0, k4, _, _, _, _, hs, _, hn⟩ := hf
    have e1 : (enc k.toNat).length = 1 := enc_one (by omega)
    have e2 : (enc s.size).length = 1 := enc_small hs
    have e3 : (enc l.length).length = 1 := enc_one hn
    have hd : 210 ≤ BD d := by cases d <;> simp [BD]
    unfold bytesT
    rw [List.length_append, e1]
    split
    · rw [be_length]; omega
    · split
      · rw [be_length]; omega
      · split
        · rw [List.length_append, e2, str_len]; omega
        · split
          · rename_i h4
            rw [List.length_append, e3]
            have hd0 := hk h4
            obtain ⟨d', rfl⟩ : ∃ d', d = d' + 1 := ⟨d - 1, by omega⟩
            have := flat_bd l (B := BD d') (fun i t ht => bytes_bd n d' t (by have := hl i t ht; rwa [show (((d' + 1 : Nat) : Int) - 1) = (d' : Int) by omega] at this))
            have h12 : l.length * BD d' ≤ 12 * BD d' := Nat.mul_le_mul_right _ hn
            simp only [BD]
            omega
          · simp; omega
/-- What a writer of the reference gives. -/
def RH (w : World) (l : List UInt8) (e : Ending) (w' : World) : Prop := ∃ v', e = .returned v' ∧ Lib.HoldsBytes w' v' l ∧ Below w.heap.size w w'
def BytesAt (n : Nat) : Prop := ∀ (d : Nat) (v : Value) (t : Tv) (b : Value) (L : List UInt8) (w : World), Is w n v t → ShapeT n (d : Int) t → Lib.HoldsBytes w b L → L.length + BD d ≤ 70368744177663 → Calls Try.prog 55 #[b, v] w (RH w (L ++ bytesT n t))
theorem holds_slice {w : World} {v : Value} {l : List UInt8} (h : Lib.HoldsBytes w v l) : ∃ p m c, v = .slice p m c := by obtain ⟨p, c, rfl, _⟩ := h; exact ⟨_, _, _, rfl⟩
set_option maxHeartbeats 2000000 in
set_option maxRecDepth 100000 in
theorem bytes_flat (k x : Int) (b : Nat) (s : ByteArray) (a : Option Addr) (c : Nat) (bv : Value) (L : List UInt8) (w : World) (hk0 : 0 ≤ k) (hk : k ≤ 3) (hx : (Lit.int .i64 x).wf = true) (hb : b < 18446744073709551616) (hs : s.size ≤ 200) (hv : Lib.HoldsBytes w bv L) (hl : L.length + 210 ≤ 70368744177663) :
    Calls Try.prog 55 #[bv, .agg #[.int .i64 k, .int .i64 x, .int .u64 (b : Int), .string s, .slice a 0 c]] w (RH w (L ++ (enc k.toNat ++ (if k = 1 then be (tn x) 8 else if k = 2 then be b 8 else if k = 3 then enc s.size ++ s.data.toList else [])))) := by
  have he : (enc k.toNat).length = 1 := enc_one (by omega)
  have HN : Hid (∀ W, Below w.heap.size w W → Calls Try.prog 51 #[bv, .int .i64 k] W (RB W (L ++ enc k.toNat))) := fun W hB => refNum_calls bv L k (by omega) W (holds_below hv hB) (by omega)
  obtain ⟨bp, bm, bc, rfl⟩ := holds_slice hv
  obtain ⟨M, hM⟩ : ∃ M, M = L ++ enc k.toNat := ⟨_, rfl⟩
  have hml : M.length ≤ 70368744177463 := by rw [hM, List.length_append]; omega
  rw [← List.append_assoc]
  rw [← hM] at HN ⊢
  have H1 : Hid (∀ W v, Lib.HoldsBytes W v M → Calls Try.prog 36 #[v, .int .i64 x] W (RB W (M ++ be (tn x) 8))) := fun W v h => refInt_calls v M x hx W h (by omega)
  have H2 : Hid (∀ W v, Lib.HoldsBytes W v M → Calls Try.prog 38 #[v, .int .u64 (b : Int)] W (RB W (M ++ be b 8))) := fun W v h => refBits_calls v M b hb W h (by omega)
  have H3 : Hid (∀ W v, Lib.HoldsBytes W v M → Calls Try.prog 35 #[v, .string s] W (RB W (M ++ enc s.size ++ s.data.toList))) := fun W v h => refText_calls v M s W h (by omega) (by omega)
  clear hv hl he hM hml hx hb hs
  rcases (by omega : k = 0 ∨ k = 1 ∨ k = 2 ∨ k = 3) with rfl | rfl | rfl | rfl
  · rw [if_neg (by decide), if_neg (by decide), if_neg (by decide), List.append_nil]
    clear hk hk0
    go_enter Try.func55, Try.ntmps55
    go_wp2_with fail
    refine (HN.out _ (bel1 _ _)).mono ?_
    rintro e w1 ⟨v1, rfl, ho, hb⟩
    have HV : Hid (Lib.HoldsBytes w1 v1 M) := own_holds ho
    have HB : Hid (Below w.heap.size w w1) := bel2 (bel1 _ _) hb
    obtain ⟨p0, p1, p2, p3, p4⟩ := (box_at w (.int .i64 0) (.int .i64 x) (.int .u64 (b : Int)) (.string s) (.slice a 0 c)).below hb
    clear ho hb
    go_wp2_with fail
    go_ret
    exact ⟨_, rfl, HV.out, HB.out⟩
  · rw [if_pos rfl]
    clear hk hk0
    go_enter Try.func55, Try.ntmps55
    go_wp2_with fail
    refine (HN.out _ (bel1 _ _)).mono ?_
    rintro e w1 ⟨v1, rfl, ho, hb⟩
    have HV : Hid (Lib.HoldsBytes w1 v1 M) := own_holds ho
    have HB : Hid (Below w.heap.size w w1) := bel2 (bel1 _ _) hb
    obtain ⟨p0, p1, p2, p3, p4⟩ := (box_at w (.int .i64 1) (.int .i64 x) (.int .u64 (b : Int)) (.string s) (.slice a 0 c)).below hb
    clear ho hb
    go_wp2_with fail
    refine (H1.out _ _ HV.out).mono ?_
    rintro e w2 ⟨v2, rfl, ho, hb⟩
    have HV2 : Hid (Lib.HoldsBytes w2 v2 _) := own_holds ho
    have HB2 : Hid (Below w.heap.size w w2) := bel2 HB.out hb
    clear ho hb
    go_wp2_with fail
    go_ret
    exact ⟨_, rfl, HV2.out, HB2.out⟩
  · rw [if_neg (by decide), if_pos rfl]
    clear hk hk0
    go_enter Try.func55, Try.ntmps55
    go_wp2_with fail
    refine (HN.out _ (bel1 _ _)).mono ?_
    rintro e w1 ⟨v1, rfl, ho, hb⟩
    have HV : Hid (Lib.HoldsBytes w1 v1 M) := own_holds ho
    have HB : Hid (Below w.heap.size w w1) := bel2 (bel1 _ _) hb
    obtain ⟨p0, p1, p2, p3, p4⟩ := (box_at w (.int .i64 2) (.int .i64 x) (.int .u64 (b : Int)) (.string s) (.slice a 0 c)).below hb
    clear ho hb
    go_wp2_with fail
    refine (H2.out _ _ HV.out).mono ?_
    rintro e w2 ⟨v2, rfl, ho, hb⟩
    have HV2 : Hid (Lib.HoldsBytes w2 v2 _) := own_holds ho
    have HB2 : Hid (Below w.heap.size w w2) := bel2 HB.out hb
    clear ho hb
    go_wp2_with fail
    go_ret
    exact ⟨_, rfl, HV2.out, HB2.out⟩
  · rw [if_neg (by decide), if_neg (by decide), if_pos rfl, ← List.append_assoc]
    clear hk hk0
    go_enter Try.func55, Try.ntmps55
    go_wp2_with fail
    refine (HN.out _ (bel1 _ _)).mono ?_
    rintro e w1 ⟨v1, rfl, ho, hb⟩
    have HV : Hid (Lib.HoldsBytes w1 v1 M) := own_holds ho
    have HB : Hid (Below w.heap.size w w1) := bel2 (bel1 _ _) hb
    obtain ⟨p0, p1, p2, p3, p4⟩ := (box_at w (.int .i64 3) (.int .i64 x) (.int .u64 (b : Int)) (.string s) (.slice a 0 c)).below hb
    clear ho hb
    go_wp2_with fail
    refine (H3.out _ _ HV.out).mono ?_
    rintro e w2 ⟨v2, rfl, ho, hb⟩
    have HV2 : Hid (Lib.HoldsBytes w2 v2 _) := own_holds ho
    have HB2 : Hid (Below w.heap.size w w2) := bel2 HB.out hb
    clear ho hb
    go_wp2_with fail
    go_ret
    exact ⟨_, rfl, HV2.out, HB2.out⟩
end Go.Proofs.Ytlcgjehepalmcaa
