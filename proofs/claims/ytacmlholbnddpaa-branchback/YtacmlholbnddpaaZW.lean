/- Same; the walk of BranchBack. -/
import Derived.Test.YtacmlholbnddpaaYB
import Derived.Test.YtacmlholbnddpaaZL
namespace Go.Proofs.Ytacmlholbnddpaa
open Go.ChangeAt Go.ChangeShapes Go.Deep Go.RowKit Go.WideShapes
theorem common_calls (a a2 : Option Addr) (c c2 NN : Nat) (hs hs2 : List Rw) (ys zs : List Ev) (N M : Nat) (hN : hs.length = N) (hM : hs2.length = M) (hl : N ≤ 200) (hl2 : M ≤ 200) (w : World) (hR : RowE w a hs) (hE : ∀ i, IsE w NN (rx hs i) (exE ys i)) (hy : hs.length = ys.length) (hR2 : RowE w a2 hs2) (hE2 : ∀ i, IsE w NN (rx hs2 i) (exE zs i)) (hz : hs2.length = zs.length) :
    Calls Try.prog 15 #[.slice a N c, .slice a2 M c2] w fun e W' => (∃ k, e = .returned (.int .i64 ((k : Nat) : Int)) ∧ IsC ys zs k) ∧ Below w.heap.size w W' := callsIn_wide.1 (common_in 8 (by omega) a a2 c c2 NN hs hs2 ys zs N M hN hM hl hl2 w hR hE hy hR2 hE2 hz)
theorem fork_ex (ys : List Ev) (m i : Nat) (hi : i < m) : exE ((List.range m).map (exE ys)) i = exE ys i := exE_some (by rw [List.getElem?_map, List.getElem?_range hi]; rfl)
theorem fork_isC (ys : List Ev) (m : Nat) (h : m ≤ ys.length) : IsC ((List.range m).map (exE ys)) ys m := ⟨by simp, h, fun i hi => fork_ex ys m i hi, fun h1 => by simp at h1⟩
set_option maxHeartbeats 1000000 in
theorem sameL_calls (a a2 : Option Addr) (c c2 NN : Nat) (hs hs2 : List Rw) (ys zs : List Ev) (N M : Nat) (hN : hs.length = N) (hM : hs2.length = M) (hl : N ≤ 200) (hl2 : M ≤ 200) (w : World) (hR : RowE w a hs) (hE : ∀ i, IsE w NN (rx hs i) (exE ys i)) (hy : hs.length = ys.length) (hR2 : RowE w a2 hs2) (hE2 : ∀ i, IsE w NN (rx hs2 i) (exE zs i)) (hz : hs2.length = zs.length) :
    Calls Try.prog 9 #[.slice a N c, .slice a2 M c2] w fun e W' => (∃ b : Bool, e = .returned (.bool b) ∧ (b = true ↔ (N = M ∧ IsC ys zs N))) ∧ Below w.heap.size w W' := by
  have HC : Hid (Calls _ _ _ _ _) := common_calls a a2 c c2 NN hs hs2 ys zs N M hN hM hl hl2 w hR hE hy hR2 hE2 hz
  have HP : Hid (∀ (b : Bool) w', (b = true ↔ (N = M ∧ IsC ys zs N)) → Below w.heap.size w w' → (∃ b' : Bool, Ending.returned (.bool b) = .returned (.bool b') ∧ (b' = true ↔ (N = M ∧ IsC ys zs N))) ∧ Below w.heap.size w w') := fun b w' h1 h2 => ⟨⟨b, rfl, h1⟩, h2⟩
  clear hN hM hl hl2 hR hE hy hR2 hE2 hz
  by_cases hd : N = M
  · have d1 : ((N : Int) == (M : Int)) = true := by simp [hd]
    have HD : Hid (N = M) := hd
    clear hd
    go_enter Try.func9, Try.ntmps9
    go_wp2_with fail
    refine HC.out.mono ?_
    rintro e w1 ⟨⟨k, rfl, hk⟩, hb⟩
    have HK : Hid (IsC ys zs k) := hk
    have HB : Hid (Below w.heap.size w w1) := hb
    clear hk hb HC
    by_cases hkn : k = N
    · have d2 : ((k : Int) == (N : Int)) = true := by simp [hkn]
      have HKN : Hid (k = N) := hkn
      clear hkn
      go_wp2_with fail
      go_ret
      exact HP.out true _ ⟨fun _ => ⟨HD.out, by rw [← HKN.out]; exact HK.out⟩, fun _ => rfl⟩ HB.out
    · have d2 : ((k : Int) == (N : Int)) = false := by simp; omega
      have HKN : Hid (k ≠ N) := hkn
      clear hkn
      go_wp2_with fail
      go_ret
      exact HP.out false _ ⟨fun h => (by cases h), fun h => absurd (HK.out.unique h.2) HKN.out⟩ HB.out
  · have d1 : ((N : Int) == (M : Int)) = false := by simp; omega
    have HD : Hid (N ≠ M) := hd
    clear hd HC
    go_enter Try.func9, Try.ntmps9
    go_wp2_with fail
    go_ret
    exact HP.out false _ ⟨fun h => (by cases h), fun h => absurd h.1 HD.out⟩ (Below.refl _ _)
theorem IsE.fitT {w : World} {N : Nat} {r : Rw} {x : Ev} (h : IsE w N r x) : FitT (N + 1) x.v := by
  obtain ⟨tv, rfl, hi⟩ := h
  exact hi.fitT
theorem IsE.up {w : World} {N M : Nat} {r : Rw} {x : Ev} (h : IsE w N r x) (hl : N ≤ M) : IsE w M r x := by
  obtain ⟨tv, e, hi⟩ := h
  exact ⟨tv, e, hi.up (by omega)⟩
theorem same_true (NN : Nat) (a : Option Addr) (c n : Nat) (hs : List Rw) (ys : List Ev) (hn : hs.length = n) (h120 : n ≤ 120) (lo : Nat) (v : Value) (w : World) (hH : Hh w NN a hs ys) (hg : Gr13 lo 4 w v ((List.range n).map (exE ys))) :
    ∃ ga gc, v = .slice ga n gc ∧ Calls Try.prog 9 #[.slice ga n gc, .slice a n c] w fun e w' => e = .returned (.bool true) ∧ Below w.heap.size w w' := by
  obtain ⟨ga, gc, rs, e, _, hrl, hrow, hisE⟩ := hg.rows
  rw [List.length_map, List.length_range] at e hrl
  have hlen : n = ys.length := by rw [← hn]; exact hH.len
  refine ⟨ga, gc, e, ?_⟩
  refine (sameL_calls ga a gc c (max 4 NN) rs hs ((List.range n).map (exE ys)) ys n n hrl hn (by omega) (by omega) w hrow (fun i => (hisE i).up (Nat.le_max_left _ _)) (by rw [hrl, List.length_map, List.length_range]) hH.row (fun i => (hH.isE i).up (Nat.le_max_right _ _)) hH.len).mono ?_
  rintro e w' ⟨⟨b, rfl, hb⟩, hbl⟩
  have hb2 : b = true := hb.2 ⟨rfl, fork_isC ys n (by omega)⟩
  subst hb2
  exact ⟨rfl, hbl⟩
set_option maxHeartbeats 1000000 in
theorem few_b (a : Option Addr) (n c : Nat) (w : World) (b : Bool) (hb : decide ((n : Int) ≤ 200) = b) : Calls Try.prog 4 #[.slice a n c] w fun e w' => e = .returned (.bool b) ∧ w' = w := by
  have := few_calls a n c w
  rw [hb] at this
  exact this
set_option maxHeartbeats 4000000 in
theorem bback_walk (NN : Nat) (a : Option Addr) (c n : Nat) (hs : List Rw) (ys : List Ev) (hn : hs.length = n) (w : World) (hH : Hh w NN a hs ys) :
    Calls Try.prog 3 #[.slice a n c] w fun e w' => e = .returned (.bool true) ∧ Below w.heap.size w w' := by
  by_cases hfew : n ≤ 200
  · have HF : Hid (Calls _ _ _ _ _) := few_b a n c w true (decide_eq_true (by omega))
    have HC : Hid (Calls _ _ _ _ _) := bcheck_calls NN a c n hs ys hn w hH
    have HH : Hid (Hh w NN a hs ys) := hH
    have HN : Hid (hs.length = n) := hn
    clear hfew hH hn
    go_enter Try.func3, Try.ntmps3
    go_wp2_with fail
    refine HF.out.mono ?_
    rintro e w0 ⟨rfl, hw⟩
    have hw' := hw.symm
    subst hw'
    clear hw HF
    go_wp2_with fail
    refine HC.out.mono ?_
    rintro e w1 ⟨r, rfl, hr, hb⟩
    have HB1 : Hid (Below w.heap.size w w1) := hb
    have HRr : Hid (r = 0 → n ≤ 120 ∧ ∀ i, i < n → MayE (NN + 1) (exE ys i)) := hr
    clear hr hb HC
    by_cases hr0 : r = 0
    · subst hr0
      obtain ⟨h120, hmay⟩ := HRr.out rfl
      have hH1 := HH.out.below HB1.out
      have HBy : Hid (Calls _ _ _ _ _) := bbytes_calls NN a c n hs ys HN.out h120 hmay w1 hH1
      have HRd : Hid (∀ lo u w2, Gb lo w2 u (blE NN ys n) → Calls Try.prog 7 #[u] w2 _) := fun lo u w2 hG => bread_calls NN n lo ys h120 hmay (fun i _ => (HH.out.isE i).fitT) HH.out.fit u w2 hG
      have H120 : Hid (n ≤ 120) := h120
      clear h120 hmay hH1 HRr
      go_wp2_with fail
      refine HBy.out.mono ?_
      rintro e w2 ⟨u, rfl, hG, hb2⟩
      have HR1 := HRd.out _ u w2 hG
      have HR2 : Hid (Calls _ _ _ _ _) := HR1
      have HB2 : Hid (Below w.heap.size w w2) := bel2 HB1.out hb2
      clear HRd HR1 hG hb2 HBy
      go_wp2_with fail
      refine HR2.out.mono ?_
      rintro e w3 ⟨v, rfl, hg, hb3⟩
      have HB3 : Hid (Below w.heap.size w w3) := bel2 HB2.out hb3
      obtain ⟨ga, gc, rfl, hS⟩ := same_true NN a c n hs ys HN.out H120.out _ v w3 (HH.out.below HB3.out) hg
      have HS : Hid (Calls _ _ _ _ _) := hS
      clear hS hg hb3 HR2
      go_wp2_with fail
      refine HS.out.mono ?_
      rintro e w4 ⟨rfl, hb4⟩
      have HB4 : Hid (Below w.heap.size w w4) := bel2 HB3.out hb4
      have HA : Hid (Calls _ _ _ _ _) := awake_calls w4
      clear hb4 HS
      go_wp2_with fail
      refine HA.out.mono ?_
      rintro e w5 ⟨rfl, hb5⟩
      go_wp2_with fail
      go_ret
      exact ⟨rfl, bel2 HB4.out hb5⟩
    · have d0 : (r != 0) = true := by simpa using hr0
      have HA : Hid (Calls _ _ _ _ _) := awake_calls w1
      clear hr0 HRr
      go_wp2_with fail
      refine HA.out.mono ?_
      rintro e w2 ⟨rfl, hb⟩
      go_wp2_with fail
      go_ret
      exact ⟨rfl, bel2 HB1.out hb⟩
  · have HF : Hid (Calls _ _ _ _ _) := few_b a n c w false (decide_eq_false (by omega))
    have HA : Hid (Calls _ _ _ _ _) := awake_calls w
    clear hfew hH hn
    go_enter Try.func3, Try.ntmps3
    go_wp2_with fail
    refine HF.out.mono ?_
    rintro e w0 ⟨rfl, hw⟩
    have hw' := hw.symm
    subst hw'
    clear hw HF
    go_wp2_with fail
    refine HA.out.mono ?_
    rintro e w1 ⟨rfl, hb⟩
    go_wp2_with fail
    go_ret
    exact ⟨rfl, hb⟩
end Go.Proofs.Ytacmlholbnddpaa
