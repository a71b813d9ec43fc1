/- The walk of SegmentChains. -/
import Derived.Test.YthakbkkopneilaaDoorCK
import Derived.BigRegion
namespace Go.Proofs.YthakbkkopneilaaDoor
open Go.ChangeShapes Go.WideShapes Go.ChangeAt Go.RowKit
theorem SrA.take {w : World} {a : Option Addr} {n c : Nat} {l : List Sg} (h : SrA w (.slice a n c) l) (k : Nat) (hk : k ≤ n) : SrA w (.slice a k c) (l.take k) := by
  obtain ⟨a', c', e, h⟩ := h
  cases e
  refine ⟨a, c, by rw [List.length_take, Nat.min_eq_left hk], fun i s hs => ?_⟩
  have hi : i < k := by have := (List.getElem?_eq_some_iff.1 hs).1; simp at this; omega
  rw [List.getElem?_take_of_lt hi] at hs
  exact h i s hs
theorem Ir.take {w : World} {a : Option Addr} {n c : Nat} {l : List Int} (h : Ir w (.slice a n c) l) (k : Nat) (hk : k ≤ n) : Ir w (.slice a k c) (l.take k) := by
  obtain ⟨a', c', e, h⟩ := h
  cases e
  refine ⟨a, c, by rw [List.length_take, Nat.min_eq_left hk], fun i s hs => ?_⟩
  have hi : i < k := by have := (List.getElem?_eq_some_iff.1 hs).1; simp at this; omega
  rw [List.getElem?_take_of_lt hi] at hs
  exact h i s hs
theorem Ir.below {w w' : World} {v : Value} {l : List Int} (h : Ir w v l) (hb : Below w.heap.size w w') : Ir w' v l := by
  obtain ⟨a, c, e, h⟩ := h
  exact ⟨a, c, e, fun i z hz => by obtain ⟨B, o, ha, h⟩ := h i z hz; exact ⟨B, o, ha, cell_below h hb⟩⟩
theorem Ir.shape {w : World} {v : Value} {l : List Int} (h : Ir w v l) : ∃ a n c, v = .slice a n c := by obtain ⟨a, c, e, _⟩ := h; exact ⟨_, _, _, e⟩
theorem row_ir {w : World} {a : Option Addr} {len cap : Nat} {zs : List Int} (h : IsRow .i64 w a len cap zs) : ∃ l : List Int, l.length = len ∧ len ≤ cap ∧ Ir w (.slice a len cap) l := by
  rcases h with ⟨rfl, rfl, rfl, _⟩ | ⟨x, rfl, hl, _, hz, hcell, _⟩
  · exact ⟨[], rfl, Nat.le_refl _, none, 0, rfl, fun i z h => by simp at h⟩
  · have hlen : (zs.take len).length = len := by rw [List.length_take]; omega
    refine ⟨zs.take len, hlen, hl, some x, cap, by rw [hlen], fun i z hi => ?_⟩
    have hi2 : i < len := by have := (List.getElem?_eq_some_iff.1 hi).1; omega
    rw [List.getElem?_take_of_lt hi2] at hi
    have h1 := hcell i (by omega)
    rw [List.getD_eq_getElem?_getD, hi] at h1
    have hs : x.spot = none := by
      have h0 := hcell 0 (by omega)
      have := plain_addr h0
      simpa [Addr.add] using this
    obtain ⟨B, o, sp⟩ := x
    cases hs
    rw [add_plain] at h1
    exact ⟨B, o, rfl, h1⟩
theorem chain_len (l : List Sg) : (chain l).length ≤ l.length + 1 := by
  have h : ∀ k a, (chF l k a).length ≤ k := by
    intro k
    induction k with
    | zero => intro a; exact Nat.le_refl _
    | succ k ih =>
      intro a
      simp only [chF, List.length_cons]
      split
      · simp
      · split
        · simp
        · rename_i b _
          have := ih b
          omega
  unfold chain
  split
  · simp
  · exact h _ _
set_option maxHeartbeats 2000000 in
set_option maxRecDepth 100000 in
theorem chains_walk (a : Option Addr) (n c : Nat) (l0 : List Sg) (b : Option Addr) (m d : Nat) (zs0 : List Int) (w : World) (hl : SrA w (.slice a n c) l0) (hnc : n ≤ c) (hz : Ir w (.slice b m d) zs0) (hmd : m ≤ d) (hf : ∀ (i : Nat) s, l0[i]? = some s → SgF s) (ht : Tb w) :
    Calls Tryd.prog 5 #[.slice a n c, .slice b m d] w fun e w' => e = .returned (.bool true) ∧ Below w.heap.size w w' := by
  obtain ⟨k1, hk1⟩ : ∃ k, k = min n 40 := ⟨_, rfl⟩
  obtain ⟨k2, hk2⟩ : ∃ k, k = min m 40 := ⟨_, rfl⟩
  have hm1 : min (n : Int) 40 = (k1 : Int) := by omega
  have hm2 : min (m : Int) 40 = (k2 : Int) := by omega
  have s36 := cut_h36 a n c k1 (by omega)
  have s37 := cut_h37 b m d k2 (by omega)
  obtain ⟨l, hl1⟩ : ∃ l, l = l0.take k1 := ⟨_, rfl⟩
  obtain ⟨zs, hz1⟩ : ∃ zs, zs = zs0.take k2 := ⟨_, rfl⟩
  have hA : SrA w (.slice a k1 c) l := by rw [hl1]; exact hl.take k1 (by omega)
  have hI : Ir w (.slice b k2 d) zs := by rw [hz1]; exact hz.take k2 (by omega)
  have hF : ∀ (i : Nat) s, l[i]? = some s → SgF s := fun i s hs => hf i s (by
    rw [hl1] at hs
    have hi : i < k1 := by have := (List.getElem?_eq_some_iff.1 hs).1; simp at this; omega
    rwa [List.getElem?_take_of_lt hi] at hs)
  have hll : l.length ≤ 40 := by rw [hl1]; simp; omega
  have hzl : zs.length ≤ 40 := by rw [hz1]; simp; omega
  have C1 : Hid (∀ W, Below w.heap.size w W → Calls Tryd.prog 19 #[.slice a k1 c] W fun e w' => ∃ u, e = .returned u ∧ Ir w' u (chain l) ∧ Below W.heap.size W w') := fun W hW => chain_calls _ l W (hA.sr.below hW) (by omega) hF
  have C2 : Hid (∀ W, Below w.heap.size w W → Calls Tryd.prog 20 #[.slice a k1 c] W fun e w' => ∃ u, e = .returned u ∧ Ir w' u (chain l) ∧ Below W.heap.size W w') := fun W hW => rchain_calls _ l W (hA.below hW) (by omega) hF
  obtain ⟨r, hr⟩ : ∃ r, r = enF l zs zs.length := ⟨_, rfl⟩
  have C3 : Hid (∀ W, Below w.heap.size w W → Calls Tryd.prog 21 #[.slice a k1 c, .slice b k2 d] W fun e w' => e = .returned (.tuple #[.int .i64 r.1, .int .i64 r.2]) ∧ Below W.heap.size W w') := fun W hW => by rw [hr]; exact end_calls _ _ l zs W (hA.sr.below hW) (hI.below hW) (by omega) (by omega) (fun i s hs => (hF i s hs).1)
  have C4 : Hid (∀ W, Below w.heap.size w W → Calls Tryd.prog 22 #[.slice a k1 c, .slice b k2 d] W fun e w' => e = .returned (.tuple #[.int .i64 r.1, .int .i64 r.2]) ∧ Below W.heap.size W w') := fun W hW => by rw [hr]; exact rend_calls _ _ l zs W (hA.below hW) (hI.below hW) (by omega) (by omega) (fun i s hs => (hF i s hs).1)
  have HT : Hid (∀ W, Below w.heap.size w W → Tb W) := fun W hW => ht.below hW
  have HCL : Hid ((chain l).length ≤ 1000000000) := by show _ ≤ _; have := chain_len l; omega
  clear hl hnc hz hmd hf ht hk1 hk2 hl1 hz1 hA hI hF hll hzl hr
  go_enter Tryd.func5, Tryd.ntmps5
  go_wp2_with fail
  go_region
  have B0 : Hid (Below w.heap.size w w.drew) := (Below.refl _ w).drew
  generalize w.drew = W0 at B0 ⊢
  clear hm1 hm2 s36 s37
  go_wp2_with fail
  refine (C1.out W0 B0.out).mono ?_
  rintro e w1 ⟨u1, rfl, i1, hb1⟩
  have B1 : Hid (Below w.heap.size w w1) := B0.out.trans (hb1.mono B0.out.size)
  have I1 : Hid (Ir w1 u1 (chain l)) := i1
  obtain ⟨ua, un, uc, rfl⟩ := i1.shape
  clear i1 hb1
  go_wp2_with fail
  refine (C2.out w1 B1.out).mono ?_
  rintro e w2 ⟨u2, rfl, i2, hb2⟩
  have B2 : Hid (Below w.heap.size w w2) := B1.out.trans (hb2.mono B1.out.size)
  have EQ : Hid (Calls Tryd.prog 18 #[.slice ua un uc, u2] w2 _) := iequal_calls _ _ (chain l) w2 (I1.out.below hb2) i2 HCL.out
  obtain ⟨va, vn, vc, rfl⟩ := i2.shape
  clear i2 hb2
  go_wp2_with fail
  refine EQ.out.mono ?_
  rintro e w3 ⟨rfl, hb3⟩
  have B3 : Hid (Below w.heap.size w w3) := B2.out.trans (hb3.mono B2.out.size)
  clear hb3
  go_wp2_with fail
  refine (C3.out w3 B3.out).mono ?_
  rintro e w4 ⟨rfl, hb4⟩
  have B4 : Hid (Below w.heap.size w w4) := B3.out.trans (hb4.mono B3.out.size)
  clear hb4
  go_wp2_with fail
  refine (C4.out w4 B4.out).mono ?_
  rintro e w5 ⟨rfl, hb5⟩
  have B5 : Hid (Below w.heap.size w w5) := B4.out.trans (hb5.mono B4.out.size)
  clear hb5
  have d1 : (r.1 == r.1) = true := by simp
  have d2 : (r.2 == r.2) = true := by simp
  go_wp2_with fail
  refine (awake_calls w5 (HT.out w5 B5.out)).mono ?_
  rintro e w6 ⟨rfl, hb6⟩
  have B6 : Hid (Below w.heap.size w w6) := B5.out.trans (hb6.mono B5.out.size)
  clear hb6
  go_wp2_with fail
  go_ret
  exact ⟨rfl, B6.out⟩
end Go.Proofs.YthakbkkopneilaaDoor
