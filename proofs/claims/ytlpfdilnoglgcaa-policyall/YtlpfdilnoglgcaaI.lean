/- The contract of Delays: the delays of the first attempts; the walk of PolicyAll. -/
import Derived.Test.YtlpfdilnoglgcaaE
import Derived.Lib.AppendZeros
namespace Go.Proofs.Ytlpfdilnoglgcaa
open Go.ChangeShapes Go.WideShapes Go.ChangeAt Go.RowKit
open FM
theorem row_below {B e k n : Nat} {v : Value} {xs : List Value} {w w' : World} (h : w.ownsRow B e k v n xs) (hb : Below w.heap.size w w') : w'.ownsRow B e k v n xs := by
  obtain ⟨h1, h2 | ⟨g, cap, cur, rfl, hB, hg, r⟩⟩ := h
  · exact ⟨h1, .inl h2⟩
  · have hlt : g < w.heap.size := by
      rcases Nat.lt_or_ge g w.heap.size with h | h
      · exact h
      · rw [Array.getElem?_eq_none h] at hg; cases hg
    exact ⟨h1, .inr ⟨g, cap, cur, rfl, hB, by rw [hb.block _ hlt]; exact hg, r⟩⟩
theorem info_parts {P : Program} {e : TypeId} {z : Value} {k b : Nat} (h : (P.info? e).map (fun i => (i.zero, i.size, i.bytes)) = some (some z, k, b)) :
    ∃ i, P.info? e = some i ∧ i.zero = some z ∧ i.size = k ∧ i.bytes = b := by
  obtain ⟨i, hi, he⟩ := Option.map_eq_some_iff.1 h
  simp only [Prod.mk.injEq] at he
  exact ⟨i, hi, he.1, he.2.1, he.2.2⟩
theorem info3 : (Try.prog.info? 3).map (fun i => (i.zero, i.size, i.bytes)) = some (some (.int .i64 0), 1, 8) := by kernel_rfl
/-- The numbers zs, in memory of the call's own. -/
def Zs (B : Nat) (w : World) (v : Value) (zs : List Int) : Prop := w.ownsRow B 3 1 v zs.length (zs.map fun z => .int .i64 z)
theorem Zs.below {B : Nat} {w w' : World} {v : Value} {zs : List Int} (h : Zs B w v zs) (hb : Below w.heap.size w w') : Zs B w' v zs := row_below h hb
theorem Zs.nil (B : Nat) (w : World) : Zs B w (.slice none 0 0) [] := World.ownsRow_nil _ _ _ _
theorem Zs.shape {B : Nat} {w : World} {v : Value} {zs : List Int} (h : Zs B w v zs) : ∃ a c, v = .slice a zs.length c := by
  obtain ⟨h1, ⟨rfl, hn⟩ | ⟨g, cap, cur, rfl, _, hg, _⟩⟩ := h
  · exact ⟨none, 0, by rw [hn]⟩
  · exact ⟨_, _, rfl⟩
theorem Zs.at {B : Nat} {w : World} {a : Option Addr} {n c i : Nat} {zs : List Int} {y : Int} (h : Zs B w (.slice a n c) zs) (hi : zs[i]? = some y) : ∃ g, a = some ⟨g, 0, none⟩ ∧ w.cell? ⟨g, i, none⟩ = some (.int .i64 y) := by
  have h2 := h
  obtain ⟨h1, ⟨e, hn⟩ | ⟨g, cap, cur, e, _, hg, _⟩⟩ := h
  · have : zs = [] := List.eq_nil_of_length_eq_zero (by omega)
    subst this
    simp at hi
  · cases e
    refine ⟨g, rfl, ?_⟩
    have hl : i < zs.length := (List.getElem?_eq_some_iff.1 hi).1
    rw [World.ownsRow.cellAt h2 i (by simpa using hl), List.getElem?_map, hi]
    rfl
/-- append of one number. -/
theorem iapp_run {B src : Nat} {W : World} {v : Value} {zs : List Int} {y : Int} (ho : Zs B W v zs) (hs : W.cell? ⟨src, 0, none⟩ = some (.int .i64 y)) (hB : B ≤ W.heap.size) (hn : zs.length ≤ 1000000) :
    ∃ v' w', (∀ ty, (Builtin.append_ #[30, 30] ty #[v, .slice (some ⟨src, 0, none⟩) 1 1]).run Try.prog W = .ok v' w') ∧ Zs B w' v' (zs ++ [y]) ∧ Below B W w' := by
  obtain ⟨i0, hi, hz0, hz1, hz2⟩ := info_parts info3
  have key : ∀ ty, ∃ v' w', (Builtin.append_ #[30, 30] ty #[v, .slice (some ⟨src, 0, none⟩) 1 1]).run Try.prog W = .ok v' w' ∧ w'.ownsRow B 3 1 v' (zs.length + 1) ((zs.map fun z => .int .i64 z) ++ [.int .i64 y]) ∧ W.grownBy w' v.ownBlock ∧ _ := fun ty =>
    run_append_own (P := Try.prog) (w := W) B 30 ty 3 i0 _ 1 8 Try.underlying30 hi hz0 hz1 hz2 rfl (by decide) v zs.length (zs.map fun z => .int .i64 z) ho ⟨src, 0, none⟩ 1 1 [.int .i64 y] rfl
      (fun j u hj => by
        match j, hj with
        | 0, hj => cases hj; exact hs
        | j + 1, hj => simp at hj)
      (fun u hu => by simp only [List.mem_cons, List.not_mem_nil, or_false] at hu; subst hu; rfl) (by unfold maxLen; omega) (by omega) hB
  obtain ⟨v', w', hr, hown, hgrow, _⟩ := key 30
  refine ⟨v', w', fun ty => hr, ?_, (Below.refl _ _).grown hgrow hB (fun k hk => (World.ownsRow.lt ho k hk).1)⟩
  show w'.ownsRow B 3 1 v' (zs ++ [y]).length ((zs ++ [y]).map fun z => .int .i64 z)
  rw [List.length_append, List.map_append]
  exact hown
/-- The delays of the first n attempts. -/
def dls (f : Int) (c : Nat) (m : Int) (n : Nat) : List Int := (List.range n).map fun k => wt f c m (pw (floatOfInt .f64 f) c k)
theorem dls_length (f : Int) (c : Nat) (m : Int) (n : Nat) : (dls f c m n).length = n := by simp [dls]
theorem dls_succ (f : Int) (c : Nat) (m : Int) (n : Nat) : dls f c m (n + 1) = dls f c m n ++ [wt f c m (pw (floatOfInt .f64 f) c n)] := by simp [dls, List.range_succ]
theorem dls_at (f : Int) (c : Nat) (m : Int) (n i : Nat) (h : i < n) (hn : n ≤ 40) : (dls f c m n)[i]? = some (dlA f c m ((i : Int) + 1)) := by
  have e : nA ((i : Int) + 1) = i := by unfold nA; omega
  simp [dls, dlA, e, h]
/-- What Delays comes to. -/
def DsP (w : World) (f : Int) (c : Nat) (m : Int) (N : Nat) (x : Ending) (w' : World) : Prop := ∃ v, x = .returned v ∧ Zs w.heap.size w' v (dls f c m N) ∧ Below w.heap.size w w'
theorem cell_new (w : World) (v : Value) (t : TypeId) : (w.alloc (.cells #[v] t)).cell? ⟨w.heap.size, 0, none⟩ = some v := by simp
theorem lows {w w1 : World} {o : Obj} (h : Below (w.alloc o).heap.size (w.alloc o) w1) : Below w.heap.size w w1 := bel2 (bel1 w o) h
theorem Zs.mono {B B' : Nat} {w : World} {v : Value} {zs : List Int} (h : Zs B w v zs) (hB : B' ≤ B) : Zs B' w v zs := by
  obtain ⟨h1, h2 | ⟨g, cap, cur, rfl, hg, r⟩⟩ := h
  · exact ⟨h1, .inl h2⟩
  · exact ⟨h1, .inr ⟨g, cap, cur, rfl, Nat.le_trans hB hg, r⟩⟩
theorem ret12 {w w' : World} {f : Int} {c : Nat} {m : Int} {N : Nat} {v : Value} (hz : Zs (w.heap.size + 1) w' v (dls f c m N)) (hb : Below w.heap.size w w') : DsP w f c m N (.returned v) w' := ⟨v, rfl, hz.mono (Nat.le_succ _), hb⟩
set_option maxHeartbeats 1000000 in
set_option maxRecDepth 100000 in
theorem delays_nat (f : Int) (c : Nat) (m : Int) (N : Nat) (hc : c < 18446744073709551616) (hN : N ≤ 40) (w : World) :
    Calls Try.prog 12 #[.agg #[.int .i64 f, .int .u64 (c : Int), .int .i64 m], .int .i64 (N : Int)] w (DsP w f c m N) := by
  have K : Hid (∀ x w, _) := fun x w => wait_calls f c m x hc w
  have h1 : (N : Int) ≤ 1000 := by omega
  have HN : Hid (N ≤ 40) := hN
  have HE : Hid (∀ v w', Zs (w.heap.size + 1) w' v (dls f c m N) → Below w.heap.size w w' → DsP w f c m N (.returned v) w') := fun v w' h k => ret12 h k
  generalize DsP w f c m N = Q at HE ⊢
  clear hc hN
  go_enter Try.func12, Try.ntmps12
  go_wp2_with fail
  refine (of_calls _ _).mono ?_
  rintro e w1 ⟨rfl, e1⟩
  have e2 := e1.symm
  subst e2
  clear e1
  go_wp2_with fail
  have HW0 : Hid (Below (w.alloc (.cells #[.int .i64 f, .int .u64 (c : Int), .int .i64 m] 24)).heap.size (w.alloc (.cells #[.int .i64 f, .int .u64 (c : Int), .int .i64 m] 24)) (w.alloc (.cells #[.int .i64 f, .int .u64 (c : Int), .int .i64 m] 24))) := Below.refl _ _
  go_loopw [5, 6, 12] (fun u x i wr => ∃ j : Nat, j ≤ N ∧ i = .int .i64 j ∧ x = .int .u64 ((pw (floatOfInt .f64 f) c j : Nat) : Int) ∧ Hid (Zs (w.heap.size + 1) wr u (dls f c m j)) ∧ Hid (Below (w.alloc (.cells #[.int .i64 f, .int .u64 (c : Int), .int .i64 m] 24)).heap.size (w.alloc (.cells #[.int .i64 f, .int .u64 (c : Int), .int .i64 m] 24)) wr)) (fun _ _ i _ => N - (intOf i).toNat)
  case atStart => exact ⟨0, Nat.zero_le _, rfl, rfl, Zs.nil _ _, HW0⟩
  case round =>
    obtain ⟨j, hj, rfl, rfl, HZ, HW⟩ := hrel
    obtain ⟨k0, k1, k2⟩ := cells3 HW.out (box3 w _ _ _ _)
    obtain ⟨ua, uc, rfl⟩ := HZ.out.shape
    by_cases hlt : j < N
    · have hjl : (j : Int) < (N : Int) := by omega
      have hj9 : (j : Int) < 1000 := by omega
      go_wp2_with fail
      refine (K.out _ _).mono ?_
      rintro e w2 ⟨rfl, hb⟩
      have HW2 : Hid (Below (w.alloc (.cells #[.int .i64 f, .int .u64 (c : Int), .int .i64 m] 24)).heap.size (w.alloc (.cells #[.int .i64 f, .int .u64 (c : Int), .int .i64 m] 24)) w2) := bel2 HW.out hb
      have hsz : w.heap.size + 1 ≤ w2.heap.size := by have := HW2.out.size; simpa using this
      have Z2 := HZ.out.below hb
      obtain ⟨v3, w3, hr3, z3, b3⟩ := iapp_run (src := w2.heap.size) (y := wt f c m (pw (floatOfInt .f64 f) c j)) (W := w2.alloc (.cells #[.int .i64 (wt f c m (pw (floatOfInt .f64 f) c j))] 3)) (Z2.below (bel1 _ _)) (cell_new _ _ _) (Nat.le_trans hsz (bel1 _ _).size) (by rw [dls_length]; have := HN.out; omega)
      have HW3 : Hid (Below (w.alloc (.cells #[.int .i64 f, .int .u64 (c : Int), .int .i64 m] 24)).heap.size (w.alloc (.cells #[.int .i64 f, .int .u64 (c : Int), .int .i64 m] 24)) w3) := (bel2 HW2.out (bel1 _ _)).trans (b3.mono (by simp))
      rw [← dls_succ] at z3
      have Z3 : Hid (Zs (w.heap.size + 1) w3 v3 (dls f c m (j + 1))) := z3
      clear z3 b3 Z2 hb hsz HW HZ k0 k1 k2
      rw [dls_length] at hr3
      obtain ⟨k0, k1, k2⟩ := cells3 HW3.out (box3 w _ _ _ _)
      generalize wt f c m (pw (floatOfInt .f64 f) c j) = y at hr3 ⊢
      rw [dls_length]
      go_wp2_with (at_builtin; refine Lib.wpList_append_run _ rfl _ _ 30 30 rfl _ _ rfl rfl _ _ (hr3 _) ?_)
      refine (mul_calls _ _ _).mono ?_
      rintro e w4 ⟨rfl, hb⟩
      have HW4 : Hid (Below (w.alloc (.cells #[.int .i64 f, .int .u64 (c : Int), .int .i64 m] 24)).heap.size (w.alloc (.cells #[.int .i64 f, .int .u64 (c : Int), .int .i64 m] 24)) w4) := bel2 HW3.out hb
      have Z4 : Hid (Zs (w.heap.size + 1) w4 v3 (dls f c m (j + 1))) := Z3.out.below hb
      clear hb k0 k1 k2 HW3 Z3
      go_wp2_with fail
      refine ⟨⟨j + 1, hlt, by first | rfl | (rw [Int.natCast_add]; rfl), rfl, Z4, HW4⟩, ?_⟩
      simp only [intOf]
      omega
    · obtain rfl : j = N := by omega
      go_wp2_with fail
      exact HE.out _ _ HZ.out (lows HW.out)
end Go.Proofs.Ytlpfdilnoglgcaa
