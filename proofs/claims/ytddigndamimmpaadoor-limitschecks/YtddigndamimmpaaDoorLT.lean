/- The tables of limits; Fields of the program and of the reference; has. -/
import Derived.Test.YtddigndamimmpaaDoorVA
import Derived.Test.YtddigndamimmpaaDoorMB
import Derived.Lib.LaidTab
import Derived.ChangeSame
namespace Go.Proofs.YtddigndamimmpaaDoor
open Go.ChangeShapes Go.WideShapes Go.ChangeAt Go.RowKit
def fl : List Int := [0, 175, 15, 175, 77, 107, 3, 7, 35, 1, 33, 305, 53, 1]
def nb2 : List (Int × Int) := [(0, 0), (0, 1073741824), (0, 0), (0, 1073741824), (0, 0), (1, 2), (0, 0), (0, 0), (1, 120), (0, 0), (1, 1073741824), (0, 120), (1, 120), (0, 0)]
/-- What limits' two tables hold. -/
def Tb (w : World) : Prop := (∀ j : Nat, j < 14 → w.cell? ⟨0, j, none⟩ = some (.int .i64 (fl.getD j 0))) ∧ ∀ j : Nat, j < 14 → w.cell? ⟨1, j * 2, none⟩ = some (.int .i64 (nb2.getD j (0, 0)).1) ∧ w.cell? ⟨1, j * 2 + 1, none⟩ = some (.int .i64 (nb2.getD j (0, 0)).2)
theorem cellT {w w' : World} {a : Addr} {v : Value} (h : w.cell? a = some v) (hb : Below w.heap.size w w') : w'.cell? a = some v := (hb.cell (World.block_lt_of_cell? w _ h)).trans h
theorem Tb.below {w w' : World} (h : Tb w) (hb : Below w.heap.size w w') : Tb w' := ⟨fun j hj => cellT (h.1 j hj) hb, fun j hj => ⟨cellT (h.2 j hj).1 hb, cellT (h.2 j hj).2 hb⟩⟩
theorem cells_of_pairs {H : Type} {enc : TypeId × Value → H} {P : Program} {w : World} {base : Nat} {sp : Nat → Bool} {held : Bool} {fuel : Nat} {t e : TypeId} {n : Nat} {k : IntKind} {f0 f1 : Field} {cs : List Value} {zs : List (Int × Int)} {p : List MemPlace}
    (ht : P.underlying t = some (.array n e)) (he : P.underlying e = some (.struct #[f0, f1])) (o0 : f0.offset = 0) (o1 : f1.offset = 1) (u0 : P.underlying f0.type = some (.int k)) (u1 : P.underlying f1.type = some (.int k)) (c0 : P.cellsOf f0.type = 1) (c1 : P.cellsOf f1.type = 1) (hce : P.cellsOf e = 2)
    (h : DataW.trod enc P w base sp held fuel t cs = some (.agg (zs.map fun z => .agg [.lit (.int k z.1), .lit (.int k z.2)]), p)) (i : Nat) (z : Int × Int) (hi : zs[i]? = some z) : cs[i * 2]? = some (.int k z.1) ∧ cs[i * 2 + 1]? = some (.int k z.2) := by
  cases fuel with
  | zero => simp [DataW.trod] at h
  | succ fuel =>
    simp only [DataW.trod, ht, hce] at h
    split at h
    · rename_i hl
      obtain ⟨xs, hm, hx⟩ := Option.map_eq_some_iff.1 h
      have hxs : xs.map (·.1) = zs.map fun z => (DataW.agg [.lit (.int k z.1), .lit (.int k z.2)] : DataW H) := by
        have := congrArg Prod.fst hx
        simpa using this
      have hxl : xs.length = n := by simpa using Lib.mapM_length hm
      have hin : i < n := by
        have h1 := congrArg List.length hxs
        have h2 := (List.getElem?_eq_some_iff.1 hi).1
        simp at h1
        omega
      obtain ⟨b, hb, hf⟩ := Lib.mapM_at hm i i (by simp [hin])
      obtain ⟨y0, y1, m, rfl, _, g0, g1⟩ := trod_struct2 he hf
      rw [o0, c0] at g0
      rw [o1, c1] at g1
      obtain ⟨z0, e0, rfl, _⟩ := DataW.trod_int u0 g0
      obtain ⟨z1, e1, rfl, _⟩ := DataW.trod_int u1 g1
      have h2 : (xs.map (·.1))[i]? = some (DataW.agg [.lit (.int k z0), .lit (.int k z1)] : DataW H) := by simp [hb]
      rw [hxs, List.getElem?_map, hi] at h2
      simp at h2
      obtain ⟨rfl, rfl⟩ := h2
      have a0 := congrArg (·[0]?) e0
      have a1 := congrArg (·[0]?) e1
      simp [List.getElem?_drop] at a0 a1
      exact ⟨a0, a1⟩
    · cases h
theorem laid_fields {H : Type} : (Rows.laid_usher_limits_fields : DataW H) = Lib.tabData .i64 fl := rfl
theorem laid_nums {H : Type} : (Rows.laid_usher_limits_nums : DataW H) = .agg (nb2.map fun z => .agg [.lit (.int .i64 z.1), .lit (.int .i64 z.2)]) := rfl
theorem table {W : World} {laid : List (String × DataW Unit)} (hl : laid = [("usher/limits.fields", Rows.laid_usher_limits_fields), ("usher/limits.nums", Rows.laid_usher_limits_nums)]) (hL : laidMetH Tryd.prog laid W) : Tb W := by
  subst hl
  have h : laidMet Tryd.prog [("usher/limits.fields", Rows.laid_usher_limits_fields), ("usher/limits.nums", Rows.laid_usher_limits_nums)] W := hL
  obtain ⟨ps, ⟨g', t', cs, fuel, p, q, hg', ht', hvar, hd, ⟨g2, t2, cs2, fuel2, p2, q2, hg2, ht2, hvar2, hd2, _⟩, _⟩, _⟩ := h
  have hg : Tryd.prog.globalNamed "usher/limits.fields" = some 0 := by kernel_rfl
  have hty : (Tryd.prog.globals[0]?).map (·.type) = some 52 := by kernel_rfl
  have hgn : Tryd.prog.globalNamed "usher/limits.nums" = some 1 := by kernel_rfl
  have htn : (Tryd.prog.globals[1]?).map (·.type) = some 60 := by kernel_rfl
  obtain rfl := Option.some.inj (hg.symm.trans hg')
  obtain rfl := Option.some.inj (hty.symm.trans ht')
  obtain rfl := Option.some.inj (hgn.symm.trans hg2)
  obtain rfl := Option.some.inj (htn.symm.trans ht2)
  rw [laid_fields] at hd
  rw [laid_nums] at hd2
  have hcs := Lib.cells_of_tab (n := 14) Tryd.underlying52 Tryd.underlying3 (by kernel_rfl) (by kernel_rfl) hd
  have hcp := cells_of_pairs (n := 14) (k := .i64) Tryd.underlying60 Tryd.underlying59 rfl rfl Tryd.underlying3 Tryd.underlying3 (by kernel_rfl) (by kernel_rfl) (by kernel_rfl) hd2
  refine ⟨fun j hj => ?_, fun j hj => ?_⟩
  · have := World.var?_cell hg hvar j
    rw [this, ← Array.getElem?_toList, hcs, List.getElem?_map, List.getElem?_eq_getElem (show j < fl.length from hj), List.getD_eq_getElem?_getD, List.getElem?_eq_getElem (show j < fl.length from hj)]
    rfl
  · have e := List.getElem?_eq_getElem (show j < nb2.length from hj)
    have d : nb2.getD j (0, 0) = nb2[j]'hj := by rw [List.getD_eq_getElem?_getD, e]; rfl
    obtain ⟨a, b⟩ := hcp j _ e
    rw [World.var?_cell hgn hvar2 (j * 2), World.var?_cell hgn hvar2 (j * 2 + 1), ← Array.getElem?_toList, ← Array.getElem?_toList, a, b, d]
    exact ⟨rfl, rfl⟩
/-- What requests of a kind have, as a sum. -/
def fld (k : Int) : Int := if 1 ≤ k ∧ k ≤ 13 then fl.getD k.toNat 0 else 0
theorem fields_calls (k : Int) (w : World) (hT : Tb w) : Calls Tryd.prog 10 #[.int .i64 k] w fun e w' => e = .returned (.int .i64 (fld k)) ∧ w' = w := by
  by_cases h : 1 ≤ k ∧ k ≤ 13
  · obtain ⟨j, rfl⟩ := Int.eq_ofNat_of_zero_le (show 0 ≤ k by omega)
    have e : fld (j : Int) = fl.getD j 0 := by unfold fld; rw [if_pos h]; rfl
    have hc := hT.1 j (by omega)
    rw [e]
    obtain ⟨h1, h2⟩ := h
    have hj0 : (0 : Int) ≤ (j : Int) := by omega
    have hj1 : (j : Int) < 14 := by omega
    generalize fl.getD j 0 = W at hc ⊢
    clear hT e
    go_enter Tryd.func10, Tryd.ntmps10
    go_wp2
    go_ret
    exact ⟨rfl, rfl⟩
  · have e : fld k = 0 := by unfold fld; rw [if_neg h]
    rw [e]
    clear hT e
    by_cases h1 : 1 ≤ k
    · have h2 : ¬ k ≤ 13 := fun h2 => h ⟨h1, h2⟩
      clear h
      go_enter Tryd.func10, Tryd.ntmps10
      go_wp2
      go_ret
      exact ⟨rfl, rfl⟩
    · clear h
      go_enter Tryd.func10, Tryd.ntmps10
      go_wp2
      go_ret
      exact ⟨rfl, rfl⟩
theorem measT (n j : Nat) (h : j < n) : n - (j + 1) < n - j := by omega
theorem row_at {w : World} {g : Nat} {l : List Int} {t : TypeId} {fr : Nat × Nat} (hr : w.heap[g]? = some (.cells (l.map (Value.int .i64)).toArray t fr)) (j : Nat) (h : j < l.length) : w.cell? ⟨g, j, none⟩ = some (.int .i64 l[j]) := by
  simp [World.cell?, hr, h]
set_option maxHeartbeats 1000000 in
theorem in_calls (k : Int) (l : List Int) (g c : Nat) (t : TypeId) (hl : l.length ≤ 100) (w : World) (hr : w.heap[g]? = some (.cells (l.map (Value.int .i64)).toArray t (0, 0))) : Calls Tryd.prog 27 #[.int .i64 k, .slice (some ⟨g, 0, none⟩) l.length c] w fun e w' => e = .returned (.bool (l.any (· == k))) ∧ w' = w := by
  have HR : Hid (∀ (j : Nat) (h : j < l.length), w.cell? ⟨g, j, none⟩ = some (.int .i64 l[j])) := fun j h => row_at hr j h
  clear hr
  generalize hn : l.length = n at hl
  go_enter Tryd.func27, Tryd.ntmps27
  go_wp2
  go_loop [5] (fun i => ∃ j : Nat, j ≤ n ∧ i = .int .i64 j ∧ Hid (∀ i (_ : i < j) (h : i < l.length), (l[i] == k) = false)) (fun i => n - (intOf i).toNat)
  case atStart => exact ⟨0, Nat.zero_le _, rfl, fun i h => absurd h (by omega)⟩
  case round =>
    obtain ⟨j, hj, rfl, HG⟩ := hrel
    by_cases hlt : j < n
    · have hlt2 : j < l.length := by omega
      have hc := HR.out j hlt2
      have hw : wrap64 ((j : Int) + 1) = (j : Int) + 1 := by unfold wrap64; omega
      cases hL : l[j] == k with
      | true =>
        have HQ : Hid (l.any (· == k) = true) := List.any_eq_true.2 ⟨_, List.getElem_mem hlt2, hL⟩
        generalize l[j] = x at hc hL
        go_wp2
        go_ret
        exact ⟨by rw [HQ.out]; rfl, rfl⟩
      | false =>
        have HQ : Hid (∀ i (_ : i < j + 1) (h : i < l.length), (l[i] == k) = false) := by
          intro i hi h2
          by_cases e : i = j
          · subst e; exact hL
          · exact HG.out i (by omega) h2
        generalize l[j] = x at hc hL
        go_wp2
        go_round
        case rel => exact ⟨j + 1, hlt, by first | rfl | (rw [hw]; rfl), HQ⟩
        case measure => first | exact measT _ _ hlt | (rw [hw]; exact measT _ _ hlt)
    · obtain rfl : j = n := by omega
      have HQ : Hid (l.any (· == k) = false) := by
        rw [Hid, List.any_eq_false]
        intro x hx
        obtain ⟨i, hi, rfl⟩ := List.mem_iff_getElem.1 hx
        simpa using HG.out i (by omega) hi
      go_wp2
      go_ret
      exact ⟨by rw [HQ.out]; rfl, rfl⟩
theorem belA {w w1 : World} (h : Below w.heap.size w w1) (o : Obj) : Below w.heap.size w (w1.alloc o) := h.alloc h.size o
def in0 (k : Int) : Bool := ([1, 2, 3, 5, 6, 7, 8] : List Int).any (· == k)
theorem in_0 (k : Int) (w : World) : Calls Tryd.prog 27 #[.int .i64 k, .slice (some ⟨w.heap.size, 0, none⟩) 7 7] (w.alloc (.cells #[.int .i64 1, .int .i64 2, .int .i64 3, .int .i64 5, .int .i64 6, .int .i64 7, .int .i64 8] 3)) fun e w' => e = .returned (.bool (in0 k)) ∧ Below w.heap.size w w' :=
  (in_calls k [1, 2, 3, 5, 6, 7, 8] w.heap.size 7 3 (by decide) _ (heap_alloc_new w _)).mono fun e w' h => ⟨h.1, by rw [h.2]; exact bel1 w _⟩
def in1 (k : Int) : Bool := ([1, 2, 3, 4, 7, 12] : List Int).any (· == k)
theorem in_1 (k : Int) (w : World) : Calls Tryd.prog 27 #[.int .i64 k, .slice (some ⟨w.heap.size, 0, none⟩) 6 6] (w.alloc (.cells #[.int .i64 1, .int .i64 2, .int .i64 3, .int .i64 4, .int .i64 7, .int .i64 12] 3)) fun e w' => e = .returned (.bool (in1 k)) ∧ Below w.heap.size w w' :=
  (in_calls k [1, 2, 3, 4, 7, 12] w.heap.size 6 3 (by decide) _ (heap_alloc_new w _)).mono fun e w' h => ⟨h.1, by rw [h.2]; exact bel1 w _⟩
def in2 (k : Int) : Bool := ([1, 2, 3, 4, 5] : List Int).any (· == k)
theorem in_2 (k : Int) (w : World) : Calls Tryd.prog 27 #[.int .i64 k, .slice (some ⟨w.heap.size, 0, none⟩) 5 5] (w.alloc (.cells #[.int .i64 1, .int .i64 2, .int .i64 3, .int .i64 4, .int .i64 5] 3)) fun e w' => e = .returned (.bool (in2 k)) ∧ Below w.heap.size w w' :=
  (in_calls k [1, 2, 3, 4, 5] w.heap.size 5 3 (by decide) _ (heap_alloc_new w _)).mono fun e w' h => ⟨h.1, by rw [h.2]; exact bel1 w _⟩
def in3 (k : Int) : Bool := ([11, 12] : List Int).any (· == k)
theorem in_3 (k : Int) (w : World) : Calls Tryd.prog 27 #[.int .i64 k, .slice (some ⟨w.heap.size, 0, none⟩) 2 2] (w.alloc (.cells #[.int .i64 11, .int .i64 12] 3)) fun e w' => e = .returned (.bool (in3 k)) ∧ Below w.heap.size w w' :=
  (in_calls k [11, 12] w.heap.size 2 3 (by decide) _ (heap_alloc_new w _)).mono fun e w' h => ⟨h.1, by rw [h.2]; exact bel1 w _⟩
def in4 (k : Int) : Bool := ([1, 3, 5, 8, 10, 11, 12] : List Int).any (· == k)
theorem in_4 (k : Int) (w : World) : Calls Tryd.prog 27 #[.int .i64 k, .slice (some ⟨w.heap.size, 0, none⟩) 7 7] (w.alloc (.cells #[.int .i64 1, .int .i64 3, .int .i64 5, .int .i64 8, .int .i64 10, .int .i64 11, .int .i64 12] 3)) fun e w' => e = .returned (.bool (in4 k)) ∧ Below w.heap.size w w' :=
  (in_calls k [1, 3, 5, 8, 10, 11, 12] w.heap.size 7 3 (by decide) _ (heap_alloc_new w _)).mono fun e w' h => ⟨h.1, by rw [h.2]; exact bel1 w _⟩
def in5 (k : Int) : Bool := ([4, 5] : List Int).any (· == k)
theorem in_5 (k : Int) (w : World) : Calls Tryd.prog 27 #[.int .i64 k, .slice (some ⟨w.heap.size, 0, none⟩) 2 2] (w.alloc (.cells #[.int .i64 4, .int .i64 5] 3)) fun e w' => e = .returned (.bool (in5 k)) ∧ Below w.heap.size w w' :=
  (in_calls k [4, 5] w.heap.size 2 3 (by decide) _ (heap_alloc_new w _)).mono fun e w' h => ⟨h.1, by rw [h.2]; exact bel1 w _⟩
def in6 (k : Int) : Bool := ([1, 3] : List Int).any (· == k)
theorem in_6 (k : Int) (w : World) : Calls Tryd.prog 27 #[.int .i64 k, .slice (some ⟨w.heap.size, 0, none⟩) 2 2] (w.alloc (.cells #[.int .i64 1, .int .i64 3] 3)) fun e w' => e = .returned (.bool (in6 k)) ∧ Below w.heap.size w w' :=
  (in_calls k [1, 3] w.heap.size 2 3 (by decide) _ (heap_alloc_new w _)).mono fun e w' h => ⟨h.1, by rw [h.2]; exact bel1 w _⟩
set_option maxHeartbeats 1000000 in
theorem rf_1 (w : World) : Calls Tryd.prog 11 #[.int .i64 1] w fun e w' => e = .returned (.int .i64 175) ∧ Below w.heap.size w w' := by
  have I0 : Hid (∀ W, _) := fun W => in_0 1 W
  have b0 : in0 1 = true := rfl
  rw [b0] at I0
  clear b0
  have I1 : Hid (∀ W, _) := fun W => in_1 1 W
  have b1 : in1 1 = true := rfl
  rw [b1] at I1
  clear b1
  have I2 : Hid (∀ W, _) := fun W => in_2 1 W
  have b2 : in2 1 = true := rfl
  rw [b2] at I2
  clear b2
  have I3 : Hid (∀ W, _) := fun W => in_3 1 W
  have b3 : in3 1 = false := rfl
  rw [b3] at I3
  clear b3
  have I4 : Hid (∀ W, _) := fun W => in_4 1 W
  have b4 : in4 1 = true := rfl
  rw [b4] at I4
  clear b4
  have I5 : Hid (∀ W, _) := fun W => in_5 1 W
  have b5 : in5 1 = false := rfl
  rw [b5] at I5
  clear b5
  have I6 : Hid (∀ W, _) := fun W => in_6 1 W
  have b6 : in6 1 = true := rfl
  rw [b6] at I6
  clear b6
  have HB : Hid (Below w.heap.size w w) := Below.refl _ _
  go_enter Tryd.func11, Tryd.ntmps11
  go_wp2_with fail
  refine Calls.mono (I0.out _) ?_
  rintro e w1 ⟨rfl, hb⟩
  replace HB : Hid (Below w.heap.size w w1) := bel2 HB.out hb
  clear hb
  go_wp2_with fail
  refine Calls.mono (I1.out _) ?_
  rintro e w2 ⟨rfl, hb⟩
  replace HB : Hid (Below w.heap.size w w2) := bel2 HB.out hb
  clear hb
  go_wp2_with fail
  refine Calls.mono (I2.out _) ?_
  rintro e w3 ⟨rfl, hb⟩
  replace HB : Hid (Below w.heap.size w w3) := bel2 HB.out hb
  clear hb
  go_wp2_with fail
  refine Calls.mono (I3.out _) ?_
  rintro e w4 ⟨rfl, hb⟩
  replace HB : Hid (Below w.heap.size w w4) := bel2 HB.out hb
  clear hb
  go_wp2_with fail
  refine Calls.mono (I4.out _) ?_
  rintro e w5 ⟨rfl, hb⟩
  replace HB : Hid (Below w.heap.size w w5) := bel2 HB.out hb
  clear hb
  go_wp2_with fail
  refine Calls.mono (I5.out _) ?_
  rintro e w6 ⟨rfl, hb⟩
  replace HB : Hid (Below w.heap.size w w6) := bel2 HB.out hb
  clear hb
  go_wp2_with fail
  refine Calls.mono (I6.out _) ?_
  rintro e w7 ⟨rfl, hb⟩
  replace HB : Hid (Below w.heap.size w w7) := bel2 HB.out hb
  clear hb
  go_wp2_with fail
  go_ret
  exact ⟨rfl, HB.out⟩
set_option maxHeartbeats 1000000 in
theorem rf_2 (w : World) : Calls Tryd.prog 11 #[.int .i64 2] w fun e w' => e = .returned (.int .i64 15) ∧ Below w.heap.size w w' := by
  have I0 : Hid (∀ W, _) := fun W => in_0 2 W
  have b0 : in0 2 = true := rfl
  rw [b0] at I0
  clear b0
  have I1 : Hid (∀ W, _) := fun W => in_1 2 W
  have b1 : in1 2 = true := rfl
  rw [b1] at I1
  clear b1
  have I2 : Hid (∀ W, _) := fun W => in_2 2 W
  have b2 : in2 2 = true := rfl
  rw [b2] at I2
  clear b2
  have I3 : Hid (∀ W, _) := fun W => in_3 2 W
  have b3 : in3 2 = false := rfl
  rw [b3] at I3
  clear b3
  have I4 : Hid (∀ W, _) := fun W => in_4 2 W
  have b4 : in4 2 = false := rfl
  rw [b4] at I4
  clear b4
  have I5 : Hid (∀ W, _) := fun W => in_5 2 W
  have b5 : in5 2 = false := rfl
  rw [b5] at I5
  clear b5
  have I6 : Hid (∀ W, _) := fun W => in_6 2 W
  have b6 : in6 2 = false := rfl
  rw [b6] at I6
  clear b6
  have HB : Hid (Below w.heap.size w w) := Below.refl _ _
  go_enter Tryd.func11, Tryd.ntmps11
  go_wp2_with fail
  refine Calls.mono (I0.out _) ?_
  rintro e w1 ⟨rfl, hb⟩
  replace HB : Hid (Below w.heap.size w w1) := bel2 HB.out hb
  clear hb
  go_wp2_with fail
  refine Calls.mono (I1.out _) ?_
  rintro e w2 ⟨rfl, hb⟩
  replace HB : Hid (Below w.heap.size w w2) := bel2 HB.out hb
  clear hb
  go_wp2_with fail
  refine Calls.mono (I2.out _) ?_
  rintro e w3 ⟨rfl, hb⟩
  replace HB : Hid (Below w.heap.size w w3) := bel2 HB.out hb
  clear hb
  go_wp2_with fail
  refine Calls.mono (I3.out _) ?_
  rintro e w4 ⟨rfl, hb⟩
  replace HB : Hid (Below w.heap.size w w4) := bel2 HB.out hb
  clear hb
  go_wp2_with fail
  refine Calls.mono (I4.out _) ?_
  rintro e w5 ⟨rfl, hb⟩
  replace HB : Hid (Below w.heap.size w w5) := bel2 HB.out hb
  clear hb
  go_wp2_with fail
  refine Calls.mono (I5.out _) ?_
  rintro e w6 ⟨rfl, hb⟩
  replace HB : Hid (Below w.heap.size w w6) := bel2 HB.out hb
  clear hb
  go_wp2_with fail
  refine Calls.mono (I6.out _) ?_
  rintro e w7 ⟨rfl, hb⟩
  replace HB : Hid (Below w.heap.size w w7) := bel2 HB.out hb
  clear hb
  go_wp2_with fail
  go_ret
  exact ⟨rfl, HB.out⟩
set_option maxHeartbeats 1000000 in
theorem rf_3 (w : World) : Calls Tryd.prog 11 #[.int .i64 3] w fun e w' => e = .returned (.int .i64 175) ∧ Below w.heap.size w w' := by
  have I0 : Hid (∀ W, _) := fun W => in_0 3 W
  have b0 : in0 3 = true := rfl
  rw [b0] at I0
  clear b0
  have I1 : Hid (∀ W, _) := fun W => in_1 3 W
  have b1 : in1 3 = true := rfl
  rw [b1] at I1
  clear b1
  have I2 : Hid (∀ W, _) := fun W => in_2 3 W
  have b2 : in2 3 = true := rfl
  rw [b2] at I2
  clear b2
  have I3 : Hid (∀ W, _) := fun W => in_3 3 W
  have b3 : in3 3 = false := rfl
  rw [b3] at I3
  clear b3
  have I4 : Hid (∀ W, _) := fun W => in_4 3 W
  have b4 : in4 3 = true := rfl
  rw [b4] at I4
  clear b4
  have I5 : Hid (∀ W, _) := fun W => in_5 3 W
  have b5 : in5 3 = false := rfl
  rw [b5] at I5
  clear b5
  have I6 : Hid (∀ W, _) := fun W => in_6 3 W
  have b6 : in6 3 = true := rfl
  rw [b6] at I6
  clear b6
  have HB : Hid (Below w.heap.size w w) := Below.refl _ _
  go_enter Tryd.func11, Tryd.ntmps11
  go_wp2_with fail
  refine Calls.mono (I0.out _) ?_
  rintro e w1 ⟨rfl, hb⟩
  replace HB : Hid (Below w.heap.size w w1) := bel2 HB.out hb
  clear hb
  go_wp2_with fail
  refine Calls.mono (I1.out _) ?_
  rintro e w2 ⟨rfl, hb⟩
  replace HB : Hid (Below w.heap.size w w2) := bel2 HB.out hb
  clear hb
  go_wp2_with fail
  refine Calls.mono (I2.out _) ?_
  rintro e w3 ⟨rfl, hb⟩
  replace HB : Hid (Below w.heap.size w w3) := bel2 HB.out hb
  clear hb
  go_wp2_with fail
  refine Calls.mono (I3.out _) ?_
  rintro e w4 ⟨rfl, hb⟩
  replace HB : Hid (Below w.heap.size w w4) := bel2 HB.out hb
  clear hb
  go_wp2_with fail
  refine Calls.mono (I4.out _) ?_
  rintro e w5 ⟨rfl, hb⟩
  replace HB : Hid (Below w.heap.size w w5) := bel2 HB.out hb
  clear hb
  go_wp2_with fail
  refine Calls.mono (I5.out _) ?_
  rintro e w6 ⟨rfl, hb⟩
  replace HB : Hid (Below w.heap.size w w6) := bel2 HB.out hb
  clear hb
  go_wp2_with fail
  refine Calls.mono (I6.out _) ?_
  rintro e w7 ⟨rfl, hb⟩
  replace HB : Hid (Below w.heap.size w w7) := bel2 HB.out hb
  clear hb
  go_wp2_with fail
  go_ret
  exact ⟨rfl, HB.out⟩
set_option maxHeartbeats 1000000 in
theorem rf_4 (w : World) : Calls Tryd.prog 11 #[.int .i64 4] w fun e w' => e = .returned (.int .i64 77) ∧ Below w.heap.size w w' := by
  have I0 : Hid (∀ W, _) := fun W => in_0 4 W
  have b0 : in0 4 = false := rfl
  rw [b0] at I0
  clear b0
  have I1 : Hid (∀ W, _) := fun W => in_1 4 W
  have b1 : in1 4 = true := rfl
  rw [b1] at I1
  clear b1
  have I2 : Hid (∀ W, _) := fun W => in_2 4 W
  have b2 : in2 4 = true := rfl
  rw [b2] at I2
  clear b2
  have I3 : Hid (∀ W, _) := fun W => in_3 4 W
  have b3 : in3 4 = false := rfl
  rw [b3] at I3
  clear b3
  have I4 : Hid (∀ W, _) := fun W => in_4 4 W
  have b4 : in4 4 = false := rfl
  rw [b4] at I4
  clear b4
  have I5 : Hid (∀ W, _) := fun W => in_5 4 W
  have b5 : in5 4 = true := rfl
  rw [b5] at I5
  clear b5
  have I6 : Hid (∀ W, _) := fun W => in_6 4 W
  have b6 : in6 4 = false := rfl
  rw [b6] at I6
  clear b6
  have HB : Hid (Below w.heap.size w w) := Below.refl _ _
  go_enter Tryd.func11, Tryd.ntmps11
  go_wp2_with fail
  refine Calls.mono (I0.out _) ?_
  rintro e w1 ⟨rfl, hb⟩
  replace HB : Hid (Below w.heap.size w w1) := bel2 HB.out hb
  clear hb
  go_wp2_with fail
  refine Calls.mono (I1.out _) ?_
  rintro e w2 ⟨rfl, hb⟩
  replace HB : Hid (Below w.heap.size w w2) := bel2 HB.out hb
  clear hb
  go_wp2_with fail
  refine Calls.mono (I2.out _) ?_
  rintro e w3 ⟨rfl, hb⟩
  replace HB : Hid (Below w.heap.size w w3) := bel2 HB.out hb
  clear hb
  go_wp2_with fail
  refine Calls.mono (I3.out _) ?_
  rintro e w4 ⟨rfl, hb⟩
  replace HB : Hid (Below w.heap.size w w4) := bel2 HB.out hb
  clear hb
  go_wp2_with fail
  refine Calls.mono (I4.out _) ?_
  rintro e w5 ⟨rfl, hb⟩
  replace HB : Hid (Below w.heap.size w w5) := bel2 HB.out hb
  clear hb
  go_wp2_with fail
  refine Calls.mono (I5.out _) ?_
  rintro e w6 ⟨rfl, hb⟩
  replace HB : Hid (Below w.heap.size w w6) := bel2 HB.out hb
  clear hb
  go_wp2_with fail
  refine Calls.mono (I6.out _) ?_
  rintro e w7 ⟨rfl, hb⟩
  replace HB : Hid (Below w.heap.size w w7) := bel2 HB.out hb
  clear hb
  go_wp2_with fail
  go_ret
  exact ⟨rfl, HB.out⟩
set_option maxHeartbeats 1000000 in
theorem rf_5 (w : World) : Calls Tryd.prog 11 #[.int .i64 5] w fun e w' => e = .returned (.int .i64 107) ∧ Below w.heap.size w w' := by
  have I0 : Hid (∀ W, _) := fun W => in_0 5 W
  have b0 : in0 5 = true := rfl
  rw [b0] at I0
  clear b0
  have I1 : Hid (∀ W, _) := fun W => in_1 5 W
  have b1 : in1 5 = false := rfl
  rw [b1] at I1
  clear b1
  have I2 : Hid (∀ W, _) := fun W => in_2 5 W
  have b2 : in2 5 = true := rfl
  rw [b2] at I2
  clear b2
  have I3 : Hid (∀ W, _) := fun W => in_3 5 W
  have b3 : in3 5 = false := rfl
  rw [b3] at I3
  clear b3
  have I4 : Hid (∀ W, _) := fun W => in_4 5 W
  have b4 : in4 5 = true := rfl
  rw [b4] at I4
  clear b4
  have I5 : Hid (∀ W, _) := fun W => in_5 5 W
  have b5 : in5 5 = true := rfl
  rw [b5] at I5
  clear b5
  have I6 : Hid (∀ W, _) := fun W => in_6 5 W
  have b6 : in6 5 = false := rfl
  rw [b6] at I6
  clear b6
  have HB : Hid (Below w.heap.size w w) := Below.refl _ _
  go_enter Tryd.func11, Tryd.ntmps11
  go_wp2_with fail
  refine Calls.mono (I0.out _) ?_
  rintro e w1 ⟨rfl, hb⟩
  replace HB : Hid (Below w.heap.size w w1) := bel2 HB.out hb
  clear hb
  go_wp2_with fail
  refine Calls.mono (I1.out _) ?_
  rintro e w2 ⟨rfl, hb⟩
  replace HB : Hid (Below w.heap.size w w2) := bel2 HB.out hb
  clear hb
  go_wp2_with fail
  refine Calls.mono (I2.out _) ?_
  rintro e w3 ⟨rfl, hb⟩
  replace HB : Hid (Below w.heap.size w w3) := bel2 HB.out hb
  clear hb
  go_wp2_with fail
  refine Calls.mono (I3.out _) ?_
  rintro e w4 ⟨rfl, hb⟩
  replace HB : Hid (Below w.heap.size w w4) := bel2 HB.out hb
  clear hb
  go_wp2_with fail
  refine Calls.mono (I4.out _) ?_
  rintro e w5 ⟨rfl, hb⟩
  replace HB : Hid (Below w.heap.size w w5) := bel2 HB.out hb
  clear hb
  go_wp2_with fail
  refine Calls.mono (I5.out _) ?_
  rintro e w6 ⟨rfl, hb⟩
  replace HB : Hid (Below w.heap.size w w6) := bel2 HB.out hb
  clear hb
  go_wp2_with fail
  refine Calls.mono (I6.out _) ?_
  rintro e w7 ⟨rfl, hb⟩
  replace HB : Hid (Below w.heap.size w w7) := bel2 HB.out hb
  clear hb
  go_wp2_with fail
  go_ret
  exact ⟨rfl, HB.out⟩
set_option maxHeartbeats 1000000 in
theorem rf_6 (w : World) : Calls Tryd.prog 11 #[.int .i64 6] w fun e w' => e = .returned (.int .i64 3) ∧ Below w.heap.size w w' := by
  have I0 : Hid (∀ W, _) := fun W => in_0 6 W
  have b0 : in0 6 = true := rfl
  rw [b0] at I0
  clear b0
  have I1 : Hid (∀ W, _) := fun W => in_1 6 W
  have b1 : in1 6 = false := rfl
  rw [b1] at I1
  clear b1
  have I2 : Hid (∀ W, _) := fun W => in_2 6 W
  have b2 : in2 6 = false := rfl
  rw [b2] at I2
  clear b2
  have I3 : Hid (∀ W, _) := fun W => in_3 6 W
  have b3 : in3 6 = false := rfl
  rw [b3] at I3
  clear b3
  have I4 : Hid (∀ W, _) := fun W => in_4 6 W
  have b4 : in4 6 = false := rfl
  rw [b4] at I4
  clear b4
  have I5 : Hid (∀ W, _) := fun W => in_5 6 W
  have b5 : in5 6 = false := rfl
  rw [b5] at I5
  clear b5
  have I6 : Hid (∀ W, _) := fun W => in_6 6 W
  have b6 : in6 6 = false := rfl
  rw [b6] at I6
  clear b6
  have HB : Hid (Below w.heap.size w w) := Below.refl _ _
  go_enter Tryd.func11, Tryd.ntmps11
  go_wp2_with fail
  refine Calls.mono (I0.out _) ?_
  rintro e w1 ⟨rfl, hb⟩
  replace HB : Hid (Below w.heap.size w w1) := bel2 HB.out hb
  clear hb
  go_wp2_with fail
  refine Calls.mono (I1.out _) ?_
  rintro e w2 ⟨rfl, hb⟩
  replace HB : Hid (Below w.heap.size w w2) := bel2 HB.out hb
  clear hb
  go_wp2_with fail
  refine Calls.mono (I2.out _) ?_
  rintro e w3 ⟨rfl, hb⟩
  replace HB : Hid (Below w.heap.size w w3) := bel2 HB.out hb
  clear hb
  go_wp2_with fail
  refine Calls.mono (I3.out _) ?_
  rintro e w4 ⟨rfl, hb⟩
  replace HB : Hid (Below w.heap.size w w4) := bel2 HB.out hb
  clear hb
  go_wp2_with fail
  refine Calls.mono (I4.out _) ?_
  rintro e w5 ⟨rfl, hb⟩
  replace HB : Hid (Below w.heap.size w w5) := bel2 HB.out hb
  clear hb
  go_wp2_with fail
  refine Calls.mono (I5.out _) ?_
  rintro e w6 ⟨rfl, hb⟩
  replace HB : Hid (Below w.heap.size w w6) := bel2 HB.out hb
  clear hb
  go_wp2_with fail
  refine Calls.mono (I6.out _) ?_
  rintro e w7 ⟨rfl, hb⟩
  replace HB : Hid (Below w.heap.size w w7) := bel2 HB.out hb
  clear hb
  go_wp2_with fail
  go_ret
  exact ⟨rfl, HB.out⟩
set_option maxHeartbeats 1000000 in
theorem rf_7 (w : World) : Calls Tryd.prog 11 #[.int .i64 7] w fun e w' => e = .returned (.int .i64 7) ∧ Below w.heap.size w w' := by
  have I0 : Hid (∀ W, _) := fun W => in_0 7 W
  have b0 : in0 7 = true := rfl
  rw [b0] at I0
  clear b0
  have I1 : Hid (∀ W, _) := fun W => in_1 7 W
  have b1 : in1 7 = true := rfl
  rw [b1] at I1
  clear b1
  have I2 : Hid (∀ W, _) := fun W => in_2 7 W
  have b2 : in2 7 = false := rfl
  rw [b2] at I2
  clear b2
  have I3 : Hid (∀ W, _) := fun W => in_3 7 W
  have b3 : in3 7 = false := rfl
  rw [b3] at I3
  clear b3
  have I4 : Hid (∀ W, _) := fun W => in_4 7 W
  have b4 : in4 7 = false := rfl
  rw [b4] at I4
  clear b4
  have I5 : Hid (∀ W, _) := fun W => in_5 7 W
  have b5 : in5 7 = false := rfl
  rw [b5] at I5
  clear b5
  have I6 : Hid (∀ W, _) := fun W => in_6 7 W
  have b6 : in6 7 = false := rfl
  rw [b6] at I6
  clear b6
  have HB : Hid (Below w.heap.size w w) := Below.refl _ _
  go_enter Tryd.func11, Tryd.ntmps11
  go_wp2_with fail
  refine Calls.mono (I0.out _) ?_
  rintro e w1 ⟨rfl, hb⟩
  replace HB : Hid (Below w.heap.size w w1) := bel2 HB.out hb
  clear hb
  go_wp2_with fail
  refine Calls.mono (I1.out _) ?_
  rintro e w2 ⟨rfl, hb⟩
  replace HB : Hid (Below w.heap.size w w2) := bel2 HB.out hb
  clear hb
  go_wp2_with fail
  refine Calls.mono (I2.out _) ?_
  rintro e w3 ⟨rfl, hb⟩
  replace HB : Hid (Below w.heap.size w w3) := bel2 HB.out hb
  clear hb
  go_wp2_with fail
  refine Calls.mono (I3.out _) ?_
  rintro e w4 ⟨rfl, hb⟩
  replace HB : Hid (Below w.heap.size w w4) := bel2 HB.out hb
  clear hb
  go_wp2_with fail
  refine Calls.mono (I4.out _) ?_
  rintro e w5 ⟨rfl, hb⟩
  replace HB : Hid (Below w.heap.size w w5) := bel2 HB.out hb
  clear hb
  go_wp2_with fail
  refine Calls.mono (I5.out _) ?_
  rintro e w6 ⟨rfl, hb⟩
  replace HB : Hid (Below w.heap.size w w6) := bel2 HB.out hb
  clear hb
  go_wp2_with fail
  refine Calls.mono (I6.out _) ?_
  rintro e w7 ⟨rfl, hb⟩
  replace HB : Hid (Below w.heap.size w w7) := bel2 HB.out hb
  clear hb
  go_wp2_with fail
  go_ret
  exact ⟨rfl, HB.out⟩
set_option maxHeartbeats 1000000 in
theorem rf_8 (w : World) : Calls Tryd.prog 11 #[.int .i64 8] w fun e w' => e = .returned (.int .i64 35) ∧ Below w.heap.size w w' := by
  have I0 : Hid (∀ W, _) := fun W => in_0 8 W
  have b0 : in0 8 = true := rfl
  rw [b0] at I0
  clear b0
  have I1 : Hid (∀ W, _) := fun W => in_1 8 W
  have b1 : in1 8 = false := rfl
  rw [b1] at I1
  clear b1
  have I2 : Hid (∀ W, _) := fun W => in_2 8 W
  have b2 : in2 8 = false := rfl
  rw [b2] at I2
  clear b2
  have I3 : Hid (∀ W, _) := fun W => in_3 8 W
  have b3 : in3 8 = false := rfl
  rw [b3] at I3
  clear b3
  have I4 : Hid (∀ W, _) := fun W => in_4 8 W
  have b4 : in4 8 = true := rfl
  rw [b4] at I4
  clear b4
  have I5 : Hid (∀ W, _) := fun W => in_5 8 W
  have b5 : in5 8 = false := rfl
  rw [b5] at I5
  clear b5
  have I6 : Hid (∀ W, _) := fun W => in_6 8 W
  have b6 : in6 8 = false := rfl
  rw [b6] at I6
  clear b6
  have HB : Hid (Below w.heap.size w w) := Below.refl _ _
  go_enter Tryd.func11, Tryd.ntmps11
  go_wp2_with fail
  refine Calls.mono (I0.out _) ?_
  rintro e w1 ⟨rfl, hb⟩
  replace HB : Hid (Below w.heap.size w w1) := bel2 HB.out hb
  clear hb
  go_wp2_with fail
  refine Calls.mono (I1.out _) ?_
  rintro e w2 ⟨rfl, hb⟩
  replace HB : Hid (Below w.heap.size w w2) := bel2 HB.out hb
  clear hb
  go_wp2_with fail
  refine Calls.mono (I2.out _) ?_
  rintro e w3 ⟨rfl, hb⟩
  replace HB : Hid (Below w.heap.size w w3) := bel2 HB.out hb
  clear hb
  go_wp2_with fail
  refine Calls.mono (I3.out _) ?_
  rintro e w4 ⟨rfl, hb⟩
  replace HB : Hid (Below w.heap.size w w4) := bel2 HB.out hb
  clear hb
  go_wp2_with fail
  refine Calls.mono (I4.out _) ?_
  rintro e w5 ⟨rfl, hb⟩
  replace HB : Hid (Below w.heap.size w w5) := bel2 HB.out hb
  clear hb
  go_wp2_with fail
  refine Calls.mono (I5.out _) ?_
  rintro e w6 ⟨rfl, hb⟩
  replace HB : Hid (Below w.heap.size w w6) := bel2 HB.out hb
  clear hb
  go_wp2_with fail
  refine Calls.mono (I6.out _) ?_
  rintro e w7 ⟨rfl, hb⟩
  replace HB : Hid (Below w.heap.size w w7) := bel2 HB.out hb
  clear hb
  go_wp2_with fail
  go_ret
  exact ⟨rfl, HB.out⟩
set_option maxHeartbeats 1000000 in
theorem rf_9 (w : World) : Calls Tryd.prog 11 #[.int .i64 9] w fun e w' => e = .returned (.int .i64 1) ∧ Below w.heap.size w w' := by
  have I0 : Hid (∀ W, _) := fun W => in_0 9 W
  have b0 : in0 9 = false := rfl
  rw [b0] at I0
  clear b0
  have I1 : Hid (∀ W, _) := fun W => in_1 9 W
  have b1 : in1 9 = false := rfl
  rw [b1] at I1
  clear b1
  have I2 : Hid (∀ W, _) := fun W => in_2 9 W
  have b2 : in2 9 = false := rfl
  rw [b2] at I2
  clear b2
  have I3 : Hid (∀ W, _) := fun W => in_3 9 W
  have b3 : in3 9 = false := rfl
  rw [b3] at I3
  clear b3
  have I4 : Hid (∀ W, _) := fun W => in_4 9 W
  have b4 : in4 9 = false := rfl
  rw [b4] at I4
  clear b4
  have I5 : Hid (∀ W, _) := fun W => in_5 9 W
  have b5 : in5 9 = false := rfl
  rw [b5] at I5
  clear b5
  have I6 : Hid (∀ W, _) := fun W => in_6 9 W
  have b6 : in6 9 = false := rfl
  rw [b6] at I6
  clear b6
  have HB : Hid (Below w.heap.size w w) := Below.refl _ _
  go_enter Tryd.func11, Tryd.ntmps11
  go_wp2_with fail
  refine Calls.mono (I0.out _) ?_
  rintro e w1 ⟨rfl, hb⟩
  replace HB : Hid (Below w.heap.size w w1) := bel2 HB.out hb
  clear hb
  go_wp2_with fail
  refine Calls.mono (I1.out _) ?_
  rintro e w2 ⟨rfl, hb⟩
  replace HB : Hid (Below w.heap.size w w2) := bel2 HB.out hb
  clear hb
  go_wp2_with fail
  refine Calls.mono (I2.out _) ?_
  rintro e w3 ⟨rfl, hb⟩
  replace HB : Hid (Below w.heap.size w w3) := bel2 HB.out hb
  clear hb
  go_wp2_with fail
  refine Calls.mono (I3.out _) ?_
  rintro e w4 ⟨rfl, hb⟩
  replace HB : Hid (Below w.heap.size w w4) := bel2 HB.out hb
  clear hb
  go_wp2_with fail
  refine Calls.mono (I4.out _) ?_
  rintro e w5 ⟨rfl, hb⟩
  replace HB : Hid (Below w.heap.size w w5) := bel2 HB.out hb
  clear hb
  go_wp2_with fail
  refine Calls.mono (I5.out _) ?_
  rintro e w6 ⟨rfl, hb⟩
  replace HB : Hid (Below w.heap.size w w6) := bel2 HB.out hb
  clear hb
  go_wp2_with fail
  refine Calls.mono (I6.out _) ?_
  rintro e w7 ⟨rfl, hb⟩
  replace HB : Hid (Below w.heap.size w w7) := bel2 HB.out hb
  clear hb
  go_wp2_with fail
  go_ret
  exact ⟨rfl, HB.out⟩
set_option maxHeartbeats 1000000 in
theorem rf_10 (w : World) : Calls Tryd.prog 11 #[.int .i64 10] w fun e w' => e = .returned (.int .i64 33) ∧ Below w.heap.size w w' := by
  have I0 : Hid (∀ W, _) := fun W => in_0 10 W
  have b0 : in0 10 = false := rfl
  rw [b0] at I0
  clear b0
  have I1 : Hid (∀ W, _) := fun W => in_1 10 W
  have b1 : in1 10 = false := rfl
  rw [b1] at I1
  clear b1
  have I2 : Hid (∀ W, _) := fun W => in_2 10 W
  have b2 : in2 10 = false := rfl
  rw [b2] at I2
  clear b2
  have I3 : Hid (∀ W, _) := fun W => in_3 10 W
  have b3 : in3 10 = false := rfl
  rw [b3] at I3
  clear b3
  have I4 : Hid (∀ W, _) := fun W => in_4 10 W
  have b4 : in4 10 = true := rfl
  rw [b4] at I4
  clear b4
  have I5 : Hid (∀ W, _) := fun W => in_5 10 W
  have b5 : in5 10 = false := rfl
  rw [b5] at I5
  clear b5
  have I6 : Hid (∀ W, _) := fun W => in_6 10 W
  have b6 : in6 10 = false := rfl
  rw [b6] at I6
  clear b6
  have HB : Hid (Below w.heap.size w w) := Below.refl _ _
  go_enter Tryd.func11, Tryd.ntmps11
  go_wp2_with fail
  refine Calls.mono (I0.out _) ?_
  rintro e w1 ⟨rfl, hb⟩
  replace HB : Hid (Below w.heap.size w w1) := bel2 HB.out hb
  clear hb
  go_wp2_with fail
  refine Calls.mono (I1.out _) ?_
  rintro e w2 ⟨rfl, hb⟩
  replace HB : Hid (Below w.heap.size w w2) := bel2 HB.out hb
  clear hb
  go_wp2_with fail
  refine Calls.mono (I2.out _) ?_
  rintro e w3 ⟨rfl, hb⟩
  replace HB : Hid (Below w.heap.size w w3) := bel2 HB.out hb
  clear hb
  go_wp2_with fail
  refine Calls.mono (I3.out _) ?_
  rintro e w4 ⟨rfl, hb⟩
  replace HB : Hid (Below w.heap.size w w4) := bel2 HB.out hb
  clear hb
  go_wp2_with fail
  refine Calls.mono (I4.out _) ?_
  rintro e w5 ⟨rfl, hb⟩
  replace HB : Hid (Below w.heap.size w w5) := bel2 HB.out hb
  clear hb
  go_wp2_with fail
  refine Calls.mono (I5.out _) ?_
  rintro e w6 ⟨rfl, hb⟩
  replace HB : Hid (Below w.heap.size w w6) := bel2 HB.out hb
  clear hb
  go_wp2_with fail
  refine Calls.mono (I6.out _) ?_
  rintro e w7 ⟨rfl, hb⟩
  replace HB : Hid (Below w.heap.size w w7) := bel2 HB.out hb
  clear hb
  go_wp2_with fail
  go_ret
  exact ⟨rfl, HB.out⟩
set_option maxHeartbeats 1000000 in
theorem rf_11 (w : World) : Calls Tryd.prog 11 #[.int .i64 11] w fun e w' => e = .returned (.int .i64 305) ∧ Below w.heap.size w w' := by
  have I0 : Hid (∀ W, _) := fun W => in_0 11 W
  have b0 : in0 11 = false := rfl
  rw [b0] at I0
  clear b0
  have I1 : Hid (∀ W, _) := fun W => in_1 11 W
  have b1 : in1 11 = false := rfl
  rw [b1] at I1
  clear b1
  have I2 : Hid (∀ W, _) := fun W => in_2 11 W
  have b2 : in2 11 = false := rfl
  rw [b2] at I2
  clear b2
  have I3 : Hid (∀ W, _) := fun W => in_3 11 W
  have b3 : in3 11 = true := rfl
  rw [b3] at I3
  clear b3
  have I4 : Hid (∀ W, _) := fun W => in_4 11 W
  have b4 : in4 11 = true := rfl
  rw [b4] at I4
  clear b4
  have I5 : Hid (∀ W, _) := fun W => in_5 11 W
  have b5 : in5 11 = false := rfl
  rw [b5] at I5
  clear b5
  have I6 : Hid (∀ W, _) := fun W => in_6 11 W
  have b6 : in6 11 = false := rfl
  rw [b6] at I6
  clear b6
  have HB : Hid (Below w.heap.size w w) := Below.refl _ _
  go_enter Tryd.func11, Tryd.ntmps11
  go_wp2_with fail
  refine Calls.mono (I0.out _) ?_
  rintro e w1 ⟨rfl, hb⟩
  replace HB : Hid (Below w.heap.size w w1) := bel2 HB.out hb
  clear hb
  go_wp2_with fail
  refine Calls.mono (I1.out _) ?_
  rintro e w2 ⟨rfl, hb⟩
  replace HB : Hid (Below w.heap.size w w2) := bel2 HB.out hb
  clear hb
  go_wp2_with fail
  refine Calls.mono (I2.out _) ?_
  rintro e w3 ⟨rfl, hb⟩
  replace HB : Hid (Below w.heap.size w w3) := bel2 HB.out hb
  clear hb
  go_wp2_with fail
  refine Calls.mono (I3.out _) ?_
  rintro e w4 ⟨rfl, hb⟩
  replace HB : Hid (Below w.heap.size w w4) := bel2 HB.out hb
  clear hb
  go_wp2_with fail
  refine Calls.mono (I4.out _) ?_
  rintro e w5 ⟨rfl, hb⟩
  replace HB : Hid (Below w.heap.size w w5) := bel2 HB.out hb
  clear hb
  go_wp2_with fail
  refine Calls.mono (I5.out _) ?_
  rintro e w6 ⟨rfl, hb⟩
  replace HB : Hid (Below w.heap.size w w6) := bel2 HB.out hb
  clear hb
  go_wp2_with fail
  refine Calls.mono (I6.out _) ?_
  rintro e w7 ⟨rfl, hb⟩
  replace HB : Hid (Below w.heap.size w w7) := bel2 HB.out hb
  clear hb
  go_wp2_with fail
  go_ret
  exact ⟨rfl, HB.out⟩
set_option maxHeartbeats 1000000 in
theorem rf_12 (w : World) : Calls Tryd.prog 11 #[.int .i64 12] w fun e w' => e = .returned (.int .i64 53) ∧ Below w.heap.size w w' := by
  have I0 : Hid (∀ W, _) := fun W => in_0 12 W
  have b0 : in0 12 = false := rfl
  rw [b0] at I0
  clear b0
  have I1 : Hid (∀ W, _) := fun W => in_1 12 W
  have b1 : in1 12 = true := rfl
  rw [b1] at I1
  clear b1
  have I2 : Hid (∀ W, _) := fun W => in_2 12 W
  have b2 : in2 12 = false := rfl
  rw [b2] at I2
  clear b2
  have I3 : Hid (∀ W, _) := fun W => in_3 12 W
  have b3 : in3 12 = true := rfl
  rw [b3] at I3
  clear b3
  have I4 : Hid (∀ W, _) := fun W => in_4 12 W
  have b4 : in4 12 = true := rfl
  rw [b4] at I4
  clear b4
  have I5 : Hid (∀ W, _) := fun W => in_5 12 W
  have b5 : in5 12 = false := rfl
  rw [b5] at I5
  clear b5
  have I6 : Hid (∀ W, _) := fun W => in_6 12 W
  have b6 : in6 12 = false := rfl
  rw [b6] at I6
  clear b6
  have HB : Hid (Below w.heap.size w w) := Below.refl _ _
  go_enter Tryd.func11, Tryd.ntmps11
  go_wp2_with fail
  refine Calls.mono (I0.out _) ?_
  rintro e w1 ⟨rfl, hb⟩
  replace HB : Hid (Below w.heap.size w w1) := bel2 HB.out hb
  clear hb
  go_wp2_with fail
  refine Calls.mono (I1.out _) ?_
  rintro e w2 ⟨rfl, hb⟩
  replace HB : Hid (Below w.heap.size w w2) := bel2 HB.out hb
  clear hb
  go_wp2_with fail
  refine Calls.mono (I2.out _) ?_
  rintro e w3 ⟨rfl, hb⟩
  replace HB : Hid (Below w.heap.size w w3) := bel2 HB.out hb
  clear hb
  go_wp2_with fail
  refine Calls.mono (I3.out _) ?_
  rintro e w4 ⟨rfl, hb⟩
  replace HB : Hid (Below w.heap.size w w4) := bel2 HB.out hb
  clear hb
  go_wp2_with fail
  refine Calls.mono (I4.out _) ?_
  rintro e w5 ⟨rfl, hb⟩
  replace HB : Hid (Below w.heap.size w w5) := bel2 HB.out hb
  clear hb
  go_wp2_with fail
  refine Calls.mono (I5.out _) ?_
  rintro e w6 ⟨rfl, hb⟩
  replace HB : Hid (Below w.heap.size w w6) := bel2 HB.out hb
  clear hb
  go_wp2_with fail
  refine Calls.mono (I6.out _) ?_
  rintro e w7 ⟨rfl, hb⟩
  replace HB : Hid (Below w.heap.size w w7) := bel2 HB.out hb
  clear hb
  go_wp2_with fail
  go_ret
  exact ⟨rfl, HB.out⟩
set_option maxHeartbeats 1000000 in
theorem rf_13 (w : World) : Calls Tryd.prog 11 #[.int .i64 13] w fun e w' => e = .returned (.int .i64 1) ∧ Below w.heap.size w w' := by
  have I0 : Hid (∀ W, _) := fun W => in_0 13 W
  have b0 : in0 13 = false := rfl
  rw [b0] at I0
  clear b0
  have I1 : Hid (∀ W, _) := fun W => in_1 13 W
  have b1 : in1 13 = false := rfl
  rw [b1] at I1
  clear b1
  have I2 : Hid (∀ W, _) := fun W => in_2 13 W
  have b2 : in2 13 = false := rfl
  rw [b2] at I2
  clear b2
  have I3 : Hid (∀ W, _) := fun W => in_3 13 W
  have b3 : in3 13 = false := rfl
  rw [b3] at I3
  clear b3
  have I4 : Hid (∀ W, _) := fun W => in_4 13 W
  have b4 : in4 13 = false := rfl
  rw [b4] at I4
  clear b4
  have I5 : Hid (∀ W, _) := fun W => in_5 13 W
  have b5 : in5 13 = false := rfl
  rw [b5] at I5
  clear b5
  have I6 : Hid (∀ W, _) := fun W => in_6 13 W
  have b6 : in6 13 = false := rfl
  rw [b6] at I6
  clear b6
  have HB : Hid (Below w.heap.size w w) := Below.refl _ _
  go_enter Tryd.func11, Tryd.ntmps11
  go_wp2_with fail
  refine Calls.mono (I0.out _) ?_
  rintro e w1 ⟨rfl, hb⟩
  replace HB : Hid (Below w.heap.size w w1) := bel2 HB.out hb
  clear hb
  go_wp2_with fail
  refine Calls.mono (I1.out _) ?_
  rintro e w2 ⟨rfl, hb⟩
  replace HB : Hid (Below w.heap.size w w2) := bel2 HB.out hb
  clear hb
  go_wp2_with fail
  refine Calls.mono (I2.out _) ?_
  rintro e w3 ⟨rfl, hb⟩
  replace HB : Hid (Below w.heap.size w w3) := bel2 HB.out hb
  clear hb
  go_wp2_with fail
  refine Calls.mono (I3.out _) ?_
  rintro e w4 ⟨rfl, hb⟩
  replace HB : Hid (Below w.heap.size w w4) := bel2 HB.out hb
  clear hb
  go_wp2_with fail
  refine Calls.mono (I4.out _) ?_
  rintro e w5 ⟨rfl, hb⟩
  replace HB : Hid (Below w.heap.size w w5) := bel2 HB.out hb
  clear hb
  go_wp2_with fail
  refine Calls.mono (I5.out _) ?_
  rintro e w6 ⟨rfl, hb⟩
  replace HB : Hid (Below w.heap.size w w6) := bel2 HB.out hb
  clear hb
  go_wp2_with fail
  refine Calls.mono (I6.out _) ?_
  rintro e w7 ⟨rfl, hb⟩
  replace HB : Hid (Below w.heap.size w w7) := bel2 HB.out hb
  clear hb
  go_wp2_with fail
  go_ret
  exact ⟨rfl, HB.out⟩
theorem rfields_calls (k : Int) (w : World) : Calls Tryd.prog 11 #[.int .i64 k] w fun e w' => e = .returned (.int .i64 (fld k)) ∧ Below w.heap.size w w' := by
  by_cases h : 1 ≤ k ∧ k ≤ 13
  · have : k = 1 ∨ k = 2 ∨ k = 3 ∨ k = 4 ∨ k = 5 ∨ k = 6 ∨ k = 7 ∨ k = 8 ∨ k = 9 ∨ k = 10 ∨ k = 11 ∨ k = 12 ∨ k = 13 := by omega
    rcases this with rfl | rfl | rfl | rfl | rfl | rfl | rfl | rfl | rfl | rfl | rfl | rfl | rfl
    · exact rf_1 w
    · exact rf_2 w
    · exact rf_3 w
    · exact rf_4 w
    · exact rf_5 w
    · exact rf_6 w
    · exact rf_7 w
    · exact rf_8 w
    · exact rf_9 w
    · exact rf_10 w
    · exact rf_11 w
    · exact rf_12 w
    · exact rf_13 w
  · have e : fld k = 0 := by unfold fld; rw [if_neg h]
    rw [e]
    clear e
    by_cases h1 : 1 ≤ k
    · have h2 : ¬ k ≤ 13 := fun h2 => h ⟨h1, h2⟩
      clear h
      go_enter Tryd.func11, Tryd.ntmps11
      go_wp2
      go_ret
      exact ⟨rfl, Below.refl _ _⟩
    · clear h
      go_enter Tryd.func11, Tryd.ntmps11
      go_wp2
      go_ret
      exact ⟨rfl, Below.refl _ _⟩
theorem fld_set (k : Int) : fld k = 0 ∨ fld k = 175 ∨ fld k = 15 ∨ fld k = 77 ∨ fld k = 107 ∨ fld k = 3 ∨ fld k = 7 ∨ fld k = 35 ∨ fld k = 1 ∨ fld k = 33 ∨ fld k = 305 ∨ fld k = 53 := by
  by_cases h : 1 ≤ k ∧ k ≤ 13
  · have : k = 1 ∨ k = 2 ∨ k = 3 ∨ k = 4 ∨ k = 5 ∨ k = 6 ∨ k = 7 ∨ k = 8 ∨ k = 9 ∨ k = 10 ∨ k = 11 ∨ k = 12 ∨ k = 13 := by omega
    rcases this with rfl | rfl | rfl | rfl | rfl | rfl | rfl | rfl | rfl | rfl | rfl | rfl | rfl <;> decide
  · unfold fld; rw [if_neg h]; exact .inl rfl
/-- Whether requests of a kind have a field. -/
def hs (k : Int) (j : Nat) : Bool := (fld k).toNat.testBit j
theorem has_1 (k : Int) (w : World) : Calls Tryd.prog 23 #[.int .i64 k, .int .i64 2] w fun e w' => e = .returned (.bool (hs k 1)) ∧ Below w.heap.size w w' := by
  have HF : Hid (∀ W, _) := fun W => rfields_calls k W
  have HS : Hid (hs k 1 = (fld k).toNat.testBit 1) := rfl
  have HK : Hid _ := fld_set k
  generalize fld k = x at HF HS HK
  generalize hs k 1 = b at HS ⊢
  go_enter Tryd.func23, Tryd.ntmps23
  go_wp2_with fail
  refine Calls.mono (HF.out _) ?_
  rintro e w1 ⟨rfl, hb⟩
  have HB : Hid (Below w.heap.size w w1) := hb
  clear hb
  go_wp2_with fail
  go_ret
  have E : ((wrap64 (Int.tdiv x 2)).tmod 2 == 1) = b := by
    rw [HS.out]
    rcases HK.out with rfl | rfl | rfl | rfl | rfl | rfl | rfl | rfl | rfl | rfl | rfl | rfl <;> decide +kernel
  exact ⟨by rw [← E]; rfl, HB.out⟩
theorem has_2 (k : Int) (w : World) : Calls Tryd.prog 23 #[.int .i64 k, .int .i64 4] w fun e w' => e = .returned (.bool (hs k 2)) ∧ Below w.heap.size w w' := by
  have HF : Hid (∀ W, _) := fun W => rfields_calls k W
  have HS : Hid (hs k 2 = (fld k).toNat.testBit 2) := rfl
  have HK : Hid _ := fld_set k
  generalize fld k = x at HF HS HK
  generalize hs k 2 = b at HS ⊢
  go_enter Tryd.func23, Tryd.ntmps23
  go_wp2_with fail
  refine Calls.mono (HF.out _) ?_
  rintro e w1 ⟨rfl, hb⟩
  have HB : Hid (Below w.heap.size w w1) := hb
  clear hb
  go_wp2_with fail
  go_ret
  have E : ((wrap64 (Int.tdiv x 4)).tmod 2 == 1) = b := by
    rw [HS.out]
    rcases HK.out with rfl | rfl | rfl | rfl | rfl | rfl | rfl | rfl | rfl | rfl | rfl | rfl <;> decide +kernel
  exact ⟨by rw [← E]; rfl, HB.out⟩
theorem has_3 (k : Int) (w : World) : Calls Tryd.prog 23 #[.int .i64 k, .int .i64 8] w fun e w' => e = .returned (.bool (hs k 3)) ∧ Below w.heap.size w w' := by
  have HF : Hid (∀ W, _) := fun W => rfields_calls k W
  have HS : Hid (hs k 3 = (fld k).toNat.testBit 3) := rfl
  have HK : Hid _ := fld_set k
  generalize fld k = x at HF HS HK
  generalize hs k 3 = b at HS ⊢
  go_enter Tryd.func23, Tryd.ntmps23
  go_wp2_with fail
  refine Calls.mono (HF.out _) ?_
  rintro e w1 ⟨rfl, hb⟩
  have HB : Hid (Below w.heap.size w w1) := hb
  clear hb
  go_wp2_with fail
  go_ret
  have E : ((wrap64 (Int.tdiv x 8)).tmod 2 == 1) = b := by
    rw [HS.out]
    rcases HK.out with rfl | rfl | rfl | rfl | rfl | rfl | rfl | rfl | rfl | rfl | rfl | rfl <;> decide +kernel
  exact ⟨by rw [← E]; rfl, HB.out⟩
theorem has_4 (k : Int) (w : World) : Calls Tryd.prog 23 #[.int .i64 k, .int .i64 16] w fun e w' => e = .returned (.bool (hs k 4)) ∧ Below w.heap.size w w' := by
  have HF : Hid (∀ W, _) := fun W => rfields_calls k W
  have HS : Hid (hs k 4 = (fld k).toNat.testBit 4) := rfl
  have HK : Hid _ := fld_set k
  generalize fld k = x at HF HS HK
  generalize hs k 4 = b at HS ⊢
  go_enter Tryd.func23, Tryd.ntmps23
  go_wp2_with fail
  refine Calls.mono (HF.out _) ?_
  rintro e w1 ⟨rfl, hb⟩
  have HB : Hid (Below w.heap.size w w1) := hb
  clear hb
  go_wp2_with fail
  go_ret
  have E : ((wrap64 (Int.tdiv x 16)).tmod 2 == 1) = b := by
    rw [HS.out]
    rcases HK.out with rfl | rfl | rfl | rfl | rfl | rfl | rfl | rfl | rfl | rfl | rfl | rfl <;> decide +kernel
  exact ⟨by rw [← E]; rfl, HB.out⟩
theorem has_5 (k : Int) (w : World) : Calls Tryd.prog 23 #[.int .i64 k, .int .i64 32] w fun e w' => e = .returned (.bool (hs k 5)) ∧ Below w.heap.size w w' := by
  have HF : Hid (∀ W, _) := fun W => rfields_calls k W
  have HS : Hid (hs k 5 = (fld k).toNat.testBit 5) := rfl
  have HK : Hid _ := fld_set k
  generalize fld k = x at HF HS HK
  generalize hs k 5 = b at HS ⊢
  go_enter Tryd.func23, Tryd.ntmps23
  go_wp2_with fail
  refine Calls.mono (HF.out _) ?_
  rintro e w1 ⟨rfl, hb⟩
  have HB : Hid (Below w.heap.size w w1) := hb
  clear hb
  go_wp2_with fail
  go_ret
  have E : ((wrap64 (Int.tdiv x 32)).tmod 2 == 1) = b := by
    rw [HS.out]
    rcases HK.out with rfl | rfl | rfl | rfl | rfl | rfl | rfl | rfl | rfl | rfl | rfl | rfl <;> decide +kernel
  exact ⟨by rw [← E]; rfl, HB.out⟩
theorem has_6 (k : Int) (w : World) : Calls Tryd.prog 23 #[.int .i64 k, .int .i64 64] w fun e w' => e = .returned (.bool (hs k 6)) ∧ Below w.heap.size w w' := by
  have HF : Hid (∀ W, _) := fun W => rfields_calls k W
  have HS : Hid (hs k 6 = (fld k).toNat.testBit 6) := rfl
  have HK : Hid _ := fld_set k
  generalize fld k = x at HF HS HK
  generalize hs k 6 = b at HS ⊢
  go_enter Tryd.func23, Tryd.ntmps23
  go_wp2_with fail
  refine Calls.mono (HF.out _) ?_
  rintro e w1 ⟨rfl, hb⟩
  have HB : Hid (Below w.heap.size w w1) := hb
  clear hb
  go_wp2_with fail
  go_ret
  have E : ((wrap64 (Int.tdiv x 64)).tmod 2 == 1) = b := by
    rw [HS.out]
    rcases HK.out with rfl | rfl | rfl | rfl | rfl | rfl | rfl | rfl | rfl | rfl | rfl | rfl <;> decide +kernel
  exact ⟨by rw [← E]; rfl, HB.out⟩
theorem has_7 (k : Int) (w : World) : Calls Tryd.prog 23 #[.int .i64 k, .int .i64 128] w fun e w' => e = .returned (.bool (hs k 7)) ∧ Below w.heap.size w w' := by
  have HF : Hid (∀ W, _) := fun W => rfields_calls k W
  have HS : Hid (hs k 7 = (fld k).toNat.testBit 7) := rfl
  have HK : Hid _ := fld_set k
  generalize fld k = x at HF HS HK
  generalize hs k 7 = b at HS ⊢
  go_enter Tryd.func23, Tryd.ntmps23
  go_wp2_with fail
  refine Calls.mono (HF.out _) ?_
  rintro e w1 ⟨rfl, hb⟩
  have HB : Hid (Below w.heap.size w w1) := hb
  clear hb
  go_wp2_with fail
  go_ret
  have E : ((wrap64 (Int.tdiv x 128)).tmod 2 == 1) = b := by
    rw [HS.out]
    rcases HK.out with rfl | rfl | rfl | rfl | rfl | rfl | rfl | rfl | rfl | rfl | rfl | rfl <;> decide +kernel
  exact ⟨by rw [← E]; rfl, HB.out⟩
theorem has_8 (k : Int) (w : World) : Calls Tryd.prog 23 #[.int .i64 k, .int .i64 256] w fun e w' => e = .returned (.bool (hs k 8)) ∧ Below w.heap.size w w' := by
  have HF : Hid (∀ W, _) := fun W => rfields_calls k W
  have HS : Hid (hs k 8 = (fld k).toNat.testBit 8) := rfl
  have HK : Hid _ := fld_set k
  generalize fld k = x at HF HS HK
  generalize hs k 8 = b at HS ⊢
  go_enter Tryd.func23, Tryd.ntmps23
  go_wp2_with fail
  refine Calls.mono (HF.out _) ?_
  rintro e w1 ⟨rfl, hb⟩
  have HB : Hid (Below w.heap.size w w1) := hb
  clear hb
  go_wp2_with fail
  go_ret
  have E : ((wrap64 (Int.tdiv x 256)).tmod 2 == 1) = b := by
    rw [HS.out]
    rcases HK.out with rfl | rfl | rfl | rfl | rfl | rfl | rfl | rfl | rfl | rfl | rfl | rfl <;> decide +kernel
  exact ⟨by rw [← E]; rfl, HB.out⟩
end Go.Proofs.YtddigndamimmpaaDoor
