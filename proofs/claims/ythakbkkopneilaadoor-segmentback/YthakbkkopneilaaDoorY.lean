/- The contracts of slices.EqualFunc over bytes, SameTexts, and the statements' own same. -/
import Derived.Test.YthakbkkopneilaaDoorX
namespace Go.Proofs.YthakbkkopneilaaDoor
open Go.ChangeShapes Go.WideShapes Go.ChangeAt Go.RowKit
/-- v is the list of bytes ls. -/
def LR (w : World) (v : Value) (ls : List (List UInt8)) : Prop :=
  ∃ a c, v = .slice a ls.length c ∧ ∀ (i : Nat) p, ls[i]? = some p → ∃ B o x, a = some ⟨B, o, none⟩ ∧ w.cell? ⟨B, o + i, none⟩ = some x ∧ Hb w x p
theorem LR.below {w w' : World} {v : Value} {ls : List (List UInt8)} (h : LR w v ls) (hb : Below w.heap.size w w') : LR w' v ls := by
  obtain ⟨a, c, hv, h⟩ := h
  refine ⟨a, c, hv, fun i p hp => ?_⟩
  obtain ⟨B, o, x, ha, h0, hx⟩ := h i p hp
  exact ⟨B, o, x, ha, cell_below h0 hb, hx.below hb⟩
theorem LR.shape {w : World} {v : Value} {ls : List (List UInt8)} (h : LR w v ls) : ∃ a n c, v = .slice a n c := by
  obtain ⟨a, c, hv, _⟩ := h; exact ⟨_, _, _, hv⟩
theorem Ls.lr {B : Nat} {w : World} {v : Value} {ls : List (List UInt8)} (h : Ls B w v ls) : LR w v ls := by
  obtain ⟨xs, hl, hrow, hp⟩ := h
  have hr2 := hrow
  obtain ⟨h1, ⟨rfl, h2⟩ | ⟨g, cap, cur, rfl, hB, hg, r⟩⟩ := hrow
  · have : ls = [] := List.eq_nil_of_length_eq_zero h2
    subst this
    exact ⟨none, 0, rfl, fun i p hi => by simp at hi⟩
  · refine ⟨some ⟨g, 0, none⟩, cap, rfl, fun i p hi => ?_⟩
    have hlt : i < ls.length := (List.getElem?_eq_some_iff.1 hi).1
    have hx : xs[i]? = some (xs[i]'(by omega)) := List.getElem?_eq_getElem (by omega)
    refine ⟨g, 0, _, rfl, ?_, (hp i _ p hx hi).hb⟩
    rw [Nat.zero_add, World.ownsRow.cellAt hr2 i (by omega)]; exact hx
theorem take_more {α : Type} {l l2 : List α} {j : Nat} (h : j < l.length) (h2 : j < l2.length) (e : l.take j = l2.take j) (hx : l[j] = l2[j]) : l.take (j + 1) = l2.take (j + 1) := by
  rw [List.take_add_one, List.take_add_one, e, List.getElem?_eq_getElem h, List.getElem?_eq_getElem h2, hx]
theorem wr1 {j N : Nat} (h : j < N) (hN : N ≤ 9223372036854775807) : wrap64 ((j : Int) + 1) = ((j + 1 : Nat) : Int) := by unfold wrap64; omega
theorem meas1 {j N : Nat} {z : Int} (h : j < N) (hw : z = ((j + 1 : Nat) : Int)) : N - (intOf (.int .i64 z)).toNat < N - (intOf (.int .i64 (j : Int))).toNat := by
  subst hw
  simp only [intOf]
  omega
set_option maxHeartbeats 2000000 in
theorem tequal_calls (v v2 : Value) (l l2 : List (List UInt8)) (w : World) (hc : l.length ≤ 9223372036854775807) (hr : LR w v l) (hr2 : LR w v2 l2) :
    Calls Tryd.prog 43 #[v, v2, .func (.func 7) #[] #[]] w fun e w' => (∃ r : Bool, e = .returned (.bool r) ∧ (r = true ↔ l = l2)) ∧ w' = w := by
  obtain ⟨a, c, rfl, hr⟩ := hr
  obtain ⟨a2, c2, rfl, hr2⟩ := hr2
  have HR : Hid (∀ (i : Nat) p, l[i]? = some p → ∃ B o x, a = some ⟨B, o, none⟩ ∧ w.cell? ⟨B, o + i, none⟩ = some x ∧ Hb w x p) := hr
  have HR2 : Hid (∀ (i : Nat) p, l2[i]? = some p → ∃ B o x, a2 = some ⟨B, o, none⟩ ∧ w.cell? ⟨B, o + i, none⟩ = some x ∧ Hb w x p) := hr2
  have HC : Hid (l.length ≤ 9223372036854775807) := hc
  clear hr hr2 hc
  by_cases hd : l.length = l2.length
  · rw [← hd]
    have HL : Hid (l.length = l2.length) := hd
    clear hd
    go_enter Tryd.func43, Tryd.ntmps43
    go_wp2_with fail
    go_loop [17] (fun i => ∃ j : Nat, j ≤ l.length ∧ i = .int .i64 j ∧ Hid (l.take j = l2.take j)) (fun i => l.length - (intOf i).toNat)
    case atStart => exact ⟨0, Nat.zero_le _, rfl, rfl⟩
    case round =>
      obtain ⟨j, hj, rfl, HE⟩ := hrel
      by_cases hlt : j < l.length
      · have HL2 : Hid (j < l2.length) := HL.out ▸ hlt
        obtain ⟨p, hkp⟩ : ∃ f, l[j] = f := ⟨_, rfl⟩
        obtain ⟨p2, hkp2⟩ : ∃ f, l2[j]'HL2.out = f := ⟨_, rfl⟩
        obtain ⟨B, o, x, rfl, h0, hx⟩ := HR.out j p (by rw [List.getElem?_eq_getElem hlt, hkp])
        obtain ⟨B', o', x2, rfl, h0', hx'⟩ := HR2.out j p2 (by rw [List.getElem?_eq_getElem HL2.out, hkp2])
        have HKP : Hid (l[j] = p ∧ l2[j]'HL2.out = p2) := ⟨hkp, hkp2⟩
        clear hkp hkp2
        obtain ⟨r1, hr1⟩ : ∃ r1, r1 = (p == p2) := ⟨_, rfl⟩
        have HX : Hid (Calls Tryd.prog 7 #[x, x2] w fun e w' => e = .returned (.bool r1) ∧ w' = w) := by rw [hr1]; exact equal_calls x x2 p p2 w hx.holds hx'.holds
        have HR1 : Hid (r1 = true ↔ p = p2) := by show _ ↔ _; rw [hr1]; simp
        obtain ⟨xa, xn, xc, rfl⟩ := hx.shape
        obtain ⟨ya, yn, yc, rfl⟩ := hx'.shape
        have HW : Hid (wrap64 ((j : Int) + 1) = ((j + 1 : Nat) : Int)) := wr1 hlt HC.out
        have hjl : (j : Int) < (l.length : Int) := by omega
        clear hr1 hx hx'
        go_wp2_with fail
        refine Calls.mono HX.out ?_
        rintro e w1 ⟨rfl, hw1⟩
        have hw2 := hw1.symm
        subst hw2
        clear hw1
        cases r1
        · go_wp2_with fail
          go_ret
          refine ⟨⟨false, rfl, ⟨fun h => (by cases h), fun h => ?_⟩⟩, rfl⟩
          subst h
          have := HKP.out.1.symm.trans HKP.out.2
          exact absurd (HR1.out.2 this) (by simp)
        · go_wp2_with fail
          go_round
          case rel =>
            refine ⟨j + 1, hlt, by rw [HW.out], take_more hlt HL2.out HE.out ?_⟩
            rw [HKP.out.1, HKP.out.2, HR1.out.1 (by simp)]
          case measure => exact meas1 hlt HW.out
      · obtain rfl : j = l.length := by omega
        go_wp2_with fail
        go_ret
        have h := HE.out
        rw [List.take_length, HL.out, List.take_length] at h
        exact ⟨Or.inr ⟨rfl, h⟩, rfl⟩
  · have hd' : ((l.length : Int) != (l2.length : Int)) = true := by simp; omega
    go_enter Tryd.func43, Tryd.ntmps43
    go_wp2_with fail
    go_ret
    exact ⟨⟨false, rfl, ⟨fun h => (by cases h), fun h => absurd (congrArg List.length h) hd⟩⟩, rfl⟩
set_option maxHeartbeats 1000000 in
theorem stexts_calls (v v2 : Value) (l l2 : List (List UInt8)) (w : World) (hc : l.length ≤ 9223372036854775807) (hr : LR w v l) (hr2 : LR w v2 l2) :
    Calls Tryd.prog 25 #[v, v2] w fun e w' => (∃ r : Bool, e = .returned (.bool r) ∧ (r = true ↔ l = l2)) ∧ w' = w := by
  have C : Hid (Calls Tryd.prog 43 _ w _) := tequal_calls v v2 l l2 w hc hr hr2
  obtain ⟨a, n, c, rfl⟩ := hr.shape
  obtain ⟨a2, n2, c2, rfl⟩ := hr2.shape
  clear hr hr2 hc
  go_enter Tryd.func25, Tryd.ntmps25
  go_wp2_with fail
  refine C.out.mono ?_
  rintro e w1 ⟨⟨r, rfl, hr⟩, hw1⟩
  have hw2 := hw1.symm
  subst hw2
  have HR : Hid (r = true ↔ l = l2) := hr
  clear hw1 hr
  go_wp2_with fail
  go_ret
  exact ⟨⟨r, rfl, HR.out⟩, rfl⟩
set_option maxHeartbeats 2000000 in
set_option maxRecDepth 100000 in
/-- same of two segments that are the same. -/
theorem ssame_calls (n f : Int) (hs : Bool) (sz : Int) (tn : Bool) (x x2 R R2 : Value) (p : List UInt8) (rs : List (List UInt8)) (w : World) (hx : Hb w x p) (hx2 : Hb w x2 p) (hR : LR w R rs) (hR2 : LR w R2 rs) (hc : rs.length ≤ 9223372036854775807) :
    Calls Tryd.prog 17 #[.agg #[.int .i64 n, .int .i64 f, .bool hs, x, R, .int .i64 sz, .bool tn], .agg #[.int .i64 n, .int .i64 f, .bool hs, x2, R2, .int .i64 sz, .bool tn]] w fun e w' => e = .returned (.bool true) ∧ Below w.heap.size w w' := by
  have EQ : Hid (∀ W, Below w.heap.size w W → Calls Tryd.prog 7 #[x, x2] W fun e w' => e = .returned (.bool true) ∧ w' = W) := fun W hW => by
    have := equal_calls x x2 p p W (hx.below hW).holds (hx2.below hW).holds
    rwa [show (p == p) = true by simp] at this
  have ET : Hid (∀ W, Below w.heap.size w W → Calls Tryd.prog 25 #[R, R2] W fun e w' => e = .returned (.bool true) ∧ w' = W) := fun W hW => by
    refine (stexts_calls R R2 rs rs W hc (hR.below hW) (hR2.below hW)).mono ?_
    rintro e w' ⟨⟨r, rfl, hr⟩, rfl⟩
    exact ⟨by rw [hr.2 rfl], rfl⟩
  obtain ⟨xa, xn, xc, rfl⟩ := hx.shape
  obtain ⟨ya, yn, yc, rfl⟩ := hx2.shape
  obtain ⟨Ra, Rn, Rc, rfl⟩ := hR.shape
  obtain ⟨Sa, Sn, Sc, rfl⟩ := hR2.shape
  have B2 : Hid (∀ A B : Obj, Below w.heap.size w ((w.alloc A).alloc B)) := fun A B => below_step (below_alloc _ _) (below_alloc _ _)
  have d0 : (n == n) = true := by simp
  have d1 : (f == f) = true := by simp
  have d2 : (hs == hs) = true := by simp
  have d5 : (sz == sz) = true := by simp
  have d6 : (tn == tn) = true := by simp
  clear hx hx2 hR hR2 hc
  go_enter Tryd.func17, Tryd.ntmps17
  go_wp2_with fail
  refine (EQ.out _ (B2.out _ _)).mono ?_
  rintro e w1 ⟨rfl, hw1⟩
  have hw2 := hw1.symm
  subst hw2
  clear hw1
  go_wp2_with fail
  refine (ET.out _ (B2.out _ _)).mono ?_
  rintro e w1 ⟨rfl, hw1⟩
  have hw2 := hw1.symm
  subst hw2
  clear hw1
  go_wp2_with fail
  go_ret
  exact ⟨rfl, B2.out _ _⟩
end Go.Proofs.YthakbkkopneilaaDoor
