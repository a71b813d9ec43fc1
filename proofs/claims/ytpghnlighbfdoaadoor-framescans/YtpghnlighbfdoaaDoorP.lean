/- Lists of frames in memory; the contracts of the statements' own same and of slices.EqualFunc. -/
import Derived.Test.YtpghnlighbfdoaaDoorN
import Derived.Test.YtpghnlighbfdoaaDoorO
namespace Go.Proofs.YtpghnlighbfdoaaDoor
open Go.ChangeShapes Go.WideShapes Go.ChangeAt Go.RowKit
/-- v is the list of frames fs. -/
def FR (w : World) (v : Value) (fs : List (Int × List UInt8)) : Prop :=
  ∃ a c, v = .slice a fs.length c ∧ ∀ (i : Nat) k p, fs[i]? = some (k, p) → ∃ B o x, a = some ⟨B, o, none⟩ ∧ w.cell? ⟨B, o + i * 2, none⟩ = some (.int .i64 k) ∧ w.cell? ⟨B, o + i * 2 + 1, none⟩ = some x ∧ Hb w x p
theorem cell_below {w w' : World} {a : Addr} {c : Value} (h : w.cell? a = some c) (hb : Below w.heap.size w w') : w'.cell? a = some c := Lib.Below.cellOf hb h (Nat.le_refl _)
theorem FR.below {w w' : World} {v : Value} {fs : List (Int × List UInt8)} (h : FR w v fs) (hb : Below w.heap.size w w') : FR w' v fs := by
  obtain ⟨a, c, hv, h⟩ := h
  refine ⟨a, c, hv, fun i k p hp => ?_⟩
  obtain ⟨B, o, x, ha, h0, h1, hx⟩ := h i k p hp
  exact ⟨B, o, x, ha, cell_below h0 hb, cell_below h1 hb, hx.below hb⟩
theorem bx0 (w : World) (c0 c1 : Value) : (w.alloc (.cells #[c0, c1] 29)).cell? ⟨w.heap.size, 0, none⟩ = some c0 := by simp
theorem bx1 (w : World) (c0 c1 : Value) : (w.alloc (.cells #[c0, c1] 29)).cell? ⟨w.heap.size, 1, none⟩ = some c1 := by simp
set_option maxHeartbeats 2000000 in
theorem fsame_calls (k k2 : Int) (x x2 : Value) (p p2 : List UInt8) (w : World) (hx : Hb w x p) (hx2 : Hb w x2 p2) :
    Calls Tryd.prog 16 #[.agg #[.int .i64 k, x], .agg #[.int .i64 k2, x2]] w fun e w' => e = .returned (.bool (k == k2 && p == p2)) ∧ Below w.heap.size w w' := by
  have EQ : Hid (∀ W, Below w.heap.size w W → Calls Tryd.prog 6 #[x, x2] W fun e w' => e = .returned (.bool (p == p2)) ∧ w' = W) := fun W hW => equal_calls x x2 p p2 W (hx.below hW).holds (hx2.below hW).holds
  obtain ⟨a, c, rfl, _, _⟩ := hx
  obtain ⟨a2, c2, rfl, _, _⟩ := hx2
  have B2 : Hid (Below w.heap.size w ((w.alloc (.cells #[.int .i64 k, .slice a p.length c] 29)).alloc (.cells #[.int .i64 k2, .slice a2 p2.length c2] 29))) := below_step (below_alloc _ _) (below_alloc _ _)
  cases hk : (k == k2) with
  | false =>
    go_enter Tryd.func16, Tryd.ntmps16
    go_wp2_with fail
    go_ret
    exact ⟨rfl, B2.out⟩
  | true =>
    go_enter Tryd.func16, Tryd.ntmps16
    go_wp2_with fail
    refine (EQ.out _ B2.out).mono ?_
    rintro e w1 ⟨rfl, hw1⟩
    have hw2 := hw1.symm
    subst hw2
    clear hw1
    go_wp2_with fail
    go_ret
    exact ⟨by simp, B2.out⟩
theorem take_more {α : Type} {l l2 : List α} {j : Nat} (h : j < l.length) (h2 : j < l2.length) (e : l.take j = l2.take j) (hx : l[j] = l2[j]) : l.take (j + 1) = l2.take (j + 1) := by
  rw [List.take_add_one, List.take_add_one, e, List.getElem?_eq_getElem h, List.getElem?_eq_getElem h2, hx]
theorem wr1 {j N : Nat} (h : j < N) (hN : N ≤ 9223372036854775807) : wrap64 ((j : Int) + 1) = ((j + 1 : Nat) : Int) := by unfold wrap64; omega
theorem meas1 {j N : Nat} {z : Int} (h : j < N) (hw : z = ((j + 1 : Nat) : Int)) : N - (intOf (.int .i64 z)).toNat < N - (intOf (.int .i64 (j : Int))).toNat := by
  subst hw
  simp only [intOf]
  omega
set_option maxHeartbeats 4000000 in
theorem fequal_calls (v v2 : Value) (l l2 : List (Int × List UInt8)) (w : World) (hc : l.length ≤ 9223372036854775807) (hr : FR w v l) (hr2 : FR w v2 l2) :
    Calls Tryd.prog 17 #[v, v2, .func (.func 16) #[] #[]] w fun e w' => (∃ r : Bool, e = .returned (.bool r) ∧ (r = true ↔ l = l2)) ∧ Below w.heap.size w w' := by
  obtain ⟨a, c, rfl, hr⟩ := hr
  obtain ⟨a2, c2, rfl, hr2⟩ := hr2
  have HR : Hid (∀ (i : Nat) k p, l[i]? = some (k, p) → ∃ B o x, a = some ⟨B, o, none⟩ ∧ w.cell? ⟨B, o + i * 2, none⟩ = some (.int .i64 k) ∧ w.cell? ⟨B, o + i * 2 + 1, none⟩ = some x ∧ Hb w x p) := hr
  have HR2 : Hid (∀ (i : Nat) k p, l2[i]? = some (k, p) → ∃ B o x, a2 = some ⟨B, o, none⟩ ∧ w.cell? ⟨B, o + i * 2, none⟩ = some (.int .i64 k) ∧ w.cell? ⟨B, o + i * 2 + 1, none⟩ = some x ∧ Hb w x p) := hr2
  have HC : Hid (l.length ≤ 9223372036854775807) := hc
  clear hr hr2 hc
  by_cases hd : l.length = l2.length
  · rw [← hd]
    have HL : Hid (l.length = l2.length) := hd
    clear hd
    go_enter Tryd.func17, Tryd.ntmps17
    go_wp2_with fail
    go_loopw [17] (fun i wr => ∃ j : Nat, j ≤ l.length ∧ i = .int .i64 j ∧ Hid (l.take j = l2.take j) ∧ Hid (Below w.heap.size w wr)) (fun i _ => l.length - (intOf i).toNat)
    case atStart => exact ⟨0, Nat.zero_le _, rfl, rfl, Below.refl _ _⟩
    case round =>
      obtain ⟨j, hj, rfl, HE, HB⟩ := hrel
      by_cases hlt : j < l.length
      · have HL2 : Hid (j < l2.length) := HL.out ▸ hlt
        obtain ⟨⟨k, p⟩, hkp⟩ : ∃ f, l[j] = f := ⟨_, rfl⟩
        obtain ⟨⟨k2, p2⟩, hkp2⟩ : ∃ f, l2[j]'HL2.out = f := ⟨_, rfl⟩
        obtain ⟨B, o, x, rfl, h0, h1, hx⟩ := HR.out j k p (by rw [List.getElem?_eq_getElem hlt, hkp])
        obtain ⟨B', o', x2, rfl, h0', h1', hx'⟩ := HR2.out j k2 p2 (by rw [List.getElem?_eq_getElem HL2.out, hkp2])
        have HKP : Hid (l[j] = (k, p) ∧ l2[j]'HL2.out = (k2, p2)) := ⟨hkp, hkp2⟩
        clear hkp hkp2
        have HX : Hid (∀ W, Below w.heap.size w W → Calls Tryd.prog 16 #[.agg #[.int .i64 k, x], .agg #[.int .i64 k2, x2]] W fun e w' => e = .returned (.bool (k == k2 && p == p2)) ∧ Below W.heap.size W w') := fun W hW => fsame_calls k k2 x x2 p p2 W (hx.below hW) (hx'.below hW)
        obtain ⟨xa, xc, rfl, _, _⟩ := hx
        obtain ⟨ya, yc, rfl, _, _⟩ := hx'
        have e0 := cell_below h0 HB.out
        have e1 := cell_below h1 HB.out
        have BB : Hid (Below w.heap.size w (wr.alloc (.cells #[.int .i64 k, .slice xa p.length xc] 29))) := HB.out.alloc HB.out.size _
        have f0 := cell_below h0' BB.out
        have f1 := cell_below h1' BB.out
        have BC : Hid (Below w.heap.size w ((wr.alloc (.cells #[.int .i64 k, .slice xa p.length xc] 29)).alloc (.cells #[.int .i64 k2, .slice ya p2.length yc] 29))) := BB.out.alloc BB.out.size _
        clear h0 h1 h0' h1'
        have HW : Hid (wrap64 ((j : Int) + 1) = ((j + 1 : Nat) : Int)) := wr1 hlt HC.out
        have hjl : (j : Int) < (l.length : Int) := by omega
        obtain ⟨r1, hr1⟩ : ∃ r1, r1 = (k == k2 && p == p2) := ⟨_, rfl⟩
        rw [← hr1] at HX
        have HR1 : Hid (r1 = true ↔ k = k2 ∧ p = p2) := by show _ ↔ _; rw [hr1]; simp
        clear hr1
        go_wp2_with fail
        refine Calls.mono (HX.out _ BC.out) ?_
        rintro e w1 ⟨rfl, hb1⟩
        have HB1 : Hid (Below w.heap.size w w1) := BC.out.trans (hb1.mono BC.out.size)
        clear hb1 e0 e1 f0 f1
        cases r1
        · go_wp2_with fail
          go_ret
          refine ⟨⟨false, rfl, ⟨fun h => (by cases h), fun h => ?_⟩⟩, HB1.out⟩
          subst h
          have := HKP.out.1.symm.trans HKP.out.2
          simp only [Prod.mk.injEq] at this
          exact absurd (HR1.out.2 this) (by simp)
        · go_wp2_with fail
          refine ⟨⟨j + 1, hlt, by rw [HW.out], take_more hlt HL2.out HE.out ?_, HB1⟩, meas1 hlt HW.out⟩
          rw [HKP.out.1, HKP.out.2, (HR1.out.1 (by simp)).1, (HR1.out.1 (by simp)).2]
      · obtain rfl : j = l.length := by omega
        go_wp2_with fail
        go_ret
        refine ⟨⟨true, rfl, ?_⟩, HB.out⟩
        have h := HE.out
        rw [List.take_length, HL.out, List.take_length] at h
        simp [h]
  · have hd' : ((l.length : Int) != (l2.length : Int)) = true := by simp; omega
    go_enter Tryd.func17, Tryd.ntmps17
    go_wp2_with fail
    go_ret
    exact ⟨⟨false, rfl, ⟨fun h => (by cases h), fun h => absurd (congrArg List.length h) hd⟩⟩, Below.refl _ _⟩
end Go.Proofs.YtpghnlighbfdoaaDoor
