/- The contract of the program's Same: it tells whether two trees are one. -/
import Derived.Test.YtjmonkhkcmcfiaaVB
import Derived.Deep.RegionWith
namespace Go.Proofs.Ytjmonkhkcmcfiaa
open Go.ChangeShapes Go.WideShapes Go.ChangeAt Go.RowKit
/-- What Same does at all values of at most n lists deep. -/
def SameAt (n : Nat) : Prop := ∀ (v : Value) (t : Tv) (v2 : Value) (t2 : Tv) (w : World), Is w n v t → Is w n v2 t2 →
    Calls Try.prog 35 #[v, v2] w fun e w' => (∃ r : Bool, e = .returned (.bool r) ∧ (r = true ↔ t = t2)) ∧ Below w.heap.size w w'
set_option maxHeartbeats 2000000 in
theorem equalFunc_calls (n : Nat) (ih : SameAt n) (a : Option Addr) (c : Nat) (l : List Tv) (a2 : Option Addr) (c2 : Nat) (l2 : List Tv) (w : World) (hc : l.length ≤ 9223372036854775807) (hr : Row (Is w n) w a l) (hr2 : Row (Is w n) w a2 l2) :
    Calls Try.prog 69 #[.slice a l.length c, .slice a2 l2.length c2, .func (.func 35) #[] #[]] w fun e w' => (∃ r : Bool, e = .returned (.bool r) ∧ (r = true ↔ l = l2)) ∧ Below w.heap.size w w' := by
  have HR : Hid (Row (Is w n) w a l) := hr
  have HR2 : Hid (Row (Is w n) w a2 l2) := hr2
  have HC : Hid (l.length ≤ 9223372036854775807) := hc
  clear hr hr2 hc
  by_cases hd : l.length = l2.length
  · rw [← hd]
    have HL : Hid (l.length = l2.length) := hd
    clear hd
    go_enter Try.func69, Try.ntmps69
    go_wp2_with fail
    go_loopw [17] (fun i wr => ∃ j : Nat, j ≤ l.length ∧ i = .int .i64 j ∧ Hid (l.take j = l2.take j) ∧ Hid (Below w.heap.size w wr)) (fun i _ => l.length - (intOf i).toNat)
    case atStart => exact ⟨0, Nat.zero_le _, rfl, rfl, Below.refl _ _⟩
    case round =>
      obtain ⟨j, hj, rfl, HE, HB⟩ := hrel
      by_cases hlt : j < l.length
      · have HL2 : Hid (j < l2.length) := HL.out ▸ hlt
        obtain ⟨B, o, c0, c1, c2, c3, c4, rfl, h5, hi⟩ := HR.out j _ (List.getElem?_eq_getElem hlt)
        obtain ⟨B', o', d0, d1, d2, d3, d4, rfl, h5', hi'⟩ := HR2.out j _ (List.getElem?_eq_getElem HL2.out)
        obtain ⟨k', x', b', s', a', m', c', rfl, rfl, rfl, rfl, rfl⟩ := hi.shape
        obtain ⟨k'', x'', b'', s'', a'', m'', c'', rfl, rfl, rfl, rfl, rfl⟩ := hi'.shape
        obtain ⟨e0, e1, e2, e3, e4⟩ := h5.below HB.out
        obtain ⟨f0, f1, f2, f3, f4⟩ := h5'.below (bel2 HB.out (bel1 wr (Obj.cells #[.int .i64 k', .int .i64 x', .int .u64 b', .string s', .slice a' m' c'] 25)))
        have HI := hi.below HB.out
        have HI' := hi'.below HB.out
        have C0 := fun W (hB : Below wr.heap.size wr W) => ih _ _ _ _ W (HI.below hB) (HI'.below hB)
        clear hi h5 HI hi' h5' HI'
        have HW : Hid (wrap64 ((j : Int) + 1) = ((j + 1 : Nat) : Int)) := wr1 hlt HC.out
        have hjl : (j : Int) < (l.length : Int) := by omega
        go_wp2_with fail
        refine Calls.mono (C0 _ ?_) ?_
        · exact bel2 (bel1 _ _) (bel1 _ _)
        rintro e w1 ⟨⟨r1, rfl, hr1⟩, hb1⟩
        have HB1 : Hid (Below w.heap.size w w1) := bel2 HB.out (bel2 (bel2 (bel1 _ _) (bel1 _ _)) hb1)
        have HR1 : Hid (r1 = true ↔ _) := hr1
        clear hb1 hr1 C0 e0 e1 e2 e3 e4 f0 f1 f2 f3 f4
        cases r1
        · go_wp2_with fail
          go_ret
          have hn : ¬ l[j] = l2[j]'HL2.out := fun h => by cases HR1.out.2 h
          exact ⟨⟨false, rfl, ⟨fun h => (by cases h), fun h => absurd h (fun e => hn (by subst e; rfl))⟩⟩, HB1.out⟩
        · go_wp2_with fail
          exact ⟨⟨j + 1, hlt, by rw [HW.out], take_more hlt HL2.out HE.out (HR1.out.1 (by simp)), HB1⟩, meas hlt HW.out⟩
      · obtain rfl : j = l.length := by omega
        go_wp2_with fail
        go_ret
        refine ⟨⟨true, rfl, ?_⟩, HB.out⟩
        have h := HE.out
        rw [List.take_length, HL.out, List.take_length] at h
        simp [h]
  · have hd' : ((l.length : Int) != (l2.length : Int)) = true := by simp; omega
    go_enter Try.func69, Try.ntmps69
    go_wp2_with fail
    go_ret
    exact ⟨⟨false, rfl, ⟨fun h => (by cases h), fun h => absurd (congrArg List.length h) hd⟩⟩, Below.refl _ _⟩
set_option maxHeartbeats 2000000 in
theorem same_calls : ∀ n, SameAt n := by
  intro n
  induction n with
  | zero => intro v t v2 t2 w h; exact h.elim
  | succ n ih =>
    rintro v ⟨k, x, b, s, l⟩ v2 ⟨k2, x2, b2, s2, l2⟩ w ⟨a, c, rfl, hf, hr⟩ ⟨a2, c2, rfl, hf2, hr2⟩
    have C0 := fun W (hB : Below w.heap.size w W) => equalFunc_calls n ih a c l a2 c2 l2 W (Nat.le_trans hf.n1 hf.c1) (hr.below hB) (hr2.below hB)
    clear hr hr2 hf hf2 ih
    by_cases hd : k = k2 ∧ x = x2 ∧ b = b2 ∧ s = s2
    · obtain ⟨rfl, rfl, rfl, rfl⟩ := hd
      go_enter Try.func35, Try.ntmps35
      go_wp2_with fail
      refine Calls.mono (C0 _ (bel2 (bel1 _ _) (bel1 _ _))) ?_
      rintro e w1 ⟨⟨r1, rfl, hr1⟩, hb1⟩
      have HB1 : Hid (Below w.heap.size w w1) := bel2 (bel2 (bel1 _ _) (bel1 _ _)) hb1
      have HR1 : Hid (r1 = true ↔ _) := hr1
      clear hb1 hr1 C0
      go_wp2_with fail
      go_ret
      exact ⟨⟨r1, rfl, HR1.out.trans ⟨fun h => (by rw [h]), fun h => (by cases h; rfl)⟩⟩, HB1.out⟩
    · have he : ¬ (Tv.mk k x b s l = Tv.mk k2 x2 b2 s2 l2) := fun h => hd (by cases h; exact ⟨rfl, rfl, rfl, rfl⟩)
      clear C0
      go_enter Try.func35, Try.ntmps35
      go_wp2_with fail
      all_goals first
        | (go_ret; exact ⟨⟨false, rfl, ⟨fun h => (by cases h), fun h => absurd h he⟩⟩, bel2 (bel1 _ _) (bel1 _ _)⟩)
        | exact absurd ⟨‹k = k2›, ‹x = x2›, ‹b = b2›, tl_inj ‹s.toList = s2.toList›⟩ hd
end Go.Proofs.Ytjmonkhkcmcfiaa
