/- The contracts of EqualFunc over bytes, sameWrite, EqualFunc over writes, Same. -/
import Derived.Test.YtomkoajhjijplaaBI
namespace Go.Proofs.Ytomkoajhjijplaa
open Go.ChangeShapes Go.WideShapes Go.ChangeAt Go.RowKit
theorem take_more {α : Type} {l l2 : List α} {j : Nat} (h : j < l.length) (h2 : j < l2.length) (e : l.take j = l2.take j) (hx : l[j] = l2[j]) : l.take (j + 1) = l2.take (j + 1) := by
  rw [List.take_add_one, List.take_add_one, e, List.getElem?_eq_getElem h, List.getElem?_eq_getElem h2, hx]
set_option maxHeartbeats 2000000 in
theorem tequal_calls (v v2 : Value) (l l2 : List (List UInt8)) (w : World) (hr : LR w v l) (hr2 : LR w v2 l2) :
    Calls Try.prog 67 #[v, v2, .func (.func 14) #[] #[]] w fun e w' => (∃ r : Bool, e = .returned (.bool r) ∧ (r = true ↔ l = l2)) ∧ w' = w := by
  obtain ⟨a, c, rfl, hc, hr⟩ := hr
  obtain ⟨a2, c2, rfl, _, hr2⟩ := hr2
  have HR : Hid (∀ (i : Nat) p, l[i]? = some p → ∃ B o x, a = some ⟨B, o, none⟩ ∧ w.cell? ⟨B, o + i, none⟩ = some x ∧ Lib.HoldsBytes w x p) := hr
  have HR2 : Hid (∀ (i : Nat) p, l2[i]? = some p → ∃ B o x, a2 = some ⟨B, o, none⟩ ∧ w.cell? ⟨B, o + i, none⟩ = some x ∧ Lib.HoldsBytes w x p) := hr2
  have HC : Hid (l.length ≤ 9223372036854775807) := hc
  clear hr hr2 hc
  by_cases hd : l.length = l2.length
  · rw [← hd]
    have HL : Hid (l.length = l2.length) := hd
    clear hd
    go_enter Try.func67, Try.ntmps67
    go_wp2_with fail
    go_loop [17] (fun i => ∃ j : Nat, j ≤ l.length ∧ i = .int .i64 j ∧ Hid (l.take j = l2.take j)) (fun i => l.length - (intOf i).toNat)
    case atStart => exact ⟨0, Nat.zero_le _, rfl, rfl⟩
    case round =>
      obtain ⟨j, hj, rfl, HE⟩ := hrel
      by_cases hlt : j < l.length
      · have HL2 : Hid (j < l2.length) := HL.out ▸ hlt
        obtain ⟨p, hkp⟩ : ∃ f, l[j] = f := ⟨_, rfl⟩
        obtain ⟨p2, hkp2⟩ : ∃ f, l2[j]'HL2.out = f := ⟨_, rfl⟩
        obtain ⟨B, o, x, rfl, h0, hx⟩ := HR.out j p (by rw [List.getElem?_eq_getElem hlt, hkp])
        obtain ⟨B', o', x2, rfl, h0', hx'⟩ := HR2.out j p2 (by rw [List.getElem?_eq_getElem HL2.out, hkp2])
        have HKP : Hid (l[j] = p ∧ l2[j]'HL2.out = p2) := ⟨hkp, hkp2⟩
        clear hkp hkp2
        obtain ⟨r1, hr1⟩ : ∃ r1, r1 = (p == p2) := ⟨_, rfl⟩
        have HX : Hid (Calls Try.prog 14 #[x, x2] w fun e w' => e = .returned (.bool r1) ∧ w' = w) := by rw [hr1]; exact equal_calls x x2 p p2 w hx hx'
        have HR1 : Hid (r1 = true ↔ p = p2) := by show _ ↔ _; rw [hr1]; simp
        obtain ⟨xa, xn, xc, rfl⟩ : ∃ p n c, x = .slice p n c := by obtain ⟨p, c, rfl, _⟩ := hx; exact ⟨_, _, _, rfl⟩
        obtain ⟨ya, yn, yc, rfl⟩ : ∃ p n c, x2 = .slice p n c := by obtain ⟨p, c, rfl, _⟩ := hx'; exact ⟨_, _, _, rfl⟩
        have HW : Hid (wrap64 ((j : Int) + 1) = ((j + 1 : Nat) : Int)) := wr1 hlt HC.out
        have hjl : (j : Int) < (l.length : Int) := by omega
        clear hr1 hx hx'
        go_wp2_with fail
        refine Calls.mono HX.out ?_
        rintro e w1 ⟨rfl, hw1⟩
        have hw2 := hw1.symm
        subst hw2
        clear hw1
        cases r1
        · go_wp2_with fail
          go_ret
          refine ⟨⟨false, rfl, ⟨fun h => (by cases h), fun h => ?_⟩⟩, rfl⟩
          subst h
          have := HKP.out.1.symm.trans HKP.out.2
          exact absurd (HR1.out.2 this) (by simp)
        · go_wp2_with fail
          go_round
          case rel =>
            refine ⟨j + 1, hlt, by rw [HW.out], take_more hlt HL2.out HE.out ?_⟩
            rw [HKP.out.1, HKP.out.2, HR1.out.1 (by simp)]
          case measure => exact meas hlt HW.out
      · obtain rfl : j = l.length := by omega
        go_wp2_with fail
        go_ret
        have h := HE.out
        rw [List.take_length, HL.out, List.take_length] at h
        exact ⟨Or.inr ⟨rfl, h⟩, rfl⟩
  · have hd' : ((l.length : Int) != (l2.length : Int)) = true := by simp; omega
    go_enter Try.func67, Try.ntmps67
    go_wp2_with fail
    go_ret
    exact ⟨⟨false, rfl, ⟨fun h => (by cases h), fun h => absurd (congrArg List.length h) hd⟩⟩, rfl⟩
set_option maxHeartbeats 2000000 in
theorem swrite_calls (t t2 : Wt) (ev ev2 : Value) (w : World) (h : LR w ev t.ev) (h2 : LR w ev2 t2.ev) :
    Calls Try.prog 51 #[.agg #[.string t.br, .string t.fk, .int .i64 t.kp, .int .i64 t.ta, ev], .agg #[.string t2.br, .string t2.fk, .int .i64 t2.kp, .int .i64 t2.ta, ev2]] w fun e w' => (∃ r : Bool, e = .returned (.bool r) ∧ (r = true ↔ t = t2)) ∧ Below w.heap.size w w' := by
  obtain ⟨br, fk, kp, ta, evs⟩ := t
  obtain ⟨br2, fk2, kp2, ta2, evs2⟩ := t2
  dsimp only at h h2 ⊢
  have C0 := fun W (hB : Below w.heap.size w W) => tequal_calls ev ev2 evs evs2 W (h.below hB) (h2.below hB)
  obtain ⟨ea, ec, rfl, _⟩ := h.shape
  obtain ⟨fa, fc, rfl, _⟩ := h2.shape
  clear h h2
  by_cases hd : br = br2 ∧ fk = fk2 ∧ kp = kp2 ∧ ta = ta2
  · obtain ⟨rfl, rfl, rfl, rfl⟩ := hd
    go_enter Try.func51, Try.ntmps51
    go_wp2_with fail
    refine Calls.mono (C0 _ (bel2 (bel1 _ _) (bel1 _ _))) ?_
    rintro e w1 ⟨⟨r1, rfl, hr1⟩, hw1⟩
    have HB1 : Hid (Below w.heap.size w w1) := by rw [hw1]; exact bel2 (bel1 _ _) (bel1 _ _)
    have HR1 : Hid (r1 = true ↔ _) := hr1
    clear hw1 hr1 C0
    go_wp2_with fail
    go_ret
    exact ⟨⟨r1, rfl, HR1.out.trans ⟨fun h => (by rw [h]), fun h => (by cases h; rfl)⟩⟩, HB1.out⟩
  · have he : ¬ (Wt.mk br fk kp ta evs = Wt.mk br2 fk2 kp2 ta2 evs2) := fun h => hd (by cases h; exact ⟨rfl, rfl, rfl, rfl⟩)
    clear C0
    go_enter Try.func51, Try.ntmps51
    go_wp2_with fail
    all_goals first
      | (go_ret; exact ⟨⟨false, rfl, ⟨fun h => (by cases h), fun h => absurd h he⟩⟩, bel2 (bel1 _ _) (bel1 _ _)⟩)
      | exact absurd ⟨tl_inj ‹br.toList = br2.toList›, tl_inj ‹fk.toList = fk2.toList›, ‹kp = kp2›, ‹ta = ta2›⟩ hd
set_option maxHeartbeats 2000000 in
theorem wequal_calls (a : Option Addr) (c : Nat) (l : List Wt) (a2 : Option Addr) (c2 : Nat) (l2 : List Wt) (w : World) (hc : l.length ≤ 9223372036854775807) (hr : WR w a l) (hr2 : WR w a2 l2) :
    Calls Try.prog 50 #[.slice a l.length c, .slice a2 l2.length c2, .func (.func 51) #[] #[]] w fun e w' => (∃ r : Bool, e = .returned (.bool r) ∧ (r = true ↔ l = l2)) ∧ Below w.heap.size w w' := by
  have HR : Hid (WR w a l) := hr
  have HR2 : Hid (WR w a2 l2) := hr2
  have HC : Hid (l.length ≤ 9223372036854775807) := hc
  clear hr hr2 hc
  by_cases hd : l.length = l2.length
  · rw [← hd]
    have HL : Hid (l.length = l2.length) := hd
    clear hd
    go_enter Try.func50, Try.ntmps50
    go_wp2_with fail
    go_loopw [17] (fun i wr => ∃ j : Nat, j ≤ l.length ∧ i = .int .i64 j ∧ Hid (l.take j = l2.take j) ∧ Hid (Below w.heap.size w wr)) (fun i _ => l.length - (intOf i).toNat)
    case atStart => exact ⟨0, Nat.zero_le _, rfl, rfl, Below.refl _ _⟩
    case round =>
      obtain ⟨j, hj, rfl, HE, HB⟩ := hrel
      by_cases hlt : j < l.length
      · have HL2 : Hid (j < l2.length) := HL.out ▸ hlt
        obtain ⟨B, o, ev, rfl, h5, hi⟩ := HR.out j _ (List.getElem?_eq_getElem hlt)
        obtain ⟨B', o', ev', rfl, h5', hi'⟩ := HR2.out j _ (List.getElem?_eq_getElem HL2.out)
        obtain ⟨ea, ec, rfl, hel⟩ := hi.shape
        obtain ⟨fa, fc, rfl, hfl⟩ := hi'.shape
        obtain ⟨e0, e1, e2, e3, e4⟩ := h5.below HB.out
        obtain ⟨f0, f1, f2, f3, f4⟩ := h5'.below (bel2 HB.out (bel1 wr (Obj.cells #[.string l[j].br, .string l[j].fk, .int .i64 l[j].kp, .int .i64 l[j].ta, .slice ea l[j].ev.length ec] 42)))
        have C0 := fun W (hB : Below wr.heap.size wr W) => swrite_calls l[j] (l2[j]'HL2.out) _ _ W ((hi.below HB.out).below hB) ((hi'.below HB.out).below hB)
        clear hi h5 hi' h5' hel hfl
        have HW : Hid (wrap64 ((j : Int) + 1) = ((j + 1 : Nat) : Int)) := wr1 hlt HC.out
        have hjl : (j : Int) < (l.length : Int) := by omega
        go_wp2_with fail
        refine Calls.mono (C0 _ ?_) ?_
        · exact bel2 (bel1 _ _) (bel1 _ _)
        rintro e w1 ⟨⟨r1, rfl, hr1⟩, hb1⟩
        have HB1 : Hid (Below w.heap.size w w1) := bel2 HB.out (bel2 (bel2 (bel1 _ _) (bel1 _ _)) hb1)
        have HR1 : Hid (r1 = true ↔ _) := hr1
        clear hb1 hr1 C0 e0 e1 e2 e3 e4 f0 f1 f2 f3 f4
        cases r1
        · go_wp2_with fail
          go_ret
          have hn : ¬ l[j] = l2[j]'HL2.out := fun h => by cases HR1.out.2 h
          exact ⟨⟨false, rfl, ⟨fun h => (by cases h), fun h => absurd h (fun e => hn (by subst e; rfl))⟩⟩, HB1.out⟩
        · go_wp2_with fail
          exact ⟨⟨j + 1, hlt, by rw [HW.out], take_more hlt HL2.out HE.out (HR1.out.1 (by simp)), HB1⟩, meas hlt HW.out⟩
      · obtain rfl : j = l.length := by omega
        go_wp2_with fail
        go_ret
        refine ⟨⟨true, rfl, ?_⟩, HB.out⟩
        have h := HE.out
        rw [List.take_length, HL.out, List.take_length] at h
        simp [h]
  · have hd' : ((l.length : Int) != (l2.length : Int)) = true := by simp; omega
    go_enter Try.func50, Try.ntmps50
    go_wp2_with fail
    go_ret
    exact ⟨⟨false, rfl, ⟨fun h => (by cases h), fun h => absurd (congrArg List.length h) hd⟩⟩, Below.refl _ _⟩
set_option maxHeartbeats 2000000 in
theorem same_calls (v v2 : Value) (b b2 : Bt) (w : World) (h : BIs w v b) (h2 : BIs w v2 b2) :
    Calls Try.prog 16 #[v, v2] w fun e w' => (∃ r : Bool, e = .returned (.bool r) ∧ (r = true ↔ b = b2)) ∧ Below w.heap.size w w' := by
  obtain ⟨rp, rn, rc, wa, wd, rfl, hr, hn, hw⟩ := h
  obtain ⟨rp2, rn2, rc2, wa2, wd2, rfl, hr2, hn2, hw2⟩ := h2
  obtain ⟨key, ex, row, ws⟩ := b
  obtain ⟨key2, ex2, row2, ws2⟩ := b2
  dsimp only at hr hn hw hr2 hn2 hw2 ⊢
  have C0 : Hid (∀ W, Below w.heap.size w W → _) := fun W (hB : Below w.heap.size w W) => wequal_calls wa wd ws wa2 wd2 ws2 W hn (hw.below hB) (hw2.below hB)
  have Q0 : Hid (∀ W, Below w.heap.size w W → Calls Try.prog 14 #[.slice rp rn rc, .slice rp2 rn2 rc2] W fun e w' => e = .returned (.bool (row == row2)) ∧ w' = W) := fun W hB => equal_calls _ _ row row2 W (holds_below hr hB) (holds_below hr2 hB)
  have HQ : Hid ((row == row2) = true ↔ row = row2) := by show _ ↔ _; simp
  generalize (row == row2) = q at Q0 HQ
  clear hr hn hw hr2 hn2 hw2
  by_cases hd : key = key2 ∧ ex = ex2
  · obtain ⟨rfl, rfl⟩ := hd
    go_enter Try.func16, Try.ntmps16
    go_wp2_with fail
    refine (Q0.out _ (bel2 (bel1 _ _) (bel1 _ _))).mono ?_
    rintro e w1 ⟨rfl, hw1⟩
    have hw1' := hw1.symm
    subst hw1'
    clear hw1
    cases q with
    | false =>
      have he : ¬ (Bt.mk key ex row ws = Bt.mk key ex row2 ws2) := fun h => by
        have h1 : row = row2 := by cases h; rfl
        exact absurd (HQ.out.2 h1) (by simp)
      go_wp2_with fail
      go_ret
      exact ⟨⟨false, rfl, ⟨fun h => (by cases h), fun h => absurd h he⟩⟩, bel2 (bel1 _ _) (bel1 _ _)⟩
    | true =>
      have h1 : row = row2 := HQ.out.1 (by simp)
      subst h1
      go_wp2_with fail
      refine (C0.out _ (bel2 (bel1 _ _) (bel1 _ _))).mono ?_
      rintro e w2 ⟨⟨r1, rfl, hr1⟩, hb2⟩
      have HB1 : Hid (Below w.heap.size w w2) := bel2 (bel2 (bel1 _ _) (bel1 _ _)) hb2
      have HR1 : Hid (r1 = true ↔ _) := hr1
      clear hb2 hr1
      go_wp2_with fail
      go_ret
      exact ⟨⟨r1, rfl, HR1.out.trans ⟨fun h => (by rw [h]), fun h => (by cases h; rfl)⟩⟩, HB1.out⟩
  · have he : ¬ (Bt.mk key ex row ws = Bt.mk key2 ex2 row2 ws2) := fun h => hd (by cases h; exact ⟨rfl, rfl⟩)
    clear C0 Q0 HQ
    go_enter Try.func16, Try.ntmps16
    go_wp2_with fail
    all_goals first
      | (go_ret; exact ⟨⟨false, rfl, ⟨fun h => (by cases h), fun h => absurd h he⟩⟩, bel2 (bel1 _ _) (bel1 _ _)⟩)
      | exact absurd ⟨tl_inj ‹key.toList = key2.toList›, ‹ex = ex2›⟩ hd
end Go.Proofs.Ytomkoajhjijplaa
