/- The contract of the reference's Order. -/
import Derived.Test.YtobblioplfpndaaVO
import Derived.Deep.RegionWith
namespace Go.Proofs.Ytobblioplfpndaa
open Go.ChangeShapes Go.WideShapes Go.ChangeAt Go.RowKit
theorem way_int (a b : Int) : (if decide (a < b) then (-1 : Int) else if decide (b < a) then 1 else 0) = cmp3 a b := by
  unfold cmp3
  by_cases h1 : a < b
  · rw [if_pos (by simpa using h1), if_neg (by omega), if_pos h1]
  · by_cases h2 : b < a
    · rw [if_neg (by simpa using h1), if_pos (by simpa using h2), if_neg (by omega), if_neg h1]
    · rw [if_neg (by simpa using h1), if_neg (by simpa using h2), if_pos (by omega)]
theorem way_str : ∀ (l m : List UInt8), (if Op.bytesLess l m then (-1 : Int) else if (!Op.bytesLess l m && !(l == m)) then 1 else 0) = Lib.compareBytes l m
  | [], [] => by decide
  | [], b :: m => by simp [Op.bytesLess, Lib.compareBytes]
  | a :: l, [] => by simp [Op.bytesLess, Lib.compareBytes]
  | a :: l, b :: m => by
    have ih := way_str l m
    rw [Lib.compareBytes]
    by_cases h1 : a < b
    · simp [Op.bytesLess, h1]
    · by_cases h2 : b < a
      · have hne : ¬ a = b := fun e => by subst e; exact h1 h2
        simp [Op.bytesLess, h1, h2, hne]
      · have he : a = b := UInt8.le_antisymm (UInt8.not_lt.1 h2) (UInt8.not_lt.1 h1)
        subst he
        simpa [Op.bytesLess, h1] using ih
/-- How long the reference's loop still goes. -/
def ms (N : Nat) : Value → Value → Nat
  | .int _ q, i => if q = 0 then N + 1 - (intOf i).toNat else 0
  | _, _ => 0
theorem ms_lt {j N : Nat} {z : Int} (h : j < N) (hw : z = ((j + 1 : Nat) : Int)) (q : Int) : ms N (.int .i64 q) (.int .i64 z) < ms N (.int .i64 0) (.int .i64 (j : Int)) := by
  subst hw
  have e : ms N (.int .i64 0) (.int .i64 (j : Int)) = N + 1 - j := by simp [ms, intOf]
  rw [e]
  by_cases hq : q = 0
  · subst hq
    have e2 : ms N (.int .i64 0) (.int .i64 ((j + 1 : Nat) : Int)) = N + 1 - (j + 1) := by simp [ms, intOf]
    rw [e2]
    omega
  · have e2 : ms N (.int .i64 q) (.int .i64 ((j + 1 : Nat) : Int)) = 0 := by simp [ms, hq]
    rw [e2]
    omega
set_option maxHeartbeats 8000000 in
set_option maxRecDepth 100000 in
theorem refOrder_calls5 : ∀ n, OrderAt 24 n := by
  intro n
  induction n with
  | zero => intro v t v2 t2 w h; exact h.elim
  | succ n ih =>
    rintro v ⟨k, x, b, s, l⟩ v2 ⟨k2, x2, B2, s2, l2⟩ w ⟨a, c, rfl, hf, hr⟩ ⟨a2, c2, rfl, hf2, hr2⟩
    obtain ⟨b, rfl⟩ : ∃ m : Nat, b = m := ⟨b.toNat, by have := hf.b0; omega⟩
    obtain ⟨B2, rfl⟩ : ∃ m : Nat, B2 = m := ⟨B2.toNat, by have := hf2.b0; omega⟩
    have hb1 : b < 18446744073709551616 := by have := hf.b1; omega
    have hb2 : B2 < 18446744073709551616 := by have := hf2.b1; omega
    obtain ⟨r0, hr0⟩ : ∃ r, r = cmp3 k k2 := ⟨_, rfl⟩
    obtain ⟨r1, hr1⟩ : ∃ r, r = cmp3 x x2 := ⟨_, rfl⟩
    obtain ⟨r2, hr2'⟩ : ∃ r, r = od b B2 := ⟨_, rfl⟩
    obtain ⟨r3, hr3⟩ : ∃ r, r = Lib.compareBytes s.data.toList s2.data.toList := ⟨_, rfl⟩
    obtain ⟨r4, hr4⟩ : ∃ r, r = or4 r0 r1 r2 r3 := ⟨_, rfl⟩
    obtain ⟨R, hR⟩ : ∃ R, R = ordT (n + 1) (.mk k x b s l) (.mk k2 x2 B2 s2 l2) := ⟨_, rfl⟩
    have HRe : Hid (R = if r4 != 0 then r4 else lex (ordT n) l l2) := by
      show _ = _
      rw [hR, hr4, hr0, hr1, hr2', hr3]
      rfl
    rw [← hR]
    have H0 : Hid (∀ W, Calls Try.prog 52 #[.bool (decide (k < k2)), .bool (decide (k2 < k))] W fun e w' => e = .returned (.int .i64 r0) ∧ w' = W) := fun W => by rw [hr0, ← way_int]; exact way_calls _ _ W
    have H1 : Hid (∀ W, Calls Try.prog 52 #[.bool (decide (x < x2)), .bool (decide (x2 < x))] W fun e w' => e = .returned (.int .i64 r1) ∧ w' = W) := fun W => by rw [hr1, ← way_int]; exact way_calls _ _ W
    have H2 : Hid (∀ W, Calls Try.prog 53 #[.int .u64 (b : Int), .int .u64 (B2 : Int)] W fun e w' => e = .returned (.int .i64 r2) ∧ w' = W) := fun W => by rw [hr2']; exact refOrder_od b B2 hb1 hb2 W
    have H3 : Hid (∀ W, Calls Try.prog 52 #[.bool (Op.bytesLess s.toList s2.toList), .bool (!Op.bytesLess s.toList s2.toList && !s.toList == s2.toList)] W fun e w' => e = .returned (.int .i64 r3) ∧ w' = W) := fun W => by
      rw [hr3, ← Lib.toList_data, ← Lib.toList_data, ← way_str]
      exact way_calls _ _ W
    have HR4 : Hid (r4 = or4 r0 r1 r2 r3) := hr4
    have HR : Hid (Row (Is w n) w a l) := hr
    have HRw2 : Hid (Row (Is w n) w a2 l2) := hr2
    have HF : Hid (l.length ≤ 9223372036854775807) := Nat.le_trans hf.n1 hf.c1
    have HI : Hid (OrderAt 24 n) := ih
    clear hb1 hb2 hr0 hr1 hr2' hr3 hr4 hR hr hr2 hf hf2 ih
    go_enter Try.func24, Try.ntmps24
    go_wp2_with fail
    generalize hW0 : (w.alloc (Obj.cells #[.int .i64 k, .int .i64 x, .int .u64 (b : Int), .string s, .slice a l.length c] 25)).alloc (Obj.cells #[.int .i64 k2, .int .i64 x2, .int .u64 (B2 : Int), .string s2, .slice a2 l2.length c2] 25) = W0
    have hA : At5 W0 w.heap.size 0 (.int .i64 k) (.int .i64 x) (.int .u64 (b : Int)) (.string s) (.slice a l.length c) := by subst hW0; exact (box_at w _ _ _ _ _).below (bel1 _ _)
    have hB : At5 W0 (w.heap.size + 1) 0 (.int .i64 k2) (.int .i64 x2) (.int .u64 (B2 : Int)) (.string s2) (.slice a2 l2.length c2) := by subst hW0; exact box_at' _ _ (by simp) _ _ _ _ _
    have HB0 : Hid (Below w.heap.size w W0) := by subst hW0; exact bel2 (bel1 _ _) (bel1 _ _)
    have HA5 : Hid (At5 W0 w.heap.size 0 (.int .i64 k) (.int .i64 x) (.int .u64 (b : Int)) (.string s) (.slice a l.length c)) := hA
    have HB5 : Hid (At5 W0 (w.heap.size + 1) 0 (.int .i64 k2) (.int .i64 x2) (.int .u64 (B2 : Int)) (.string s2) (.slice a2 l2.length c2)) := hB
    clear hW0
    obtain ⟨a0, a1, a3, a4, a5⟩ := hA
    obtain ⟨b0, b1, b3, b4, b5⟩ := hB
    refine (H0.out _).mono ?_
    rintro e w1 ⟨rfl, hw⟩
    have hw2 := hw.symm
    subst hw2
    by_cases z0 : (r0 == 0) = true
    · have Z0 : Hid (r0 = 0) := by show _ = _; simpa using z0
      go_wp2_with fail
      refine (H1.out _).mono ?_
      rintro e w1 ⟨rfl, hw⟩
      have hw2 := hw.symm
      subst hw2
      clear z0
      by_cases z0 : (r1 == 0) = true
      · have Z1 : Hid (r1 = 0) := by show _ = _; simpa using z0
        go_wp2_with fail
        refine (H2.out _).mono ?_
        rintro e w1 ⟨rfl, hw⟩
        have hw2 := hw.symm
        subst hw2
        clear z0
        by_cases z0 : (r2 == 0) = true
        · have Z2 : Hid (r2 = 0) := by show _ = _; simpa using z0
          go_wp2_with fail
          refine (H3.out _).mono ?_
          rintro e w1 ⟨rfl, hw⟩
          have hw2 := hw.symm
          subst hw2
          clear z0
          by_cases z0 : (r3 == 0) = true
          · have Z3 : Hid (r3 = 0) := by show _ = _; simpa using z0
            have HS : Hid (R = lex (ordT n) l l2) := by show _ = _; rw [HRe.out, HR4.out]; simp [or4, Z0.out, Z1.out, Z2.out, Z3.out]
            obtain rfl := Z3.out
            clear z0 Z3
            go_wp2_with fail
            clear a0 a1 a3 a4 a5 b0 b1 b3 b4 b5
            go_loopw [5, 6] (fun nn i wr => ∃ (j : Nat) (q : Int), nn = .int .i64 q ∧ i = .int .i64 j ∧ Hid (j ≤ l.length ∧ j ≤ l2.length) ∧ Hid ((q ≠ 0 ∧ R = q) ∨ (q = 0 ∧ R = lex (ordT n) (l.drop j) (l2.drop j))) ∧ Hid (Below W0.heap.size W0 wr)) (fun nn i _ => ms l.length nn i)
            case atStart => exact ⟨0, 0, rfl, rfl, ⟨Nat.zero_le _, Nat.zero_le _⟩, .inr ⟨rfl, by simpa using HS.out⟩, Below.refl _ _⟩
            case round =>
              obtain ⟨j, q, rfl, rfl, HJ, HE, HB⟩ := hrel
              have HBw : Hid (Below w.heap.size w wr) := bel2 HB0.out HB.out
              obtain ⟨_, _, _, _, g5⟩ := HA5.out.below HB.out
              obtain ⟨_, _, _, _, g6⟩ := HB5.out.below HB.out
              by_cases hq : q = 0
              · subst hq
                have HE2 : Hid (R = lex (ordT n) (l.drop j) (l2.drop j)) := by rcases HE.out with h | h; exact absurd rfl h.1; exact h.2
                clear HE
                by_cases hlt : j < l.length
                · by_cases hlt2 : j < l2.length
                  · obtain ⟨B, o, c0, c1, c2, c3, c4, rfl, h5, hi⟩ := HR.out j _ (List.getElem?_eq_getElem hlt)
                    obtain ⟨B', o', d0, d1, d2, d3, d4, rfl, h5', hi'⟩ := HRw2.out j _ (List.getElem?_eq_getElem hlt2)
                    obtain ⟨k', x', b', s', a', m', c', rfl, rfl, rfl, rfl, rfl⟩ := hi.shape
                    obtain ⟨k'', x'', b'', s'', a'', m'', c'', rfl, rfl, rfl, rfl, rfl⟩ := hi'.shape
                    obtain ⟨e0, e1, e2, e3, e4⟩ := h5.below HBw.out
                    obtain ⟨f0, f1, f2, f3, f4⟩ := h5'.below HBw.out
                    have HIk := hi.below HBw.out
                    have HIk' := hi'.below HBw.out
                    obtain ⟨q, hq⟩ : ∃ q, q = ordT n l[j] l2[j] := ⟨_, rfl⟩
                    have C0 : ∀ W, Below wr.heap.size wr W → Calls Try.prog 24 #[.agg #[.int .i64 k', .int .i64 x', .int .u64 b', .string s', .slice a' m' c'], .agg #[.int .i64 k'', .int .i64 x'', .int .u64 b'', .string s'', .slice a'' m'' c'']] W fun e w' => e = .returned (.int .i64 q) ∧ Below W.heap.size W w' := fun W hB => by rw [hq]; exact HI.out _ _ _ _ W (HIk.below hB) (HIk'.below hB)
                    have HST : Hid (R = if q != 0 then q else lex (ordT n) (l.drop (j + 1)) (l2.drop (j + 1))) := by
                      have h1 := HE2.out
                      rw [drop_at hlt, drop_at hlt2] at h1
                      show R = _
                      rw [h1, hq]
                      rfl
                    have HW : Hid (wrap64 ((j : Int) + 1) = ((j + 1 : Nat) : Int)) := wr1 hlt HF.out
                    have hjl : (j : Int) < (l.length : Int) := by omega
                    have hjl2 : (j : Int) < (l2.length : Int) := by omega
                    have HLt : Hid (j < l.length ∧ j < l2.length) := ⟨hlt, hlt2⟩
                    clear hi h5 hi' h5' HIk HIk' hq HE2
                    go_wp2_with fail
                    go_region_with (go_at_call 24; refine Calls.mono (C0 _ (Below.refl _ wr).drew) ?_; rintro e w1 ⟨rfl, hb1⟩)
                    all_goals
                      have HB1 : Hid (Below W0.heap.size W0 w1) := bel2 HB.out (bel2 (Below.refl _ wr).drew hb1)
                      clear hb1
                      go_wp2_with fail
                      refine ⟨⟨j + 1, q, rfl, by rw [HW.out], ⟨HLt.out.1, HLt.out.2⟩, ?_, HB1⟩, ms_lt HLt.out.1 HW.out q⟩
                      have h := HST.out
                      show _ ∨ _
                      by_cases hq : q = 0
                      · right
                        subst hq
                        exact ⟨rfl, by simpa using h⟩
                      · left
                        exact ⟨hq, by rw [h]; simp [hq]⟩
                  · have n1 : decide (j < l.length) = true := decide_eq_true hlt
                    have n2 : decide (j < l2.length) = false := decide_eq_false hlt2
                    have i1 : decide ((j : Int) < (l.length : Int)) = true := decide_eq_true (by omega)
                    have i2 : decide ((j : Int) < (l2.length : Int)) = false := decide_eq_false (by omega)
                    have n3 : decide (l.length < l2.length) = false := decide_eq_false (by omega)
                    have n4 : decide (l2.length < l.length) = true := decide_eq_true (by omega)
                    have i3 : decide ((l.length : Int) < (l2.length : Int)) = false := decide_eq_false (by omega)
                    have i4 : decide ((l2.length : Int) < (l.length : Int)) = true := decide_eq_true (by omega)
                    have HS2 : Hid (R = 1) := by show _ = _; rw [HE2.out, drop_at hlt, List.drop_eq_nil_of_le (show l2.length ≤ j by omega), lex]
                    have HWy : Hid (∀ W, Calls Try.prog 52 #[.bool false, .bool true] W fun e w' => e = .returned (.int .i64 1) ∧ w' = W) := fun W => way_calls false true W
                    clear HE2 hlt hlt2
                    go_wp2_with fail
                    refine (HWy.out _).mono ?_
                    rintro e w1 ⟨rfl, hw⟩
                    have hw2 := hw.symm
                    subst hw2
                    go_wp2_with fail
                    go_ret
                    exact ⟨by rw [HS2.out]; rfl, HBw.out⟩
                · have hjl : j = l.length := by have := HJ.out; omega
                  have n1 : decide (j < l.length) = false := decide_eq_false hlt
                  have i1 : decide ((j : Int) < (l.length : Int)) = false := decide_eq_false (by omega)
                  have n4 : decide (l2.length < l.length) = false := decide_eq_false (by have := HJ.out; omega)
                  have i4 : decide ((l2.length : Int) < (l.length : Int)) = false := decide_eq_false (by have := HJ.out; omega)
                  by_cases hl2 : l.length < l2.length
                  · have n3 : decide (l.length < l2.length) = true := decide_eq_true hl2
                    have i3 : decide ((l.length : Int) < (l2.length : Int)) = true := decide_eq_true (by omega)
                    have HS2 : Hid (R = -1) := by show _ = _; rw [HE2.out, hjl, drop_at hl2, List.drop_eq_nil_of_le (Nat.le_refl _), lex]
                    have HWy : Hid (∀ W, Calls Try.prog 52 #[.bool true, .bool false] W fun e w' => e = .returned (.int .i64 (-1)) ∧ w' = W) := fun W => way_calls true false W
                    clear HE2 hlt hl2 hjl
                    go_wp2_with fail
                    refine (HWy.out _).mono ?_
                    rintro e w1 ⟨rfl, hw⟩
                    have hw2 := hw.symm
                    subst hw2
                    go_wp2_with fail
                    go_ret
                    exact ⟨by rw [HS2.out]; rfl, HBw.out⟩
                  · have n3 : decide (l.length < l2.length) = false := decide_eq_false hl2
                    have i3 : decide ((l.length : Int) < (l2.length : Int)) = false := decide_eq_false (by omega)
                    have HS2 : Hid (R = 0) := by show _ = _; rw [HE2.out, hjl, List.drop_eq_nil_of_le (Nat.le_refl _), List.drop_eq_nil_of_le (show l2.length ≤ l.length by omega), lex]
                    have HWy : Hid (∀ W, Calls Try.prog 52 #[.bool false, .bool false] W fun e w' => e = .returned (.int .i64 0) ∧ w' = W) := fun W => way_calls false false W
                    clear HE2 hlt hl2 hjl
                    go_wp2_with fail
                    refine (HWy.out _).mono ?_
                    rintro e w1 ⟨rfl, hw⟩
                    have hw2 := hw.symm
                    subst hw2
                    go_wp2_with fail
                    go_ret
                    exact ⟨by rw [HS2.out]; rfl, HBw.out⟩
              · have hq0 : (q == 0) = false := by simpa using hq
                have HS2 : Hid (R = q) := by rcases HE.out with h | h; exact h.2; exact absurd h.1 hq
                clear HE hq
                go_wp2_with fail
                go_ret
                exact ⟨by rw [HS2.out]; rfl, HBw.out⟩
          · have z1 : (r3 == 0) = false := by simpa using z0
            have HS : Hid (R = r3) := by show _ = _; rw [HRe.out, HR4.out]; simp at z0; simp [or4, z0, Z0.out, Z1.out, Z2.out]
            clear z0
            go_wp2_with fail
            go_loopw [5, 6] (fun nn _ wr => nn = .int .i64 r3 ∧ Hid (Below W0.heap.size W0 wr)) (fun _ _ _ => 0)
            case atStart => exact ⟨rfl, Below.refl _ _⟩
            case round =>
              obtain ⟨rfl, HB⟩ := hrel
              go_wp2_with fail
              go_ret
              exact ⟨by rw [HS.out]; rfl, bel2 HB0.out HB.out⟩
        · have z1 : (r2 == 0) = false := by simpa using z0
          have HS : Hid (R = r2) := by show _ = _; rw [HRe.out, HR4.out]; simp at z0; simp [or4, z0, Z0.out, Z1.out]
          clear z0
          go_wp2_with fail
          go_loopw [5, 6] (fun nn _ wr => nn = .int .i64 r2 ∧ Hid (Below W0.heap.size W0 wr)) (fun _ _ _ => 0)
          case atStart => exact ⟨rfl, Below.refl _ _⟩
          case round =>
            obtain ⟨rfl, HB⟩ := hrel
            go_wp2_with fail
            go_ret
            exact ⟨by rw [HS.out]; rfl, bel2 HB0.out HB.out⟩
      · have z1 : (r1 == 0) = false := by simpa using z0
        have HS : Hid (R = r1) := by show _ = _; rw [HRe.out, HR4.out]; simp at z0; simp [or4, z0, Z0.out]
        clear z0
        go_wp2_with fail
        go_loopw [5, 6] (fun nn _ wr => nn = .int .i64 r1 ∧ Hid (Below W0.heap.size W0 wr)) (fun _ _ _ => 0)
        case atStart => exact ⟨rfl, Below.refl _ _⟩
        case round =>
          obtain ⟨rfl, HB⟩ := hrel
          go_wp2_with fail
          go_ret
          exact ⟨by rw [HS.out]; rfl, bel2 HB0.out HB.out⟩
    · have z1 : (r0 == 0) = false := by simpa using z0
      have HS : Hid (R = r0) := by show _ = _; rw [HRe.out, HR4.out]; simp at z0; simp [or4, z0]
      clear z0
      go_wp2_with fail
      go_loopw [5, 6] (fun nn _ wr => nn = .int .i64 r0 ∧ Hid (Below W0.heap.size W0 wr)) (fun _ _ _ => 0)
      case atStart => exact ⟨rfl, Below.refl _ _⟩
      case round =>
        obtain ⟨rfl, HB⟩ := hrel
        go_wp2_with fail
        go_ret
        exact ⟨by rw [HS.out]; rfl, bel2 HB0.out HB.out⟩
end Go.Proofs.Ytobblioplfpndaa
