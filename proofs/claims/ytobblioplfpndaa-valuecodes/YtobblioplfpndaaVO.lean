/- The contracts of cmp.Compare, cmp.Or of four numbers, strings.Compare, and the reference's way. -/
import Derived.Test.YtobblioplfpndaaVI
import Derived.Test.YtobblioplfpndaaFOrd
import Derived.Lib.Bytealg
import Derived.Deep.RegionHeld3
import Derived.Deep.QuietTactic
namespace Go.Proofs.Ytobblioplfpndaa
open Go.ChangeShapes Go.WideShapes Go.ChangeAt Go.RowKit
theorem compare_calls (a b : Int) (w : World) : Calls Try.prog 48 #[.int .i64 a, .int .i64 b] w fun e w' => e = .returned (.int .i64 (cmp3 a b)) ∧ w' = w := by
  obtain ⟨r, hr⟩ : ∃ r, r = cmp3 a b := ⟨_, rfl⟩
  rw [← hr]
  have HR : Hid (r = cmp3 a b) := hr
  clear hr
  rcases Int.lt_trichotomy a b with h | h | h
  · have d1 : decide (a < b) = true := decide_eq_true h
    have HE : Hid (r = -1) := by show _ = _; rw [HR.out]; unfold cmp3; rw [if_neg (by omega), if_pos h]
    clear h HR
    go_enter Try.func48, Try.ntmps48
    go_wp2
    go_ret
    exact ⟨by rw [HE.out]; rfl, rfl⟩
  · subst h
    have HE : Hid (r = 0) := by show _ = _; rw [HR.out]; unfold cmp3; rw [if_pos rfl]
    have d1 : decide (a < a) = false := decide_eq_false (by omega)
    clear HR
    go_enter Try.func48, Try.ntmps48
    go_wp2
    go_ret
    exact ⟨by rw [HE.out]; rfl, rfl⟩
  · have d1 : decide (a < b) = false := decide_eq_false (by omega)
    have d2 : decide (b < a) = true := decide_eq_true h
    have HE : Hid (r = 1) := by show _ = _; rw [HR.out]; unfold cmp3; rw [if_neg (by omega), if_neg (by omega)]
    clear h HR
    go_enter Try.func48, Try.ntmps48
    go_wp2
    go_ret
    exact ⟨by rw [HE.out]; rfl, rfl⟩
theorem cmpstr (s t : ByteArray) (w : World) : (callFunc 94 #[.string s, .string t]).run Try.prog w = .ok (.value (.int .i64 (Lib.compareBytes s.data.toList t.data.toList))) w := by
  have h : (callFunc 94 #[.string s, .string t]).run Try.prog w = ((Extern.BytealgCompare.compare #[.string s, .string t]).run Try.prog w).andThen fun v w' => .ok (.value v) w' := by kernel_rfl
  rw [h, Lib.run_compareString]
  rfl
attribute [local go_sem] cmpstr
theorem strcmp_calls (s t : ByteArray) (w : World) : Calls Try.prog 50 #[.string s, .string t] w fun e w' => e = .returned (.int .i64 (Lib.compareBytes s.data.toList t.data.toList)) ∧ w' = w := by
  go_enter Try.func50, Try.ntmps50
  go_wp2
  go_ret
  exact ⟨rfl, rfl⟩
/-- The first that is not 0. -/
def or4 (a b c d : Int) : Int := if a != 0 then a else if b != 0 then b else if c != 0 then c else d
theorem or_calls (r0 r1 r2 r3 : Int) (w : World) (g : Nat) (h0 : w.cell? ⟨g, 0, none⟩ = some (.int .i64 r0)) (h1 : w.cell? ⟨g, 1, none⟩ = some (.int .i64 r1)) (h2 : w.cell? ⟨g, 2, none⟩ = some (.int .i64 r2)) (h3 : w.cell? ⟨g, 3, none⟩ = some (.int .i64 r3)) :
    Calls Try.prog 47 #[.slice (some ⟨g, 0, none⟩) 4 4] w fun e w' => e = .returned (.int .i64 (or4 r0 r1 r2 r3)) ∧ w' = w := by
  obtain ⟨r, hr⟩ : ∃ r, r = or4 r0 r1 r2 r3 := ⟨_, rfl⟩
  rw [← hr]
  have HR : Hid (r = or4 r0 r1 r2 r3) := hr
  clear hr
  go_enter Try.func47, Try.ntmps47
  go_wp2
  go_loop [8] (fun i => (i = .int .i64 0) ∨ (i = .int .i64 1 ∧ Hid (r0 = 0)) ∨ (i = .int .i64 2 ∧ Hid (r0 = 0 ∧ r1 = 0)) ∨ (i = .int .i64 3 ∧ Hid (r0 = 0 ∧ r1 = 0 ∧ r2 = 0)) ∨ (i = .int .i64 4 ∧ Hid (r0 = 0 ∧ r1 = 0 ∧ r2 = 0 ∧ r3 = 0))) (fun i => 4 - (intOf i).toNat)
  case atStart => exact .inl rfl
  case round =>
    rcases hrel with rfl | ⟨rfl, HE⟩ | ⟨rfl, HE⟩ | ⟨rfl, HE⟩ | ⟨rfl, HE⟩
    · by_cases h : r0 = 0
      · have hd : (r0 != 0) = false := by simpa using h
        have HZ : Hid (r0 = 0) := h
        clear h
        go_wp2
        exact ⟨.inr (.inl ⟨rfl, HZ⟩), by decide⟩
      · have hd : (r0 != 0) = true := by simpa using h
        have HE2 : Hid (r = r0) := by show _ = _; rw [HR.out]; unfold or4; rw [if_pos hd]
        clear h
        go_wp2
        go_ret
        exact ⟨by rw [HE2.out]; rfl, rfl⟩
    · by_cases h : r1 = 0
      · have hd : (r1 != 0) = false := by simpa using h
        have HZ : Hid (r1 = 0) := h
        clear h
        go_wp2
        exact ⟨.inr (.inr (.inl ⟨rfl, ⟨HE.out, HZ.out⟩⟩)), by decide⟩
      · have hd : (r1 != 0) = true := by simpa using h
        have HE2 : Hid (r = r1) := by show _ = _; rw [HR.out]; unfold or4; rw [if_neg (by simp [HE.out]), if_pos hd]
        clear h
        go_wp2
        go_ret
        exact ⟨by rw [HE2.out]; rfl, rfl⟩
    · by_cases h : r2 = 0
      · have hd : (r2 != 0) = false := by simpa using h
        have HZ : Hid (r2 = 0) := h
        clear h
        go_wp2
        exact ⟨.inr (.inr (.inr (.inl ⟨rfl, ⟨HE.out.1, HE.out.2, HZ.out⟩⟩))), by decide⟩
      · have hd : (r2 != 0) = true := by simpa using h
        have HE2 : Hid (r = r2) := by show _ = _; rw [HR.out]; unfold or4; rw [if_neg (by simp [HE.out.1]), if_neg (by simp [HE.out.2]), if_pos hd]
        clear h
        go_wp2
        go_ret
        exact ⟨by rw [HE2.out]; rfl, rfl⟩
    · by_cases h : r3 = 0
      · have hd : (r3 != 0) = false := by simpa using h
        have HZ : Hid (r3 = 0) := h
        clear h
        go_wp2
        exact ⟨.inr (.inr (.inr (.inr (⟨rfl, ⟨HE.out.1, HE.out.2.1, HE.out.2.2, HZ.out⟩⟩)))), by decide⟩
      · have hd : (r3 != 0) = true := by simpa using h
        have HE2 : Hid (r = r3) := by show _ = _; rw [HR.out]; unfold or4; rw [if_neg (by simp [HE.out.1]), if_neg (by simp [HE.out.2.1]), if_neg (by simp [HE.out.2.2])]
        clear h
        go_wp2
        go_ret
        exact ⟨by rw [HE2.out]; rfl, rfl⟩
    · have HE2 : Hid (r = 0) := by show _ = _; rw [HR.out]; unfold or4; rw [if_neg (by simp [HE.out.1]), if_neg (by simp [HE.out.2.1]), if_neg (by simp [HE.out.2.2.1]), HE.out.2.2.2]
      go_wp2
      go_ret
      exact ⟨by rw [HE2.out]; rfl, rfl⟩
theorem way_calls (a b : Bool) (w : World) : Calls Try.prog 52 #[.bool a, .bool b] w fun e w' => e = .returned (.int .i64 (if a then -1 else if b then 1 else 0)) ∧ w' = w := by
  cases a <;> cases b <;> (go_enter Try.func52, Try.ntmps52; go_wp2; go_ret; exact ⟨rfl, rfl⟩)
/-- Two lists held against each other, value by value; a beginning ahead. -/
def lex (f : Tv → Tv → Int) : List Tv → List Tv → Int
  | [], [] => 0
  | [], _ :: _ => -1
  | _ :: _, [] => 1
  | a :: l, b :: m => if f a b != 0 then f a b else lex f l m
/-- Two values held against each other. -/
def ordT : Nat → Tv → Tv → Int
  | 0, _, _ => 0
  | n + 1, .mk k x b s l, .mk k2 x2 b2 s2 l2 =>
    if or4 (cmp3 k k2) (cmp3 x x2) (od b.toNat b2.toNat) (Lib.compareBytes s.data.toList s2.data.toList) != 0 then or4 (cmp3 k k2) (cmp3 x x2) (od b.toNat b2.toNat) (Lib.compareBytes s.data.toList s2.data.toList) else lex (ordT n) l l2
theorem drop_at {l : List Tv} {j : Nat} (h : j < l.length) : l.drop j = l[j] :: l.drop (j + 1) := List.drop_eq_getElem_cons h
/-- What Order does at all values of at most n lists deep. -/
def OrderAt (f n : Nat) : Prop := ∀ (v : Value) (t : Tv) (v2 : Value) (t2 : Tv) (w : World), Is w n v t → Is w n v2 t2 →
    Calls Try.prog f #[v, v2] w fun e w' => e = .returned (.int .i64 (ordT n t t2)) ∧ Below w.heap.size w w'
set_option maxHeartbeats 2000000 in
set_option maxRecDepth 100000 in
theorem compareFunc_calls (n : Nat) (ih : OrderAt 23 n) (a : Option Addr) (c : Nat) (l : List Tv) (a2 : Option Addr) (c2 : Nat) (l2 : List Tv) (w : World) (hc : l.length ≤ 9223372036854775807) (hr : Row (Is w n) w a l) (hr2 : Row (Is w n) w a2 l2) :
    Calls Try.prog 51 #[.slice a l.length c, .slice a2 l2.length c2, .func (.func 23) #[] #[]] w fun e w' => e = .returned (.int .i64 (lex (ordT n) l l2)) ∧ Below w.heap.size w w' := by
  have HR : Hid (Row (Is w n) w a l) := hr
  have HR2 : Hid (Row (Is w n) w a2 l2) := hr2
  have HC : Hid (l.length ≤ 9223372036854775807) := hc
  obtain ⟨R, hR⟩ : ∃ R, R = lex (ordT n) l l2 := ⟨_, rfl⟩
  have HRe : Hid (R = lex (ordT n) l l2) := hR
  rw [← hR]
  clear hr hr2 hc hR
  go_enter Try.func51, Try.ntmps51
  go_wp2_with fail
  go_loopw [13] (fun i wr => ∃ j : Nat, j ≤ l.length ∧ j ≤ l2.length ∧ i = .int .i64 j ∧ Hid (R = lex (ordT n) (l.drop j) (l2.drop j)) ∧ Hid (Below w.heap.size w wr)) (fun i _ => l.length - (intOf i).toNat)
  case atStart => exact ⟨0, Nat.zero_le _, Nat.zero_le _, rfl, by simpa using HRe, Below.refl _ _⟩
  case round =>
    obtain ⟨j, hj, hj2, rfl, HE, HB⟩ := hrel
    by_cases hlt : j < l.length
    · obtain ⟨B, o, c0, c1, c2, c3, c4, rfl, h5, hi⟩ := HR.out j _ (List.getElem?_eq_getElem hlt)
      obtain ⟨k', x', b', s', a', m', c', rfl, rfl, rfl, rfl, rfl⟩ := hi.shape
      obtain ⟨e0, e1, e2, e3, e4⟩ := h5.below HB.out
      have hjl : (j : Int) < (l.length : Int) := by omega
      by_cases hlt2 : j < l2.length
      · obtain ⟨B', o', d0, d1, d2, d3, d4, rfl, h5', hi'⟩ := HR2.out j _ (List.getElem?_eq_getElem hlt2)
        obtain ⟨k'', x'', b'', s'', a'', m'', c'', rfl, rfl, rfl, rfl, rfl⟩ := hi'.shape
        obtain ⟨f0, f1, f2, f3, f4⟩ := h5'.below (bel2 HB.out (bel1 wr (Obj.cells #[.int .i64 k', .int .i64 x', .int .u64 b', .string s', .slice a' m' c'] 25)))
        have HI := hi.below HB.out
        have HI' := hi'.below HB.out
        obtain ⟨q, hq⟩ : ∃ q, q = ordT n l[j] l2[j] := ⟨_, rfl⟩
        have C0 : ∀ W, Below wr.heap.size wr W → Calls Try.prog 23 #[.agg #[.int .i64 k', .int .i64 x', .int .u64 b', .string s', .slice a' m' c'], .agg #[.int .i64 k'', .int .i64 x'', .int .u64 b'', .string s'', .slice a'' m'' c'']] W fun e w' => e = .returned (.int .i64 q) ∧ Below W.heap.size W w' := fun W hB => by rw [hq]; exact ih _ _ _ _ W (HI.below hB) (HI'.below hB)
        have hjl2 : decide ((l2.length : Int) ≤ (j : Int)) = false := decide_eq_false (by omega)
        have hjl3 : decide (l2.length ≤ j) = false := decide_eq_false (by omega)
        clear hi h5 HI hi' h5' HI'
        have HW : Hid (wrap64 ((j : Int) + 1) = ((j + 1 : Nat) : Int)) := wr1 hlt HC.out
        have HJ2 : Hid (j + 1 ≤ l2.length) := hlt2
        have hst : R = if q != 0 then q else lex (ordT n) (l.drop (j + 1)) (l2.drop (j + 1)) := by
          have h1 := HE.out
          rw [drop_at hlt, drop_at hlt2] at h1
          rw [h1, hq]
          rfl
        have HST : Hid (R = if q != 0 then q else lex (ordT n) (l.drop (j + 1)) (l2.drop (j + 1))) := hst
        clear hst hq hlt2 hj2
        go_wp2_with fail
        refine Calls.mono (C0 _ ?_) ?_
        · exact bel2 (bel1 _ _) (bel1 _ _)
        rintro e w1 ⟨rfl, hb1⟩
        have HB1 : Hid (Below w.heap.size w w1) := bel2 HB.out (bel2 (bel2 (bel1 _ _) (bel1 _ _)) hb1)
        clear hb1 C0 e0 e1 e2 e3 e4 f0 f1 f2 f3 f4
        cases hq0 : (q != 0) with
        | true =>
          have HS2 : Hid (R = q) := by have := HST.out; rw [hq0] at this; exact this
          clear HST
          go_wp2_with fail
          go_ret
          exact ⟨by rw [HS2.out]; rfl, HB1.out⟩
        | false =>
          have HS2 : Hid (R = lex (ordT n) (l.drop (j + 1)) (l2.drop (j + 1))) := by have := HST.out; rw [hq0] at this; exact this
          clear HST
          go_wp2_with fail
          exact ⟨⟨j + 1, hlt, HJ2.out, by rw [HW.out], HS2, HB1⟩, meas hlt HW.out⟩
      · have hjl2 : decide ((l2.length : Int) ≤ (j : Int)) = true := decide_eq_true (by omega)
        have hjl3 : decide (l2.length ≤ j) = true := decide_eq_true (by omega)
        have HS2 : Hid (R = 1) := by show _ = _; rw [HE.out, drop_at hlt, List.drop_eq_nil_of_le (show l2.length ≤ j by omega), lex]
        clear hi h5 hlt2 hj2
        go_wp2_with fail
        go_ret
        exact ⟨by rw [HS2.out]; rfl, bel2 HB.out (bel1 _ _)⟩
    · obtain rfl : j = l.length := by omega
      by_cases hl2 : l.length < l2.length
      · have hd : decide ((l.length : Int) < (l2.length : Int)) = true := decide_eq_true (by omega)
        have hd2 : decide (l.length < l2.length) = true := decide_eq_true hl2
        have HS2 : Hid (R = -1) := by show _ = _; rw [HE.out, drop_at hl2, List.drop_eq_nil_of_le (Nat.le_refl _), lex]
        clear hl2 hj2
        go_wp2_with fail
        go_ret
        exact ⟨by rw [HS2.out]; rfl, HB.out⟩
      · have hd : decide ((l.length : Int) < (l2.length : Int)) = false := decide_eq_false (by omega)
        have hd2 : decide (l.length < l2.length) = false := decide_eq_false hl2
        have HS2 : Hid (R = 0) := by show _ = _; rw [HE.out, List.drop_eq_nil_of_le (Nat.le_refl _), List.drop_eq_nil_of_le (show l2.length ≤ l.length by omega), lex]
        clear hl2 hj2
        go_wp2_with fail
        go_ret
        exact ⟨by rw [HS2.out]; rfl, HB.out⟩
end Go.Proofs.Ytobblioplfpndaa
