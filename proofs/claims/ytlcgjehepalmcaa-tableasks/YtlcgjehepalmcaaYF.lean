/- The contracts of the reference's Check, and of how values are made. -/
import Derived.Test.YtlcgjehepalmcaaYE
import Derived.Test.YtlcgjehepalmcaaVK
import Derived.Test.YtlcgjehepalmcaaVI
namespace Go.Proofs.Ytlcgjehepalmcaa
open Go.ChangeShapes Go.WideShapes Go.ChangeAt Go.RowKit Go.BigFrame
/-- What a Check says. -/
def CkP (w : World) (p : Prop) (e : Ending) (w' : World) : Prop := (∃ r : Int, e = .returned (.int .i64 r) ∧ (p → r = 0) ∧ (¬ p → r = 1)) ∧ Below w.heap.size w w'
theorem holds_len {w : World} {v : Value} {l : List UInt8} (h : Lib.HoldsBytes w v l) : ∃ p c, v = .slice p l.length c := by obtain ⟨p, c, rfl, _⟩ := h; exact ⟨_, _, rfl⟩
set_option maxHeartbeats 2000000 in
set_option maxRecDepth 100000 in
theorem rcheck_calls (n : Nat) (v : Value) (t : Tv) (w : World) (h : Is w n v t) : Calls Try.prog 54 #[v] w (CkP w (May n t)) := by
  have HS : Hid (∀ W, Below w.heap.size w W → Calls Try.prog 63 #[v, .int .i64 4] W (FP (ShapeT n 4 t) W)) := fun W hB => shape_calls n v t 4 W (by omega) (by omega) (h.below hB)
  have HBy : Hid (ShapeT n 4 t → ∀ W, Below w.heap.size w W → Calls Try.prog 55 #[.slice none 0 0, v] W (RH W (bytesT n t))) := fun hs W hB => by
    have := bytes_calls45 n 4 v t (.slice none 0 0) [] W (h.below hB) hs (holds_nil W) (by simp [BD])
    rwa [List.nil_append] at this
  obtain ⟨k, x, b, s, a, m, c, rfl⟩ : ∃ k x b s a m c, v = .agg #[.int .i64 k, .int .i64 x, .int .u64 b, .string s, .slice a m c] := by
    cases n with
    | zero => exact h.elim
    | succ n => obtain ⟨k, x, b, s, l⟩ := t; obtain ⟨a, c, rfl, _⟩ := h; exact ⟨_, _, _, _, _, _, _, rfl⟩
  clear h
  go_enter Try.func54, Try.ntmps54
  go_wp2_with fail
  refine (HS.out _ (bel1 _ _)).mono ?_
  rintro e w1 ⟨⟨r1, rfl, hr1⟩, hb1⟩
  have HB1 : Hid (Below w.heap.size w w1) := bel2 (bel1 _ _) hb1
  have HR1 : Hid (r1 = true ↔ ShapeT n 4 t) := hr1
  obtain ⟨p0, p1, p2, p3, p4⟩ := (box_at w (.int .i64 k) (.int .i64 x) (.int .u64 b) (.string s) (.slice a m c)).below hb1
  clear hb1 hr1
  cases r1 with
  | false =>
    go_wp2_with fail
    go_ret
    exact ⟨⟨1, rfl, fun q => (by cases HR1.out.2 q.1), fun _ => rfl⟩, HB1.out⟩
  | true =>
    have HSh : Hid (ShapeT n 4 t) := HR1.out.1 rfl
    clear HR1
    go_wp2_with fail
    refine (HBy.out HSh.out w1 HB1.out).mono ?_
    rintro e w2 ⟨v2, rfl, hv2, hb2⟩
    have HB2 : Hid (Below w.heap.size w w2) := bel2 HB1.out hb2
    obtain ⟨vp, vc, rfl⟩ := holds_len hv2
    clear hb2 hv2 p0 p1 p2 p3 p4
    obtain ⟨Z, hZ⟩ : ∃ Z, Z = (bytesT n t).length := ⟨_, rfl⟩
    have HZ : Hid (Z = (bytesT n t).length) := hZ
    rw [← hZ]
    clear hZ
    by_cases hb : 1000 < Z
    · have f1 : decide (1000 < (Z : Int)) = true := decide_eq_true (by omega)
      have f2 : decide (1000 < Z) = true := decide_eq_true hb
      have HH : Hid (1000 < Z) := hb
      clear hb
      go_wp2_with fail
      go_ret
      exact ⟨⟨1, rfl, fun q => absurd q.2 (by have := HH.out; have := HZ.out; omega), fun _ => rfl⟩, HB2.out⟩
    · have f1 : decide (1000 < (Z : Int)) = false := decide_eq_false (by omega)
      have f2 : decide (1000 < Z) = false := decide_eq_false hb
      have HH : Hid (¬ 1000 < Z) := hb
      clear hb
      go_wp2_with fail
      go_ret
      exact ⟨⟨0, rfl, fun _ => rfl, fun q => absurd ⟨HSh.out, by have := HH.out; have := HZ.out; omega⟩ q⟩, HB2.out⟩
end Go.Proofs.Ytlcgjehepalmcaa
