/- The contracts of the program's isDelay, isCoef, Check, wait, Delay and of the reference's Check and Delay. -/
import Derived.Test.YtmcbgfcpalfcjaaG
import Derived.Test.YtmcbgfcpalfcjaaLA
import Derived.Test.YtmcbgfcpalfcjaaFT3
import Derived.WalkSpells
import Derived.Below
import Derived.Deep.LoopGhost
namespace Go.Proofs.Ytmcbgfcpalfcjaa
open Go.ChangeShapes Go.WideShapes Go.ChangeAt Go.RowKit
open FM
theorem whole_calls (x : Nat) (m : Int) (w : World) : Calls Try.prog 67 #[.int .u64 (x : Int), .int .i64 m] w fun r w' => r = .returned (.tuple #[.int .i64 (whA x m).1, .int .i64 (whA x m).2]) ∧ w' = w := by
  unfold whA
  cases h1 : isN x
  · simp only [Bool.false_eq_true, if_false]
    by_cases h2 : m < 0
    · rw [if_pos h2]; exact whole_neg x m h1 h2 w
    · rw [if_neg h2]
      cases h3 : fLt 0 x
      · exact whole_zero x m h1 h2 h3 w
      · simp only [if_true]
        cases h4 : (fLt 4890909195324358656 x || fEq x 4890909195324358656)
        · simp only [Bool.false_eq_true, if_false]
          obtain ⟨g1, g2⟩ := Bool.or_eq_false_iff.1 h4
          obtain ⟨n, h5⟩ := conv_some x h1 h3 g1 g2
          rw [h5]
          dsimp only
          by_cases h6 : m < n
          · rw [if_pos h6]; exact whole_less x m h1 h2 h3 h4 n h5 h6 w
          · rw [if_neg h6]; exact whole_some x m h1 h2 h3 h4 n h5 h6 w
        · exact whole_most x m h1 h2 h3 h4 w
  · exact whole_nan x m h1 w
theorem mul_calls (x c : Nat) (w : World) : Calls Try.prog 49 #[.int .u64 (x : Int), .int .u64 (c : Int)] w fun e w' => e = .returned (.int .u64 (mulN x c : Nat)) ∧ Below w.heap.size w w' := by
  unfold mulN
  cases h : floatBits .mul .f64 x c with
  | none => exact (mul_none x c w h).mono fun e w' ⟨he, hw⟩ => ⟨he, by rw [hw]; exact (Below.refl _ _).drew⟩
  | some r => exact (mul_some x c r w h).mono fun e w' ⟨he, hw⟩ => ⟨he, by rw [hw]; exact Below.refl _ _⟩
/-- What is waited where x was reckoned. -/
def wt (f : Int) (c : Nat) (m : Int) (x : Nat) : Int := if may f c m then dl x m else 0
theorem wait_calls (f : Int) (c : Nat) (m : Int) (x : Nat) (hc : c < 18446744073709551616) (w : World) :
    Calls Try.prog 50 #[.agg #[.int .i64 f, .int .u64 (c : Int), .int .i64 m], .int .u64 (x : Int)] w fun e w' => e = .returned (.int .i64 (wt f c m x)) ∧ Below w.heap.size w w' := by
  have K := fun w => pcheck_calls f c m hc w
  clear hc
  unfold wt dl
  cases h : may f c m
  · simp only [Bool.false_eq_true, if_false]
    go_enter Try.func50, Try.ntmps50
    go_wp2_with fail
    refine (K _).mono ?_
    rintro e w1 ⟨rfl, hb⟩
    have HB : Hid (Below w.heap.size w w1) := bel2 (bel1 _ _) hb
    clear hb K
    simp only [h, ce, Bool.false_eq_true, if_false]
    clear h
    go_wp2_with fail
    go_ret
    exact ⟨rfl, HB.out⟩
  · have h0 := may_most h
    have hn := whA_nan x m h0
    clear h0
    simp only [if_true]
    cases hx : isN x
    · rw [hx] at hn
      simp only [Bool.false_eq_true, if_false] at hn ⊢
      have W2 := fun w => whole_calls x m w
      rw [hn] at W2
      clear hn hx
      go_enter Try.func50, Try.ntmps50
      go_wp2_with fail
      refine (K _).mono ?_
      rintro e w1 ⟨rfl, hb⟩
      have HB : Hid (Below w.heap.size w w1) := bel2 (bel1 _ _) hb
      obtain ⟨k0, k1, k2⟩ := cells3 hb (box3 w _ _ _ _)
      clear hb K
      simp only [h, ce, if_true]
      clear h
      go_wp2_with fail
      refine (W2 _).mono ?_
      rintro e w2 ⟨rfl, rfl⟩
      go_wp2_with fail
      go_ret
      exact ⟨rfl, HB.out⟩
    · rw [hx] at hn
      simp only [if_true] at hn ⊢
      have W2 := fun w => whole_calls x m w
      rw [hn] at W2
      clear hn hx
      go_enter Try.func50, Try.ntmps50
      go_wp2_with fail
      refine (K _).mono ?_
      rintro e w1 ⟨rfl, hb⟩
      have HB : Hid (Below w.heap.size w w1) := bel2 (bel1 _ _) hb
      obtain ⟨k0, k1, k2⟩ := cells3 hb (box3 w _ _ _ _)
      clear hb K
      simp only [h, ce, if_true]
      clear h
      go_wp2_with fail
      refine (W2 _).mono ?_
      rintro e w2 ⟨rfl, rfl⟩
      go_wp2_with fail
      go_ret
      exact ⟨rfl, HB.out⟩
end Go.Proofs.Ytmcbgfcpalfcjaa
