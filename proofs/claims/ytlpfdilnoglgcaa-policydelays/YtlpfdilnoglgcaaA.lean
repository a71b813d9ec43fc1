/- The contracts of the program's isDelay, isCoef, Check, wait, Delay and of the reference's Check and Delay. -/
import Derived.Test.YtlpfdilnoglgcaaG
import Derived.WalkSpells
import Derived.Below
import Derived.Deep.LoopGhost
namespace Go.Proofs.Ytlpfdilnoglgcaa
open Go.ChangeShapes Go.WideShapes Go.ChangeAt Go.RowKit
open FM
theorem bel1 (w : World) (o : Obj) : Below w.heap.size w (w.alloc o) := (Below.refl _ w).alloc (Nat.le_refl _) o
theorem bel2 {w w1 w2 : World} (h : Below w.heap.size w w1) (k : Below w1.heap.size w1 w2) : Below w.heap.size w w2 := h.trans (k.mono h.size)
/-- A policy that may be. -/
def isD (n : Int) : Bool := decide (0 ≤ n) && decide (n ≤ 1073741824)
def isC (c : Nat) : Bool := decide (cn c = c) && !isN c
def may (f : Int) (c : Nat) (m : Int) : Bool := isD f && isD m && isC c
theorem kd_one (c : Nat) : (kd c == 1) = isN c := by
  unfold kd
  cases isN c
  · cases isI c <;> cases isZ c <;> cases isS c <;> rfl
  · rfl
theorem isDelay_calls (n : Int) (w : World) : Calls Try.prog 20 #[.int .i64 n] w fun e w' => e = .returned (.bool (isD n)) ∧ w' = w := by
  unfold isD
  by_cases h1 : 0 ≤ n
  · by_cases h2 : n ≤ 1073741824
    · go_enter Try.func20, Try.ntmps20
      go_wp2
      go_ret
      simp [h1, h2]
    · go_enter Try.func20, Try.ntmps20
      go_wp2
      go_ret
      simp [h2]
  · go_enter Try.func20, Try.ntmps20
    go_wp2
    go_ret
    simp
    omega
theorem beq_cn (c : Nat) : (((cn c : Nat) : Int) == (c : Int)) = decide (cn c = c) := by
  rw [Bool.eq_iff_iff, beq_iff_eq, decide_eq_true_eq]; omega
theorem isCoef_calls (c : Nat) (hc : c < 18446744073709551616) (w : World) : Calls Try.prog 21 #[.int .u64 (c : Int)] w fun e w' => e = .returned (.bool (isC c)) ∧ w' = w := by
  have K := fun w => kind_calls c hc w
  have hb := beq_cn c
  have hk := kd_one c
  clear hc
  unfold isC
  by_cases h : cn c = c
  · rw [h] at hb
    simp only [h, decide_true, Bool.true_and]
    go_enter Try.func21, Try.ntmps21
    go_wp2_with fail
    refine (canon_calls _ _).mono ?_
    rintro e w' ⟨rfl, rfl⟩
    rw [h]
    go_wp2_with fail
    refine (K _).mono ?_
    rintro e w' ⟨rfl, rfl⟩
    go_wp2_with fail
    go_ret
    refine ⟨?_, rfl⟩
    rw [← hk]
    simp [bne]
  · have hb' : (((cn c : Nat) : Int) == (c : Int)) = false := by rw [hb]; simp [h]
    clear hb
    simp only [h, decide_false, Bool.false_and]
    go_enter Try.func21, Try.ntmps21
    go_wp2_with fail
    refine (canon_calls _ _).mono ?_
    rintro e w' ⟨rfl, rfl⟩
    go_wp2_with fail
    go_ret
    exact ⟨rfl, rfl⟩
/-- The error of a check. -/
def ce (b : Bool) : Int := if b then 0 else 1
theorem check_calls (f : Int) (c : Nat) (m : Int) (hc : c < 18446744073709551616) (w : World) :
    Calls Try.prog 7 #[.agg #[.int .i64 f, .int .u64 (c : Int), .int .i64 m]] w fun e w' => e = .returned (.int .i64 (ce (may f c m))) ∧ Below w.heap.size w w' := by
  have K := fun w => isCoef_calls c hc w
  clear hc
  unfold may
  cases h1 : isD f
  · go_enter Try.func7, Try.ntmps7
    go_wp2_with fail
    refine (isDelay_calls _ _).mono ?_
    rintro e w' ⟨rfl, rfl⟩
    rw [h1]
    go_wp2_with fail
    go_ret
    exact ⟨rfl, bel1 _ _⟩
  · cases h2 : isD m
    · go_enter Try.func7, Try.ntmps7
      go_wp2_with fail
      refine (isDelay_calls _ _).mono ?_
      rintro e w' ⟨rfl, rfl⟩
      rw [h1]
      go_wp2_with fail
      refine (isDelay_calls _ _).mono ?_
      rintro e w' ⟨rfl, rfl⟩
      rw [h2]
      go_wp2_with fail
      go_ret
      exact ⟨rfl, bel1 _ _⟩
    · cases h3 : isC c
      · go_enter Try.func7, Try.ntmps7
        go_wp2_with fail
        refine (isDelay_calls _ _).mono ?_
        rintro e w' ⟨rfl, rfl⟩
        rw [h1]
        go_wp2_with fail
        refine (isDelay_calls _ _).mono ?_
        rintro e w' ⟨rfl, rfl⟩
        rw [h2]
        go_wp2_with fail
        refine (K _).mono ?_
        rintro e w' ⟨rfl, rfl⟩
        rw [h3]
        go_wp2_with fail
        go_ret
        exact ⟨rfl, bel1 _ _⟩
      · go_enter Try.func7, Try.ntmps7
        go_wp2_with fail
        refine (isDelay_calls _ _).mono ?_
        rintro e w' ⟨rfl, rfl⟩
        rw [h1]
        go_wp2_with fail
        refine (isDelay_calls _ _).mono ?_
        rintro e w' ⟨rfl, rfl⟩
        rw [h2]
        go_wp2_with fail
        refine (K _).mono ?_
        rintro e w' ⟨rfl, rfl⟩
        rw [h3]
        go_wp2_with fail
        go_ret
        exact ⟨rfl, bel1 _ _⟩
theorem whole_calls (x : Nat) (m : Int) (w : World) : Calls Try.prog 41 #[.int .u64 (x : Int), .int .i64 m] w fun r w' => r = .returned (.tuple #[.int .i64 (whA x m).1, .int .i64 (whA x m).2]) ∧ w' = w := by
  unfold whA
  cases h1 : isN x
  · simp only [Bool.false_eq_true, if_false]
    by_cases h2 : m < 0
    · rw [if_pos h2]; exact whole_neg x m h1 h2 w
    · rw [if_neg h2]
      cases h3 : fLt 0 x
      · exact whole_zero x m h1 h2 h3 w
      · simp only [if_true]
        cases h4 : (fLt 4890909195324358656 x || fEq x 4890909195324358656)
        · simp only [Bool.false_eq_true, if_false]
          obtain ⟨g1, g2⟩ := Bool.or_eq_false_iff.1 h4
          obtain ⟨n, h5⟩ := conv_some x h1 h3 g1 g2
          rw [h5]
          dsimp only
          by_cases h6 : m < n
          · rw [if_pos h6]; exact whole_less x m h1 h2 h3 h4 n h5 h6 w
          · rw [if_neg h6]; exact whole_some x m h1 h2 h3 h4 n h5 h6 w
        · exact whole_most x m h1 h2 h3 h4 w
  · exact whole_nan x m h1 w
theorem refWhole_calls (x : Nat) (m : Int) (w : World) : Calls Try.prog 28 #[.int .u64 (x : Int), .int .i64 m] w fun r w' => r = .returned (.tuple #[.int .i64 (whA x m).1, .int .i64 (whA x m).2]) ∧ w' = w := by
  unfold whA
  cases h1 : isN x
  · simp only [Bool.false_eq_true, if_false]
    by_cases h2 : m < 0
    · rw [if_pos h2]; exact refWhole_neg x m h1 h2 w
    · rw [if_neg h2]
      cases h3 : fLt 0 x
      · exact refWhole_zero x m h1 h2 h3 w
      · simp only [if_true]
        cases h4 : (fLt 4890909195324358656 x || fEq x 4890909195324358656)
        · simp only [Bool.false_eq_true, if_false]
          obtain ⟨g1, g2⟩ := Bool.or_eq_false_iff.1 h4
          obtain ⟨n, h5⟩ := conv_some x h1 h3 g1 g2
          rw [h5]
          dsimp only
          by_cases h6 : m < n
          · rw [if_pos h6]; exact refWhole_less x m h1 h2 h3 h4 n h5 h6 w
          · rw [if_neg h6]; exact refWhole_some x m h1 h2 h3 h4 n h5 h6 w
        · exact refWhole_most x m h1 h2 h3 h4 w
  · exact refWhole_nan x m h1 w
theorem mul_calls (x c : Nat) (w : World) : Calls Try.prog 24 #[.int .u64 (x : Int), .int .u64 (c : Int)] w fun e w' => e = .returned (.int .u64 (mulN x c : Nat)) ∧ Below w.heap.size w w' := by
  unfold mulN
  cases h : floatBits .mul .f64 x c with
  | none => exact (mul_none x c w h).mono fun e w' ⟨he, hw⟩ => ⟨he, by rw [hw]; exact (Below.refl _ _).drew⟩
  | some r => exact (mul_some x c r w h).mono fun e w' ⟨he, hw⟩ => ⟨he, by rw [hw]; exact Below.refl _ _⟩
theorem refMul_calls (x c : Nat) (w : World) : Calls Try.prog 27 #[.int .u64 (x : Int), .int .u64 (c : Int)] w fun e w' => e = .returned (.int .u64 (mulN x c : Nat)) ∧ Below w.heap.size w w' := by
  unfold mulN
  cases h : floatBits .mul .f64 x c with
  | none => exact (refMul_none x c w h).mono fun e w' ⟨he, hw⟩ => ⟨he, by rw [hw]; exact (Below.refl _ _).drew⟩
  | some r => exact (refMul_some x c r w h).mono fun e w' ⟨he, hw⟩ => ⟨he, by rw [hw]; exact Below.refl _ _⟩
/-- What is waited where x was reckoned. -/
def wt (f : Int) (c : Nat) (m : Int) (x : Nat) : Int := if may f c m then dl x m else 0
theorem may_most {f : Int} {c : Nat} {m : Int} (h : may f c m = true) : 0 ≤ m := by
  unfold may isD at h; simp at h; omega
theorem cells3 {w w' : World} {B : Nat} {c0 c1 c2 : Value} (hb : Below w.heap.size w w') (h : w.cell? ⟨B, 0, none⟩ = some c0 ∧ w.cell? ⟨B, 1, none⟩ = some c1 ∧ w.cell? ⟨B, 2, none⟩ = some c2) :
    w'.cell? ⟨B, 0, none⟩ = some c0 ∧ w'.cell? ⟨B, 1, none⟩ = some c1 ∧ w'.cell? ⟨B, 2, none⟩ = some c2 := by
  have f : ∀ {q : Nat} {c : Value}, w.cell? ⟨B, q, none⟩ = some c → w'.cell? ⟨B, q, none⟩ = some c := fun hc => (hb.cell (World.block_lt_of_cell? w _ hc)).trans hc
  exact ⟨f h.1, f h.2.1, f h.2.2⟩
theorem box3 (w : World) (c0 c1 c2 : Value) (t : TypeId) : (w.alloc (.cells #[c0, c1, c2] t)).cell? ⟨w.heap.size, 0, none⟩ = some c0 ∧ (w.alloc (.cells #[c0, c1, c2] t)).cell? ⟨w.heap.size, 1, none⟩ = some c1 ∧ (w.alloc (.cells #[c0, c1, c2] t)).cell? ⟨w.heap.size, 2, none⟩ = some c2 := by
  refine ⟨?_, ?_, ?_⟩ <;> simp
theorem wait_calls (f : Int) (c : Nat) (m : Int) (x : Nat) (hc : c < 18446744073709551616) (w : World) :
    Calls Try.prog 25 #[.agg #[.int .i64 f, .int .u64 (c : Int), .int .i64 m], .int .u64 (x : Int)] w fun e w' => e = .returned (.int .i64 (wt f c m x)) ∧ Below w.heap.size w w' := by
  have K := fun w => check_calls f c m hc w
  clear hc
  unfold wt dl
  cases h : may f c m
  · simp only [Bool.false_eq_true, if_false]
    go_enter Try.func25, Try.ntmps25
    go_wp2_with fail
    refine (K _).mono ?_
    rintro e w1 ⟨rfl, hb⟩
    have HB : Hid (Below w.heap.size w w1) := bel2 (bel1 _ _) hb
    clear hb K
    simp only [h, ce, Bool.false_eq_true, if_false]
    clear h
    go_wp2_with fail
    go_ret
    exact ⟨rfl, HB.out⟩
  · have h0 := may_most h
    have hn := whA_nan x m h0
    clear h0
    simp only [if_true]
    cases hx : isN x
    · rw [hx] at hn
      simp only [Bool.false_eq_true, if_false] at hn ⊢
      have W2 := fun w => whole_calls x m w
      rw [hn] at W2
      clear hn hx
      go_enter Try.func25, Try.ntmps25
      go_wp2_with fail
      refine (K _).mono ?_
      rintro e w1 ⟨rfl, hb⟩
      have HB : Hid (Below w.heap.size w w1) := bel2 (bel1 _ _) hb
      obtain ⟨k0, k1, k2⟩ := cells3 hb (box3 w _ _ _ _)
      clear hb K
      simp only [h, ce, if_true]
      clear h
      go_wp2_with fail
      refine (W2 _).mono ?_
      rintro e w2 ⟨rfl, rfl⟩
      go_wp2_with fail
      go_ret
      exact ⟨rfl, HB.out⟩
    · rw [hx] at hn
      simp only [if_true] at hn ⊢
      have W2 := fun w => whole_calls x m w
      rw [hn] at W2
      clear hn hx
      go_enter Try.func25, Try.ntmps25
      go_wp2_with fail
      refine (K _).mono ?_
      rintro e w1 ⟨rfl, hb⟩
      have HB : Hid (Below w.heap.size w w1) := bel2 (bel1 _ _) hb
      obtain ⟨k0, k1, k2⟩ := cells3 hb (box3 w _ _ _ _)
      clear hb K
      simp only [h, ce, if_true]
      clear h
      go_wp2_with fail
      refine (W2 _).mono ?_
      rintro e w2 ⟨rfl, rfl⟩
      go_wp2_with fail
      go_ret
      exact ⟨rfl, HB.out⟩
end Go.Proofs.Ytlpfdilnoglgcaa
