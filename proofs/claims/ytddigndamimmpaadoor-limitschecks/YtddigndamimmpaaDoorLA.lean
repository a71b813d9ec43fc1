/- The contracts of the program's isDelay, isCoef, Check, wait, Delay and of the reference's Check and Delay. -/
import Derived.Test.YtddigndamimmpaaDoorFT4
import Derived.Test.YtddigndamimmpaaDoorFOrd
import Derived.Test.YtddigndamimmpaaDoorVA
import Derived.WalkSpells
import Derived.Below
import Derived.Deep.LoopGhost
namespace Go.Proofs.YtddigndamimmpaaDoor
open Go.ChangeShapes Go.WideShapes Go.ChangeAt Go.RowKit
open FM
/-- A policy that may be. -/
def isD (n : Int) : Bool := decide (0 ≤ n) && decide (n ≤ 1073741824)
def isC (c : Nat) : Bool := decide (cn c = c) && !isN c
def may (f : Int) (c : Nat) (m : Int) : Bool := isD f && isD m && isC c
theorem kd_one (c : Nat) : (kd c == 1) = isN c := by
  unfold kd
  cases isN c
  · cases isI c <;> cases isZ c <;> cases isS c <;> rfl
  · rfl
theorem isDelay_calls (n : Int) (w : World) : Calls Tryd.prog 32 #[.int .i64 n] w fun e w' => e = .returned (.bool (isD n)) ∧ w' = w := by
  unfold isD
  by_cases h1 : 0 ≤ n
  · by_cases h2 : n ≤ 1073741824
    · go_enter Tryd.func32, Tryd.ntmps32
      go_wp2
      go_ret
      simp [h1, h2]
    · go_enter Tryd.func32, Tryd.ntmps32
      go_wp2
      go_ret
      simp [h2]
  · go_enter Tryd.func32, Tryd.ntmps32
    go_wp2
    go_ret
    simp
    omega
theorem beq_cn (c : Nat) : (((cn c : Nat) : Int) == (c : Int)) = decide (cn c = c) := by
  rw [Bool.eq_iff_iff, beq_iff_eq, decide_eq_true_eq]; omega
theorem isCoef_calls (c : Nat) (hc : c < 18446744073709551616) (w : World) : Calls Tryd.prog 33 #[.int .u64 (c : Int)] w fun e w' => e = .returned (.bool (isC c)) ∧ w' = w := by
  have K := fun w => kind_calls c hc w
  have hb := beq_cn c
  have hk := kd_one c
  clear hc
  unfold isC
  by_cases h : cn c = c
  · rw [h] at hb
    simp only [h, decide_true, Bool.true_and]
    go_enter Tryd.func33, Tryd.ntmps33
    go_wp2_with fail
    refine (canon_calls _ _).mono ?_
    rintro e w' ⟨rfl, rfl⟩
    rw [h]
    go_wp2_with fail
    refine (K _).mono ?_
    rintro e w' ⟨rfl, rfl⟩
    go_wp2_with fail
    go_ret
    refine ⟨?_, rfl⟩
    rw [← hk]
    simp [bne]
  · have hb' : (((cn c : Nat) : Int) == (c : Int)) = false := by rw [hb]; simp [h]
    clear hb
    simp only [h, decide_false, Bool.false_and]
    go_enter Tryd.func33, Tryd.ntmps33
    go_wp2_with fail
    refine (canon_calls _ _).mono ?_
    rintro e w' ⟨rfl, rfl⟩
    go_wp2_with fail
    go_ret
    exact ⟨rfl, rfl⟩
/-- The error of a check. -/
def ce (b : Bool) : Int := if b then 0 else 1
theorem pcheck_calls (f : Int) (c : Nat) (m : Int) (hc : c < 18446744073709551616) (w : World) :
    Calls Tryd.prog 17 #[.agg #[.int .i64 f, .int .u64 (c : Int), .int .i64 m]] w fun e w' => e = .returned (.int .i64 (ce (may f c m))) ∧ Below w.heap.size w w' := by
  have K := fun w => isCoef_calls c hc w
  clear hc
  unfold may
  cases h1 : isD f
  · go_enter Tryd.func17, Tryd.ntmps17
    go_wp2_with fail
    refine (isDelay_calls _ _).mono ?_
    rintro e w' ⟨rfl, rfl⟩
    rw [h1]
    go_wp2_with fail
    go_ret
    exact ⟨rfl, bel1 _ _⟩
  · cases h2 : isD m
    · go_enter Tryd.func17, Tryd.ntmps17
      go_wp2_with fail
      refine (isDelay_calls _ _).mono ?_
      rintro e w' ⟨rfl, rfl⟩
      rw [h1]
      go_wp2_with fail
      refine (isDelay_calls _ _).mono ?_
      rintro e w' ⟨rfl, rfl⟩
      rw [h2]
      go_wp2_with fail
      go_ret
      exact ⟨rfl, bel1 _ _⟩
    · cases h3 : isC c
      · go_enter Tryd.func17, Tryd.ntmps17
        go_wp2_with fail
        refine (isDelay_calls _ _).mono ?_
        rintro e w' ⟨rfl, rfl⟩
        rw [h1]
        go_wp2_with fail
        refine (isDelay_calls _ _).mono ?_
        rintro e w' ⟨rfl, rfl⟩
        rw [h2]
        go_wp2_with fail
        refine (K _).mono ?_
        rintro e w' ⟨rfl, rfl⟩
        rw [h3]
        go_wp2_with fail
        go_ret
        exact ⟨rfl, bel1 _ _⟩
      · go_enter Tryd.func17, Tryd.ntmps17
        go_wp2_with fail
        refine (isDelay_calls _ _).mono ?_
        rintro e w' ⟨rfl, rfl⟩
        rw [h1]
        go_wp2_with fail
        refine (isDelay_calls _ _).mono ?_
        rintro e w' ⟨rfl, rfl⟩
        rw [h2]
        go_wp2_with fail
        refine (K _).mono ?_
        rintro e w' ⟨rfl, rfl⟩
        rw [h3]
        go_wp2_with fail
        go_ret
        exact ⟨rfl, bel1 _ _⟩
theorem may_most {f : Int} {c : Nat} {m : Int} (h : may f c m = true) : 0 ≤ m := by
  unfold may isD at h; simp at h; omega
theorem cells3 {w w' : World} {B : Nat} {c0 c1 c2 : Value} (hb : Below w.heap.size w w') (h : w.cell? ⟨B, 0, none⟩ = some c0 ∧ w.cell? ⟨B, 1, none⟩ = some c1 ∧ w.cell? ⟨B, 2, none⟩ = some c2) :
    w'.cell? ⟨B, 0, none⟩ = some c0 ∧ w'.cell? ⟨B, 1, none⟩ = some c1 ∧ w'.cell? ⟨B, 2, none⟩ = some c2 := by
  have f : ∀ {q : Nat} {c : Value}, w.cell? ⟨B, q, none⟩ = some c → w'.cell? ⟨B, q, none⟩ = some c := fun hc => (hb.cell (World.block_lt_of_cell? w _ hc)).trans hc
  exact ⟨f h.1, f h.2.1, f h.2.2⟩
theorem box3 (w : World) (c0 c1 c2 : Value) (t : TypeId) : (w.alloc (.cells #[c0, c1, c2] t)).cell? ⟨w.heap.size, 0, none⟩ = some c0 ∧ (w.alloc (.cells #[c0, c1, c2] t)).cell? ⟨w.heap.size, 1, none⟩ = some c1 ∧ (w.alloc (.cells #[c0, c1, c2] t)).cell? ⟨w.heap.size, 2, none⟩ = some c2 := by
  refine ⟨?_, ?_, ?_⟩ <;> simp
end Go.Proofs.YtddigndamimmpaaDoor
