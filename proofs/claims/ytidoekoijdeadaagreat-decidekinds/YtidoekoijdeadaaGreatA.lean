/- The contracts of decide's Reads and Waits, of the reference's, of Running, waiting, Do of a query, awake. -/
import Derived.Test.YtidoekoijdeadaaGreatRows
import Derived.WalkKit
import Derived.WalkLawsBesides
import Derived.WalkSpells
import Derived.ProofKit
import Derived.OpenShut
import Derived.Below
import Derived.Laws.Rows
import Derived.Deep.WholeRow
import Derived.Laws.Tables
import Derived.Deep.LoopGhost
import Derived.Deep.MidRow
import Derived.Deep.DeepCutAuto
namespace Go.Proofs.YtidoekoijdeadaaGreat
open Go.ChangeShapes Go.WideShapes Go.ChangeAt Go.RowKit
theorem bel1 (w : World) (o : Obj) : Below w.heap.size w (w.alloc o) := (Below.refl _ w).alloc (Nat.le_refl _) o
theorem bel2 {w w1 w2 : World} (h : Below w.heap.size w w1) (k : Below w1.heap.size w1 w2) : Below w.heap.size w w2 := h.trans (k.mono h.size)
/-- What is returned, in memory that only grew. -/
def RetP (v : Value) (w : World) (e : Ending) (w' : World) : Prop := e = .returned v ∧ Below w.heap.size w w'
/-- Which kinds may wait; which only read. -/
def wtB (k : Int) : Bool := k == 4 || k == 5
def rdB (k : Int) : Bool := k == 4 || k == 5 || k == 9
theorem waits_calls (k : Int) (w : World) : Calls Tryz.prog 6 #[.int .i64 k] w fun e w' => e = .returned (.bool (wtB k)) ∧ w' = w := by
  unfold wtB
  by_cases h4 : k = 4
  · subst h4
    go_enter Tryz.func6, Tryz.ntmps6
    go_wp2_with fail
    go_ret
    exact ⟨rfl, rfl⟩
  · have d4 : (k == 4) = false := by simpa using h4
    clear h4
    go_enter Tryz.func6, Tryz.ntmps6
    go_wp2_with fail
    go_ret
    exact ⟨by simp [d4], rfl⟩
theorem rwaits_calls (k : Int) (w : World) : Calls Tryz.prog 7 #[.int .i64 k] w fun e w' => e = .returned (.bool (wtB k)) ∧ w' = w := by
  unfold wtB
  by_cases h4 : k = 4
  · subst h4
    go_enter Tryz.func7, Tryz.ntmps7
    go_wp2_with fail
    go_ret
    exact ⟨rfl, rfl⟩
  · have d4 : (k == 4) = false := by simpa using h4
    clear h4
    go_enter Tryz.func7, Tryz.ntmps7
    go_wp2_with fail
    go_ret
    exact ⟨by simp [d4], rfl⟩
theorem reads_calls (k : Int) (w : World) : Calls Tryz.prog 4 #[.int .i64 k] w fun e w' => e = .returned (.bool (rdB k)) ∧ w' = w := by
  have HK : Hid (Calls Tryz.prog 6 #[.int .i64 k] w fun e w' => e = .returned (.bool (wtB k)) ∧ w' = w) := waits_calls k w
  have hr : rdB k = (wtB k || k == 9) := rfl
  rw [hr]
  clear hr
  generalize wtB k = b at HK ⊢
  go_enter Tryz.func4, Tryz.ntmps4
  go_wp2_with fail
  refine HK.out.mono ?_
  rintro e w' ⟨rfl, rfl⟩
  cases b with
  | true =>
    go_wp2_with fail
    go_ret
    exact ⟨rfl, rfl⟩
  | false =>
    go_wp2_with fail
    go_ret
    exact ⟨by simp, rfl⟩
theorem rreads_calls (k : Int) (w : World) : Calls Tryz.prog 5 #[.int .i64 k] w fun e w' => e = .returned (.bool (rdB k)) ∧ w' = w := by
  unfold rdB
  by_cases h4 : k = 4
  · subst h4
    go_enter Tryz.func5, Tryz.ntmps5
    go_wp2_with fail
    go_ret
    exact ⟨rfl, rfl⟩
  · have d4 : (k == 4) = false := by simpa using h4
    by_cases h5 : k = 5
    · subst h5
      clear h4
      go_enter Tryz.func5, Tryz.ntmps5
      go_wp2_with fail
      go_ret
      exact ⟨rfl, rfl⟩
    · have d5 : (k == 5) = false := by simpa using h5
      clear h4 h5
      go_enter Tryz.func5, Tryz.ntmps5
      go_wp2_with fail
      go_ret
      exact ⟨by simp [d4, d5], rfl⟩
theorem running_calls (cs : Array Value) (w : World) (h : cs[1]? = some (.int .i64 1)) : Calls Tryz.prog 27 #[.agg cs] w fun e w' => e = .returned (.bool true) ∧ Below w.heap.size w w' := by
  go_enter Tryz.func27, Tryz.ntmps27
  go_wp2_with fail
  go_ret
  exact ⟨rfl, bel1 _ _⟩
end Go.Proofs.YtidoekoijdeadaaGreat
