/- The contracts of the statements' own shallow and fine, with what a yes says: no list has more than 500 values. -/
import Derived.Test.YtjmonkhkcmcfiaaVA
namespace Go.Proofs.Ytjmonkhkcmcfiaa
open Go.ChangeShapes Go.WideShapes Go.ChangeAt Go.RowKit
/-- No list has more than 500 values. -/
def Small : Nat → Tv → Prop
  | 0, _ => False
  | n + 1, .mk _ _ _ _ l => l.length ≤ 500 ∧ ∀ (i : Nat) t, l[i]? = some t → Small n t
/-- What shallow answers: where it says yes, there are at most 500 values. -/
def Shal (n : Nat) (t : Tv) (e : Ending) : Prop := ∃ (q : Int) (r : Bool), e = .returned (.tuple #[.int .i64 q, .bool r]) ∧ (r = true → 1 ≤ q ∧ q ≤ 500 ∧ Small n t)
theorem wr2 {q q1 : Int} (h : q ≤ 500) (h0 : 0 ≤ q) (h1 : 1 ≤ q1 ∧ q1 ≤ 500) : wrap64 (q + q1) = q + q1 := by unfold wrap64; omega
end Go.Proofs.Ytjmonkhkcmcfiaa
