/- When a value's own fields may be. -/
import Derived.Test.YtjmonkhkcmcfiaaVC
import Derived.Test.YtjmonkhkcmcfiaaFCon
import Derived.Deep.QuietTactic
import Derived.BigQuiet
namespace Go.Proofs.Ytjmonkhkcmcfiaa
open Go.ChangeShapes Go.WideShapes Go.ChangeAt Go.RowKit
theorem belN (w : World) (n : Nat) : Below w.heap.size w (w.drewN n) := ⟨rfl, rfl, rfl, Nat.le_refl _, fun _ _ => rfl⟩
/-- A value's own fields may be; b': its bits, made canonical. -/
def FitsB (k x : Int) (b b' : Nat) (s : ByteArray) (n : Nat) : Prop :=
  0 ≤ k ∧ k ≤ 4 ∧ (k = 1 ∨ x = 0) ∧ (k = 2 ∨ b = 0) ∧ b' = b ∧ (k = 3 ∨ s.toList = []) ∧ s.size ≤ 200 ∧ (k = 4 ∨ n = 0) ∧ n ≤ 12
end Go.Proofs.Ytjmonkhkcmcfiaa
