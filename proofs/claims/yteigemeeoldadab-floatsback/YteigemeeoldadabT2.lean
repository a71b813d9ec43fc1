/- The contracts of Order, Less and of their references, as their code has them. Condition: the words fit 64 bits. -/
import Derived.Test.YteigemeeoldadabT1
namespace Go.Proofs.Yteigemeeoldadab
open Go.ChangeShapes Go.WideShapes Go.ChangeAt Go.RowKit
open FM
attribute [local go_sem] o_eq o_lt o_gt o_ne frombits tobits
theorem cn_lt (x : Nat) (h : x < 18446744073709551616) : cn x < 18446744073709551616 := by unfold cn; split <;> omega
theorem ret_int {k : IntKind} {a b : Int} (h : a = b) : Ending.returned (.int k a) = .returned (.int k b) := by rw [h]
end Go.Proofs.Yteigemeeoldadab
