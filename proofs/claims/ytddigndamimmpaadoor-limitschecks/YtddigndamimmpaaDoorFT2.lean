/- The contracts of Order, Less and of their references, as their code has them. Condition: the words fit 64 bits. -/
import Derived.Test.YtddigndamimmpaaDoorFT1
namespace Go.Proofs.YtddigndamimmpaaDoor
open Go.ChangeShapes Go.WideShapes Go.ChangeAt Go.RowKit
open FM
attribute [local go_sem] o_eq o_lt o_gt o_ne frombits tobits
/-- standsBelow's answer. -/
def sb (x y : Nat) : Bool := if isN x then false else if isN y then true else if fEq x y then neg x else fLt x y
/-- Order's answer, as the code has it. -/
def oc (a b : Nat) : Int := if (cn a : Int) == (cn b : Int) then 0 else if sb (cn a) (cn b) then -1 else 1
theorem cn_lt (x : Nat) (h : x < 18446744073709551616) : cn x < 18446744073709551616 := by unfold cn; split <;> omega
theorem ret_intF {k : IntKind} {a b : Int} (h : a = b) : Ending.returned (.int k a) = .returned (.int k b) := by rw [h]
/-- The reference's order, as its code has it. -/
def ro (a b : Nat) : Int :=
  if isN a then (if isN b then 0 else 1) else if isN b then -1 else
  if fLt a b then -1 else
  if fEq a 0 && fEq b 0 then (if (b : Int) < (a : Int) then -1 else if (a : Int) < (b : Int) then 1 else 0) else
  if fLt b a then 1 else 0
theorem zero_lt (a b : Nat) (h1 : fEq a 0 = true) (h2 : fEq b 0 = true) : fLt a b = false := by
  unfold fEq at h1 h2; unfold fLt
  simp at h1 h2
  simp; intros; omega
end Go.Proofs.YtddigndamimmpaaDoor
