/- Contracts of the functions of package floats and of its reference: what each call returns, by the bits of its arguments. -/
import Derived.Test.YtjmonkhkcmcfiaaRows
import Derived.Test.YtjmonkhkcmcfiaaFFm
import Derived.WalkKit
import Derived.WalkLawsBesides
import Derived.ProofKit
import Derived.OpenShut
namespace Go.Proofs.Ytjmonkhkcmcfiaa
open Go.ChangeShapes Go.WideShapes Go.ChangeAt Go.RowKit
open FM

def fEq (x y : Nat) : Bool := !isN x && !isN y && decide (key x = key y)
def fLt (x y : Nat) : Bool := !isN x && !isN y && decide (key x < key y)

theorem o_eq (x y : Nat) : (FloatKind.f64.format.order x y == some .eq) = fEq x y := by
  show (Ieee.double.order x y == some .eq) = fEq x y
  rw [order_eq]
  unfold fEq
  cases isN x <;> cases isN y <;> simp only [Bool.or_self, Bool.or_true, Bool.or_false, Bool.false_eq_true, if_true, if_false, Bool.not_true, Bool.not_false, Bool.false_and, Bool.and_false, Bool.true_and] <;> try rfl
  by_cases h : key x = key y
  · rw [cmp_eq h]; simp [h]
  · by_cases l : key x < key y
    · rw [cmp_lt l]; simp [h]
    · rw [cmp_gt (by omega)]; simp [h]
theorem o_lt (x y : Nat) : (FloatKind.f64.format.order x y == some .lt) = fLt x y := by
  show (Ieee.double.order x y == some .lt) = fLt x y
  rw [order_eq]
  unfold fLt
  cases isN x <;> cases isN y <;> simp only [Bool.or_self, Bool.or_true, Bool.or_false, Bool.false_eq_true, if_true, if_false, Bool.not_true, Bool.not_false, Bool.false_and, Bool.and_false, Bool.true_and] <;> try rfl
  by_cases h : key x = key y
  · rw [cmp_eq h]; simp [h]
  · by_cases l : key x < key y
    · rw [cmp_lt l]; simp [l]
    · rw [cmp_gt (by omega)]; simp [l]
theorem o_gt (x y : Nat) : (FloatKind.f64.format.order x y == some .gt) = fLt y x := by
  show (Ieee.double.order x y == some .gt) = fLt y x
  rw [order_eq]
  unfold fLt
  cases isN x <;> cases isN y <;> simp only [Bool.or_self, Bool.or_true, Bool.or_false, Bool.false_eq_true, if_true, if_false, Bool.not_true, Bool.not_false, Bool.false_and, Bool.and_false, Bool.true_and] <;> try rfl
  by_cases h : key x = key y
  · rw [cmp_eq h]; simp [h]
  · by_cases l : key x < key y
    · rw [cmp_lt l]; simp; omega
    · rw [cmp_gt (by omega)]; simp; omega
theorem o_ne (x : Nat) : (FloatKind.f64.format.order x x != some .eq) = isN x := by
  show (!(FloatKind.f64.format.order x x == some .eq)) = isN x
  rw [o_eq]; unfold fEq
  cases isN x <;> simp
theorem frombits (n : Int) (w : World) : (callFunc 94 #[.int .u64 n]).run Try.prog w = .ok (.value (.float .f64 n.toNat)) w := by kernel_rfl
attribute [local go_sem] o_eq o_lt o_gt o_ne frombits

/-- Canon's answer. -/
def cn (x : Nat) : Nat := if isN x then 9221120237041090560 else x

theorem isNaN_calls (x : Nat) (w : World) : Calls Try.prog 103 #[.float .f64 x] w fun e w' => e = .returned (.bool (isN x)) ∧ w' = w := by
  go_enter Try.func103, Try.ntmps103
  go_wp2
  go_ret
  exact ⟨rfl, rfl⟩

theorem canon_calls (x : Nat) (w : World) : Calls Try.prog 101 #[.int .u64 (x : Int)] w fun e w' => e = .returned (.int .u64 (cn x : Nat)) ∧ w' = w := by
  cases hx : isN x
  · have hc : cn x = x := by simp [cn, hx]
    rw [hc]
    go_enter Try.func101, Try.ntmps101
    go_wp2
    go_ret
    exact ⟨rfl, rfl⟩
  · have hc : cn x = 9221120237041090560 := by simp [cn, hx]
    rw [hc]
    go_enter Try.func101, Try.ntmps101
    go_wp2
    go_ret
    exact ⟨rfl, rfl⟩
theorem refCanon_calls (x : Nat) (w : World) : Calls Try.prog 86 #[.int .u64 (x : Int)] w fun e w' => e = .returned (.int .u64 (cn x : Nat)) ∧ w' = w := by
  cases hx : isN x
  · have hc : cn x = x := by simp [cn, hx]
    rw [hc]
    go_enter Try.func86, Try.ntmps86
    go_wp2
    go_ret
    exact ⟨rfl, rfl⟩
  · have hc : cn x = 9221120237041090560 := by simp [cn, hx]
    rw [hc]
    go_enter Try.func86, Try.ntmps86
    go_wp2
    go_ret
    exact ⟨rfl, rfl⟩
end Go.Proofs.Ytjmonkhkcmcfiaa
