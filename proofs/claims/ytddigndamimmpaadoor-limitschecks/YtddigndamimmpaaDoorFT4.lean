/- The contract of awake: it returns true, and draws once. No condition. -/
import Derived.Test.YtddigndamimmpaaDoorFT2
namespace Go.Proofs.YtddigndamimmpaaDoor
open Go.ChangeShapes Go.WideShapes Go.ChangeAt Go.RowKit
open FM
/-- A uint64 is a natural number below 2^64. -/
theorem nat_u64 (a : Int) (h : (Lit.int .u64 a).wf = true) : ∃ x : Nat, a = (x : Int) ∧ x < 18446744073709551616 := by
  simp only [Lit.wf, IntKind.min, IntKind.max, IntKind.signed, IntKind.bits, Bool.and_eq_true, decide_eq_true_eq, Bool.false_eq_true, if_false] at h
  exact ⟨a.toNat, by omega, by omega⟩
theorem kd_zero : kd 0 = 3 := by decide +kernel
end Go.Proofs.YtddigndamimmpaaDoor
