/- The contracts of the reference's Num, Int, Bits, Flag: what stands behind any bytes. Condition: these have at most 2^46 bytes. -/
import Derived.Test.YtkaaddahegkmgaaPS
namespace Go.Proofs.Ytkaaddahegkmgaa
open Go.ChangeShapes Go.WideShapes Go.ChangeAt Go.RowKit
theorem tn_lt (n : Int) (h : (Lit.int .i64 n).wf = true) : tn n < 18446744073709551616 := by
  simp only [Lit.wf, IntKind.min, IntKind.max, IntKind.signed, IntKind.bits, Bool.and_eq_true, decide_eq_true_eq, if_true] at h
  unfold tn; omega
end Go.Proofs.Ytkaaddahegkmgaa
