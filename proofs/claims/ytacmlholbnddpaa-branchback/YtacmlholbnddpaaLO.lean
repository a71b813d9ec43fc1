/- An argument that is a policy: its three numbers, each of its kind. -/
import Derived.Test.YtacmlholbnddpaaRows
import Derived.WalkKit
import Derived.ProofKit
import Derived.OpenShut
import Derived.ChangeOld
import Derived.ChangeArms
import Derived.ChangeSame
import Derived.Lib.SmallJoins
import Derived.Test.YtacmlholbnddpaaVJ
namespace Go.Proofs.Ytacmlholbnddpaa
open Go.ChangeShapes Go.WideShapes Go.ChangeAt Go.RowKit
/-- The numbers of a policy fit their kinds. -/
structure PFit (f : Int) (c : Nat) (m : Int) : Prop where
  f0 : -9223372036854775808 ≤ f
  f1 : f ≤ 9223372036854775807
  c1 : c < 18446744073709551616
  m0 : -9223372036854775808 ≤ m
  m1 : m ≤ 9223372036854775807
set_option maxRecDepth 20000 in
theorem open_pol {H : Type} {enc : TypeId × Value → H} {W : World} {base b0 : Nat} {r : Reach} {spare : Nat → Bool} {held : Bool} {v : Value} {d : DataW H} {p : List MemPlace}
    (hv : Value.okWide Try.prog W r b0 37 v) (h : DataW.Trod enc Try.prog W base spare held 37 v d p) :
    ∃ (f : Int) (c : Nat) (m : Int), v = .agg #[.int .i64 f, .int .u64 (c : Int), .int .i64 m] ∧ PFit f c m := by
  obtain ⟨v0, v1, v2, y0, y1, y2, n, rfl, _, _, h0, h1, h2⟩ := Joins.open_agg3 Try.underlying37 (by kernel_rfl) (by kernel_rfl) hv h
  obtain ⟨f, e0, _, w0⟩ := DataW.trod_int Try.underlying3 h0
  obtain ⟨c, e1, _, w1⟩ := DataW.trod_int Try.underlying32 h1
  obtain ⟨m, e2, _, w2⟩ := DataW.trod_int Try.underlying3 h2
  simp only [List.cons.injEq, and_true] at e0 e1 e2
  subst e0 e1 e2
  have g0 := lo64 w0
  have g1 := lou64 w1
  have g2 := lo64 w2
  refine ⟨f, c.toNat, m, ?_, ⟨g0.1, g0.2, by omega, g2.1, g2.2⟩⟩
  rw [Int.toNat_of_nonneg g1.1]
end Go.Proofs.Ytacmlholbnddpaa
