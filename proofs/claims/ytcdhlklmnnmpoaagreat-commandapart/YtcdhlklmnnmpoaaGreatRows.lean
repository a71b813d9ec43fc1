/-
  NARROWER THAN 'FOR EVERY INPUT', by the rows' own cells (each row's printed sentence says how): CommandChecks: loops · CommandApart: loops · CommandFirst: loops.
  DERIVED. THE GIVEN ROWS OF THIS SEAT. 3 by the template 'for every input the law returns true; each argument reads behind the call as it read before'; 0 by the template 'total and deterministic' (their statements: YtcdhlklmnnmpoaaGreatTotals.lean).
  GIVEN WITH THE SEED: the statements are not yours to turn. If you find one false, say at which input.
  Laid BY PROGRAM, IN A SANDBOX (cutbox-rows.mjs): the forced cells as the released guide's own fill.sh prints them over the translation 92e9d107038de5e1… (all of the seat's roots in one cut). By AI agents, Wed Nov 11 2026. No macro, syntax, notation, axiom, sorry.
-/
import Derived.Test.YtcdhlklmnnmpoaaGreatChecked
import GoSem.Claim
import GoSem.ClaimJoined
import GoSem.ClaimMapViews
import Derived.JoinedTies
import Derived.KernelRfl
namespace Go.Proofs.YtcdhlklmnnmpoaaGreat
/- THE CELL 'sum', in the pinned program and in every row, IS THE sha256 OF THE DUMP (.gsa) THAT YtcdhlklmnnmpoaaGreatProg.lean LOADS. Nothing in Lean hashes anything: it is a label: what it is worth is what the hold of that sum in a sandbox is worth. -/
noncomputable def Tryz.pinned : Pinned := { name := "ytcdhlklmnnmpoaagreat", sum := "92e9d107038de5e128b0b7fc55b1b5fd3297dbc0353f16f1469712d9c72e7711", checked := Tryz.checked }
namespace Rows
def none {H : Type} : Left H := { results := [], args := [] }

/-- 'usherlaw21.CommandChecks': WHATEVER THE INPUT: true; the input reads as it did. -/
def commandChecksSpec : ChangeSpec := { name := "commandChecks", fn := fun _ => fun
  | [d1, d2] => { results := [.lit (.bool true)], args := [d1, d2] }
  | _ => none }
def commandChecksRow : OpenClaim := { program := "ytcdhlklmnnmpoaagreat", sum := "92e9d107038de5e128b0b7fc55b1b5fd3297dbc0353f16f1469712d9c72e7711", func := "usher/usherlaw21.CommandChecks", spec := "commandChecks", inPlace := ["math.Float64frombits", "math.Float64bits", "slices.overlaps[usher/api.Timer]", "slices.overlaps[usher/api.Update]"], unfollowed := true, recurses := true, loops := true, apart := false }
def CommandChecksSaid : Prop := commandChecksRow.holds Tryz.pinned (OpenSpec.ofChange commandChecksSpec)

/-- ITS FALSE NEIGHBOUR: 'it returns false'. Refute it at one input. -/
def commandChecksWrong : ChangeSpec := { name := "commandChecks", fn := fun _ => fun
  | [d1, d2] => { results := [.lit (.bool false)], args := [d1, d2] }
  | _ => none }
def CommandChecksWrongFalsely : Prop := commandChecksRow.holds Tryz.pinned (OpenSpec.ofChange commandChecksWrong)

/-- 'usherlaw21.CommandApart': WHATEVER THE INPUT: true; the input reads as it did. -/
def commandApartSpec : ChangeSpec := { name := "commandApart", fn := fun _ => fun
  | [d1, d2, d3] => { results := [.lit (.bool true)], args := [d1, d2, d3] }
  | _ => none }
def commandApartRow : OpenClaim := { program := "ytcdhlklmnnmpoaagreat", sum := "92e9d107038de5e128b0b7fc55b1b5fd3297dbc0353f16f1469712d9c72e7711", func := "usher/usherlaw21.CommandApart", spec := "commandApart", inPlace := ["math.Float64frombits", "math.Float64bits", "slices.overlaps[usher/api.Timer]", "slices.overlaps[usher/api.Update]"], unfollowed := true, recurses := true, loops := true, apart := false }
def CommandApartSaid : Prop := commandApartRow.holds Tryz.pinned (OpenSpec.ofChange commandApartSpec)

/-- ITS FALSE NEIGHBOUR: 'it returns false'. Refute it at one input. -/
def commandApartWrong : ChangeSpec := { name := "commandApart", fn := fun _ => fun
  | [d1, d2, d3] => { results := [.lit (.bool false)], args := [d1, d2, d3] }
  | _ => none }
def CommandApartWrongFalsely : Prop := commandApartRow.holds Tryz.pinned (OpenSpec.ofChange commandApartWrong)

/-- 'usherlaw21.CommandFirst': WHATEVER THE INPUT: true; the input reads as it did. -/
def commandFirstSpec : ChangeSpec := { name := "commandFirst", fn := fun _ => fun
  | [d1, d2, d3] => { results := [.lit (.bool true)], args := [d1, d2, d3] }
  | _ => none }
def commandFirstRow : OpenClaim := { program := "ytcdhlklmnnmpoaagreat", sum := "92e9d107038de5e128b0b7fc55b1b5fd3297dbc0353f16f1469712d9c72e7711", func := "usher/usherlaw21.CommandFirst", spec := "commandFirst", inPlace := ["math.Float64frombits", "math.Float64bits", "slices.overlaps[usher/api.Timer]", "slices.overlaps[usher/api.Update]"], unfollowed := true, recurses := true, loops := true, apart := false }
def CommandFirstSaid : Prop := commandFirstRow.holds Tryz.pinned (OpenSpec.ofChange commandFirstSpec)

/-- ITS FALSE NEIGHBOUR: 'it returns false'. Refute it at one input. -/
def commandFirstWrong : ChangeSpec := { name := "commandFirst", fn := fun _ => fun
  | [d1, d2, d3] => { results := [.lit (.bool false)], args := [d1, d2, d3] }
  | _ => none }
def CommandFirstWrongFalsely : Prop := commandFirstRow.holds Tryz.pinned (OpenSpec.ofChange commandFirstWrong)

/- THE SECOND FORM. 'bulk': how many values and letters a reading holds, each counted each time it is reached (what is shared counts as often as it is met; a slice's spare places count too). A statement '..UptoSaid' is the law's where the arguments, and the package variables that the reading takes, are together of bulk at most 1048576: NARROWER than '..Said'. Prove '..Said' where nothing that the law and all that it calls make is longer than what came in: it says more and counts as full. Else prove '..UptoSaid'. A law counts once. -/
mutual
def uptoBulk {H : Type} : DataW H → Nat
  | .lit (.string bytes) => bytes.length + 1
  | .lit _ => 1
  | .nil => 1
  | .ptr d => uptoBulk d + 1
  | .slice elems spare => uptoBulkAll elems + uptoBulkAll spare + 1
  | .agg parts => uptoBulkAll parts + 1
  | .iface _ d => uptoBulk d + 1
  | .map entries => uptoBulkEntries entries + 1
  | .held _ => 1
def uptoBulkAll {H : Type} : List (DataW H) → Nat
  | [] => 0
  | d :: r => uptoBulk d + uptoBulkAll r
def uptoBulkEntries {H : Type} : List (Lit × DataW H) → Nat
  | [] => 0
  | x :: r => uptoBulkEntry x + uptoBulkEntries r
def uptoBulkEntry {H : Type} : Lit × DataW H → Nat
  | (.string bytes, d) => bytes.length + uptoBulk d + 1
  | (_, d) => uptoBulk d + 1
 end
def uptoSmall : (H : Type) → List (DataW H) → Bool := fun _ ds => decide (uptoBulkAll ds ≤ 1048576)
def OpenSpec.upto (s : _root_.Go.ChangeSpec) : _root_.Go.OpenSpec := { _root_.Go.OpenSpec.ofChange s with cond := some uptoSmall }

/-- 'usherlaw21.CommandChecks', WHERE WHAT IT READS IS OF BULK AT MOST 1048576: true; the input reads as it did. -/
def commandChecksUptoRow : OpenClaim := { program := "ytcdhlklmnnmpoaagreat", sum := "92e9d107038de5e128b0b7fc55b1b5fd3297dbc0353f16f1469712d9c72e7711", func := "usher/usherlaw21.CommandChecks", spec := "commandChecks", inPlace := ["math.Float64frombits", "math.Float64bits", "slices.overlaps[usher/api.Timer]", "slices.overlaps[usher/api.Update]"], unfollowed := true, recurses := true, loops := true, apart := false, narrowed := true }
def CommandChecksUptoSaid : Prop := commandChecksUptoRow.holds Tryz.pinned (OpenSpec.upto commandChecksSpec)

/-- 'usherlaw21.CommandApart', WHERE WHAT IT READS IS OF BULK AT MOST 1048576: true; the input reads as it did. -/
def commandApartUptoRow : OpenClaim := { program := "ytcdhlklmnnmpoaagreat", sum := "92e9d107038de5e128b0b7fc55b1b5fd3297dbc0353f16f1469712d9c72e7711", func := "usher/usherlaw21.CommandApart", spec := "commandApart", inPlace := ["math.Float64frombits", "math.Float64bits", "slices.overlaps[usher/api.Timer]", "slices.overlaps[usher/api.Update]"], unfollowed := true, recurses := true, loops := true, apart := false, narrowed := true }
def CommandApartUptoSaid : Prop := commandApartUptoRow.holds Tryz.pinned (OpenSpec.upto commandApartSpec)

/-- 'usherlaw21.CommandFirst', WHERE WHAT IT READS IS OF BULK AT MOST 1048576: true; the input reads as it did. -/
def commandFirstUptoRow : OpenClaim := { program := "ytcdhlklmnnmpoaagreat", sum := "92e9d107038de5e128b0b7fc55b1b5fd3297dbc0353f16f1469712d9c72e7711", func := "usher/usherlaw21.CommandFirst", spec := "commandFirst", inPlace := ["math.Float64frombits", "math.Float64bits", "slices.overlaps[usher/api.Timer]", "slices.overlaps[usher/api.Update]"], unfollowed := true, recurses := true, loops := true, apart := false, narrowed := true }
def CommandFirstUptoSaid : Prop := commandFirstUptoRow.holds Tryz.pinned (OpenSpec.upto commandFirstSpec)

end Rows
end Go.Proofs.YtcdhlklmnnmpoaaGreat
