/-
  No cell of these rows narrows 'for every input' (looked for: loops, veiled, ifaces, maps, wideKeys, modest, calm, conditions, laid).
  DERIVED. THE GIVEN ROWS OF THIS SEAT. 4 by the template 'for every input the law returns true; each argument reads behind the call as it read before'; 0 by the template 'total and deterministic' (their statements: YtlpfdilnoglgcaaTotals.lean).
  GIVEN WITH THE SEED: the statements are not yours to turn. If you find one false, say at which input.
  Laid BY PROGRAM, IN A SANDBOX (cutbox-rows.mjs): the forced cells as the released guide's own fill.sh prints them over the translation c1ac84dfa5ff48a4… (all of the seat's roots in one cut). By AI agents, Wed Nov 11 2026. No macro, syntax, notation, axiom, sorry.
-/
import Derived.Test.YtlpfdilnoglgcaaChecked
import GoSem.Claim
import GoSem.ClaimJoined
import GoSem.ClaimMapViews
import Derived.JoinedTies
import Derived.KernelRfl
namespace Go.Proofs.Ytlpfdilnoglgcaa
/- THE CELL 'sum', in the pinned program and in every row, IS THE sha256 OF THE DUMP (.gsa) THAT YtlpfdilnoglgcaaProg.lean LOADS. Nothing in Lean hashes anything: it is a label: what it is worth is what the hold of that sum in a sandbox is worth. -/
noncomputable def Try.pinned : Pinned := { name := "ytlpfdilnoglgcaa", sum := "c1ac84dfa5ff48a4608a3cc34eb058c91da48952db8b50012a8fb8f366726d25", checked := Try.checked }
namespace Rows
def none {H : Type} : Left H := { results := [], args := [] }

/-- 'usherlaw13.PolicyDelays': WHATEVER THE INPUT: true; the input reads as it did. -/
def policyDelaysSpec : ChangeSpec := { name := "policyDelays", fn := fun _ => fun
  | [d1, d2] => { results := [.lit (.bool true)], args := [d1, d2] }
  | _ => none }
def policyDelaysRow : OpenClaim := { program := "ytlpfdilnoglgcaa", sum := "c1ac84dfa5ff48a4608a3cc34eb058c91da48952db8b50012a8fb8f366726d25", func := "usher/usherlaw13.PolicyDelays", spec := "policyDelays", inPlace := ["math.Float64frombits", "math.Float64bits"], apart := false }
def PolicyDelaysSaid : Prop := policyDelaysRow.holds Try.pinned (OpenSpec.ofChange policyDelaysSpec)

/-- ITS FALSE NEIGHBOUR: 'it returns false'. Refute it at one input. -/
def policyDelaysWrong : ChangeSpec := { name := "policyDelays", fn := fun _ => fun
  | [d1, d2] => { results := [.lit (.bool false)], args := [d1, d2] }
  | _ => none }
def PolicyDelaysWrongFalsely : Prop := policyDelaysRow.holds Try.pinned (OpenSpec.ofChange policyDelaysWrong)

/-- 'usherlaw13.PolicyAll': WHATEVER THE INPUT: true; the input reads as it did. -/
def policyAllSpec : ChangeSpec := { name := "policyAll", fn := fun _ => fun
  | [d1, d2] => { results := [.lit (.bool true)], args := [d1, d2] }
  | _ => none }
def policyAllRow : OpenClaim := { program := "ytlpfdilnoglgcaa", sum := "c1ac84dfa5ff48a4608a3cc34eb058c91da48952db8b50012a8fb8f366726d25", func := "usher/usherlaw13.PolicyAll", spec := "policyAll", inPlace := ["math.Float64bits", "math.Float64frombits"], apart := false }
def PolicyAllSaid : Prop := policyAllRow.holds Try.pinned (OpenSpec.ofChange policyAllSpec)

/-- ITS FALSE NEIGHBOUR: 'it returns false'. Refute it at one input. -/
def policyAllWrong : ChangeSpec := { name := "policyAll", fn := fun _ => fun
  | [d1, d2] => { results := [.lit (.bool false)], args := [d1, d2] }
  | _ => none }
def PolicyAllWrongFalsely : Prop := policyAllRow.holds Try.pinned (OpenSpec.ofChange policyAllWrong)

/-- 'usherlaw13.PolicyRises': WHATEVER THE INPUT: true; the input reads as it did. -/
def policyRisesSpec : ChangeSpec := { name := "policyRises", fn := fun _ => fun
  | [d1, d2] => { results := [.lit (.bool true)], args := [d1, d2] }
  | _ => none }
def policyRisesRow : OpenClaim := { program := "ytlpfdilnoglgcaa", sum := "c1ac84dfa5ff48a4608a3cc34eb058c91da48952db8b50012a8fb8f366726d25", func := "usher/usherlaw13.PolicyRises", spec := "policyRises", inPlace := ["math.Float64frombits", "math.Float64bits"], apart := false }
def PolicyRisesSaid : Prop := policyRisesRow.holds Try.pinned (OpenSpec.ofChange policyRisesSpec)

/-- ITS FALSE NEIGHBOUR: 'it returns false'. Refute it at one input. -/
def policyRisesWrong : ChangeSpec := { name := "policyRises", fn := fun _ => fun
  | [d1, d2] => { results := [.lit (.bool false)], args := [d1, d2] }
  | _ => none }
def PolicyRisesWrongFalsely : Prop := policyRisesRow.holds Try.pinned (OpenSpec.ofChange policyRisesWrong)

/-- 'usherlaw13.PolicyBack': WHATEVER THE INPUT: true; the input reads as it did. -/
def policyBackSpec : ChangeSpec := { name := "policyBack", fn := fun _ => fun
  | [d1, d2] => { results := [.lit (.bool true)], args := [d1, d2] }
  | _ => none }
def policyBackRow : OpenClaim := { program := "ytlpfdilnoglgcaa", sum := "c1ac84dfa5ff48a4608a3cc34eb058c91da48952db8b50012a8fb8f366726d25", func := "usher/usherlaw13.PolicyBack", spec := "policyBack", inPlace := ["math.Float64frombits", "math.Float64bits"], apart := false }
def PolicyBackSaid : Prop := policyBackRow.holds Try.pinned (OpenSpec.ofChange policyBackSpec)

/-- ITS FALSE NEIGHBOUR: 'it returns false'. Refute it at one input. -/
def policyBackWrong : ChangeSpec := { name := "policyBack", fn := fun _ => fun
  | [d1, d2] => { results := [.lit (.bool false)], args := [d1, d2] }
  | _ => none }
def PolicyBackWrongFalsely : Prop := policyBackRow.holds Try.pinned (OpenSpec.ofChange policyBackWrong)

/- THE SECOND FORM. 'bulk': how many values and letters a reading holds, each counted each time it is reached (what is shared counts as often as it is met; a slice's spare places count too). A statement '..UptoSaid' is the law's where the arguments, and the package variables that the reading takes, are together of bulk at most 1048576: NARROWER than '..Said'. Prove '..Said' where nothing that the law and all that it calls make is longer than what came in: it says more and counts as full. Else prove '..UptoSaid'. A law counts once. -/
mutual
def uptoBulk {H : Type} : DataW H → Nat
  | .lit (.string bytes) => bytes.length + 1
  | .lit _ => 1
  | .nil => 1
  | .ptr d => uptoBulk d + 1
  | .slice elems spare => uptoBulkAll elems + uptoBulkAll spare + 1
  | .agg parts => uptoBulkAll parts + 1
  | .iface _ d => uptoBulk d + 1
  | .map entries => uptoBulkEntries entries + 1
  | .held _ => 1
def uptoBulkAll {H : Type} : List (DataW H) → Nat
  | [] => 0
  | d :: r => uptoBulk d + uptoBulkAll r
def uptoBulkEntries {H : Type} : List (Lit × DataW H) → Nat
  | [] => 0
  | x :: r => uptoBulkEntry x + uptoBulkEntries r
def uptoBulkEntry {H : Type} : Lit × DataW H → Nat
  | (.string bytes, d) => bytes.length + uptoBulk d + 1
  | (_, d) => uptoBulk d + 1
 end
def uptoSmall : (H : Type) → List (DataW H) → Bool := fun _ ds => decide (uptoBulkAll ds ≤ 1048576)
def OpenSpec.upto (s : _root_.Go.ChangeSpec) : _root_.Go.OpenSpec := { _root_.Go.OpenSpec.ofChange s with cond := some uptoSmall }

/-- 'usherlaw13.PolicyDelays', WHERE WHAT IT READS IS OF BULK AT MOST 1048576: true; the input reads as it did. -/
def policyDelaysUptoRow : OpenClaim := { program := "ytlpfdilnoglgcaa", sum := "c1ac84dfa5ff48a4608a3cc34eb058c91da48952db8b50012a8fb8f366726d25", func := "usher/usherlaw13.PolicyDelays", spec := "policyDelays", inPlace := ["math.Float64frombits", "math.Float64bits"], apart := false, narrowed := true }
def PolicyDelaysUptoSaid : Prop := policyDelaysUptoRow.holds Try.pinned (OpenSpec.upto policyDelaysSpec)

/-- 'usherlaw13.PolicyAll', WHERE WHAT IT READS IS OF BULK AT MOST 1048576: true; the input reads as it did. -/
def policyAllUptoRow : OpenClaim := { program := "ytlpfdilnoglgcaa", sum := "c1ac84dfa5ff48a4608a3cc34eb058c91da48952db8b50012a8fb8f366726d25", func := "usher/usherlaw13.PolicyAll", spec := "policyAll", inPlace := ["math.Float64bits", "math.Float64frombits"], apart := false, narrowed := true }
def PolicyAllUptoSaid : Prop := policyAllUptoRow.holds Try.pinned (OpenSpec.upto policyAllSpec)

/-- 'usherlaw13.PolicyRises', WHERE WHAT IT READS IS OF BULK AT MOST 1048576: true; the input reads as it did. -/
def policyRisesUptoRow : OpenClaim := { program := "ytlpfdilnoglgcaa", sum := "c1ac84dfa5ff48a4608a3cc34eb058c91da48952db8b50012a8fb8f366726d25", func := "usher/usherlaw13.PolicyRises", spec := "policyRises", inPlace := ["math.Float64frombits", "math.Float64bits"], apart := false, narrowed := true }
def PolicyRisesUptoSaid : Prop := policyRisesUptoRow.holds Try.pinned (OpenSpec.upto policyRisesSpec)

/-- 'usherlaw13.PolicyBack', WHERE WHAT IT READS IS OF BULK AT MOST 1048576: true; the input reads as it did. -/
def policyBackUptoRow : OpenClaim := { program := "ytlpfdilnoglgcaa", sum := "c1ac84dfa5ff48a4608a3cc34eb058c91da48952db8b50012a8fb8f366726d25", func := "usher/usherlaw13.PolicyBack", spec := "policyBack", inPlace := ["math.Float64frombits", "math.Float64bits"], apart := false, narrowed := true }
def PolicyBackUptoSaid : Prop := policyBackUptoRow.holds Try.pinned (OpenSpec.upto policyBackSpec)

end Rows
end Go.Proofs.Ytlpfdilnoglgcaa
