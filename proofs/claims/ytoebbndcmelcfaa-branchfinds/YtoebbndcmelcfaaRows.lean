/-
  NARROWER THAN 'FOR EVERY INPUT', by the rows' own cells (each row's printed sentence says how): BranchFinds: loops · BranchForks: loops · BranchAfter: loops.
  DERIVED. THE GIVEN ROWS OF THIS SEAT. 3 by the template 'for every input the law returns true; each argument reads behind the call as it read before'; 0 by the template 'total and deterministic' (their statements: YtoebbndcmelcfaaTotals.lean).
  GIVEN WITH THE SEED: the statements are not yours to turn. If you find one false, say at which input.
  Laid BY PROGRAM, IN A SANDBOX (cutbox-rows.mjs): the forced cells as the released guide's own fill.sh prints them over the translation a3d3742c984188a6… (all of the seat's roots in one cut). By AI agents, Wed Nov 11 2026. No macro, syntax, notation, axiom, sorry.
-/
import Derived.Test.YtoebbndcmelcfaaChecked
import GoSem.Claim
import GoSem.ClaimJoined
import GoSem.ClaimMapViews
import Derived.JoinedTies
import Derived.KernelRfl
namespace Go.Proofs.Ytoebbndcmelcfaa
/- THE CELL 'sum', in the pinned program and in every row, IS THE sha256 OF THE DUMP (.gsa) THAT YtoebbndcmelcfaaProg.lean LOADS. Nothing in Lean hashes anything: it is a label: what it is worth is what the hold of that sum in a sandbox is worth. -/
noncomputable def Try.pinned : Pinned := { name := "ytoebbndcmelcfaa", sum := "a3d3742c984188a67d34da2a32fa738930262d5608dcec16e37c4dad4ba47c7f", checked := Try.checked }
namespace Rows
def none {H : Type} : Left H := { results := [], args := [] }

/-- 'usherlaw15.BranchFinds': WHATEVER THE INPUT: true; the input reads as it did. -/
def branchFindsSpec : ChangeSpec := { name := "branchFinds", fn := fun _ => fun
  | [d1, d2, d3, d4] => { results := [.lit (.bool true)], args := [d1, d2, d3, d4] }
  | _ => none }
def branchFindsRow : OpenClaim := { program := "ytoebbndcmelcfaa", sum := "a3d3742c984188a67d34da2a32fa738930262d5608dcec16e37c4dad4ba47c7f", func := "usher/usherlaw15.BranchFinds", spec := "branchFinds", unfollowed := true, recurses := true, loops := true, apart := false }
def BranchFindsSaid : Prop := branchFindsRow.holds Try.pinned (OpenSpec.ofChange branchFindsSpec)

/-- ITS FALSE NEIGHBOUR: 'it returns false'. Refute it at one input. -/
def branchFindsWrong : ChangeSpec := { name := "branchFinds", fn := fun _ => fun
  | [d1, d2, d3, d4] => { results := [.lit (.bool false)], args := [d1, d2, d3, d4] }
  | _ => none }
def BranchFindsWrongFalsely : Prop := branchFindsRow.holds Try.pinned (OpenSpec.ofChange branchFindsWrong)

/-- 'usherlaw15.BranchForks': WHATEVER THE INPUT: true; the input reads as it did. -/
def branchForksSpec : ChangeSpec := { name := "branchForks", fn := fun _ => fun
  | [d1, d2] => { results := [.lit (.bool true)], args := [d1, d2] }
  | _ => none }
def branchForksRow : OpenClaim := { program := "ytoebbndcmelcfaa", sum := "a3d3742c984188a67d34da2a32fa738930262d5608dcec16e37c4dad4ba47c7f", func := "usher/usherlaw15.BranchForks", spec := "branchForks", unfollowed := true, recurses := true, loops := true, apart := false }
def BranchForksSaid : Prop := branchForksRow.holds Try.pinned (OpenSpec.ofChange branchForksSpec)

/-- ITS FALSE NEIGHBOUR: 'it returns false'. Refute it at one input. -/
def branchForksWrong : ChangeSpec := { name := "branchForks", fn := fun _ => fun
  | [d1, d2] => { results := [.lit (.bool false)], args := [d1, d2] }
  | _ => none }
def BranchForksWrongFalsely : Prop := branchForksRow.holds Try.pinned (OpenSpec.ofChange branchForksWrong)

/-- 'usherlaw15.BranchAfter': WHATEVER THE INPUT: true; the input reads as it did. -/
def branchAfterSpec : ChangeSpec := { name := "branchAfter", fn := fun _ => fun
  | [d1, d2, d3] => { results := [.lit (.bool true)], args := [d1, d2, d3] }
  | _ => none }
def branchAfterRow : OpenClaim := { program := "ytoebbndcmelcfaa", sum := "a3d3742c984188a67d34da2a32fa738930262d5608dcec16e37c4dad4ba47c7f", func := "usher/usherlaw15.BranchAfter", spec := "branchAfter", unfollowed := true, recurses := true, loops := true, apart := false }
def BranchAfterSaid : Prop := branchAfterRow.holds Try.pinned (OpenSpec.ofChange branchAfterSpec)

/-- ITS FALSE NEIGHBOUR: 'it returns false'. Refute it at one input. -/
def branchAfterWrong : ChangeSpec := { name := "branchAfter", fn := fun _ => fun
  | [d1, d2, d3] => { results := [.lit (.bool false)], args := [d1, d2, d3] }
  | _ => none }
def BranchAfterWrongFalsely : Prop := branchAfterRow.holds Try.pinned (OpenSpec.ofChange branchAfterWrong)

/- THE SECOND FORM. 'bulk': how many values and letters a reading holds, each counted each time it is reached (what is shared counts as often as it is met; a slice's spare places count too). A statement '..UptoSaid' is the law's where the arguments, and the package variables that the reading takes, are together of bulk at most 1048576: NARROWER than '..Said'. Prove '..Said' where nothing that the law and all that it calls make is longer than what came in: it says more and counts as full. Else prove '..UptoSaid'. A law counts once. -/
mutual
def uptoBulk {H : Type} : DataW H → Nat
  | .lit (.string bytes) => bytes.length + 1
  | .lit _ => 1
  | .nil => 1
  | .ptr d => uptoBulk d + 1
  | .slice elems spare => uptoBulkAll elems + uptoBulkAll spare + 1
  | .agg parts => uptoBulkAll parts + 1
  | .iface _ d => uptoBulk d + 1
  | .map entries => uptoBulkEntries entries + 1
  | .held _ => 1
def uptoBulkAll {H : Type} : List (DataW H) → Nat
  | [] => 0
  | d :: r => uptoBulk d + uptoBulkAll r
def uptoBulkEntries {H : Type} : List (Lit × DataW H) → Nat
  | [] => 0
  | x :: r => uptoBulkEntry x + uptoBulkEntries r
def uptoBulkEntry {H : Type} : Lit × DataW H → Nat
  | (.string bytes, d) => bytes.length + uptoBulk d + 1
  | (_, d) => uptoBulk d + 1
 end
def uptoSmall : (H : Type) → List (DataW H) → Bool := fun _ ds => decide (uptoBulkAll ds ≤ 1048576)
def OpenSpec.upto (s : _root_.Go.ChangeSpec) : _root_.Go.OpenSpec := { _root_.Go.OpenSpec.ofChange s with cond := some uptoSmall }

/-- 'usherlaw15.BranchFinds', WHERE WHAT IT READS IS OF BULK AT MOST 1048576: true; the input reads as it did. -/
def branchFindsUptoRow : OpenClaim := { program := "ytoebbndcmelcfaa", sum := "a3d3742c984188a67d34da2a32fa738930262d5608dcec16e37c4dad4ba47c7f", func := "usher/usherlaw15.BranchFinds", spec := "branchFinds", unfollowed := true, recurses := true, loops := true, apart := false, narrowed := true }
def BranchFindsUptoSaid : Prop := branchFindsUptoRow.holds Try.pinned (OpenSpec.upto branchFindsSpec)

/-- 'usherlaw15.BranchForks', WHERE WHAT IT READS IS OF BULK AT MOST 1048576: true; the input reads as it did. -/
def branchForksUptoRow : OpenClaim := { program := "ytoebbndcmelcfaa", sum := "a3d3742c984188a67d34da2a32fa738930262d5608dcec16e37c4dad4ba47c7f", func := "usher/usherlaw15.BranchForks", spec := "branchForks", unfollowed := true, recurses := true, loops := true, apart := false, narrowed := true }
def BranchForksUptoSaid : Prop := branchForksUptoRow.holds Try.pinned (OpenSpec.upto branchForksSpec)

/-- 'usherlaw15.BranchAfter', WHERE WHAT IT READS IS OF BULK AT MOST 1048576: true; the input reads as it did. -/
def branchAfterUptoRow : OpenClaim := { program := "ytoebbndcmelcfaa", sum := "a3d3742c984188a67d34da2a32fa738930262d5608dcec16e37c4dad4ba47c7f", func := "usher/usherlaw15.BranchAfter", spec := "branchAfter", unfollowed := true, recurses := true, loops := true, apart := false, narrowed := true }
def BranchAfterUptoSaid : Prop := branchAfterUptoRow.holds Try.pinned (OpenSpec.upto branchAfterSpec)

end Rows
end Go.Proofs.Ytoebbndcmelcfaa
