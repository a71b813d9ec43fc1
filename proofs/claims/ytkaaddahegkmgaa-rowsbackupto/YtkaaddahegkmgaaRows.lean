/-
  No cell of these rows narrows 'for every input' (looked for: loops, veiled, ifaces, maps, wideKeys, modest, calm, conditions, laid).
  DERIVED. THE GIVEN ROWS OF THIS SEAT. 4 by the template 'for every input the law returns true; each argument reads behind the call as it read before'; 0 by the template 'total and deterministic' (their statements: YtkaaddahegkmgaaTotals.lean).
  GIVEN WITH THE SEED: the statements are not yours to turn. If you find one false, say at which input.
  Laid BY PROGRAM, IN A SANDBOX (cutbox-rows.mjs): the forced cells as the released guide's own fill.sh prints them over the translation 431079eeab5f447a… (all of the seat's roots in one cut). By AI agents, Wed Nov 11 2026. No macro, syntax, notation, axiom, sorry.
-/
import Derived.Test.YtkaaddahegkmgaaChecked
import GoSem.Claim
import GoSem.ClaimJoined
import GoSem.ClaimMapViews
import Derived.JoinedTies
import Derived.KernelRfl
namespace Go.Proofs.Ytkaaddahegkmgaa
/- THE CELL 'sum', in the pinned program and in every row, IS THE sha256 OF THE DUMP (.gsa) THAT YtkaaddahegkmgaaProg.lean LOADS. Nothing in Lean hashes anything: it is a label: what it is worth is what the hold of that sum in a sandbox is worth. -/
noncomputable def Try.pinned : Pinned := { name := "ytkaaddahegkmgaa", sum := "431079eeab5f447ad2511378ceefaa5845a980b8397dcc0ea21a02609330fec5", checked := Try.checked }
namespace Rows
def none {H : Type} : Left H := { results := [], args := [] }

/-- 'usherlaw11.RowsApplies': WHATEVER THE INPUT: true; the input reads as it did. -/
def rowsAppliesSpec : ChangeSpec := { name := "rowsApplies", fn := fun _ => fun
  | [d1, d2, d3] => { results := [.lit (.bool true)], args := [d1, d2, d3] }
  | _ => none }
def rowsAppliesRow : OpenClaim := { program := "ytkaaddahegkmgaa", sum := "431079eeab5f447ad2511378ceefaa5845a980b8397dcc0ea21a02609330fec5", func := "usher/usherlaw11.RowsApplies", spec := "rowsApplies", inPlace := ["slices.overlaps[usher/api.Branch]", "slices.overlaps[usher/api.Row]"], unfollowed := true, recurses := true, apart := false }
def RowsAppliesSaid : Prop := rowsAppliesRow.holds Try.pinned (OpenSpec.ofChange rowsAppliesSpec)

/-- ITS FALSE NEIGHBOUR: 'it returns false'. Refute it at one input. -/
def rowsAppliesWrong : ChangeSpec := { name := "rowsApplies", fn := fun _ => fun
  | [d1, d2, d3] => { results := [.lit (.bool false)], args := [d1, d2, d3] }
  | _ => none }
def RowsAppliesWrongFalsely : Prop := rowsAppliesRow.holds Try.pinned (OpenSpec.ofChange rowsAppliesWrong)

/-- 'usherlaw11.RowsWhole': WHATEVER THE INPUT: true; the input reads as it did. -/
def rowsWholeSpec : ChangeSpec := { name := "rowsWhole", fn := fun _ => fun
  | [d1, d2, d3] => { results := [.lit (.bool true)], args := [d1, d2, d3] }
  | _ => none }
def rowsWholeRow : OpenClaim := { program := "ytkaaddahegkmgaa", sum := "431079eeab5f447ad2511378ceefaa5845a980b8397dcc0ea21a02609330fec5", func := "usher/usherlaw11.RowsWhole", spec := "rowsWhole", inPlace := ["slices.overlaps[usher/api.Branch]", "slices.overlaps[usher/api.Row]"], unfollowed := true, recurses := true, apart := false }
def RowsWholeSaid : Prop := rowsWholeRow.holds Try.pinned (OpenSpec.ofChange rowsWholeSpec)

/-- ITS FALSE NEIGHBOUR: 'it returns false'. Refute it at one input. -/
def rowsWholeWrong : ChangeSpec := { name := "rowsWhole", fn := fun _ => fun
  | [d1, d2, d3] => { results := [.lit (.bool false)], args := [d1, d2, d3] }
  | _ => none }
def RowsWholeWrongFalsely : Prop := rowsWholeRow.holds Try.pinned (OpenSpec.ofChange rowsWholeWrong)

/-- 'usherlaw11.RowsOnce': WHATEVER THE INPUT: true; the input reads as it did. -/
def rowsOnceSpec : ChangeSpec := { name := "rowsOnce", fn := fun _ => fun
  | [d1, d2, d3] => { results := [.lit (.bool true)], args := [d1, d2, d3] }
  | _ => none }
def rowsOnceRow : OpenClaim := { program := "ytkaaddahegkmgaa", sum := "431079eeab5f447ad2511378ceefaa5845a980b8397dcc0ea21a02609330fec5", func := "usher/usherlaw11.RowsOnce", spec := "rowsOnce", inPlace := ["slices.overlaps[usher/api.Branch]", "slices.overlaps[usher/api.Row]"], unfollowed := true, recurses := true, apart := false }
def RowsOnceSaid : Prop := rowsOnceRow.holds Try.pinned (OpenSpec.ofChange rowsOnceSpec)

/-- ITS FALSE NEIGHBOUR: 'it returns false'. Refute it at one input. -/
def rowsOnceWrong : ChangeSpec := { name := "rowsOnce", fn := fun _ => fun
  | [d1, d2, d3] => { results := [.lit (.bool false)], args := [d1, d2, d3] }
  | _ => none }
def RowsOnceWrongFalsely : Prop := rowsOnceRow.holds Try.pinned (OpenSpec.ofChange rowsOnceWrong)

/-- 'usherlaw11.RowsBack': WHATEVER THE INPUT: true; the input reads as it did. -/
def rowsBackSpec : ChangeSpec := { name := "rowsBack", fn := fun _ => fun
  | [d1, d2] => { results := [.lit (.bool true)], args := [d1, d2] }
  | _ => none }
def rowsBackRow : OpenClaim := { program := "ytkaaddahegkmgaa", sum := "431079eeab5f447ad2511378ceefaa5845a980b8397dcc0ea21a02609330fec5", func := "usher/usherlaw11.RowsBack", spec := "rowsBack", inPlace := ["slices.overlaps[usher/api.Branch]", "slices.overlaps[usher/api.Row]"], unfollowed := true, recurses := true, apart := false }
def RowsBackSaid : Prop := rowsBackRow.holds Try.pinned (OpenSpec.ofChange rowsBackSpec)

/-- ITS FALSE NEIGHBOUR: 'it returns false'. Refute it at one input. -/
def rowsBackWrong : ChangeSpec := { name := "rowsBack", fn := fun _ => fun
  | [d1, d2] => { results := [.lit (.bool false)], args := [d1, d2] }
  | _ => none }
def RowsBackWrongFalsely : Prop := rowsBackRow.holds Try.pinned (OpenSpec.ofChange rowsBackWrong)

/- THE SECOND FORM. 'bulk': how many values and letters a reading holds, each counted each time it is reached (what is shared counts as often as it is met; a slice's spare places count too). A statement '..UptoSaid' is the law's where the arguments, and the package variables that the reading takes, are together of bulk at most 1048576: NARROWER than '..Said'. Prove '..Said' where nothing that the law and all that it calls make is longer than what came in: it says more and counts as full. Else prove '..UptoSaid'. A law counts once. -/
mutual
def uptoBulk {H : Type} : DataW H → Nat
  | .lit (.string bytes) => bytes.length + 1
  | .lit _ => 1
  | .nil => 1
  | .ptr d => uptoBulk d + 1
  | .slice elems spare => uptoBulkAll elems + uptoBulkAll spare + 1
  | .agg parts => uptoBulkAll parts + 1
  | .iface _ d => uptoBulk d + 1
  | .map entries => uptoBulkEntries entries + 1
  | .held _ => 1
def uptoBulkAll {H : Type} : List (DataW H) → Nat
  | [] => 0
  | d :: r => uptoBulk d + uptoBulkAll r
def uptoBulkEntries {H : Type} : List (Lit × DataW H) → Nat
  | [] => 0
  | x :: r => uptoBulkEntry x + uptoBulkEntries r
def uptoBulkEntry {H : Type} : Lit × DataW H → Nat
  | (.string bytes, d) => bytes.length + uptoBulk d + 1
  | (_, d) => uptoBulk d + 1
 end
def uptoSmall : (H : Type) → List (DataW H) → Bool := fun _ ds => decide (uptoBulkAll ds ≤ 1048576)
def OpenSpec.upto (s : _root_.Go.ChangeSpec) : _root_.Go.OpenSpec := { _root_.Go.OpenSpec.ofChange s with cond := some uptoSmall }

/-- 'usherlaw11.RowsApplies', WHERE WHAT IT READS IS OF BULK AT MOST 1048576: true; the input reads as it did. -/
def rowsAppliesUptoRow : OpenClaim := { program := "ytkaaddahegkmgaa", sum := "431079eeab5f447ad2511378ceefaa5845a980b8397dcc0ea21a02609330fec5", func := "usher/usherlaw11.RowsApplies", spec := "rowsApplies", inPlace := ["slices.overlaps[usher/api.Branch]", "slices.overlaps[usher/api.Row]"], unfollowed := true, recurses := true, apart := false, narrowed := true }
def RowsAppliesUptoSaid : Prop := rowsAppliesUptoRow.holds Try.pinned (OpenSpec.upto rowsAppliesSpec)

/-- 'usherlaw11.RowsWhole', WHERE WHAT IT READS IS OF BULK AT MOST 1048576: true; the input reads as it did. -/
def rowsWholeUptoRow : OpenClaim := { program := "ytkaaddahegkmgaa", sum := "431079eeab5f447ad2511378ceefaa5845a980b8397dcc0ea21a02609330fec5", func := "usher/usherlaw11.RowsWhole", spec := "rowsWhole", inPlace := ["slices.overlaps[usher/api.Branch]", "slices.overlaps[usher/api.Row]"], unfollowed := true, recurses := true, apart := false, narrowed := true }
def RowsWholeUptoSaid : Prop := rowsWholeUptoRow.holds Try.pinned (OpenSpec.upto rowsWholeSpec)

/-- 'usherlaw11.RowsOnce', WHERE WHAT IT READS IS OF BULK AT MOST 1048576: true; the input reads as it did. -/
def rowsOnceUptoRow : OpenClaim := { program := "ytkaaddahegkmgaa", sum := "431079eeab5f447ad2511378ceefaa5845a980b8397dcc0ea21a02609330fec5", func := "usher/usherlaw11.RowsOnce", spec := "rowsOnce", inPlace := ["slices.overlaps[usher/api.Branch]", "slices.overlaps[usher/api.Row]"], unfollowed := true, recurses := true, apart := false, narrowed := true }
def RowsOnceUptoSaid : Prop := rowsOnceUptoRow.holds Try.pinned (OpenSpec.upto rowsOnceSpec)

/-- 'usherlaw11.RowsBack', WHERE WHAT IT READS IS OF BULK AT MOST 1048576: true; the input reads as it did. -/
def rowsBackUptoRow : OpenClaim := { program := "ytkaaddahegkmgaa", sum := "431079eeab5f447ad2511378ceefaa5845a980b8397dcc0ea21a02609330fec5", func := "usher/usherlaw11.RowsBack", spec := "rowsBack", inPlace := ["slices.overlaps[usher/api.Branch]", "slices.overlaps[usher/api.Row]"], unfollowed := true, recurses := true, apart := false, narrowed := true }
def RowsBackUptoSaid : Prop := rowsBackUptoRow.holds Try.pinned (OpenSpec.upto rowsBackSpec)

end Rows
end Go.Proofs.Ytkaaddahegkmgaa
