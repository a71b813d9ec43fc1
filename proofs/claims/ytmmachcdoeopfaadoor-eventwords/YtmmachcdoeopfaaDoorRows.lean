/-
  NARROWER THAN 'FOR EVERY INPUT', by the rows' own cells (each row's printed sentence says how): EventWords: laid.
  DERIVED. THE GIVEN ROWS OF THIS SEAT. 1 by the template 'for every input the law returns true; each argument reads behind the call as it read before'; 0 by the template 'total and deterministic' (their statements: YtmmachcdoeopfaaDoorTotals.lean).
  GIVEN WITH THE SEED: the statements are not yours to turn. If you find one false, say at which input.
  Laid BY PROGRAM, IN A SANDBOX (cutbox-rows.mjs): the forced cells as the released guide's own fill.sh prints them over the translation c6debd5d1739cce7… (all of the seat's roots in one cut). By AI agents, Wed Nov 11 2026. No macro, syntax, notation, axiom, sorry.
-/
import Derived.Test.YtmmachcdoeopfaaDoorChecked
import GoSem.Claim
import GoSem.ClaimJoined
import GoSem.ClaimMapViews
import Derived.JoinedTies
import Derived.KernelRfl
namespace Go.Proofs.YtmmachcdoeopfaaDoor
/- THE CELL 'sum', in the pinned program and in every row, IS THE sha256 OF THE DUMP (.gsa) THAT YtmmachcdoeopfaaDoorProg.lean LOADS. Nothing in Lean hashes anything: it is a label: what it is worth is what the hold of that sum in a sandbox is worth. -/
noncomputable def Tryd.pinned : Pinned := { name := "ytmmachcdoeopfaadoor", sum := "c6debd5d1739cce79042fc788fe8cc27c73081fb458fcd6f2f48ae2f78d345f7", checked := Tryd.checked }
namespace Rows
def none {H : Type} : Left H := { results := [], args := [] }

/- WHAT THE LISTED PACKAGE-LEVEL VARIABLES READ AS WHEN THE CALL BEGINS. Each datum BY PROGRAM (the guide's laid-datum.mjs) off the statement by which the dump's own 'gosem.cut.vars' lays the variable. In a bare row this is a premise. The card (YtmmachcdoeopfaaDoorCards.lean) ties it to the program's text. -/
def laid_usher_event_words {H : Type} : DataW H := .agg [.lit (.string []), .lit (.string [115, 116, 97, 114, 116, 101, 100]), .lit (.string [115, 99, 104, 101, 100, 117, 108, 101, 100]), .lit (.string [116, 97, 107, 101, 110]), .lit (.string [100, 111, 110, 101]), .lit (.string [116, 97, 115, 107, 70, 97, 105, 108, 101, 100]), .lit (.string [116, 97, 115, 107, 84, 105, 109, 101, 100]), .lit (.string [115, 105, 103, 110, 97, 108, 101, 100]), .lit (.string [99, 97, 110, 99, 101, 108]), .lit (.string [116, 105, 109, 101, 114]), .lit (.string [102, 105, 114, 101, 100]), .lit (.string [116, 105, 109, 101, 114, 79, 102, 102]), .lit (.string [97, 99, 99, 101, 112, 116, 101, 100]), .lit (.string [111, 117, 116, 99, 111, 109, 101]), .lit (.string [109, 97, 114, 107, 101, 114]), .lit (.string [99, 111, 109, 112, 108, 101, 116, 101, 100]), .lit (.string [102, 97, 105, 108, 101, 100]), .lit (.string [99, 97, 110, 99, 101, 108, 101, 100]), .lit (.string [116, 101, 114, 109, 105, 110, 97, 116, 101, 100]), .lit (.string [116, 105, 109, 101, 100, 79, 117, 116])]

/-- 'usherlaw14.EventWords': WHATEVER THE INPUT: true; the input reads as it did. -/
def eventWordsSpec : ChangeSpec := { name := "eventWords", fn := fun _ => fun
  | [d] => { results := [.lit (.bool true)], args := [d] }
  | _ => none }
def eventWordsRow : OpenClaim := { program := "ytmmachcdoeopfaadoor", sum := "c6debd5d1739cce79042fc788fe8cc27c73081fb458fcd6f2f48ae2f78d345f7", func := "usher/usherlaw14.EventWords", spec := "eventWords", inPlace := ["math.Float64frombits", "math.Float64bits"], unfollowed := true, recurses := true, named := ["usher/event.words"], apart := false, laid := [("usher/event.words", laid_usher_event_words)] }
def EventWordsSaid : Prop := eventWordsRow.holds Tryd.pinned (OpenSpec.ofChange eventWordsSpec)

/-- ITS FALSE NEIGHBOUR: 'it returns false'. Refute it at one input. -/
def eventWordsWrong : ChangeSpec := { name := "eventWords", fn := fun _ => fun
  | [d] => { results := [.lit (.bool false)], args := [d] }
  | _ => none }
def EventWordsWrongFalsely : Prop := eventWordsRow.holds Tryd.pinned (OpenSpec.ofChange eventWordsWrong)

/- THE SECOND FORM. 'bulk': how many values and letters a reading holds, each counted each time it is reached (what is shared counts as often as it is met; a slice's spare places count too). A statement '..UptoSaid' is the law's where the arguments, and the package variables that the reading takes, are together of bulk at most 1048576: NARROWER than '..Said'. Prove '..Said' where nothing that the law and all that it calls make is longer than what came in: it says more and counts as full. Else prove '..UptoSaid'. A law counts once. -/
mutual
def uptoBulk {H : Type} : DataW H → Nat
  | .lit (.string bytes) => bytes.length + 1
  | .lit _ => 1
  | .nil => 1
  | .ptr d => uptoBulk d + 1
  | .slice elems spare => uptoBulkAll elems + uptoBulkAll spare + 1
  | .agg parts => uptoBulkAll parts + 1
  | .iface _ d => uptoBulk d + 1
  | .map entries => uptoBulkEntries entries + 1
  | .held _ => 1
def uptoBulkAll {H : Type} : List (DataW H) → Nat
  | [] => 0
  | d :: r => uptoBulk d + uptoBulkAll r
def uptoBulkEntries {H : Type} : List (Lit × DataW H) → Nat
  | [] => 0
  | x :: r => uptoBulkEntry x + uptoBulkEntries r
def uptoBulkEntry {H : Type} : Lit × DataW H → Nat
  | (.string bytes, d) => bytes.length + uptoBulk d + 1
  | (_, d) => uptoBulk d + 1
 end
def uptoSmall : (H : Type) → List (DataW H) → Bool := fun _ ds => decide (uptoBulkAll ds ≤ 1048576)
def OpenSpec.upto (s : _root_.Go.ChangeSpec) : _root_.Go.OpenSpec := { _root_.Go.OpenSpec.ofChange s with cond := some uptoSmall }

/-- 'usherlaw14.EventWords', WHERE WHAT IT READS IS OF BULK AT MOST 1048576: true; the input reads as it did. -/
def eventWordsUptoRow : OpenClaim := { program := "ytmmachcdoeopfaadoor", sum := "c6debd5d1739cce79042fc788fe8cc27c73081fb458fcd6f2f48ae2f78d345f7", func := "usher/usherlaw14.EventWords", spec := "eventWords", inPlace := ["math.Float64frombits", "math.Float64bits"], unfollowed := true, recurses := true, named := ["usher/event.words"], apart := false, laid := [("usher/event.words", laid_usher_event_words)], narrowed := true }
def EventWordsUptoSaid : Prop := eventWordsUptoRow.holds Tryd.pinned (OpenSpec.upto eventWordsSpec)

end Rows
end Go.Proofs.YtmmachcdoeopfaaDoor
