/-
  NARROWER THAN 'FOR EVERY INPUT', by the rows' own cells (each row's printed sentence says how): SegmentFrames: laid · SegmentParses: laid · SegmentChains: laid · SegmentBack: laid.
  DERIVED. THE GIVEN ROWS OF THIS SEAT. 4 by the template 'for every input the law returns true; each argument reads behind the call as it read before'; 0 by the template 'total and deterministic' (their statements: YthakbkkopneilaaDoorTotals.lean).
  GIVEN WITH THE SEED: the statements are not yours to turn. If you find one false, say at which input.
  Laid BY PROGRAM, IN A SANDBOX (cutbox-rows.mjs): the forced cells as the released guide's own fill.sh prints them over the translation e12599ad3c5eca49… (all of the seat's roots in one cut). By AI agents, Wed Nov 11 2026. No macro, syntax, notation, axiom, sorry.
-/
import Derived.Test.YthakbkkopneilaaDoorChecked
import GoSem.Claim
import GoSem.ClaimJoined
import GoSem.ClaimMapViews
import Derived.JoinedTies
import Derived.KernelRfl
namespace Go.Proofs.YthakbkkopneilaaDoor
/- THE CELL 'sum', in the pinned program and in every row, IS THE sha256 OF THE DUMP (.gsa) THAT YthakbkkopneilaaDoorProg.lean LOADS. Nothing in Lean hashes anything: it is a label: what it is worth is what the hold of that sum in a sandbox is worth. -/
noncomputable def Tryd.pinned : Pinned := { name := "ythakbkkopneilaadoor", sum := "e12599ad3c5eca4982a8f8239b292cc0e94859dc946970ef7464b640fe727714", checked := Tryd.checked }
namespace Rows
def none {H : Type} : Left H := { results := [], args := [] }

/- WHAT THE LISTED PACKAGE-LEVEL VARIABLES READ AS WHEN THE CALL BEGINS. Each datum BY PROGRAM (the guide's laid-datum.mjs) off the statement by which the dump's own 'gosem.cut.vars' lays the variable. In a bare row this is a premise. The card (YthakbkkopneilaaDoorCards.lean) ties it to the program's text. -/
def laid_usher_crc_halves {H : Type} : DataW H := .agg [.lit (.int .u32 0), .lit (.int .u32 274646895), .lit (.int .u32 549293790), .lit (.int .u32 820201905), .lit (.int .u32 1098587580), .lit (.int .u32 1361435347), .lit (.int .u32 1640403810), .lit (.int .u32 1905808397), .lit (.int .u32 2197175160), .lit (.int .u32 2460548119), .lit (.int .u32 2722870694), .lit (.int .u32 2987750089), .lit (.int .u32 3280807620), .lit (.int .u32 3553878443), .lit (.int .u32 3811616794), .lit (.int .u32 4084100981)]

/-- 'usherlaw08.SegmentFrames': WHATEVER THE INPUT: true; the input reads as it did. -/
def segmentFramesSpec : ChangeSpec := { name := "segmentFrames", fn := fun _ => fun
  | [d1, d2, d3] => { results := [.lit (.bool true)], args := [d1, d2, d3] }
  | _ => none }
def segmentFramesRow : OpenClaim := { program := "ythakbkkopneilaadoor", sum := "e12599ad3c5eca4982a8f8239b292cc0e94859dc946970ef7464b640fe727714", func := "usher/usherlaw08.SegmentFrames", spec := "segmentFrames", unfollowed := true, recurses := true, named := ["usher/crc.halves"], apart := false, laid := [("usher/crc.halves", laid_usher_crc_halves)] }
def SegmentFramesSaid : Prop := segmentFramesRow.holds Tryd.pinned (OpenSpec.ofChange segmentFramesSpec)

/-- ITS FALSE NEIGHBOUR: 'it returns false'. Refute it at one input. -/
def segmentFramesWrong : ChangeSpec := { name := "segmentFrames", fn := fun _ => fun
  | [d1, d2, d3] => { results := [.lit (.bool false)], args := [d1, d2, d3] }
  | _ => none }
def SegmentFramesWrongFalsely : Prop := segmentFramesRow.holds Tryd.pinned (OpenSpec.ofChange segmentFramesWrong)

/-- 'usherlaw08.SegmentParses': WHATEVER THE INPUT: true; the input reads as it did. -/
def segmentParsesSpec : ChangeSpec := { name := "segmentParses", fn := fun _ => fun
  | [d] => { results := [.lit (.bool true)], args := [d] }
  | _ => none }
def segmentParsesRow : OpenClaim := { program := "ythakbkkopneilaadoor", sum := "e12599ad3c5eca4982a8f8239b292cc0e94859dc946970ef7464b640fe727714", func := "usher/usherlaw08.SegmentParses", spec := "segmentParses", unfollowed := true, recurses := true, named := ["usher/crc.halves"], apart := false, laid := [("usher/crc.halves", laid_usher_crc_halves)] }
def SegmentParsesSaid : Prop := segmentParsesRow.holds Tryd.pinned (OpenSpec.ofChange segmentParsesSpec)

/-- ITS FALSE NEIGHBOUR: 'it returns false'. Refute it at one input. -/
def segmentParsesWrong : ChangeSpec := { name := "segmentParses", fn := fun _ => fun
  | [d] => { results := [.lit (.bool false)], args := [d] }
  | _ => none }
def SegmentParsesWrongFalsely : Prop := segmentParsesRow.holds Tryd.pinned (OpenSpec.ofChange segmentParsesWrong)

/-- 'usherlaw08.SegmentChains': WHATEVER THE INPUT: true; the input reads as it did. -/
def segmentChainsSpec : ChangeSpec := { name := "segmentChains", fn := fun _ => fun
  | [d1, d2] => { results := [.lit (.bool true)], args := [d1, d2] }
  | _ => none }
def segmentChainsRow : OpenClaim := { program := "ythakbkkopneilaadoor", sum := "e12599ad3c5eca4982a8f8239b292cc0e94859dc946970ef7464b640fe727714", func := "usher/usherlaw08.SegmentChains", spec := "segmentChains", unfollowed := true, recurses := true, named := ["usher/crc.halves"], apart := false, laid := [("usher/crc.halves", laid_usher_crc_halves)] }
def SegmentChainsSaid : Prop := segmentChainsRow.holds Tryd.pinned (OpenSpec.ofChange segmentChainsSpec)

/-- ITS FALSE NEIGHBOUR: 'it returns false'. Refute it at one input. -/
def segmentChainsWrong : ChangeSpec := { name := "segmentChains", fn := fun _ => fun
  | [d1, d2] => { results := [.lit (.bool false)], args := [d1, d2] }
  | _ => none }
def SegmentChainsWrongFalsely : Prop := segmentChainsRow.holds Tryd.pinned (OpenSpec.ofChange segmentChainsWrong)

/-- 'usherlaw08.SegmentBack': WHATEVER THE INPUT: true; the input reads as it did. -/
def segmentBackSpec : ChangeSpec := { name := "segmentBack", fn := fun _ => fun
  | [d1, d2, d3, d4, d5, d6] => { results := [.lit (.bool true)], args := [d1, d2, d3, d4, d5, d6] }
  | _ => none }
def segmentBackRow : OpenClaim := { program := "ythakbkkopneilaadoor", sum := "e12599ad3c5eca4982a8f8239b292cc0e94859dc946970ef7464b640fe727714", func := "usher/usherlaw08.SegmentBack", spec := "segmentBack", unfollowed := true, recurses := true, named := ["usher/crc.halves"], apart := false, laid := [("usher/crc.halves", laid_usher_crc_halves)] }
def SegmentBackSaid : Prop := segmentBackRow.holds Tryd.pinned (OpenSpec.ofChange segmentBackSpec)

/-- ITS FALSE NEIGHBOUR: 'it returns false'. Refute it at one input. -/
def segmentBackWrong : ChangeSpec := { name := "segmentBack", fn := fun _ => fun
  | [d1, d2, d3, d4, d5, d6] => { results := [.lit (.bool false)], args := [d1, d2, d3, d4, d5, d6] }
  | _ => none }
def SegmentBackWrongFalsely : Prop := segmentBackRow.holds Tryd.pinned (OpenSpec.ofChange segmentBackWrong)

/- THE SECOND FORM. 'bulk': how many values and letters a reading holds, each counted each time it is reached (what is shared counts as often as it is met; a slice's spare places count too). A statement '..UptoSaid' is the law's where the arguments, and the package variables that the reading takes, are together of bulk at most 1048576: NARROWER than '..Said'. Prove '..Said' where nothing that the law and all that it calls make is longer than what came in: it says more and counts as full. Else prove '..UptoSaid'. A law counts once. -/
mutual
def uptoBulk {H : Type} : DataW H → Nat
  | .lit (.string bytes) => bytes.length + 1
  | .lit _ => 1
  | .nil => 1
  | .ptr d => uptoBulk d + 1
  | .slice elems spare => uptoBulkAll elems + uptoBulkAll spare + 1
  | .agg parts => uptoBulkAll parts + 1
  | .iface _ d => uptoBulk d + 1
  | .map entries => uptoBulkEntries entries + 1
  | .held _ => 1
def uptoBulkAll {H : Type} : List (DataW H) → Nat
  | [] => 0
  | d :: r => uptoBulk d + uptoBulkAll r
def uptoBulkEntries {H : Type} : List (Lit × DataW H) → Nat
  | [] => 0
  | x :: r => uptoBulkEntry x + uptoBulkEntries r
def uptoBulkEntry {H : Type} : Lit × DataW H → Nat
  | (.string bytes, d) => bytes.length + uptoBulk d + 1
  | (_, d) => uptoBulk d + 1
 end
def uptoSmall : (H : Type) → List (DataW H) → Bool := fun _ ds => decide (uptoBulkAll ds ≤ 1048576)
def OpenSpec.upto (s : _root_.Go.ChangeSpec) : _root_.Go.OpenSpec := { _root_.Go.OpenSpec.ofChange s with cond := some uptoSmall }

/-- 'usherlaw08.SegmentFrames', WHERE WHAT IT READS IS OF BULK AT MOST 1048576: true; the input reads as it did. -/
def segmentFramesUptoRow : OpenClaim := { program := "ythakbkkopneilaadoor", sum := "e12599ad3c5eca4982a8f8239b292cc0e94859dc946970ef7464b640fe727714", func := "usher/usherlaw08.SegmentFrames", spec := "segmentFrames", unfollowed := true, recurses := true, named := ["usher/crc.halves"], apart := false, laid := [("usher/crc.halves", laid_usher_crc_halves)], narrowed := true }
def SegmentFramesUptoSaid : Prop := segmentFramesUptoRow.holds Tryd.pinned (OpenSpec.upto segmentFramesSpec)

/-- 'usherlaw08.SegmentParses', WHERE WHAT IT READS IS OF BULK AT MOST 1048576: true; the input reads as it did. -/
def segmentParsesUptoRow : OpenClaim := { program := "ythakbkkopneilaadoor", sum := "e12599ad3c5eca4982a8f8239b292cc0e94859dc946970ef7464b640fe727714", func := "usher/usherlaw08.SegmentParses", spec := "segmentParses", unfollowed := true, recurses := true, named := ["usher/crc.halves"], apart := false, laid := [("usher/crc.halves", laid_usher_crc_halves)], narrowed := true }
def SegmentParsesUptoSaid : Prop := segmentParsesUptoRow.holds Tryd.pinned (OpenSpec.upto segmentParsesSpec)

/-- 'usherlaw08.SegmentChains', WHERE WHAT IT READS IS OF BULK AT MOST 1048576: true; the input reads as it did. -/
def segmentChainsUptoRow : OpenClaim := { program := "ythakbkkopneilaadoor", sum := "e12599ad3c5eca4982a8f8239b292cc0e94859dc946970ef7464b640fe727714", func := "usher/usherlaw08.SegmentChains", spec := "segmentChains", unfollowed := true, recurses := true, named := ["usher/crc.halves"], apart := false, laid := [("usher/crc.halves", laid_usher_crc_halves)], narrowed := true }
def SegmentChainsUptoSaid : Prop := segmentChainsUptoRow.holds Tryd.pinned (OpenSpec.upto segmentChainsSpec)

/-- 'usherlaw08.SegmentBack', WHERE WHAT IT READS IS OF BULK AT MOST 1048576: true; the input reads as it did. -/
def segmentBackUptoRow : OpenClaim := { program := "ythakbkkopneilaadoor", sum := "e12599ad3c5eca4982a8f8239b292cc0e94859dc946970ef7464b640fe727714", func := "usher/usherlaw08.SegmentBack", spec := "segmentBack", unfollowed := true, recurses := true, named := ["usher/crc.halves"], apart := false, laid := [("usher/crc.halves", laid_usher_crc_halves)], narrowed := true }
def SegmentBackUptoSaid : Prop := segmentBackUptoRow.holds Tryd.pinned (OpenSpec.upto segmentBackSpec)

end Rows
end Go.Proofs.YthakbkkopneilaaDoor
