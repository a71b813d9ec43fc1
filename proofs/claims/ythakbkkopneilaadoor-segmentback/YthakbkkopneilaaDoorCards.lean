/-
  DERIVED. GIVEN WITH THE SEED: THE CARDS: each row of YthakbkkopneilaaDoorRows.lean that lists a variable, with what it lists TIED to the program's text (the seventh form; the later family's looks); each row that meets fmt, with fmt's text TOLD by the authors' own Lean function (tested against real Go, not proved from fmt's source: count such statements apart). THE CARD IS WHAT COUNTS. Prove the row's statement (the work); the ties are given (YthakbkkopneilaaDoorTie.lean); close each card by the builder's one call (the guide's Derived/Test/ToyasCard.lean, 'card_holds'). Laid BY PROGRAM, IN A SANDBOX (cutbox-door.mjs). By AI agents, Wed Nov 11 2026. No macro, syntax, notation, axiom, sorry.
-/
import Derived.Test.YthakbkkopneilaaDoorRows
import GoSem.ClaimSeven
namespace Go.Proofs.YthakbkkopneilaaDoor
namespace Rows

/-- THE TIED CARD OF 'usherlaw08.SegmentFrames'. -/
def segmentFramesCard : Claim7 := { stood := { row := segmentFramesRow, standIns := [], harness := (true, "5eae06dc32fb88b5f135d2b9124ff68cce372c6d4fb3696b8fcdedad681e6581"), looks := true }, kinds := [], alts := [], laidByText := true, laidKinds := [.data], laidTests := true, laidLooks := .later }
def SegmentFramesCardSaid : Prop := Claim7.holds Tryd.pinned (.plain (OpenSpec.ofChange segmentFramesSpec)) segmentFramesCard

/-- THE TIED CARD OF 'usherlaw08.SegmentParses'. -/
def segmentParsesCard : Claim7 := { stood := { row := segmentParsesRow, standIns := [], harness := (true, "5eae06dc32fb88b5f135d2b9124ff68cce372c6d4fb3696b8fcdedad681e6581"), looks := true }, kinds := [], alts := [], laidByText := true, laidKinds := [.data], laidTests := true, laidLooks := .later }
def SegmentParsesCardSaid : Prop := Claim7.holds Tryd.pinned (.plain (OpenSpec.ofChange segmentParsesSpec)) segmentParsesCard

/-- THE TIED CARD OF 'usherlaw08.SegmentChains'. -/
def segmentChainsCard : Claim7 := { stood := { row := segmentChainsRow, standIns := [], harness := (true, "5eae06dc32fb88b5f135d2b9124ff68cce372c6d4fb3696b8fcdedad681e6581"), looks := true }, kinds := [], alts := [], laidByText := true, laidKinds := [.data], laidTests := true, laidLooks := .later }
def SegmentChainsCardSaid : Prop := Claim7.holds Tryd.pinned (.plain (OpenSpec.ofChange segmentChainsSpec)) segmentChainsCard

/-- THE TIED CARD OF 'usherlaw08.SegmentBack'. -/
def segmentBackCard : Claim7 := { stood := { row := segmentBackRow, standIns := [], harness := (true, "5eae06dc32fb88b5f135d2b9124ff68cce372c6d4fb3696b8fcdedad681e6581"), looks := true }, kinds := [], alts := [], laidByText := true, laidKinds := [.data], laidTests := true, laidLooks := .later }
def SegmentBackCardSaid : Prop := Claim7.holds Tryd.pinned (.plain (OpenSpec.ofChange segmentBackSpec)) segmentBackCard

/-- THE SECOND FORM's CARD OF 'usherlaw08.SegmentFrames'. -/
def segmentFramesUptoCard : Claim7 := { stood := { row := segmentFramesUptoRow, standIns := [], harness := (true, "5eae06dc32fb88b5f135d2b9124ff68cce372c6d4fb3696b8fcdedad681e6581"), looks := true }, kinds := [], alts := [], laidByText := true, laidKinds := [.data], laidTests := true, laidLooks := .later }
def SegmentFramesUptoCardSaid : Prop := Claim7.holds Tryd.pinned (.plain (OpenSpec.upto segmentFramesSpec)) segmentFramesUptoCard

/-- THE SECOND FORM's CARD OF 'usherlaw08.SegmentParses'. -/
def segmentParsesUptoCard : Claim7 := { stood := { row := segmentParsesUptoRow, standIns := [], harness := (true, "5eae06dc32fb88b5f135d2b9124ff68cce372c6d4fb3696b8fcdedad681e6581"), looks := true }, kinds := [], alts := [], laidByText := true, laidKinds := [.data], laidTests := true, laidLooks := .later }
def SegmentParsesUptoCardSaid : Prop := Claim7.holds Tryd.pinned (.plain (OpenSpec.upto segmentParsesSpec)) segmentParsesUptoCard

/-- THE SECOND FORM's CARD OF 'usherlaw08.SegmentChains'. -/
def segmentChainsUptoCard : Claim7 := { stood := { row := segmentChainsUptoRow, standIns := [], harness := (true, "5eae06dc32fb88b5f135d2b9124ff68cce372c6d4fb3696b8fcdedad681e6581"), looks := true }, kinds := [], alts := [], laidByText := true, laidKinds := [.data], laidTests := true, laidLooks := .later }
def SegmentChainsUptoCardSaid : Prop := Claim7.holds Tryd.pinned (.plain (OpenSpec.upto segmentChainsSpec)) segmentChainsUptoCard

/-- THE SECOND FORM's CARD OF 'usherlaw08.SegmentBack'. -/
def segmentBackUptoCard : Claim7 := { stood := { row := segmentBackUptoRow, standIns := [], harness := (true, "5eae06dc32fb88b5f135d2b9124ff68cce372c6d4fb3696b8fcdedad681e6581"), looks := true }, kinds := [], alts := [], laidByText := true, laidKinds := [.data], laidTests := true, laidLooks := .later }
def SegmentBackUptoCardSaid : Prop := Claim7.holds Tryd.pinned (.plain (OpenSpec.upto segmentBackSpec)) segmentBackUptoCard
end Rows
end Go.Proofs.YthakbkkopneilaaDoor
