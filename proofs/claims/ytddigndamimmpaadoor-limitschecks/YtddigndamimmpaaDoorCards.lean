/-
  DERIVED. GIVEN WITH THE SEED: THE CARDS: each row of YtddigndamimmpaaDoorRows.lean that lists a variable, with what it lists TIED to the program's text (the seventh form; the later family's looks); each row that meets fmt, with fmt's text TOLD by the authors' own Lean function (tested against real Go, not proved from fmt's source: count such statements apart). THE CARD IS WHAT COUNTS. Prove the row's statement (the work); the ties are given (YtddigndamimmpaaDoorTie.lean); close each card by the builder's one call (the guide's Derived/Test/ToyasCard.lean, 'card_holds'). Laid BY PROGRAM, IN A SANDBOX (cutbox-door.mjs). By AI agents, Wed Nov 11 2026. No macro, syntax, notation, axiom, sorry.
-/
import Derived.Test.YtddigndamimmpaaDoorRows
import GoSem.ClaimSeven
namespace Go.Proofs.YtddigndamimmpaaDoor
namespace Rows

/-- THE TIED CARD OF 'usherlaw28.LimitsChecks'. -/
def limitsChecksCard : Claim7 := { stood := { row := limitsChecksRow, standIns := [], harness := (true, "5406d71387ff814440f9b269c12025479c6a27f1286c3bded22a7a444d82a5e9"), looks := false }, kinds := [], alts := [], laidByText := true, laidKinds := [.data, .wider], laidTests := true, laidLooks := .later }
def LimitsChecksCardSaid : Prop := Claim7.holds Tryd.pinned (.plain (OpenSpec.ofChange limitsChecksSpec)) limitsChecksCard

/-- THE TIED CARD OF 'usherlaw28.LimitsFields'. -/
def limitsFieldsCard : Claim7 := { stood := { row := limitsFieldsRow, standIns := [], harness := (true, "5406d71387ff814440f9b269c12025479c6a27f1286c3bded22a7a444d82a5e9"), looks := false }, kinds := [], alts := [], laidByText := true, laidKinds := [.data, .wider], laidTests := true, laidLooks := .later }
def LimitsFieldsCardSaid : Prop := Claim7.holds Tryd.pinned (.plain (OpenSpec.ofChange limitsFieldsSpec)) limitsFieldsCard

/-- THE TIED CARD OF 'usherlaw28.LimitsApart'. -/
def limitsApartCard : Claim7 := { stood := { row := limitsApartRow, standIns := [], harness := (true, "5406d71387ff814440f9b269c12025479c6a27f1286c3bded22a7a444d82a5e9"), looks := false }, kinds := [], alts := [], laidByText := true, laidKinds := [.data, .wider], laidTests := true, laidLooks := .later }
def LimitsApartCardSaid : Prop := Claim7.holds Tryd.pinned (.plain (OpenSpec.ofChange limitsApartSpec)) limitsApartCard

/-- THE SECOND FORM's CARD OF 'usherlaw28.LimitsChecks'. -/
def limitsChecksUptoCard : Claim7 := { stood := { row := limitsChecksUptoRow, standIns := [], harness := (true, "5406d71387ff814440f9b269c12025479c6a27f1286c3bded22a7a444d82a5e9"), looks := false }, kinds := [], alts := [], laidByText := true, laidKinds := [.data, .wider], laidTests := true, laidLooks := .later }
def LimitsChecksUptoCardSaid : Prop := Claim7.holds Tryd.pinned (.plain (OpenSpec.upto limitsChecksSpec)) limitsChecksUptoCard

/-- THE SECOND FORM's CARD OF 'usherlaw28.LimitsFields'. -/
def limitsFieldsUptoCard : Claim7 := { stood := { row := limitsFieldsUptoRow, standIns := [], harness := (true, "5406d71387ff814440f9b269c12025479c6a27f1286c3bded22a7a444d82a5e9"), looks := false }, kinds := [], alts := [], laidByText := true, laidKinds := [.data, .wider], laidTests := true, laidLooks := .later }
def LimitsFieldsUptoCardSaid : Prop := Claim7.holds Tryd.pinned (.plain (OpenSpec.upto limitsFieldsSpec)) limitsFieldsUptoCard

/-- THE SECOND FORM's CARD OF 'usherlaw28.LimitsApart'. -/
def limitsApartUptoCard : Claim7 := { stood := { row := limitsApartUptoRow, standIns := [], harness := (true, "5406d71387ff814440f9b269c12025479c6a27f1286c3bded22a7a444d82a5e9"), looks := false }, kinds := [], alts := [], laidByText := true, laidKinds := [.data, .wider], laidTests := true, laidLooks := .later }
def LimitsApartUptoCardSaid : Prop := Claim7.holds Tryd.pinned (.plain (OpenSpec.upto limitsApartSpec)) limitsApartUptoCard
end Rows
end Go.Proofs.YtddigndamimmpaaDoor
