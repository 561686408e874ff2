/-
  DERIVED. GIVEN WITH THE SEED: THE CARDS: each row of YtgamoanhplnknaaDoorRows.lean that lists a variable, with what it lists TIED to the program's text (the seventh form; the later family's looks); each row that meets fmt, with fmt's text TOLD by the authors' own Lean function (tested against real Go, not proved from fmt's source: count such statements apart). THE CARD IS WHAT COUNTS. Prove the row's statement (the work); the ties are given (YtgamoanhplnknaaDoorTie.lean); close each card by the builder's one call (the guide's Derived/Test/ToyasCard.lean, 'card_holds'). Laid BY PROGRAM, IN A SANDBOX (cutbox-door.mjs). By AI agents, Wed Nov 11 2026. No macro, syntax, notation, axiom, sorry.
-/
import Derived.Test.YtgamoanhplnknaaDoorRows
import GoSem.ClaimSeven
namespace Go.Proofs.YtgamoanhplnknaaDoor
namespace Rows

/-- THE TIED CARD OF 'assayerlaw09.LeafTells'. -/
def leafTellsCard : Claim7 := { stood := { row := leafTellsRow, standIns := [], harness := (true, "8f91bd1616948f5b8dec8ecbb3e3bdf3be590898da4a07394f63b8cb267995db"), looks := false }, kinds := [], alts := [], laidByText := true, laidKinds := [.data, .data], laidTests := true, laidLooks := .later }
def LeafTellsCardSaid : Prop := Claim7.holds Tryd.pinned (.plain (OpenSpec.ofChange leafTellsSpec)) leafTellsCard

/-- THE TIED CARD OF 'assayerlaw09.LeafTexts'. -/
def leafTextsCard : Claim7 := { stood := { row := leafTextsRow, standIns := [], harness := (true, "8f91bd1616948f5b8dec8ecbb3e3bdf3be590898da4a07394f63b8cb267995db"), looks := false }, kinds := [], alts := [], laidByText := true, laidKinds := [.data, .data], laidTests := true, laidLooks := .later }
def LeafTextsCardSaid : Prop := Claim7.holds Tryd.pinned (.plain (OpenSpec.ofChange leafTextsSpec)) leafTextsCard

/-- THE SECOND FORM's CARD OF 'assayerlaw09.LeafTells'. -/
def leafTellsUptoCard : Claim7 := { stood := { row := leafTellsUptoRow, standIns := [], harness := (true, "8f91bd1616948f5b8dec8ecbb3e3bdf3be590898da4a07394f63b8cb267995db"), looks := false }, kinds := [], alts := [], laidByText := true, laidKinds := [.data, .data], laidTests := true, laidLooks := .later }
def LeafTellsUptoCardSaid : Prop := Claim7.holds Tryd.pinned (.plain (OpenSpec.upto leafTellsSpec)) leafTellsUptoCard

/-- THE SECOND FORM's CARD OF 'assayerlaw09.LeafTexts'. -/
def leafTextsUptoCard : Claim7 := { stood := { row := leafTextsUptoRow, standIns := [], harness := (true, "8f91bd1616948f5b8dec8ecbb3e3bdf3be590898da4a07394f63b8cb267995db"), looks := false }, kinds := [], alts := [], laidByText := true, laidKinds := [.data, .data], laidTests := true, laidLooks := .later }
def LeafTextsUptoCardSaid : Prop := Claim7.holds Tryd.pinned (.plain (OpenSpec.upto leafTextsSpec)) leafTextsUptoCard
end Rows
end Go.Proofs.YtgamoanhplnknaaDoor
