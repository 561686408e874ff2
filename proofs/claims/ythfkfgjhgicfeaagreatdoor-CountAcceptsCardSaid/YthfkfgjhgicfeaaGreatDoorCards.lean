/-
  DERIVED. GIVEN WITH THE SEED: THE CARDS: each row of YthfkfgjhgicfeaaGreatDoorRows.lean that lists a variable, with what it lists TIED to the program's text (the seventh form; the later family's looks); each row that meets fmt, with fmt's text TOLD by the authors' own Lean function (tested against real Go, not proved from fmt's source: count such statements apart). THE CARD IS WHAT COUNTS. Prove the row's statement (the work); the ties are given (YthfkfgjhgicfeaaGreatDoorTie.lean); close each card by the builder's one call (the guide's Derived/Test/ToyasCard.lean, 'card_holds'). Laid BY PROGRAM, IN A SANDBOX (cutbox-door.mjs). By AI agents, Wed Nov 11 2026. No macro, syntax, notation, axiom, sorry.
-/
import Derived.Test.YthfkfgjhgicfeaaGreatDoorRows
import GoSem.ClaimSeven
namespace Go.Proofs.YthfkfgjhgicfeaaGreatDoor
namespace Rows

/-- THE TIED CARD OF 'assayerlaw23.CountAccepts'. -/
def countAcceptsCard : Claim7 := { stood := { row := countAcceptsRow, standIns := [], harness := (true, "01b04891bebd7a44bccf4d531674f6a31ba640ce7fd98ecc523b8d6c2248fb97"), looks := false }, kinds := [], alts := [], laidByText := true, laidKinds := [.data], laidTests := true, laidLooks := .later }
def CountAcceptsCardSaid : Prop := Claim7.holds Tryz.pinned (.plain (OpenSpec.ofChange countAcceptsSpec)) countAcceptsCard

/-- THE TIED CARD OF 'assayerlaw23.CountBest'. -/
def countBestCard : Claim7 := { stood := { row := countBestRow, standIns := [], harness := (true, "01b04891bebd7a44bccf4d531674f6a31ba640ce7fd98ecc523b8d6c2248fb97"), looks := false }, kinds := [], alts := [], laidByText := true, laidKinds := [.data], laidTests := true, laidLooks := .later }
def CountBestCardSaid : Prop := Claim7.holds Tryz.pinned (.plain (OpenSpec.ofChange countBestSpec)) countBestCard

/-- THE TIED CARD OF 'assayerlaw23.CountBad'. -/
def countBadCard : Claim7 := { stood := { row := countBadRow, standIns := [], harness := (true, "01b04891bebd7a44bccf4d531674f6a31ba640ce7fd98ecc523b8d6c2248fb97"), looks := false }, kinds := [], alts := [], laidByText := true, laidKinds := [.data], laidTests := true, laidLooks := .later }
def CountBadCardSaid : Prop := Claim7.holds Tryz.pinned (.plain (OpenSpec.ofChange countBadSpec)) countBadCard

/-- THE SECOND FORM's CARD OF 'assayerlaw23.CountAccepts'. -/
def countAcceptsUptoCard : Claim7 := { stood := { row := countAcceptsUptoRow, standIns := [], harness := (true, "01b04891bebd7a44bccf4d531674f6a31ba640ce7fd98ecc523b8d6c2248fb97"), looks := false }, kinds := [], alts := [], laidByText := true, laidKinds := [.data], laidTests := true, laidLooks := .later }
def CountAcceptsUptoCardSaid : Prop := Claim7.holds Tryz.pinned (.plain (OpenSpec.upto countAcceptsSpec)) countAcceptsUptoCard

/-- THE SECOND FORM's CARD OF 'assayerlaw23.CountBest'. -/
def countBestUptoCard : Claim7 := { stood := { row := countBestUptoRow, standIns := [], harness := (true, "01b04891bebd7a44bccf4d531674f6a31ba640ce7fd98ecc523b8d6c2248fb97"), looks := false }, kinds := [], alts := [], laidByText := true, laidKinds := [.data], laidTests := true, laidLooks := .later }
def CountBestUptoCardSaid : Prop := Claim7.holds Tryz.pinned (.plain (OpenSpec.upto countBestSpec)) countBestUptoCard

/-- THE SECOND FORM's CARD OF 'assayerlaw23.CountBad'. -/
def countBadUptoCard : Claim7 := { stood := { row := countBadUptoRow, standIns := [], harness := (true, "01b04891bebd7a44bccf4d531674f6a31ba640ce7fd98ecc523b8d6c2248fb97"), looks := false }, kinds := [], alts := [], laidByText := true, laidKinds := [.data], laidTests := true, laidLooks := .later }
def CountBadUptoCardSaid : Prop := Claim7.holds Tryz.pinned (.plain (OpenSpec.upto countBadSpec)) countBadUptoCard
end Rows
end Go.Proofs.YthfkfgjhgicfeaaGreatDoor
