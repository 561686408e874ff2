/-
  DERIVED. GIVEN WITH THE SEED: THE CARDS: each row of YthfkfgjhgicfeaaDoorRows.lean that lists a variable, with what it lists TIED to the program's text (the seventh form; the later family's looks); each row that meets fmt, with fmt's text TOLD by the authors' own Lean function (tested against real Go, not proved from fmt's source: count such statements apart). THE CARD IS WHAT COUNTS. Prove the row's statement (the work); the ties are given (YthfkfgjhgicfeaaDoorTie.lean); close each card by the builder's one call (the guide's Derived/Test/ToyasCard.lean, 'card_holds'). Laid BY PROGRAM, IN A SANDBOX (cutbox-door.mjs). By AI agents, Wed Nov 11 2026. No macro, syntax, notation, axiom, sorry.
-/
import Derived.Test.YthfkfgjhgicfeaaDoorRows
import GoSem.ClaimSeven
namespace Go.Proofs.YthfkfgjhgicfeaaDoor
namespace Rows

/-- THE TIED CARD OF 'assayerlaw23.CountFew'. -/
def countFewCard : Claim7 := { stood := { row := countFewRow, standIns := [], harness := (true, "2b1d0615dc8ce9a22de45571fa669d221ab410985310e82c71e06383e1cfed4e"), looks := false }, kinds := [], alts := [], laidByText := true, laidKinds := [.data], laidTests := true, laidLooks := .later }
def CountFewCardSaid : Prop := Claim7.holds Tryd.pinned (.plain (OpenSpec.ofChange countFewSpec)) countFewCard

/-- THE TIED CARD OF 'assayerlaw23.CountSound'. -/
def countSoundCard : Claim7 := { stood := { row := countSoundRow, standIns := [], harness := (true, "2b1d0615dc8ce9a22de45571fa669d221ab410985310e82c71e06383e1cfed4e"), looks := false }, kinds := [], alts := [], laidByText := true, laidKinds := [.data], laidTests := true, laidLooks := .later }
def CountSoundCardSaid : Prop := Claim7.holds Tryd.pinned (.plain (OpenSpec.ofChange countSoundSpec)) countSoundCard

/-- THE TIED CARD OF 'assayerlaw23.CountEach'. -/
def countEachCard : Claim7 := { stood := { row := countEachRow, standIns := [], harness := (true, "2b1d0615dc8ce9a22de45571fa669d221ab410985310e82c71e06383e1cfed4e"), looks := false }, kinds := [], alts := [], laidByText := true, laidKinds := [.data], laidTests := true, laidLooks := .later }
def CountEachCardSaid : Prop := Claim7.holds Tryd.pinned (.plain (OpenSpec.ofChange countEachSpec)) countEachCard

/-- THE TIED CARD OF 'assayerlaw23.CountHonest'. -/
def countHonestCard : Claim7 := { stood := { row := countHonestRow, standIns := [], harness := (true, "2b1d0615dc8ce9a22de45571fa669d221ab410985310e82c71e06383e1cfed4e"), looks := false }, kinds := [], alts := [], laidByText := true, laidKinds := [.data], laidTests := true, laidLooks := .later }
def CountHonestCardSaid : Prop := Claim7.holds Tryd.pinned (.plain (OpenSpec.ofChange countHonestSpec)) countHonestCard

/-- THE SECOND FORM's CARD OF 'assayerlaw23.CountFew'. -/
def countFewUptoCard : Claim7 := { stood := { row := countFewUptoRow, standIns := [], harness := (true, "2b1d0615dc8ce9a22de45571fa669d221ab410985310e82c71e06383e1cfed4e"), looks := false }, kinds := [], alts := [], laidByText := true, laidKinds := [.data], laidTests := true, laidLooks := .later }
def CountFewUptoCardSaid : Prop := Claim7.holds Tryd.pinned (.plain (OpenSpec.upto countFewSpec)) countFewUptoCard

/-- THE SECOND FORM's CARD OF 'assayerlaw23.CountSound'. -/
def countSoundUptoCard : Claim7 := { stood := { row := countSoundUptoRow, standIns := [], harness := (true, "2b1d0615dc8ce9a22de45571fa669d221ab410985310e82c71e06383e1cfed4e"), looks := false }, kinds := [], alts := [], laidByText := true, laidKinds := [.data], laidTests := true, laidLooks := .later }
def CountSoundUptoCardSaid : Prop := Claim7.holds Tryd.pinned (.plain (OpenSpec.upto countSoundSpec)) countSoundUptoCard

/-- THE SECOND FORM's CARD OF 'assayerlaw23.CountEach'. -/
def countEachUptoCard : Claim7 := { stood := { row := countEachUptoRow, standIns := [], harness := (true, "2b1d0615dc8ce9a22de45571fa669d221ab410985310e82c71e06383e1cfed4e"), looks := false }, kinds := [], alts := [], laidByText := true, laidKinds := [.data], laidTests := true, laidLooks := .later }
def CountEachUptoCardSaid : Prop := Claim7.holds Tryd.pinned (.plain (OpenSpec.upto countEachSpec)) countEachUptoCard

/-- THE SECOND FORM's CARD OF 'assayerlaw23.CountHonest'. -/
def countHonestUptoCard : Claim7 := { stood := { row := countHonestUptoRow, standIns := [], harness := (true, "2b1d0615dc8ce9a22de45571fa669d221ab410985310e82c71e06383e1cfed4e"), looks := false }, kinds := [], alts := [], laidByText := true, laidKinds := [.data], laidTests := true, laidLooks := .later }
def CountHonestUptoCardSaid : Prop := Claim7.holds Tryd.pinned (.plain (OpenSpec.upto countHonestSpec)) countHonestUptoCard
end Rows
end Go.Proofs.YthfkfgjhgicfeaaDoor
