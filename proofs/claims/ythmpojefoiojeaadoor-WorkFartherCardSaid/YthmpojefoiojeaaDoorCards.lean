/-
  DERIVED. GIVEN WITH THE SEED: THE CARDS: each row of YthmpojefoiojeaaDoorRows.lean that lists a variable, with what it lists TIED to the program's text (the seventh form; the later family's looks); each row that meets fmt, with fmt's text TOLD by the authors' own Lean function (tested against real Go, not proved from fmt's source: count such statements apart). THE CARD IS WHAT COUNTS. Prove the row's statement (the work); the ties are given (YthmpojefoiojeaaDoorTie.lean); close each card by the builder's one call (the guide's Derived/Test/ToyasCard.lean, 'card_holds'). Laid BY PROGRAM, IN A SANDBOX (cutbox-door.mjs). By AI agents, Wed Nov 11 2026. No macro, syntax, notation, axiom, sorry.
-/
import Derived.Test.YthmpojefoiojeaaDoorRows
import GoSem.ClaimSeven
namespace Go.Proofs.YthmpojefoiojeaaDoor
namespace Rows

/-- THE TIED CARD OF 'assayerlaw14.WorkTells'. -/
def workTellsCard : Claim7 := { stood := { row := workTellsRow, standIns := [], harness := (true, "4daeda53b3c78efab295264af32b7ed75ce7a2c0e72511480d925ba26feb42fe"), looks := false }, kinds := [], alts := [], laidByText := true, laidKinds := [.data, .data], laidTests := true, laidLooks := .later }
def WorkTellsCardSaid : Prop := Claim7.holds Tryd.pinned (.plain (OpenSpec.ofChange workTellsSpec)) workTellsCard

/-- THE TIED CARD OF 'assayerlaw14.WorkSearches'. -/
def workSearchesCard : Claim7 := { stood := { row := workSearchesRow, standIns := [], harness := (true, "4daeda53b3c78efab295264af32b7ed75ce7a2c0e72511480d925ba26feb42fe"), looks := false }, kinds := [], alts := [], laidByText := true, laidKinds := [.data, .data], laidTests := true, laidLooks := .later }
def WorkSearchesCardSaid : Prop := Claim7.holds Tryd.pinned (.plain (OpenSpec.ofChange workSearchesSpec)) workSearchesCard

/-- THE TIED CARD OF 'assayerlaw14.WorkLess'. -/
def workLessCard : Claim7 := { stood := { row := workLessRow, standIns := [], harness := (true, "4daeda53b3c78efab295264af32b7ed75ce7a2c0e72511480d925ba26feb42fe"), looks := false }, kinds := [], alts := [], laidByText := true, laidKinds := [.data, .data], laidTests := true, laidLooks := .later }
def WorkLessCardSaid : Prop := Claim7.holds Tryd.pinned (.plain (OpenSpec.ofChange workLessSpec)) workLessCard

/-- THE TIED CARD OF 'assayerlaw14.WorkFarther'. -/
def workFartherCard : Claim7 := { stood := { row := workFartherRow, standIns := [], harness := (true, "4daeda53b3c78efab295264af32b7ed75ce7a2c0e72511480d925ba26feb42fe"), looks := false }, kinds := [], alts := [], laidByText := true, laidKinds := [.data, .data], laidTests := true, laidLooks := .later }
def WorkFartherCardSaid : Prop := Claim7.holds Tryd.pinned (.plain (OpenSpec.ofChange workFartherSpec)) workFartherCard

/-- THE SECOND FORM's CARD OF 'assayerlaw14.WorkTells'. -/
def workTellsUptoCard : Claim7 := { stood := { row := workTellsUptoRow, standIns := [], harness := (true, "4daeda53b3c78efab295264af32b7ed75ce7a2c0e72511480d925ba26feb42fe"), looks := false }, kinds := [], alts := [], laidByText := true, laidKinds := [.data, .data], laidTests := true, laidLooks := .later }
def WorkTellsUptoCardSaid : Prop := Claim7.holds Tryd.pinned (.plain (OpenSpec.upto workTellsSpec)) workTellsUptoCard

/-- THE SECOND FORM's CARD OF 'assayerlaw14.WorkSearches'. -/
def workSearchesUptoCard : Claim7 := { stood := { row := workSearchesUptoRow, standIns := [], harness := (true, "4daeda53b3c78efab295264af32b7ed75ce7a2c0e72511480d925ba26feb42fe"), looks := false }, kinds := [], alts := [], laidByText := true, laidKinds := [.data, .data], laidTests := true, laidLooks := .later }
def WorkSearchesUptoCardSaid : Prop := Claim7.holds Tryd.pinned (.plain (OpenSpec.upto workSearchesSpec)) workSearchesUptoCard

/-- THE SECOND FORM's CARD OF 'assayerlaw14.WorkLess'. -/
def workLessUptoCard : Claim7 := { stood := { row := workLessUptoRow, standIns := [], harness := (true, "4daeda53b3c78efab295264af32b7ed75ce7a2c0e72511480d925ba26feb42fe"), looks := false }, kinds := [], alts := [], laidByText := true, laidKinds := [.data, .data], laidTests := true, laidLooks := .later }
def WorkLessUptoCardSaid : Prop := Claim7.holds Tryd.pinned (.plain (OpenSpec.upto workLessSpec)) workLessUptoCard

/-- THE SECOND FORM's CARD OF 'assayerlaw14.WorkFarther'. -/
def workFartherUptoCard : Claim7 := { stood := { row := workFartherUptoRow, standIns := [], harness := (true, "4daeda53b3c78efab295264af32b7ed75ce7a2c0e72511480d925ba26feb42fe"), looks := false }, kinds := [], alts := [], laidByText := true, laidKinds := [.data, .data], laidTests := true, laidLooks := .later }
def WorkFartherUptoCardSaid : Prop := Claim7.holds Tryd.pinned (.plain (OpenSpec.upto workFartherSpec)) workFartherUptoCard
end Rows
end Go.Proofs.YthmpojefoiojeaaDoor
