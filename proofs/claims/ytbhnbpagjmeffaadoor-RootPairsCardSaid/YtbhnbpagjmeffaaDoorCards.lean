/-
  DERIVED. GIVEN WITH THE SEED: THE CARDS: each row of YtbhnbpagjmeffaaDoorRows.lean that lists a variable, with what it lists TIED to the program's text (the seventh form; the later family's looks); each row that meets fmt, with fmt's text TOLD by the authors' own Lean function (tested against real Go, not proved from fmt's source: count such statements apart). THE CARD IS WHAT COUNTS. Prove the row's statement (the work); the ties are given (YtbhnbpagjmeffaaDoorTie.lean); close each card by the builder's one call (the guide's Derived/Test/ToyasCard.lean, 'card_holds'). Laid BY PROGRAM, IN A SANDBOX (cutbox-door.mjs). By AI agents, Wed Nov 11 2026. No macro, syntax, notation, axiom, sorry.
-/
import Derived.Test.YtbhnbpagjmeffaaDoorRows
import GoSem.ClaimSeven
namespace Go.Proofs.YtbhnbpagjmeffaaDoor
namespace Rows

/-- THE TIED CARD OF 'assayerlaw03.RootTells'. -/
def rootTellsCard : Claim7 := { stood := { row := rootTellsRow, standIns := [], harness := (true, "f85f0e7d83c09c498438726b6ac9e3c0f84220aad44eb1b5a6a72dcaf1ad6569"), looks := false }, kinds := [], alts := [], laidByText := true, laidKinds := [.data], laidTests := true, laidLooks := .later }
def RootTellsCardSaid : Prop := Claim7.holds Tryd.pinned (.plain (OpenSpec.ofChange rootTellsSpec)) rootTellsCard

/-- THE TIED CARD OF 'assayerlaw03.RootInverts'. -/
def rootInvertsCard : Claim7 := { stood := { row := rootInvertsRow, standIns := [], harness := (true, "f85f0e7d83c09c498438726b6ac9e3c0f84220aad44eb1b5a6a72dcaf1ad6569"), looks := false }, kinds := [], alts := [], laidByText := true, laidKinds := [.data], laidTests := true, laidLooks := .later }
def RootInvertsCardSaid : Prop := Claim7.holds Tryd.pinned (.plain (OpenSpec.ofChange rootInvertsSpec)) rootInvertsCard

/-- THE TIED CARD OF 'assayerlaw03.RootOrders'. -/
def rootOrdersCard : Claim7 := { stood := { row := rootOrdersRow, standIns := [], harness := (true, "f85f0e7d83c09c498438726b6ac9e3c0f84220aad44eb1b5a6a72dcaf1ad6569"), looks := false }, kinds := [], alts := [], laidByText := true, laidKinds := [.data], laidTests := true, laidLooks := .later }
def RootOrdersCardSaid : Prop := Claim7.holds Tryd.pinned (.plain (OpenSpec.ofChange rootOrdersSpec)) rootOrdersCard

/-- THE TIED CARD OF 'assayerlaw03.RootTurns'. -/
def rootTurnsCard : Claim7 := { stood := { row := rootTurnsRow, standIns := [], harness := (true, "f85f0e7d83c09c498438726b6ac9e3c0f84220aad44eb1b5a6a72dcaf1ad6569"), looks := false }, kinds := [], alts := [], laidByText := true, laidKinds := [.data], laidTests := true, laidLooks := .later }
def RootTurnsCardSaid : Prop := Claim7.holds Tryd.pinned (.plain (OpenSpec.ofChange rootTurnsSpec)) rootTurnsCard

/-- THE TIED CARD OF 'assayerlaw03.RootEach'. -/
def rootEachCard : Claim7 := { stood := { row := rootEachRow, standIns := [], harness := (true, "f85f0e7d83c09c498438726b6ac9e3c0f84220aad44eb1b5a6a72dcaf1ad6569"), looks := false }, kinds := [], alts := [], laidByText := true, laidKinds := [.data], laidTests := true, laidLooks := .later }
def RootEachCardSaid : Prop := Claim7.holds Tryd.pinned (.plain (OpenSpec.ofChange rootEachSpec)) rootEachCard

/-- THE TIED CARD OF 'assayerlaw03.RootPairs'. -/
def rootPairsCard : Claim7 := { stood := { row := rootPairsRow, standIns := [], harness := (true, "f85f0e7d83c09c498438726b6ac9e3c0f84220aad44eb1b5a6a72dcaf1ad6569"), looks := false }, kinds := [], alts := [], laidByText := true, laidKinds := [.data], laidTests := true, laidLooks := .later }
def RootPairsCardSaid : Prop := Claim7.holds Tryd.pinned (.plain (OpenSpec.ofChange rootPairsSpec)) rootPairsCard

/-- THE SECOND FORM's CARD OF 'assayerlaw03.RootTells'. -/
def rootTellsUptoCard : Claim7 := { stood := { row := rootTellsUptoRow, standIns := [], harness := (true, "f85f0e7d83c09c498438726b6ac9e3c0f84220aad44eb1b5a6a72dcaf1ad6569"), looks := false }, kinds := [], alts := [], laidByText := true, laidKinds := [.data], laidTests := true, laidLooks := .later }
def RootTellsUptoCardSaid : Prop := Claim7.holds Tryd.pinned (.plain (OpenSpec.upto rootTellsSpec)) rootTellsUptoCard

/-- THE SECOND FORM's CARD OF 'assayerlaw03.RootInverts'. -/
def rootInvertsUptoCard : Claim7 := { stood := { row := rootInvertsUptoRow, standIns := [], harness := (true, "f85f0e7d83c09c498438726b6ac9e3c0f84220aad44eb1b5a6a72dcaf1ad6569"), looks := false }, kinds := [], alts := [], laidByText := true, laidKinds := [.data], laidTests := true, laidLooks := .later }
def RootInvertsUptoCardSaid : Prop := Claim7.holds Tryd.pinned (.plain (OpenSpec.upto rootInvertsSpec)) rootInvertsUptoCard

/-- THE SECOND FORM's CARD OF 'assayerlaw03.RootOrders'. -/
def rootOrdersUptoCard : Claim7 := { stood := { row := rootOrdersUptoRow, standIns := [], harness := (true, "f85f0e7d83c09c498438726b6ac9e3c0f84220aad44eb1b5a6a72dcaf1ad6569"), looks := false }, kinds := [], alts := [], laidByText := true, laidKinds := [.data], laidTests := true, laidLooks := .later }
def RootOrdersUptoCardSaid : Prop := Claim7.holds Tryd.pinned (.plain (OpenSpec.upto rootOrdersSpec)) rootOrdersUptoCard

/-- THE SECOND FORM's CARD OF 'assayerlaw03.RootTurns'. -/
def rootTurnsUptoCard : Claim7 := { stood := { row := rootTurnsUptoRow, standIns := [], harness := (true, "f85f0e7d83c09c498438726b6ac9e3c0f84220aad44eb1b5a6a72dcaf1ad6569"), looks := false }, kinds := [], alts := [], laidByText := true, laidKinds := [.data], laidTests := true, laidLooks := .later }
def RootTurnsUptoCardSaid : Prop := Claim7.holds Tryd.pinned (.plain (OpenSpec.upto rootTurnsSpec)) rootTurnsUptoCard

/-- THE SECOND FORM's CARD OF 'assayerlaw03.RootEach'. -/
def rootEachUptoCard : Claim7 := { stood := { row := rootEachUptoRow, standIns := [], harness := (true, "f85f0e7d83c09c498438726b6ac9e3c0f84220aad44eb1b5a6a72dcaf1ad6569"), looks := false }, kinds := [], alts := [], laidByText := true, laidKinds := [.data], laidTests := true, laidLooks := .later }
def RootEachUptoCardSaid : Prop := Claim7.holds Tryd.pinned (.plain (OpenSpec.upto rootEachSpec)) rootEachUptoCard

/-- THE SECOND FORM's CARD OF 'assayerlaw03.RootPairs'. -/
def rootPairsUptoCard : Claim7 := { stood := { row := rootPairsUptoRow, standIns := [], harness := (true, "f85f0e7d83c09c498438726b6ac9e3c0f84220aad44eb1b5a6a72dcaf1ad6569"), looks := false }, kinds := [], alts := [], laidByText := true, laidKinds := [.data], laidTests := true, laidLooks := .later }
def RootPairsUptoCardSaid : Prop := Claim7.holds Tryd.pinned (.plain (OpenSpec.upto rootPairsSpec)) rootPairsUptoCard
end Rows
end Go.Proofs.YtbhnbpagjmeffaaDoor
