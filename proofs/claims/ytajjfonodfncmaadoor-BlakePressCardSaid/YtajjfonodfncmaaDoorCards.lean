/-
  DERIVED. GIVEN WITH THE SEED: THE CARDS: each row of YtajjfonodfncmaaDoorRows.lean that lists a variable, with what it lists TIED to the program's text (the seventh form; the later family's looks); each row that meets fmt, with fmt's text TOLD by the authors' own Lean function (tested against real Go, not proved from fmt's source: count such statements apart). THE CARD IS WHAT COUNTS. Prove the row's statement (the work); the ties are given (YtajjfonodfncmaaDoorTie.lean); close each card by the builder's one call (the guide's Derived/Test/ToyasCard.lean, 'card_holds'). Laid BY PROGRAM, IN A SANDBOX (cutbox-door.mjs). By AI agents, Wed Nov 11 2026. No macro, syntax, notation, axiom, sorry.
-/
import Derived.Test.YtajjfonodfncmaaDoorRows
import GoSem.ClaimSeven
namespace Go.Proofs.YtajjfonodfncmaaDoor
namespace Rows

/-- THE TIED CARD OF 'assayerlaw07.BlakeSums'. -/
def blakeSumsCard : Claim7 := { stood := { row := blakeSumsRow, standIns := [], harness := (true, "e0c4909d4822b7352d7f66125b021e5affdc8563e8098b4ff3d7c39ef50e2f83"), looks := false }, kinds := [], alts := [], laidByText := true, laidKinds := [.data, .data], laidTests := true, laidLooks := .later }
def BlakeSumsCardSaid : Prop := Claim7.holds Tryd.pinned (.plain (OpenSpec.ofChange blakeSumsSpec)) blakeSumsCard

/-- THE TIED CARD OF 'assayerlaw07.BlakePress'. -/
def blakePressCard : Claim7 := { stood := { row := blakePressRow, standIns := [], harness := (true, "e0c4909d4822b7352d7f66125b021e5affdc8563e8098b4ff3d7c39ef50e2f83"), looks := false }, kinds := [], alts := [], laidByText := true, laidKinds := [.data, .data], laidTests := true, laidLooks := .later }
def BlakePressCardSaid : Prop := Claim7.holds Tryd.pinned (.plain (OpenSpec.ofChange blakePressSpec)) blakePressCard

/-- THE TIED CARD OF 'assayerlaw07.BlakeList'. -/
def blakeListCard : Claim7 := { stood := { row := blakeListRow, standIns := [], harness := (true, "e0c4909d4822b7352d7f66125b021e5affdc8563e8098b4ff3d7c39ef50e2f83"), looks := false }, kinds := [], alts := [], laidByText := true, laidKinds := [.data, .data], laidTests := true, laidLooks := .later }
def BlakeListCardSaid : Prop := Claim7.holds Tryd.pinned (.plain (OpenSpec.ofChange blakeListSpec)) blakeListCard

/-- THE SECOND FORM's CARD OF 'assayerlaw07.BlakeSums'. -/
def blakeSumsUptoCard : Claim7 := { stood := { row := blakeSumsUptoRow, standIns := [], harness := (true, "e0c4909d4822b7352d7f66125b021e5affdc8563e8098b4ff3d7c39ef50e2f83"), looks := false }, kinds := [], alts := [], laidByText := true, laidKinds := [.data, .data], laidTests := true, laidLooks := .later }
def BlakeSumsUptoCardSaid : Prop := Claim7.holds Tryd.pinned (.plain (OpenSpec.upto blakeSumsSpec)) blakeSumsUptoCard

/-- THE SECOND FORM's CARD OF 'assayerlaw07.BlakePress'. -/
def blakePressUptoCard : Claim7 := { stood := { row := blakePressUptoRow, standIns := [], harness := (true, "e0c4909d4822b7352d7f66125b021e5affdc8563e8098b4ff3d7c39ef50e2f83"), looks := false }, kinds := [], alts := [], laidByText := true, laidKinds := [.data, .data], laidTests := true, laidLooks := .later }
def BlakePressUptoCardSaid : Prop := Claim7.holds Tryd.pinned (.plain (OpenSpec.upto blakePressSpec)) blakePressUptoCard

/-- THE SECOND FORM's CARD OF 'assayerlaw07.BlakeList'. -/
def blakeListUptoCard : Claim7 := { stood := { row := blakeListUptoRow, standIns := [], harness := (true, "e0c4909d4822b7352d7f66125b021e5affdc8563e8098b4ff3d7c39ef50e2f83"), looks := false }, kinds := [], alts := [], laidByText := true, laidKinds := [.data, .data], laidTests := true, laidLooks := .later }
def BlakeListUptoCardSaid : Prop := Claim7.holds Tryd.pinned (.plain (OpenSpec.upto blakeListSpec)) blakeListUptoCard
end Rows
end Go.Proofs.YtajjfonodfncmaaDoor
