/-
  DERIVED. GIVEN WITH THE SEED: THE CARDS: each row of YtbfbfpanhonieaaDoorRows.lean that lists a variable, with what it lists TIED to the program's text (the seventh form; the later family's looks); each row that meets fmt, with fmt's text TOLD by the authors' own Lean function (tested against real Go, not proved from fmt's source: count such statements apart). THE CARD IS WHAT COUNTS. Prove the row's statement (the work); the ties are given (YtbfbfpanhonieaaDoorTie.lean); close each card by the builder's one call (the guide's Derived/Test/ToyasCard.lean, 'card_holds'). Laid BY PROGRAM, IN A SANDBOX (cutbox-door.mjs). By AI agents, Wed Nov 11 2026. No macro, syntax, notation, axiom, sorry.
-/
import Derived.Test.YtbfbfpanhonieaaDoorRows
import GoSem.ClaimSeven
namespace Go.Proofs.YtbfbfpanhonieaaDoor
namespace Rows

/-- THE TIED CARD OF 'assayerlaw12.SpongePlays'. -/
def spongePlaysCard : Claim7 := { stood := { row := spongePlaysRow, standIns := [], harness := (true, "63e13bf98398185f0c89f1fad83c00b054b930c76c09f6f54526daa42d00935a"), looks := false }, kinds := [], alts := [], laidByText := true, laidKinds := [.data, .data], laidTests := true, laidLooks := .later }
def SpongePlaysCardSaid : Prop := Claim7.holds Tryd.pinned (.plain (OpenSpec.ofChange spongePlaysSpec)) spongePlaysCard

/-- THE TIED CARD OF 'assayerlaw12.SpongeList'. -/
def spongeListCard : Claim7 := { stood := { row := spongeListRow, standIns := [], harness := (true, "63e13bf98398185f0c89f1fad83c00b054b930c76c09f6f54526daa42d00935a"), looks := false }, kinds := [], alts := [], laidByText := true, laidKinds := [.data, .data], laidTests := true, laidLooks := .later }
def SpongeListCardSaid : Prop := Claim7.holds Tryd.pinned (.plain (OpenSpec.ofChange spongeListSpec)) spongeListCard

/-- THE TIED CARD OF 'assayerlaw12.SpongeSqueezes'. -/
def spongeSqueezesCard : Claim7 := { stood := { row := spongeSqueezesRow, standIns := [], harness := (true, "63e13bf98398185f0c89f1fad83c00b054b930c76c09f6f54526daa42d00935a"), looks := false }, kinds := [], alts := [], laidByText := true, laidKinds := [.data, .data], laidTests := true, laidLooks := .later }
def SpongeSqueezesCardSaid : Prop := Claim7.holds Tryd.pinned (.plain (OpenSpec.ofChange spongeSqueezesSpec)) spongeSqueezesCard

/-- THE SECOND FORM's CARD OF 'assayerlaw12.SpongePlays'. -/
def spongePlaysUptoCard : Claim7 := { stood := { row := spongePlaysUptoRow, standIns := [], harness := (true, "63e13bf98398185f0c89f1fad83c00b054b930c76c09f6f54526daa42d00935a"), looks := false }, kinds := [], alts := [], laidByText := true, laidKinds := [.data, .data], laidTests := true, laidLooks := .later }
def SpongePlaysUptoCardSaid : Prop := Claim7.holds Tryd.pinned (.plain (OpenSpec.upto spongePlaysSpec)) spongePlaysUptoCard

/-- THE SECOND FORM's CARD OF 'assayerlaw12.SpongeList'. -/
def spongeListUptoCard : Claim7 := { stood := { row := spongeListUptoRow, standIns := [], harness := (true, "63e13bf98398185f0c89f1fad83c00b054b930c76c09f6f54526daa42d00935a"), looks := false }, kinds := [], alts := [], laidByText := true, laidKinds := [.data, .data], laidTests := true, laidLooks := .later }
def SpongeListUptoCardSaid : Prop := Claim7.holds Tryd.pinned (.plain (OpenSpec.upto spongeListSpec)) spongeListUptoCard

/-- THE SECOND FORM's CARD OF 'assayerlaw12.SpongeSqueezes'. -/
def spongeSqueezesUptoCard : Claim7 := { stood := { row := spongeSqueezesUptoRow, standIns := [], harness := (true, "63e13bf98398185f0c89f1fad83c00b054b930c76c09f6f54526daa42d00935a"), looks := false }, kinds := [], alts := [], laidByText := true, laidKinds := [.data, .data], laidTests := true, laidLooks := .later }
def SpongeSqueezesUptoCardSaid : Prop := Claim7.holds Tryd.pinned (.plain (OpenSpec.upto spongeSqueezesSpec)) spongeSqueezesUptoCard
end Rows
end Go.Proofs.YtbfbfpanhonieaaDoor
