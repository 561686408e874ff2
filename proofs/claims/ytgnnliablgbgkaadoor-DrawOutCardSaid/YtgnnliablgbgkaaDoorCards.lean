/-
  DERIVED. GIVEN WITH THE SEED: THE CARDS: each row of YtgnnliablgbgkaaDoorRows.lean that lists a variable, with what it lists TIED to the program's text (the seventh form; the later family's looks); each row that meets fmt, with fmt's text TOLD by the authors' own Lean function (tested against real Go, not proved from fmt's source: count such statements apart). THE CARD IS WHAT COUNTS. Prove the row's statement (the work); the ties are given (YtgnnliablgbgkaaDoorTie.lean); close each card by the builder's one call (the guide's Derived/Test/ToyasCard.lean, 'card_holds'). Laid BY PROGRAM, IN A SANDBOX (cutbox-door.mjs). By AI agents, Wed Nov 11 2026. No macro, syntax, notation, axiom, sorry.
-/
import Derived.Test.YtgnnliablgbgkaaDoorRows
import GoSem.ClaimSeven
namespace Go.Proofs.YtgnnliablgbgkaaDoor
namespace Rows

/-- THE TIED CARD OF 'assayerlaw13.DrawTells'. -/
def drawTellsCard : Claim7 := { stood := { row := drawTellsRow, standIns := [], harness := (true, "841ef4b0b1c7af75bab0f7d1a0733a9f6f7485e56a80f4a720050f9878449b4e"), looks := false }, kinds := [], alts := [], laidByText := true, laidKinds := [.data, .data], laidTests := true, laidLooks := .later }
def DrawTellsCardSaid : Prop := Claim7.holds Tryd.pinned (.plain (OpenSpec.ofChange drawTellsSpec)) drawTellsCard

/-- THE TIED CARD OF 'assayerlaw13.DrawOut'. -/
def drawOutCard : Claim7 := { stood := { row := drawOutRow, standIns := [], harness := (true, "841ef4b0b1c7af75bab0f7d1a0733a9f6f7485e56a80f4a720050f9878449b4e"), looks := false }, kinds := [], alts := [], laidByText := true, laidKinds := [.data, .data], laidTests := true, laidLooks := .later }
def DrawOutCardSaid : Prop := Claim7.holds Tryd.pinned (.plain (OpenSpec.ofChange drawOutSpec)) drawOutCard

/-- THE TIED CARD OF 'assayerlaw13.DrawBounds'. -/
def drawBoundsCard : Claim7 := { stood := { row := drawBoundsRow, standIns := [], harness := (true, "841ef4b0b1c7af75bab0f7d1a0733a9f6f7485e56a80f4a720050f9878449b4e"), looks := false }, kinds := [], alts := [], laidByText := true, laidKinds := [.data, .data], laidTests := true, laidLooks := .later }
def DrawBoundsCardSaid : Prop := Claim7.holds Tryd.pinned (.plain (OpenSpec.ofChange drawBoundsSpec)) drawBoundsCard

/-- THE TIED CARD OF 'assayerlaw13.DrawFirst'. -/
def drawFirstCard : Claim7 := { stood := { row := drawFirstRow, standIns := [], harness := (true, "841ef4b0b1c7af75bab0f7d1a0733a9f6f7485e56a80f4a720050f9878449b4e"), looks := false }, kinds := [], alts := [], laidByText := true, laidKinds := [.data, .data], laidTests := true, laidLooks := .later }
def DrawFirstCardSaid : Prop := Claim7.holds Tryd.pinned (.plain (OpenSpec.ofChange drawFirstSpec)) drawFirstCard

/-- THE SECOND FORM's CARD OF 'assayerlaw13.DrawTells'. -/
def drawTellsUptoCard : Claim7 := { stood := { row := drawTellsUptoRow, standIns := [], harness := (true, "841ef4b0b1c7af75bab0f7d1a0733a9f6f7485e56a80f4a720050f9878449b4e"), looks := false }, kinds := [], alts := [], laidByText := true, laidKinds := [.data, .data], laidTests := true, laidLooks := .later }
def DrawTellsUptoCardSaid : Prop := Claim7.holds Tryd.pinned (.plain (OpenSpec.upto drawTellsSpec)) drawTellsUptoCard

/-- THE SECOND FORM's CARD OF 'assayerlaw13.DrawOut'. -/
def drawOutUptoCard : Claim7 := { stood := { row := drawOutUptoRow, standIns := [], harness := (true, "841ef4b0b1c7af75bab0f7d1a0733a9f6f7485e56a80f4a720050f9878449b4e"), looks := false }, kinds := [], alts := [], laidByText := true, laidKinds := [.data, .data], laidTests := true, laidLooks := .later }
def DrawOutUptoCardSaid : Prop := Claim7.holds Tryd.pinned (.plain (OpenSpec.upto drawOutSpec)) drawOutUptoCard

/-- THE SECOND FORM's CARD OF 'assayerlaw13.DrawBounds'. -/
def drawBoundsUptoCard : Claim7 := { stood := { row := drawBoundsUptoRow, standIns := [], harness := (true, "841ef4b0b1c7af75bab0f7d1a0733a9f6f7485e56a80f4a720050f9878449b4e"), looks := false }, kinds := [], alts := [], laidByText := true, laidKinds := [.data, .data], laidTests := true, laidLooks := .later }
def DrawBoundsUptoCardSaid : Prop := Claim7.holds Tryd.pinned (.plain (OpenSpec.upto drawBoundsSpec)) drawBoundsUptoCard

/-- THE SECOND FORM's CARD OF 'assayerlaw13.DrawFirst'. -/
def drawFirstUptoCard : Claim7 := { stood := { row := drawFirstUptoRow, standIns := [], harness := (true, "841ef4b0b1c7af75bab0f7d1a0733a9f6f7485e56a80f4a720050f9878449b4e"), looks := false }, kinds := [], alts := [], laidByText := true, laidKinds := [.data, .data], laidTests := true, laidLooks := .later }
def DrawFirstUptoCardSaid : Prop := Claim7.holds Tryd.pinned (.plain (OpenSpec.upto drawFirstSpec)) drawFirstUptoCard
end Rows
end Go.Proofs.YtgnnliablgbgkaaDoor
