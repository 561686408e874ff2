/-
  DERIVED. GIVEN WITH THE SEED: THE CARDS: each row of YtflabonifbhmnaaDoorRows.lean that lists a variable, with what it lists TIED to the program's text (the seventh form; the later family's looks); each row that meets fmt, with fmt's text TOLD by the authors' own Lean function (tested against real Go, not proved from fmt's source: count such statements apart). THE CARD IS WHAT COUNTS. Prove the row's statement (the work); the ties are given (YtflabonifbhmnaaDoorTie.lean); close each card by the builder's one call (the guide's Derived/Test/ToyasCard.lean, 'card_holds'). Laid BY PROGRAM, IN A SANDBOX (cutbox-door.mjs). By AI agents, Wed Nov 11 2026. No macro, syntax, notation, axiom, sorry.
-/
import Derived.Test.YtflabonifbhmnaaDoorRows
import GoSem.ClaimSeven
namespace Go.Proofs.YtflabonifbhmnaaDoor
namespace Rows

/-- THE TIED CARD OF 'assayerlaw04.NttForth'. -/
def nttForthCard : Claim7 := { stood := { row := nttForthRow, standIns := [], harness := (true, "1292bb5f2cba4b27abe6180731f8e2451587f092fc0d93da1f02a12271d5473a"), looks := false }, kinds := [], alts := [], laidByText := true, laidKinds := [.data], laidTests := true, laidLooks := .later }
def NttForthCardSaid : Prop := Claim7.holds Tryd.pinned (.plain (OpenSpec.ofChange nttForthSpec)) nttForthCard

/-- THE TIED CARD OF 'assayerlaw04.NttPairs'. -/
def nttPairsCard : Claim7 := { stood := { row := nttPairsRow, standIns := [], harness := (true, "1292bb5f2cba4b27abe6180731f8e2451587f092fc0d93da1f02a12271d5473a"), looks := false }, kinds := [], alts := [], laidByText := true, laidKinds := [.data], laidTests := true, laidLooks := .later }
def NttPairsCardSaid : Prop := Claim7.holds Tryd.pinned (.plain (OpenSpec.ofChange nttPairsSpec)) nttPairsCard

/-- THE TIED CARD OF 'assayerlaw04.NttBack'. -/
def nttBackCard : Claim7 := { stood := { row := nttBackRow, standIns := [], harness := (true, "1292bb5f2cba4b27abe6180731f8e2451587f092fc0d93da1f02a12271d5473a"), looks := false }, kinds := [], alts := [], laidByText := true, laidKinds := [.data], laidTests := true, laidLooks := .later }
def NttBackCardSaid : Prop := Claim7.holds Tryd.pinned (.plain (OpenSpec.ofChange nttBackSpec)) nttBackCard

/-- THE TIED CARD OF 'assayerlaw04.NttAdds'. -/
def nttAddsCard : Claim7 := { stood := { row := nttAddsRow, standIns := [], harness := (true, "1292bb5f2cba4b27abe6180731f8e2451587f092fc0d93da1f02a12271d5473a"), looks := false }, kinds := [], alts := [], laidByText := true, laidKinds := [.data], laidTests := true, laidLooks := .later }
def NttAddsCardSaid : Prop := Claim7.holds Tryd.pinned (.plain (OpenSpec.ofChange nttAddsSpec)) nttAddsCard

/-- THE TIED CARD OF 'assayerlaw04.NttShifts'. -/
def nttShiftsCard : Claim7 := { stood := { row := nttShiftsRow, standIns := [], harness := (true, "1292bb5f2cba4b27abe6180731f8e2451587f092fc0d93da1f02a12271d5473a"), looks := false }, kinds := [], alts := [], laidByText := true, laidKinds := [.data], laidTests := true, laidLooks := .later }
def NttShiftsCardSaid : Prop := Claim7.holds Tryd.pinned (.plain (OpenSpec.ofChange nttShiftsSpec)) nttShiftsCard

/-- THE TIED CARD OF 'assayerlaw04.NttHalf'. -/
def nttHalfCard : Claim7 := { stood := { row := nttHalfRow, standIns := [], harness := (true, "1292bb5f2cba4b27abe6180731f8e2451587f092fc0d93da1f02a12271d5473a"), looks := false }, kinds := [], alts := [], laidByText := true, laidKinds := [.data], laidTests := true, laidLooks := .later }
def NttHalfCardSaid : Prop := Claim7.holds Tryd.pinned (.plain (OpenSpec.ofChange nttHalfSpec)) nttHalfCard

/-- THE SECOND FORM's CARD OF 'assayerlaw04.NttForth'. -/
def nttForthUptoCard : Claim7 := { stood := { row := nttForthUptoRow, standIns := [], harness := (true, "1292bb5f2cba4b27abe6180731f8e2451587f092fc0d93da1f02a12271d5473a"), looks := false }, kinds := [], alts := [], laidByText := true, laidKinds := [.data], laidTests := true, laidLooks := .later }
def NttForthUptoCardSaid : Prop := Claim7.holds Tryd.pinned (.plain (OpenSpec.upto nttForthSpec)) nttForthUptoCard

/-- THE SECOND FORM's CARD OF 'assayerlaw04.NttPairs'. -/
def nttPairsUptoCard : Claim7 := { stood := { row := nttPairsUptoRow, standIns := [], harness := (true, "1292bb5f2cba4b27abe6180731f8e2451587f092fc0d93da1f02a12271d5473a"), looks := false }, kinds := [], alts := [], laidByText := true, laidKinds := [.data], laidTests := true, laidLooks := .later }
def NttPairsUptoCardSaid : Prop := Claim7.holds Tryd.pinned (.plain (OpenSpec.upto nttPairsSpec)) nttPairsUptoCard

/-- THE SECOND FORM's CARD OF 'assayerlaw04.NttBack'. -/
def nttBackUptoCard : Claim7 := { stood := { row := nttBackUptoRow, standIns := [], harness := (true, "1292bb5f2cba4b27abe6180731f8e2451587f092fc0d93da1f02a12271d5473a"), looks := false }, kinds := [], alts := [], laidByText := true, laidKinds := [.data], laidTests := true, laidLooks := .later }
def NttBackUptoCardSaid : Prop := Claim7.holds Tryd.pinned (.plain (OpenSpec.upto nttBackSpec)) nttBackUptoCard

/-- THE SECOND FORM's CARD OF 'assayerlaw04.NttAdds'. -/
def nttAddsUptoCard : Claim7 := { stood := { row := nttAddsUptoRow, standIns := [], harness := (true, "1292bb5f2cba4b27abe6180731f8e2451587f092fc0d93da1f02a12271d5473a"), looks := false }, kinds := [], alts := [], laidByText := true, laidKinds := [.data], laidTests := true, laidLooks := .later }
def NttAddsUptoCardSaid : Prop := Claim7.holds Tryd.pinned (.plain (OpenSpec.upto nttAddsSpec)) nttAddsUptoCard

/-- THE SECOND FORM's CARD OF 'assayerlaw04.NttShifts'. -/
def nttShiftsUptoCard : Claim7 := { stood := { row := nttShiftsUptoRow, standIns := [], harness := (true, "1292bb5f2cba4b27abe6180731f8e2451587f092fc0d93da1f02a12271d5473a"), looks := false }, kinds := [], alts := [], laidByText := true, laidKinds := [.data], laidTests := true, laidLooks := .later }
def NttShiftsUptoCardSaid : Prop := Claim7.holds Tryd.pinned (.plain (OpenSpec.upto nttShiftsSpec)) nttShiftsUptoCard

/-- THE SECOND FORM's CARD OF 'assayerlaw04.NttHalf'. -/
def nttHalfUptoCard : Claim7 := { stood := { row := nttHalfUptoRow, standIns := [], harness := (true, "1292bb5f2cba4b27abe6180731f8e2451587f092fc0d93da1f02a12271d5473a"), looks := false }, kinds := [], alts := [], laidByText := true, laidKinds := [.data], laidTests := true, laidLooks := .later }
def NttHalfUptoCardSaid : Prop := Claim7.holds Tryd.pinned (.plain (OpenSpec.upto nttHalfSpec)) nttHalfUptoCard
end Rows
end Go.Proofs.YtflabonifbhmnaaDoor
