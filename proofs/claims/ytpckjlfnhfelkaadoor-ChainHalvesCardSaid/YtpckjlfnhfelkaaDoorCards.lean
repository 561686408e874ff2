/-
  DERIVED. GIVEN WITH THE SEED: THE CARDS: each row of YtpckjlfnhfelkaaDoorRows.lean that lists a variable, with what it lists TIED to the program's text (the seventh form; the later family's looks); each row that meets fmt, with fmt's text TOLD by the authors' own Lean function (tested against real Go, not proved from fmt's source: count such statements apart). THE CARD IS WHAT COUNTS. Prove the row's statement (the work); the ties are given (YtpckjlfnhfelkaaDoorTie.lean); close each card by the builder's one call (the guide's Derived/Test/ToyasCard.lean, 'card_holds'). Laid BY PROGRAM, IN A SANDBOX (cutbox-door.mjs). By AI agents, Wed Nov 11 2026. No macro, syntax, notation, axiom, sorry.
-/
import Derived.Test.YtpckjlfnhfelkaaDoorRows
import GoSem.ClaimSeven
namespace Go.Proofs.YtpckjlfnhfelkaaDoor
namespace Rows

/-- THE TIED CARD OF 'assayerlaw21.ChainWords'. -/
def chainWordsCard : Claim7 := { stood := { row := chainWordsRow, standIns := [], harness := (true, "09f4fed5a75c17e26b4be65d7ad8bc1a06ac318068413666dd5788b7d2d85d0e"), looks := false }, kinds := [], alts := [], laidByText := true, laidKinds := [.data], laidTests := true, laidLooks := .later }
def ChainWordsCardSaid : Prop := Claim7.holds Tryd.pinned (.plain (OpenSpec.ofChange chainWordsSpec)) chainWordsCard

/-- THE TIED CARD OF 'assayerlaw21.ChainFinal'. -/
def chainFinalCard : Claim7 := { stood := { row := chainFinalRow, standIns := [], harness := (true, "09f4fed5a75c17e26b4be65d7ad8bc1a06ac318068413666dd5788b7d2d85d0e"), looks := false }, kinds := [], alts := [], laidByText := true, laidKinds := [.data], laidTests := true, laidLooks := .later }
def ChainFinalCardSaid : Prop := Claim7.holds Tryd.pinned (.plain (OpenSpec.ofChange chainFinalSpec)) chainFinalCard

/-- THE TIED CARD OF 'assayerlaw21.ChainDown'. -/
def chainDownCard : Claim7 := { stood := { row := chainDownRow, standIns := [], harness := (true, "09f4fed5a75c17e26b4be65d7ad8bc1a06ac318068413666dd5788b7d2d85d0e"), looks := false }, kinds := [], alts := [], laidByText := true, laidKinds := [.data], laidTests := true, laidLooks := .later }
def ChainDownCardSaid : Prop := Claim7.holds Tryd.pinned (.plain (OpenSpec.ofChange chainDownSpec)) chainDownCard

/-- THE TIED CARD OF 'assayerlaw21.ChainHalves'. -/
def chainHalvesCard : Claim7 := { stood := { row := chainHalvesRow, standIns := [], harness := (true, "09f4fed5a75c17e26b4be65d7ad8bc1a06ac318068413666dd5788b7d2d85d0e"), looks := false }, kinds := [], alts := [], laidByText := true, laidKinds := [.data], laidTests := true, laidLooks := .later }
def ChainHalvesCardSaid : Prop := Claim7.holds Tryd.pinned (.plain (OpenSpec.ofChange chainHalvesSpec)) chainHalvesCard

/-- THE TIED CARD OF 'assayerlaw21.ChainFirst'. -/
def chainFirstCard : Claim7 := { stood := { row := chainFirstRow, standIns := [], harness := (true, "09f4fed5a75c17e26b4be65d7ad8bc1a06ac318068413666dd5788b7d2d85d0e"), looks := false }, kinds := [], alts := [], laidByText := true, laidKinds := [.data], laidTests := true, laidLooks := .later }
def ChainFirstCardSaid : Prop := Claim7.holds Tryd.pinned (.plain (OpenSpec.ofChange chainFirstSpec)) chainFirstCard

/-- THE SECOND FORM's CARD OF 'assayerlaw21.ChainWords'. -/
def chainWordsUptoCard : Claim7 := { stood := { row := chainWordsUptoRow, standIns := [], harness := (true, "09f4fed5a75c17e26b4be65d7ad8bc1a06ac318068413666dd5788b7d2d85d0e"), looks := false }, kinds := [], alts := [], laidByText := true, laidKinds := [.data], laidTests := true, laidLooks := .later }
def ChainWordsUptoCardSaid : Prop := Claim7.holds Tryd.pinned (.plain (OpenSpec.upto chainWordsSpec)) chainWordsUptoCard

/-- THE SECOND FORM's CARD OF 'assayerlaw21.ChainFinal'. -/
def chainFinalUptoCard : Claim7 := { stood := { row := chainFinalUptoRow, standIns := [], harness := (true, "09f4fed5a75c17e26b4be65d7ad8bc1a06ac318068413666dd5788b7d2d85d0e"), looks := false }, kinds := [], alts := [], laidByText := true, laidKinds := [.data], laidTests := true, laidLooks := .later }
def ChainFinalUptoCardSaid : Prop := Claim7.holds Tryd.pinned (.plain (OpenSpec.upto chainFinalSpec)) chainFinalUptoCard

/-- THE SECOND FORM's CARD OF 'assayerlaw21.ChainDown'. -/
def chainDownUptoCard : Claim7 := { stood := { row := chainDownUptoRow, standIns := [], harness := (true, "09f4fed5a75c17e26b4be65d7ad8bc1a06ac318068413666dd5788b7d2d85d0e"), looks := false }, kinds := [], alts := [], laidByText := true, laidKinds := [.data], laidTests := true, laidLooks := .later }
def ChainDownUptoCardSaid : Prop := Claim7.holds Tryd.pinned (.plain (OpenSpec.upto chainDownSpec)) chainDownUptoCard

/-- THE SECOND FORM's CARD OF 'assayerlaw21.ChainHalves'. -/
def chainHalvesUptoCard : Claim7 := { stood := { row := chainHalvesUptoRow, standIns := [], harness := (true, "09f4fed5a75c17e26b4be65d7ad8bc1a06ac318068413666dd5788b7d2d85d0e"), looks := false }, kinds := [], alts := [], laidByText := true, laidKinds := [.data], laidTests := true, laidLooks := .later }
def ChainHalvesUptoCardSaid : Prop := Claim7.holds Tryd.pinned (.plain (OpenSpec.upto chainHalvesSpec)) chainHalvesUptoCard

/-- THE SECOND FORM's CARD OF 'assayerlaw21.ChainFirst'. -/
def chainFirstUptoCard : Claim7 := { stood := { row := chainFirstUptoRow, standIns := [], harness := (true, "09f4fed5a75c17e26b4be65d7ad8bc1a06ac318068413666dd5788b7d2d85d0e"), looks := false }, kinds := [], alts := [], laidByText := true, laidKinds := [.data], laidTests := true, laidLooks := .later }
def ChainFirstUptoCardSaid : Prop := Claim7.holds Tryd.pinned (.plain (OpenSpec.upto chainFirstSpec)) chainFirstUptoCard
end Rows
end Go.Proofs.YtpckjlfnhfelkaaDoor
