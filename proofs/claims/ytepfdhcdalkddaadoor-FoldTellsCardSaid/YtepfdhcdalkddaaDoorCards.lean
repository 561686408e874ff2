/-
  DERIVED. GIVEN WITH THE SEED: THE CARDS: each row of YtepfdhcdalkddaaDoorRows.lean that lists a variable, with what it lists TIED to the program's text (the seventh form; the later family's looks); each row that meets fmt, with fmt's text TOLD by the authors' own Lean function (tested against real Go, not proved from fmt's source: count such statements apart). THE CARD IS WHAT COUNTS. Prove the row's statement (the work); the ties are given (YtepfdhcdalkddaaDoorTie.lean); close each card by the builder's one call (the guide's Derived/Test/ToyasCard.lean, 'card_holds'). Laid BY PROGRAM, IN A SANDBOX (cutbox-door.mjs). By AI agents, Wed Nov 11 2026. No macro, syntax, notation, axiom, sorry.
-/
import Derived.Test.YtepfdhcdalkddaaDoorRows
import GoSem.ClaimSeven
namespace Go.Proofs.YtepfdhcdalkddaaDoor
namespace Rows

/-- THE TIED CARD OF 'assayerlaw20.FoldTells'. -/
def foldTellsCard : Claim7 := { stood := { row := foldTellsRow, standIns := [], harness := (true, "5608ec79ce8dfac5b4a5f63607d8eaf491004fa143319c23db7c7ac6d0ba56f4"), looks := false }, kinds := [], alts := [], laidByText := true, laidKinds := [.data], laidTests := true, laidLooks := .later }
def FoldTellsCardSaid : Prop := Claim7.holds Tryd.pinned (.plain (OpenSpec.ofChange foldTellsSpec)) foldTellsCard

/-- THE TIED CARD OF 'assayerlaw20.FoldWords'. -/
def foldWordsCard : Claim7 := { stood := { row := foldWordsRow, standIns := [], harness := (true, "5608ec79ce8dfac5b4a5f63607d8eaf491004fa143319c23db7c7ac6d0ba56f4"), looks := false }, kinds := [], alts := [], laidByText := true, laidKinds := [.data], laidTests := true, laidLooks := .later }
def FoldWordsCardSaid : Prop := Claim7.holds Tryd.pinned (.plain (OpenSpec.ofChange foldWordsSpec)) foldWordsCard

/-- THE TIED CARD OF 'assayerlaw20.FoldHalves'. -/
def foldHalvesCard : Claim7 := { stood := { row := foldHalvesRow, standIns := [], harness := (true, "5608ec79ce8dfac5b4a5f63607d8eaf491004fa143319c23db7c7ac6d0ba56f4"), looks := false }, kinds := [], alts := [], laidByText := true, laidKinds := [.data], laidTests := true, laidLooks := .later }
def FoldHalvesCardSaid : Prop := Claim7.holds Tryd.pinned (.plain (OpenSpec.ofChange foldHalvesSpec)) foldHalvesCard

/-- THE TIED CARD OF 'assayerlaw20.FoldLines'. -/
def foldLinesCard : Claim7 := { stood := { row := foldLinesRow, standIns := [], harness := (true, "5608ec79ce8dfac5b4a5f63607d8eaf491004fa143319c23db7c7ac6d0ba56f4"), looks := false }, kinds := [], alts := [], laidByText := true, laidKinds := [.data], laidTests := true, laidLooks := .later }
def FoldLinesCardSaid : Prop := Claim7.holds Tryd.pinned (.plain (OpenSpec.ofChange foldLinesSpec)) foldLinesCard

/-- THE TIED CARD OF 'assayerlaw20.FoldAdds'. -/
def foldAddsCard : Claim7 := { stood := { row := foldAddsRow, standIns := [], harness := (true, "5608ec79ce8dfac5b4a5f63607d8eaf491004fa143319c23db7c7ac6d0ba56f4"), looks := false }, kinds := [], alts := [], laidByText := true, laidKinds := [.data], laidTests := true, laidLooks := .later }
def FoldAddsCardSaid : Prop := Claim7.holds Tryd.pinned (.plain (OpenSpec.ofChange foldAddsSpec)) foldAddsCard

/-- THE SECOND FORM's CARD OF 'assayerlaw20.FoldTells'. -/
def foldTellsUptoCard : Claim7 := { stood := { row := foldTellsUptoRow, standIns := [], harness := (true, "5608ec79ce8dfac5b4a5f63607d8eaf491004fa143319c23db7c7ac6d0ba56f4"), looks := false }, kinds := [], alts := [], laidByText := true, laidKinds := [.data], laidTests := true, laidLooks := .later }
def FoldTellsUptoCardSaid : Prop := Claim7.holds Tryd.pinned (.plain (OpenSpec.upto foldTellsSpec)) foldTellsUptoCard

/-- THE SECOND FORM's CARD OF 'assayerlaw20.FoldWords'. -/
def foldWordsUptoCard : Claim7 := { stood := { row := foldWordsUptoRow, standIns := [], harness := (true, "5608ec79ce8dfac5b4a5f63607d8eaf491004fa143319c23db7c7ac6d0ba56f4"), looks := false }, kinds := [], alts := [], laidByText := true, laidKinds := [.data], laidTests := true, laidLooks := .later }
def FoldWordsUptoCardSaid : Prop := Claim7.holds Tryd.pinned (.plain (OpenSpec.upto foldWordsSpec)) foldWordsUptoCard

/-- THE SECOND FORM's CARD OF 'assayerlaw20.FoldHalves'. -/
def foldHalvesUptoCard : Claim7 := { stood := { row := foldHalvesUptoRow, standIns := [], harness := (true, "5608ec79ce8dfac5b4a5f63607d8eaf491004fa143319c23db7c7ac6d0ba56f4"), looks := false }, kinds := [], alts := [], laidByText := true, laidKinds := [.data], laidTests := true, laidLooks := .later }
def FoldHalvesUptoCardSaid : Prop := Claim7.holds Tryd.pinned (.plain (OpenSpec.upto foldHalvesSpec)) foldHalvesUptoCard

/-- THE SECOND FORM's CARD OF 'assayerlaw20.FoldLines'. -/
def foldLinesUptoCard : Claim7 := { stood := { row := foldLinesUptoRow, standIns := [], harness := (true, "5608ec79ce8dfac5b4a5f63607d8eaf491004fa143319c23db7c7ac6d0ba56f4"), looks := false }, kinds := [], alts := [], laidByText := true, laidKinds := [.data], laidTests := true, laidLooks := .later }
def FoldLinesUptoCardSaid : Prop := Claim7.holds Tryd.pinned (.plain (OpenSpec.upto foldLinesSpec)) foldLinesUptoCard

/-- THE SECOND FORM's CARD OF 'assayerlaw20.FoldAdds'. -/
def foldAddsUptoCard : Claim7 := { stood := { row := foldAddsUptoRow, standIns := [], harness := (true, "5608ec79ce8dfac5b4a5f63607d8eaf491004fa143319c23db7c7ac6d0ba56f4"), looks := false }, kinds := [], alts := [], laidByText := true, laidKinds := [.data], laidTests := true, laidLooks := .later }
def FoldAddsUptoCardSaid : Prop := Claim7.holds Tryd.pinned (.plain (OpenSpec.upto foldAddsSpec)) foldAddsUptoCard
end Rows
end Go.Proofs.YtepfdhcdalkddaaDoor
