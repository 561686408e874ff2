/-
  DERIVED. GIVEN WITH THE SEED: THE CARDS: each row of YtfnmlegikcogoaaDoorRows.lean that lists a variable, with what it lists TIED to the program's text (the seventh form; the later family's looks); each row that meets fmt, with fmt's text TOLD by the authors' own Lean function (tested against real Go, not proved from fmt's source: count such statements apart). THE CARD IS WHAT COUNTS. Prove the row's statement (the work); the ties are given (YtfnmlegikcogoaaDoorTie.lean); close each card by the builder's one call (the guide's Derived/Test/ToyasCard.lean, 'card_holds'). Laid BY PROGRAM, IN A SANDBOX (cutbox-door.mjs). By AI agents, Wed Nov 11 2026. No macro, syntax, notation, axiom, sorry.
-/
import Derived.Test.YtfnmlegikcogoaaDoorRows
import GoSem.ClaimSeven
namespace Go.Proofs.YtfnmlegikcogoaaDoor
namespace Rows

/-- THE TIED CARD OF 'assayerlaw11.ClashTrails'. -/
def clashTrailsCard : Claim7 := { stood := { row := clashTrailsRow, standIns := [], harness := (true, "264e4ee0f36e34248a9614450c05050485f76c5f057207dc9d79171435adfaa2"), looks := false }, kinds := [], alts := [], laidByText := true, laidKinds := [.data, .data], laidTests := true, laidLooks := .later }
def ClashTrailsCardSaid : Prop := Claim7.holds Tryd.pinned (.plain (OpenSpec.ofChange clashTrailsSpec)) clashTrailsCard

/-- THE TIED CARD OF 'assayerlaw11.ClashUnlike'. -/
def clashUnlikeCard : Claim7 := { stood := { row := clashUnlikeRow, standIns := [], harness := (true, "264e4ee0f36e34248a9614450c05050485f76c5f057207dc9d79171435adfaa2"), looks := false }, kinds := [], alts := [], laidByText := true, laidKinds := [.data, .data], laidTests := true, laidLooks := .later }
def ClashUnlikeCardSaid : Prop := Claim7.holds Tryd.pinned (.plain (OpenSpec.ofChange clashUnlikeSpec)) clashUnlikeCard

/-- THE TIED CARD OF 'assayerlaw11.ClashExtracts'. -/
def clashExtractsCard : Claim7 := { stood := { row := clashExtractsRow, standIns := [], harness := (true, "264e4ee0f36e34248a9614450c05050485f76c5f057207dc9d79171435adfaa2"), looks := false }, kinds := [], alts := [], laidByText := true, laidKinds := [.data, .data], laidTests := true, laidLooks := .later }
def ClashExtractsCardSaid : Prop := Claim7.holds Tryd.pinned (.plain (OpenSpec.ofChange clashExtractsSpec)) clashExtractsCard

/-- THE TIED CARD OF 'assayerlaw11.ClashBinds'. -/
def clashBindsCard : Claim7 := { stood := { row := clashBindsRow, standIns := [], harness := (true, "264e4ee0f36e34248a9614450c05050485f76c5f057207dc9d79171435adfaa2"), looks := false }, kinds := [], alts := [], laidByText := true, laidKinds := [.data, .data], laidTests := true, laidLooks := .later }
def ClashBindsCardSaid : Prop := Claim7.holds Tryd.pinned (.plain (OpenSpec.ofChange clashBindsSpec)) clashBindsCard

/-- THE TIED CARD OF 'assayerlaw11.ClashLeads'. -/
def clashLeadsCard : Claim7 := { stood := { row := clashLeadsRow, standIns := [], harness := (true, "264e4ee0f36e34248a9614450c05050485f76c5f057207dc9d79171435adfaa2"), looks := false }, kinds := [], alts := [], laidByText := true, laidKinds := [.data, .data], laidTests := true, laidLooks := .later }
def ClashLeadsCardSaid : Prop := Claim7.holds Tryd.pinned (.plain (OpenSpec.ofChange clashLeadsSpec)) clashLeadsCard

/-- THE SECOND FORM's CARD OF 'assayerlaw11.ClashTrails'. -/
def clashTrailsUptoCard : Claim7 := { stood := { row := clashTrailsUptoRow, standIns := [], harness := (true, "264e4ee0f36e34248a9614450c05050485f76c5f057207dc9d79171435adfaa2"), looks := false }, kinds := [], alts := [], laidByText := true, laidKinds := [.data, .data], laidTests := true, laidLooks := .later }
def ClashTrailsUptoCardSaid : Prop := Claim7.holds Tryd.pinned (.plain (OpenSpec.upto clashTrailsSpec)) clashTrailsUptoCard

/-- THE SECOND FORM's CARD OF 'assayerlaw11.ClashUnlike'. -/
def clashUnlikeUptoCard : Claim7 := { stood := { row := clashUnlikeUptoRow, standIns := [], harness := (true, "264e4ee0f36e34248a9614450c05050485f76c5f057207dc9d79171435adfaa2"), looks := false }, kinds := [], alts := [], laidByText := true, laidKinds := [.data, .data], laidTests := true, laidLooks := .later }
def ClashUnlikeUptoCardSaid : Prop := Claim7.holds Tryd.pinned (.plain (OpenSpec.upto clashUnlikeSpec)) clashUnlikeUptoCard

/-- THE SECOND FORM's CARD OF 'assayerlaw11.ClashExtracts'. -/
def clashExtractsUptoCard : Claim7 := { stood := { row := clashExtractsUptoRow, standIns := [], harness := (true, "264e4ee0f36e34248a9614450c05050485f76c5f057207dc9d79171435adfaa2"), looks := false }, kinds := [], alts := [], laidByText := true, laidKinds := [.data, .data], laidTests := true, laidLooks := .later }
def ClashExtractsUptoCardSaid : Prop := Claim7.holds Tryd.pinned (.plain (OpenSpec.upto clashExtractsSpec)) clashExtractsUptoCard

/-- THE SECOND FORM's CARD OF 'assayerlaw11.ClashBinds'. -/
def clashBindsUptoCard : Claim7 := { stood := { row := clashBindsUptoRow, standIns := [], harness := (true, "264e4ee0f36e34248a9614450c05050485f76c5f057207dc9d79171435adfaa2"), looks := false }, kinds := [], alts := [], laidByText := true, laidKinds := [.data, .data], laidTests := true, laidLooks := .later }
def ClashBindsUptoCardSaid : Prop := Claim7.holds Tryd.pinned (.plain (OpenSpec.upto clashBindsSpec)) clashBindsUptoCard

/-- THE SECOND FORM's CARD OF 'assayerlaw11.ClashLeads'. -/
def clashLeadsUptoCard : Claim7 := { stood := { row := clashLeadsUptoRow, standIns := [], harness := (true, "264e4ee0f36e34248a9614450c05050485f76c5f057207dc9d79171435adfaa2"), looks := false }, kinds := [], alts := [], laidByText := true, laidKinds := [.data, .data], laidTests := true, laidLooks := .later }
def ClashLeadsUptoCardSaid : Prop := Claim7.holds Tryd.pinned (.plain (OpenSpec.upto clashLeadsSpec)) clashLeadsUptoCard
end Rows
end Go.Proofs.YtfnmlegikcogoaaDoor
