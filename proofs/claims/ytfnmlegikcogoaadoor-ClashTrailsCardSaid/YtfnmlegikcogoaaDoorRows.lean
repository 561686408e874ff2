/-
  NARROWER THAN 'FOR EVERY INPUT', by the rows' own cells (each row's printed sentence says how): ClashTrails: laid · ClashUnlike: laid · ClashExtracts: laid · ClashBinds: laid · ClashLeads: laid.
  DERIVED. THE GIVEN ROWS OF THIS SEAT. 5 by the template 'for every input the law returns true; each argument reads behind the call as it read before'; 0 by the template 'total and deterministic' (their statements: YtfnmlegikcogoaaDoorTotals.lean).
  GIVEN WITH THE SEED: the statements are not yours to turn. If you find one false, say at which input.
  Laid BY PROGRAM, IN A SANDBOX (cutbox-rows.mjs): the forced cells as the released guide's own fill.sh prints them over the translation 3f28958107292fef… (all of the seat's roots in one cut). By AI agents, Wed Nov 11 2026. No macro, syntax, notation, axiom, sorry.
-/
import Derived.Test.YtfnmlegikcogoaaDoorChecked
import GoSem.Claim
import GoSem.ClaimJoined
import GoSem.ClaimMapViews
import Derived.JoinedTies
import Derived.KernelRfl
namespace Go.Proofs.YtfnmlegikcogoaaDoor
/- THE CELL 'sum', in the pinned program and in every row, IS THE sha256 OF THE DUMP (.gsa) THAT YtfnmlegikcogoaaDoorProg.lean LOADS. Nothing in Lean hashes anything: it is a label: what it is worth is what the hold of that sum in a sandbox is worth. -/
noncomputable def Tryd.pinned : Pinned := { name := "ytfnmlegikcogoaadoor", sum := "3f28958107292fef7663cf3f513c98c63adfa91c41e296753a2313e08e793eb0", checked := Tryd.checked }
namespace Rows
def none {H : Type} : Left H := { results := [], args := [] }

/- WHAT THE LISTED PACKAGE-LEVEL VARIABLES READ AS WHEN THE CALL BEGINS. Each datum BY PROGRAM (the guide's laid-datum.mjs) off the statement by which the dump's own 'gosem.cut.vars' lays the variable. In a bare row this is a premise. The card (YtfnmlegikcogoaaDoorCards.lean) ties it to the program's text. -/
def laid_assayer_blake_start {H : Type} : DataW H := .agg [.lit (.int .u32 1779033703), .lit (.int .u32 3144134277), .lit (.int .u32 1013904242), .lit (.int .u32 2773480762), .lit (.int .u32 1359893119), .lit (.int .u32 2600822924), .lit (.int .u32 528734635), .lit (.int .u32 1541459225)]
def laid_assayer_blake_orders {H : Type} : DataW H := .agg [.agg [.lit (.int .u8 0), .lit (.int .u8 1), .lit (.int .u8 2), .lit (.int .u8 3), .lit (.int .u8 4), .lit (.int .u8 5), .lit (.int .u8 6), .lit (.int .u8 7), .lit (.int .u8 8), .lit (.int .u8 9), .lit (.int .u8 10), .lit (.int .u8 11), .lit (.int .u8 12), .lit (.int .u8 13), .lit (.int .u8 14), .lit (.int .u8 15)], .agg [.lit (.int .u8 14), .lit (.int .u8 10), .lit (.int .u8 4), .lit (.int .u8 8), .lit (.int .u8 9), .lit (.int .u8 15), .lit (.int .u8 13), .lit (.int .u8 6), .lit (.int .u8 1), .lit (.int .u8 12), .lit (.int .u8 0), .lit (.int .u8 2), .lit (.int .u8 11), .lit (.int .u8 7), .lit (.int .u8 5), .lit (.int .u8 3)], .agg [.lit (.int .u8 11), .lit (.int .u8 8), .lit (.int .u8 12), .lit (.int .u8 0), .lit (.int .u8 5), .lit (.int .u8 2), .lit (.int .u8 15), .lit (.int .u8 13), .lit (.int .u8 10), .lit (.int .u8 14), .lit (.int .u8 3), .lit (.int .u8 6), .lit (.int .u8 7), .lit (.int .u8 1), .lit (.int .u8 9), .lit (.int .u8 4)], .agg [.lit (.int .u8 7), .lit (.int .u8 9), .lit (.int .u8 3), .lit (.int .u8 1), .lit (.int .u8 13), .lit (.int .u8 12), .lit (.int .u8 11), .lit (.int .u8 14), .lit (.int .u8 2), .lit (.int .u8 6), .lit (.int .u8 5), .lit (.int .u8 10), .lit (.int .u8 4), .lit (.int .u8 0), .lit (.int .u8 15), .lit (.int .u8 8)], .agg [.lit (.int .u8 9), .lit (.int .u8 0), .lit (.int .u8 5), .lit (.int .u8 7), .lit (.int .u8 2), .lit (.int .u8 4), .lit (.int .u8 10), .lit (.int .u8 15), .lit (.int .u8 14), .lit (.int .u8 1), .lit (.int .u8 11), .lit (.int .u8 12), .lit (.int .u8 6), .lit (.int .u8 8), .lit (.int .u8 3), .lit (.int .u8 13)], .agg [.lit (.int .u8 2), .lit (.int .u8 12), .lit (.int .u8 6), .lit (.int .u8 10), .lit (.int .u8 0), .lit (.int .u8 11), .lit (.int .u8 8), .lit (.int .u8 3), .lit (.int .u8 4), .lit (.int .u8 13), .lit (.int .u8 7), .lit (.int .u8 5), .lit (.int .u8 15), .lit (.int .u8 14), .lit (.int .u8 1), .lit (.int .u8 9)], .agg [.lit (.int .u8 12), .lit (.int .u8 5), .lit (.int .u8 1), .lit (.int .u8 15), .lit (.int .u8 14), .lit (.int .u8 13), .lit (.int .u8 4), .lit (.int .u8 10), .lit (.int .u8 0), .lit (.int .u8 7), .lit (.int .u8 6), .lit (.int .u8 3), .lit (.int .u8 9), .lit (.int .u8 2), .lit (.int .u8 8), .lit (.int .u8 11)], .agg [.lit (.int .u8 13), .lit (.int .u8 11), .lit (.int .u8 7), .lit (.int .u8 14), .lit (.int .u8 12), .lit (.int .u8 1), .lit (.int .u8 3), .lit (.int .u8 9), .lit (.int .u8 5), .lit (.int .u8 0), .lit (.int .u8 15), .lit (.int .u8 4), .lit (.int .u8 8), .lit (.int .u8 6), .lit (.int .u8 2), .lit (.int .u8 10)], .agg [.lit (.int .u8 6), .lit (.int .u8 15), .lit (.int .u8 14), .lit (.int .u8 9), .lit (.int .u8 11), .lit (.int .u8 3), .lit (.int .u8 0), .lit (.int .u8 8), .lit (.int .u8 12), .lit (.int .u8 2), .lit (.int .u8 13), .lit (.int .u8 7), .lit (.int .u8 1), .lit (.int .u8 4), .lit (.int .u8 10), .lit (.int .u8 5)], .agg [.lit (.int .u8 10), .lit (.int .u8 2), .lit (.int .u8 8), .lit (.int .u8 4), .lit (.int .u8 7), .lit (.int .u8 6), .lit (.int .u8 1), .lit (.int .u8 5), .lit (.int .u8 15), .lit (.int .u8 11), .lit (.int .u8 9), .lit (.int .u8 14), .lit (.int .u8 3), .lit (.int .u8 12), .lit (.int .u8 13), .lit (.int .u8 0)]]

/-- 'assayerlaw11.ClashTrails': WHATEVER THE INPUT: true; the input reads as it did. -/
def clashTrailsSpec : ChangeSpec := { name := "clashTrails", fn := fun _ => fun
  | [d1, d2] => { results := [.lit (.bool true)], args := [d1, d2] }
  | _ => none }
def clashTrailsRow : OpenClaim := { program := "ytfnmlegikcogoaadoor", sum := "3f28958107292fef7663cf3f513c98c63adfa91c41e296753a2313e08e793eb0", func := "assayer/assayerlaw11.ClashTrails", spec := "clashTrails", unfollowed := true, recurses := true, named := ["assayer/blake.start", "assayer/blake.orders"], apart := false, laid := [("assayer/blake.start", laid_assayer_blake_start), ("assayer/blake.orders", laid_assayer_blake_orders)] }
def ClashTrailsSaid : Prop := clashTrailsRow.holds Tryd.pinned (OpenSpec.ofChange clashTrailsSpec)

/-- ITS FALSE NEIGHBOUR: 'it returns false'. Refute it at one input. -/
def clashTrailsWrong : ChangeSpec := { name := "clashTrails", fn := fun _ => fun
  | [d1, d2] => { results := [.lit (.bool false)], args := [d1, d2] }
  | _ => none }
def ClashTrailsWrongFalsely : Prop := clashTrailsRow.holds Tryd.pinned (OpenSpec.ofChange clashTrailsWrong)

/-- 'assayerlaw11.ClashUnlike': WHATEVER THE INPUT: true; the input reads as it did. -/
def clashUnlikeSpec : ChangeSpec := { name := "clashUnlike", fn := fun _ => fun
  | [d1, d2] => { results := [.lit (.bool true)], args := [d1, d2] }
  | _ => none }
def clashUnlikeRow : OpenClaim := { program := "ytfnmlegikcogoaadoor", sum := "3f28958107292fef7663cf3f513c98c63adfa91c41e296753a2313e08e793eb0", func := "assayer/assayerlaw11.ClashUnlike", spec := "clashUnlike", unfollowed := true, recurses := true, named := ["assayer/blake.start", "assayer/blake.orders"], apart := false, laid := [("assayer/blake.start", laid_assayer_blake_start), ("assayer/blake.orders", laid_assayer_blake_orders)] }
def ClashUnlikeSaid : Prop := clashUnlikeRow.holds Tryd.pinned (OpenSpec.ofChange clashUnlikeSpec)

/-- ITS FALSE NEIGHBOUR: 'it returns false'. Refute it at one input. -/
def clashUnlikeWrong : ChangeSpec := { name := "clashUnlike", fn := fun _ => fun
  | [d1, d2] => { results := [.lit (.bool false)], args := [d1, d2] }
  | _ => none }
def ClashUnlikeWrongFalsely : Prop := clashUnlikeRow.holds Tryd.pinned (OpenSpec.ofChange clashUnlikeWrong)

/-- 'assayerlaw11.ClashExtracts': WHATEVER THE INPUT: true; the input reads as it did. -/
def clashExtractsSpec : ChangeSpec := { name := "clashExtracts", fn := fun _ => fun
  | [d1, d2, d3] => { results := [.lit (.bool true)], args := [d1, d2, d3] }
  | _ => none }
def clashExtractsRow : OpenClaim := { program := "ytfnmlegikcogoaadoor", sum := "3f28958107292fef7663cf3f513c98c63adfa91c41e296753a2313e08e793eb0", func := "assayer/assayerlaw11.ClashExtracts", spec := "clashExtracts", unfollowed := true, recurses := true, named := ["assayer/blake.start", "assayer/blake.orders"], apart := false, laid := [("assayer/blake.start", laid_assayer_blake_start), ("assayer/blake.orders", laid_assayer_blake_orders)] }
def ClashExtractsSaid : Prop := clashExtractsRow.holds Tryd.pinned (OpenSpec.ofChange clashExtractsSpec)

/-- ITS FALSE NEIGHBOUR: 'it returns false'. Refute it at one input. -/
def clashExtractsWrong : ChangeSpec := { name := "clashExtracts", fn := fun _ => fun
  | [d1, d2, d3] => { results := [.lit (.bool false)], args := [d1, d2, d3] }
  | _ => none }
def ClashExtractsWrongFalsely : Prop := clashExtractsRow.holds Tryd.pinned (OpenSpec.ofChange clashExtractsWrong)

/-- 'assayerlaw11.ClashBinds': WHATEVER THE INPUT: true; the input reads as it did. -/
def clashBindsSpec : ChangeSpec := { name := "clashBinds", fn := fun _ => fun
  | [d1, d2, d3] => { results := [.lit (.bool true)], args := [d1, d2, d3] }
  | _ => none }
def clashBindsRow : OpenClaim := { program := "ytfnmlegikcogoaadoor", sum := "3f28958107292fef7663cf3f513c98c63adfa91c41e296753a2313e08e793eb0", func := "assayer/assayerlaw11.ClashBinds", spec := "clashBinds", unfollowed := true, recurses := true, named := ["assayer/blake.start", "assayer/blake.orders"], apart := false, laid := [("assayer/blake.start", laid_assayer_blake_start), ("assayer/blake.orders", laid_assayer_blake_orders)] }
def ClashBindsSaid : Prop := clashBindsRow.holds Tryd.pinned (OpenSpec.ofChange clashBindsSpec)

/-- ITS FALSE NEIGHBOUR: 'it returns false'. Refute it at one input. -/
def clashBindsWrong : ChangeSpec := { name := "clashBinds", fn := fun _ => fun
  | [d1, d2, d3] => { results := [.lit (.bool false)], args := [d1, d2, d3] }
  | _ => none }
def ClashBindsWrongFalsely : Prop := clashBindsRow.holds Tryd.pinned (OpenSpec.ofChange clashBindsWrong)

/-- 'assayerlaw11.ClashLeads': WHATEVER THE INPUT: true; the input reads as it did. -/
def clashLeadsSpec : ChangeSpec := { name := "clashLeads", fn := fun _ => fun
  | [d1, d2] => { results := [.lit (.bool true)], args := [d1, d2] }
  | _ => none }
def clashLeadsRow : OpenClaim := { program := "ytfnmlegikcogoaadoor", sum := "3f28958107292fef7663cf3f513c98c63adfa91c41e296753a2313e08e793eb0", func := "assayer/assayerlaw11.ClashLeads", spec := "clashLeads", unfollowed := true, recurses := true, named := ["assayer/blake.start", "assayer/blake.orders"], apart := false, laid := [("assayer/blake.start", laid_assayer_blake_start), ("assayer/blake.orders", laid_assayer_blake_orders)] }
def ClashLeadsSaid : Prop := clashLeadsRow.holds Tryd.pinned (OpenSpec.ofChange clashLeadsSpec)

/-- ITS FALSE NEIGHBOUR: 'it returns false'. Refute it at one input. -/
def clashLeadsWrong : ChangeSpec := { name := "clashLeads", fn := fun _ => fun
  | [d1, d2] => { results := [.lit (.bool false)], args := [d1, d2] }
  | _ => none }
def ClashLeadsWrongFalsely : Prop := clashLeadsRow.holds Tryd.pinned (OpenSpec.ofChange clashLeadsWrong)

/- THE SECOND FORM. 'bulk': how many values and letters a reading holds, each counted each time it is reached (what is shared counts as often as it is met; a slice's spare places count too). A statement '..UptoSaid' is the law's where the arguments, and the package variables that the reading takes, are together of bulk at most 1048576: NARROWER than '..Said'. Prove '..Said' where nothing that the law and all that it calls make is longer than what came in: it says more and counts as full. Else prove '..UptoSaid'. A law counts once. -/
mutual
def uptoBulk {H : Type} : DataW H → Nat
  | .lit (.string bytes) => bytes.length + 1
  | .lit _ => 1
  | .nil => 1
  | .ptr d => uptoBulk d + 1
  | .slice elems spare => uptoBulkAll elems + uptoBulkAll spare + 1
  | .agg parts => uptoBulkAll parts + 1
  | .iface _ d => uptoBulk d + 1
  | .map entries => uptoBulkEntries entries + 1
  | .held _ => 1
def uptoBulkAll {H : Type} : List (DataW H) → Nat
  | [] => 0
  | d :: r => uptoBulk d + uptoBulkAll r
def uptoBulkEntries {H : Type} : List (Lit × DataW H) → Nat
  | [] => 0
  | x :: r => uptoBulkEntry x + uptoBulkEntries r
def uptoBulkEntry {H : Type} : Lit × DataW H → Nat
  | (.string bytes, d) => bytes.length + uptoBulk d + 1
  | (_, d) => uptoBulk d + 1
 end
def uptoSmall : (H : Type) → List (DataW H) → Bool := fun _ ds => decide (uptoBulkAll ds ≤ 1048576)
def OpenSpec.upto (s : _root_.Go.ChangeSpec) : _root_.Go.OpenSpec := { _root_.Go.OpenSpec.ofChange s with cond := some uptoSmall }

/-- 'assayerlaw11.ClashTrails', WHERE WHAT IT READS IS OF BULK AT MOST 1048576: true; the input reads as it did. -/
def clashTrailsUptoRow : OpenClaim := { program := "ytfnmlegikcogoaadoor", sum := "3f28958107292fef7663cf3f513c98c63adfa91c41e296753a2313e08e793eb0", func := "assayer/assayerlaw11.ClashTrails", spec := "clashTrails", unfollowed := true, recurses := true, named := ["assayer/blake.start", "assayer/blake.orders"], apart := false, laid := [("assayer/blake.start", laid_assayer_blake_start), ("assayer/blake.orders", laid_assayer_blake_orders)], narrowed := true }
def ClashTrailsUptoSaid : Prop := clashTrailsUptoRow.holds Tryd.pinned (OpenSpec.upto clashTrailsSpec)

/-- 'assayerlaw11.ClashUnlike', WHERE WHAT IT READS IS OF BULK AT MOST 1048576: true; the input reads as it did. -/
def clashUnlikeUptoRow : OpenClaim := { program := "ytfnmlegikcogoaadoor", sum := "3f28958107292fef7663cf3f513c98c63adfa91c41e296753a2313e08e793eb0", func := "assayer/assayerlaw11.ClashUnlike", spec := "clashUnlike", unfollowed := true, recurses := true, named := ["assayer/blake.start", "assayer/blake.orders"], apart := false, laid := [("assayer/blake.start", laid_assayer_blake_start), ("assayer/blake.orders", laid_assayer_blake_orders)], narrowed := true }
def ClashUnlikeUptoSaid : Prop := clashUnlikeUptoRow.holds Tryd.pinned (OpenSpec.upto clashUnlikeSpec)

/-- 'assayerlaw11.ClashExtracts', WHERE WHAT IT READS IS OF BULK AT MOST 1048576: true; the input reads as it did. -/
def clashExtractsUptoRow : OpenClaim := { program := "ytfnmlegikcogoaadoor", sum := "3f28958107292fef7663cf3f513c98c63adfa91c41e296753a2313e08e793eb0", func := "assayer/assayerlaw11.ClashExtracts", spec := "clashExtracts", unfollowed := true, recurses := true, named := ["assayer/blake.start", "assayer/blake.orders"], apart := false, laid := [("assayer/blake.start", laid_assayer_blake_start), ("assayer/blake.orders", laid_assayer_blake_orders)], narrowed := true }
def ClashExtractsUptoSaid : Prop := clashExtractsUptoRow.holds Tryd.pinned (OpenSpec.upto clashExtractsSpec)

/-- 'assayerlaw11.ClashBinds', WHERE WHAT IT READS IS OF BULK AT MOST 1048576: true; the input reads as it did. -/
def clashBindsUptoRow : OpenClaim := { program := "ytfnmlegikcogoaadoor", sum := "3f28958107292fef7663cf3f513c98c63adfa91c41e296753a2313e08e793eb0", func := "assayer/assayerlaw11.ClashBinds", spec := "clashBinds", unfollowed := true, recurses := true, named := ["assayer/blake.start", "assayer/blake.orders"], apart := false, laid := [("assayer/blake.start", laid_assayer_blake_start), ("assayer/blake.orders", laid_assayer_blake_orders)], narrowed := true }
def ClashBindsUptoSaid : Prop := clashBindsUptoRow.holds Tryd.pinned (OpenSpec.upto clashBindsSpec)

/-- 'assayerlaw11.ClashLeads', WHERE WHAT IT READS IS OF BULK AT MOST 1048576: true; the input reads as it did. -/
def clashLeadsUptoRow : OpenClaim := { program := "ytfnmlegikcogoaadoor", sum := "3f28958107292fef7663cf3f513c98c63adfa91c41e296753a2313e08e793eb0", func := "assayer/assayerlaw11.ClashLeads", spec := "clashLeads", unfollowed := true, recurses := true, named := ["assayer/blake.start", "assayer/blake.orders"], apart := false, laid := [("assayer/blake.start", laid_assayer_blake_start), ("assayer/blake.orders", laid_assayer_blake_orders)], narrowed := true }
def ClashLeadsUptoSaid : Prop := clashLeadsUptoRow.holds Tryd.pinned (OpenSpec.upto clashLeadsSpec)

end Rows
end Go.Proofs.YtfnmlegikcogoaaDoor
