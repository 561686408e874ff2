/-
  NARROWER THAN 'FOR EVERY INPUT', by the rows' own cells (each row's printed sentence says how): DrawTells: laid · DrawOut: laid · DrawBounds: laid · DrawFirst: laid.
  DERIVED. THE GIVEN ROWS OF THIS SEAT. 4 by the template 'for every input the law returns true; each argument reads behind the call as it read before'; 0 by the template 'total and deterministic' (their statements: YtgnnliablgbgkaaDoorTotals.lean).
  GIVEN WITH THE SEED: the statements are not yours to turn. If you find one false, say at which input.
  Laid BY PROGRAM, IN A SANDBOX (cutbox-rows.mjs): the forced cells as the released guide's own fill.sh prints them over the translation e4e13df3dfa16380… (all of the seat's roots in one cut). By AI agents, Wed Nov 11 2026. No macro, syntax, notation, axiom, sorry.
-/
import Derived.Test.YtgnnliablgbgkaaDoorChecked
import GoSem.Claim
import GoSem.ClaimJoined
import GoSem.ClaimMapViews
import Derived.JoinedTies
import Derived.KernelRfl
namespace Go.Proofs.YtgnnliablgbgkaaDoor
/- THE CELL 'sum', in the pinned program and in every row, IS THE sha256 OF THE DUMP (.gsa) THAT YtgnnliablgbgkaaDoorProg.lean LOADS. Nothing in Lean hashes anything: it is a label: what it is worth is what the hold of that sum in a sandbox is worth. -/
noncomputable def Tryd.pinned : Pinned := { name := "ytgnnliablgbgkaadoor", sum := "e4e13df3dfa1638020bde14fa44fcc42bf937b991adda510c87bbe44c46c7ceb", checked := Tryd.checked }
namespace Rows
def none {H : Type} : Left H := { results := [], args := [] }

/- WHAT THE LISTED PACKAGE-LEVEL VARIABLES READ AS WHEN THE CALL BEGINS. Each datum BY PROGRAM (the guide's laid-datum.mjs) off the statement by which the dump's own 'gosem.cut.vars' lays the variable. In a bare row this is a premise. The card (YtgnnliablgbgkaaDoorCards.lean) ties it to the program's text. -/
def laid_assayer_blake_start {H : Type} : DataW H := .agg [.lit (.int .u32 1779033703), .lit (.int .u32 3144134277), .lit (.int .u32 1013904242), .lit (.int .u32 2773480762), .lit (.int .u32 1359893119), .lit (.int .u32 2600822924), .lit (.int .u32 528734635), .lit (.int .u32 1541459225)]
def laid_assayer_blake_orders {H : Type} : DataW H := .agg [.agg [.lit (.int .u8 0), .lit (.int .u8 1), .lit (.int .u8 2), .lit (.int .u8 3), .lit (.int .u8 4), .lit (.int .u8 5), .lit (.int .u8 6), .lit (.int .u8 7), .lit (.int .u8 8), .lit (.int .u8 9), .lit (.int .u8 10), .lit (.int .u8 11), .lit (.int .u8 12), .lit (.int .u8 13), .lit (.int .u8 14), .lit (.int .u8 15)], .agg [.lit (.int .u8 14), .lit (.int .u8 10), .lit (.int .u8 4), .lit (.int .u8 8), .lit (.int .u8 9), .lit (.int .u8 15), .lit (.int .u8 13), .lit (.int .u8 6), .lit (.int .u8 1), .lit (.int .u8 12), .lit (.int .u8 0), .lit (.int .u8 2), .lit (.int .u8 11), .lit (.int .u8 7), .lit (.int .u8 5), .lit (.int .u8 3)], .agg [.lit (.int .u8 11), .lit (.int .u8 8), .lit (.int .u8 12), .lit (.int .u8 0), .lit (.int .u8 5), .lit (.int .u8 2), .lit (.int .u8 15), .lit (.int .u8 13), .lit (.int .u8 10), .lit (.int .u8 14), .lit (.int .u8 3), .lit (.int .u8 6), .lit (.int .u8 7), .lit (.int .u8 1), .lit (.int .u8 9), .lit (.int .u8 4)], .agg [.lit (.int .u8 7), .lit (.int .u8 9), .lit (.int .u8 3), .lit (.int .u8 1), .lit (.int .u8 13), .lit (.int .u8 12), .lit (.int .u8 11), .lit (.int .u8 14), .lit (.int .u8 2), .lit (.int .u8 6), .lit (.int .u8 5), .lit (.int .u8 10), .lit (.int .u8 4), .lit (.int .u8 0), .lit (.int .u8 15), .lit (.int .u8 8)], .agg [.lit (.int .u8 9), .lit (.int .u8 0), .lit (.int .u8 5), .lit (.int .u8 7), .lit (.int .u8 2), .lit (.int .u8 4), .lit (.int .u8 10), .lit (.int .u8 15), .lit (.int .u8 14), .lit (.int .u8 1), .lit (.int .u8 11), .lit (.int .u8 12), .lit (.int .u8 6), .lit (.int .u8 8), .lit (.int .u8 3), .lit (.int .u8 13)], .agg [.lit (.int .u8 2), .lit (.int .u8 12), .lit (.int .u8 6), .lit (.int .u8 10), .lit (.int .u8 0), .lit (.int .u8 11), .lit (.int .u8 8), .lit (.int .u8 3), .lit (.int .u8 4), .lit (.int .u8 13), .lit (.int .u8 7), .lit (.int .u8 5), .lit (.int .u8 15), .lit (.int .u8 14), .lit (.int .u8 1), .lit (.int .u8 9)], .agg [.lit (.int .u8 12), .lit (.int .u8 5), .lit (.int .u8 1), .lit (.int .u8 15), .lit (.int .u8 14), .lit (.int .u8 13), .lit (.int .u8 4), .lit (.int .u8 10), .lit (.int .u8 0), .lit (.int .u8 7), .lit (.int .u8 6), .lit (.int .u8 3), .lit (.int .u8 9), .lit (.int .u8 2), .lit (.int .u8 8), .lit (.int .u8 11)], .agg [.lit (.int .u8 13), .lit (.int .u8 11), .lit (.int .u8 7), .lit (.int .u8 14), .lit (.int .u8 12), .lit (.int .u8 1), .lit (.int .u8 3), .lit (.int .u8 9), .lit (.int .u8 5), .lit (.int .u8 0), .lit (.int .u8 15), .lit (.int .u8 4), .lit (.int .u8 8), .lit (.int .u8 6), .lit (.int .u8 2), .lit (.int .u8 10)], .agg [.lit (.int .u8 6), .lit (.int .u8 15), .lit (.int .u8 14), .lit (.int .u8 9), .lit (.int .u8 11), .lit (.int .u8 3), .lit (.int .u8 0), .lit (.int .u8 8), .lit (.int .u8 12), .lit (.int .u8 2), .lit (.int .u8 13), .lit (.int .u8 7), .lit (.int .u8 1), .lit (.int .u8 4), .lit (.int .u8 10), .lit (.int .u8 5)], .agg [.lit (.int .u8 10), .lit (.int .u8 2), .lit (.int .u8 8), .lit (.int .u8 4), .lit (.int .u8 7), .lit (.int .u8 6), .lit (.int .u8 1), .lit (.int .u8 5), .lit (.int .u8 15), .lit (.int .u8 11), .lit (.int .u8 9), .lit (.int .u8 14), .lit (.int .u8 3), .lit (.int .u8 12), .lit (.int .u8 13), .lit (.int .u8 0)]]

/-- 'assayerlaw13.DrawTells': WHATEVER THE INPUT: true; the input reads as it did. -/
def drawTellsSpec : ChangeSpec := { name := "drawTells", fn := fun _ => fun
  | [d1, d2, d3] => { results := [.lit (.bool true)], args := [d1, d2, d3] }
  | _ => none }
def drawTellsRow : OpenClaim := { program := "ytgnnliablgbgkaadoor", sum := "e4e13df3dfa1638020bde14fa44fcc42bf937b991adda510c87bbe44c46c7ceb", func := "assayer/assayerlaw13.DrawTells", spec := "drawTells", named := ["assayer/blake.start", "assayer/blake.orders"], apart := false, laid := [("assayer/blake.start", laid_assayer_blake_start), ("assayer/blake.orders", laid_assayer_blake_orders)] }
def DrawTellsSaid : Prop := drawTellsRow.holds Tryd.pinned (OpenSpec.ofChange drawTellsSpec)

/-- ITS FALSE NEIGHBOUR: 'it returns false'. Refute it at one input. -/
def drawTellsWrong : ChangeSpec := { name := "drawTells", fn := fun _ => fun
  | [d1, d2, d3] => { results := [.lit (.bool false)], args := [d1, d2, d3] }
  | _ => none }
def DrawTellsWrongFalsely : Prop := drawTellsRow.holds Tryd.pinned (OpenSpec.ofChange drawTellsWrong)

/-- 'assayerlaw13.DrawOut': WHATEVER THE INPUT: true; the input reads as it did. -/
def drawOutSpec : ChangeSpec := { name := "drawOut", fn := fun _ => fun
  | [d1, d2, d3] => { results := [.lit (.bool true)], args := [d1, d2, d3] }
  | _ => none }
def drawOutRow : OpenClaim := { program := "ytgnnliablgbgkaadoor", sum := "e4e13df3dfa1638020bde14fa44fcc42bf937b991adda510c87bbe44c46c7ceb", func := "assayer/assayerlaw13.DrawOut", spec := "drawOut", inPlace := ["math/bits.Add64"], named := ["assayer/blake.start", "assayer/blake.orders", "math/bits.divideError", "math/bits.overflowError"], apart := false, laid := [("assayer/blake.start", laid_assayer_blake_start), ("assayer/blake.orders", laid_assayer_blake_orders)] }
def DrawOutSaid : Prop := drawOutRow.holds Tryd.pinned (OpenSpec.ofChange drawOutSpec)

/-- ITS FALSE NEIGHBOUR: 'it returns false'. Refute it at one input. -/
def drawOutWrong : ChangeSpec := { name := "drawOut", fn := fun _ => fun
  | [d1, d2, d3] => { results := [.lit (.bool false)], args := [d1, d2, d3] }
  | _ => none }
def DrawOutWrongFalsely : Prop := drawOutRow.holds Tryd.pinned (OpenSpec.ofChange drawOutWrong)

/-- 'assayerlaw13.DrawBounds': WHATEVER THE INPUT: true; the input reads as it did. -/
def drawBoundsSpec : ChangeSpec := { name := "drawBounds", fn := fun _ => fun
  | [d1, d2, d3] => { results := [.lit (.bool true)], args := [d1, d2, d3] }
  | _ => none }
def drawBoundsRow : OpenClaim := { program := "ytgnnliablgbgkaadoor", sum := "e4e13df3dfa1638020bde14fa44fcc42bf937b991adda510c87bbe44c46c7ceb", func := "assayer/assayerlaw13.DrawBounds", spec := "drawBounds", named := ["assayer/blake.start", "assayer/blake.orders"], apart := false, laid := [("assayer/blake.start", laid_assayer_blake_start), ("assayer/blake.orders", laid_assayer_blake_orders)] }
def DrawBoundsSaid : Prop := drawBoundsRow.holds Tryd.pinned (OpenSpec.ofChange drawBoundsSpec)

/-- ITS FALSE NEIGHBOUR: 'it returns false'. Refute it at one input. -/
def drawBoundsWrong : ChangeSpec := { name := "drawBounds", fn := fun _ => fun
  | [d1, d2, d3] => { results := [.lit (.bool false)], args := [d1, d2, d3] }
  | _ => none }
def DrawBoundsWrongFalsely : Prop := drawBoundsRow.holds Tryd.pinned (OpenSpec.ofChange drawBoundsWrong)

/-- 'assayerlaw13.DrawFirst': WHATEVER THE INPUT: true; the input reads as it did. -/
def drawFirstSpec : ChangeSpec := { name := "drawFirst", fn := fun _ => fun
  | [d1, d2] => { results := [.lit (.bool true)], args := [d1, d2] }
  | _ => none }
def drawFirstRow : OpenClaim := { program := "ytgnnliablgbgkaadoor", sum := "e4e13df3dfa1638020bde14fa44fcc42bf937b991adda510c87bbe44c46c7ceb", func := "assayer/assayerlaw13.DrawFirst", spec := "drawFirst", named := ["assayer/blake.start", "assayer/blake.orders"], apart := false, laid := [("assayer/blake.start", laid_assayer_blake_start), ("assayer/blake.orders", laid_assayer_blake_orders)] }
def DrawFirstSaid : Prop := drawFirstRow.holds Tryd.pinned (OpenSpec.ofChange drawFirstSpec)

/-- ITS FALSE NEIGHBOUR: 'it returns false'. Refute it at one input. -/
def drawFirstWrong : ChangeSpec := { name := "drawFirst", fn := fun _ => fun
  | [d1, d2] => { results := [.lit (.bool false)], args := [d1, d2] }
  | _ => none }
def DrawFirstWrongFalsely : Prop := drawFirstRow.holds Tryd.pinned (OpenSpec.ofChange drawFirstWrong)

/- THE SECOND FORM. 'bulk': how many values and letters a reading holds, each counted each time it is reached (what is shared counts as often as it is met; a slice's spare places count too). A statement '..UptoSaid' is the law's where the arguments, and the package variables that the reading takes, are together of bulk at most 1048576: NARROWER than '..Said'. Prove '..Said' where nothing that the law and all that it calls make is longer than what came in: it says more and counts as full. Else prove '..UptoSaid'. A law counts once. -/
mutual
def uptoBulk {H : Type} : DataW H → Nat
  | .lit (.string bytes) => bytes.length + 1
  | .lit _ => 1
  | .nil => 1
  | .ptr d => uptoBulk d + 1
  | .slice elems spare => uptoBulkAll elems + uptoBulkAll spare + 1
  | .agg parts => uptoBulkAll parts + 1
  | .iface _ d => uptoBulk d + 1
  | .map entries => uptoBulkEntries entries + 1
  | .held _ => 1
def uptoBulkAll {H : Type} : List (DataW H) → Nat
  | [] => 0
  | d :: r => uptoBulk d + uptoBulkAll r
def uptoBulkEntries {H : Type} : List (Lit × DataW H) → Nat
  | [] => 0
  | x :: r => uptoBulkEntry x + uptoBulkEntries r
def uptoBulkEntry {H : Type} : Lit × DataW H → Nat
  | (.string bytes, d) => bytes.length + uptoBulk d + 1
  | (_, d) => uptoBulk d + 1
 end
def uptoSmall : (H : Type) → List (DataW H) → Bool := fun _ ds => decide (uptoBulkAll ds ≤ 1048576)
def OpenSpec.upto (s : _root_.Go.ChangeSpec) : _root_.Go.OpenSpec := { _root_.Go.OpenSpec.ofChange s with cond := some uptoSmall }

/-- 'assayerlaw13.DrawTells', WHERE WHAT IT READS IS OF BULK AT MOST 1048576: true; the input reads as it did. -/
def drawTellsUptoRow : OpenClaim := { program := "ytgnnliablgbgkaadoor", sum := "e4e13df3dfa1638020bde14fa44fcc42bf937b991adda510c87bbe44c46c7ceb", func := "assayer/assayerlaw13.DrawTells", spec := "drawTells", named := ["assayer/blake.start", "assayer/blake.orders"], apart := false, laid := [("assayer/blake.start", laid_assayer_blake_start), ("assayer/blake.orders", laid_assayer_blake_orders)], narrowed := true }
def DrawTellsUptoSaid : Prop := drawTellsUptoRow.holds Tryd.pinned (OpenSpec.upto drawTellsSpec)

/-- 'assayerlaw13.DrawOut', WHERE WHAT IT READS IS OF BULK AT MOST 1048576: true; the input reads as it did. -/
def drawOutUptoRow : OpenClaim := { program := "ytgnnliablgbgkaadoor", sum := "e4e13df3dfa1638020bde14fa44fcc42bf937b991adda510c87bbe44c46c7ceb", func := "assayer/assayerlaw13.DrawOut", spec := "drawOut", inPlace := ["math/bits.Add64"], named := ["assayer/blake.start", "assayer/blake.orders", "math/bits.divideError", "math/bits.overflowError"], apart := false, laid := [("assayer/blake.start", laid_assayer_blake_start), ("assayer/blake.orders", laid_assayer_blake_orders)], narrowed := true }
def DrawOutUptoSaid : Prop := drawOutUptoRow.holds Tryd.pinned (OpenSpec.upto drawOutSpec)

/-- 'assayerlaw13.DrawBounds', WHERE WHAT IT READS IS OF BULK AT MOST 1048576: true; the input reads as it did. -/
def drawBoundsUptoRow : OpenClaim := { program := "ytgnnliablgbgkaadoor", sum := "e4e13df3dfa1638020bde14fa44fcc42bf937b991adda510c87bbe44c46c7ceb", func := "assayer/assayerlaw13.DrawBounds", spec := "drawBounds", named := ["assayer/blake.start", "assayer/blake.orders"], apart := false, laid := [("assayer/blake.start", laid_assayer_blake_start), ("assayer/blake.orders", laid_assayer_blake_orders)], narrowed := true }
def DrawBoundsUptoSaid : Prop := drawBoundsUptoRow.holds Tryd.pinned (OpenSpec.upto drawBoundsSpec)

/-- 'assayerlaw13.DrawFirst', WHERE WHAT IT READS IS OF BULK AT MOST 1048576: true; the input reads as it did. -/
def drawFirstUptoRow : OpenClaim := { program := "ytgnnliablgbgkaadoor", sum := "e4e13df3dfa1638020bde14fa44fcc42bf937b991adda510c87bbe44c46c7ceb", func := "assayer/assayerlaw13.DrawFirst", spec := "drawFirst", named := ["assayer/blake.start", "assayer/blake.orders"], apart := false, laid := [("assayer/blake.start", laid_assayer_blake_start), ("assayer/blake.orders", laid_assayer_blake_orders)], narrowed := true }
def DrawFirstUptoSaid : Prop := drawFirstUptoRow.holds Tryd.pinned (OpenSpec.upto drawFirstSpec)

end Rows
end Go.Proofs.YtgnnliablgbgkaaDoor
