/-
  NARROWER THAN 'FOR EVERY INPUT', by the rows' own cells (each row's printed sentence says how): RootTells: laid · RootInverts: laid · RootOrders: laid · RootTurns: laid · RootEach: laid · RootPairs: laid.
  DERIVED. THE GIVEN ROWS OF THIS SEAT. 6 by the template 'for every input the law returns true; each argument reads behind the call as it read before'; 0 by the template 'total and deterministic' (their statements: YtbhnbpagjmeffaaDoorTotals.lean).
  GIVEN WITH THE SEED: the statements are not yours to turn. If you find one false, say at which input.
  Laid BY PROGRAM, IN A SANDBOX (cutbox-rows.mjs): the forced cells as the released guide's own fill.sh prints them over the translation 0ab698ba09d0ba4b… (all of the seat's roots in one cut). By AI agents, Wed Nov 11 2026. No macro, syntax, notation, axiom, sorry.
-/
import Derived.Test.YtbhnbpagjmeffaaDoorChecked
import GoSem.Claim
import GoSem.ClaimJoined
import GoSem.ClaimMapViews
import Derived.JoinedTies
import Derived.KernelRfl
namespace Go.Proofs.YtbhnbpagjmeffaaDoor
/- THE CELL 'sum', in the pinned program and in every row, IS THE sha256 OF THE DUMP (.gsa) THAT YtbhnbpagjmeffaaDoorProg.lean LOADS. Nothing in Lean hashes anything: it is a label: what it is worth is what the hold of that sum in a sandbox is worth. -/
noncomputable def Tryd.pinned : Pinned := { name := "ytbhnbpagjmeffaadoor", sum := "0ab698ba09d0ba4b058aec0cbcbe8464d3742ae5f261adb5e7f1652b178fb4a9", checked := Tryd.checked }
namespace Rows
def none {H : Type} : Left H := { results := [], args := [] }

/- WHAT THE LISTED PACKAGE-LEVEL VARIABLES READ AS WHEN THE CALL BEGINS. Each datum BY PROGRAM (the guide's laid-datum.mjs) off the statement by which the dump's own 'gosem.cut.vars' lays the variable. In a bare row this is a premise. The card (YtbhnbpagjmeffaaDoorCards.lean) ties it to the program's text. -/
def laid_math_bits_deBruijn64tab {H : Type} : DataW H := .agg [.lit (.int .u8 0), .lit (.int .u8 1), .lit (.int .u8 56), .lit (.int .u8 2), .lit (.int .u8 57), .lit (.int .u8 49), .lit (.int .u8 28), .lit (.int .u8 3), .lit (.int .u8 61), .lit (.int .u8 58), .lit (.int .u8 42), .lit (.int .u8 50), .lit (.int .u8 38), .lit (.int .u8 29), .lit (.int .u8 17), .lit (.int .u8 4), .lit (.int .u8 62), .lit (.int .u8 47), .lit (.int .u8 59), .lit (.int .u8 36), .lit (.int .u8 45), .lit (.int .u8 43), .lit (.int .u8 51), .lit (.int .u8 22), .lit (.int .u8 53), .lit (.int .u8 39), .lit (.int .u8 33), .lit (.int .u8 30), .lit (.int .u8 24), .lit (.int .u8 18), .lit (.int .u8 12), .lit (.int .u8 5), .lit (.int .u8 63), .lit (.int .u8 55), .lit (.int .u8 48), .lit (.int .u8 27), .lit (.int .u8 60), .lit (.int .u8 41), .lit (.int .u8 37), .lit (.int .u8 16), .lit (.int .u8 46), .lit (.int .u8 35), .lit (.int .u8 44), .lit (.int .u8 21), .lit (.int .u8 52), .lit (.int .u8 32), .lit (.int .u8 23), .lit (.int .u8 11), .lit (.int .u8 54), .lit (.int .u8 26), .lit (.int .u8 40), .lit (.int .u8 15), .lit (.int .u8 34), .lit (.int .u8 20), .lit (.int .u8 31), .lit (.int .u8 10), .lit (.int .u8 25), .lit (.int .u8 14), .lit (.int .u8 19), .lit (.int .u8 9), .lit (.int .u8 13), .lit (.int .u8 8), .lit (.int .u8 7), .lit (.int .u8 6)]

/-- 'assayerlaw03.RootTells': WHATEVER THE INPUT: true; the input reads as it did. -/
def rootTellsSpec : ChangeSpec := { name := "rootTells", fn := fun _ => fun
  | [d1, d2] => { results := [.lit (.bool true)], args := [d1, d2] }
  | _ => none }
def rootTellsRow : OpenClaim := { program := "ytbhnbpagjmeffaadoor", sum := "0ab698ba09d0ba4b058aec0cbcbe8464d3742ae5f261adb5e7f1652b178fb4a9", func := "assayer/assayerlaw03.RootTells", spec := "rootTells", inPlace := ["math/bits.Add64"], unfollowed := true, recurses := true, named := ["math/bits.divideError", "math/bits.overflowError", "math/bits.deBruijn64tab"], apart := false, laid := [("math/bits.deBruijn64tab", laid_math_bits_deBruijn64tab)] }
def RootTellsSaid : Prop := rootTellsRow.holds Tryd.pinned (OpenSpec.ofChange rootTellsSpec)

/-- ITS FALSE NEIGHBOUR: 'it returns false'. Refute it at one input. -/
def rootTellsWrong : ChangeSpec := { name := "rootTells", fn := fun _ => fun
  | [d1, d2] => { results := [.lit (.bool false)], args := [d1, d2] }
  | _ => none }
def RootTellsWrongFalsely : Prop := rootTellsRow.holds Tryd.pinned (OpenSpec.ofChange rootTellsWrong)

/-- 'assayerlaw03.RootInverts': WHATEVER THE INPUT: true; the input reads as it did. -/
def rootInvertsSpec : ChangeSpec := { name := "rootInverts", fn := fun _ => fun
  | [d1, d2] => { results := [.lit (.bool true)], args := [d1, d2] }
  | _ => none }
def rootInvertsRow : OpenClaim := { program := "ytbhnbpagjmeffaadoor", sum := "0ab698ba09d0ba4b058aec0cbcbe8464d3742ae5f261adb5e7f1652b178fb4a9", func := "assayer/assayerlaw03.RootInverts", spec := "rootInverts", inPlace := ["math/bits.Add64"], unfollowed := true, recurses := true, named := ["math/bits.divideError", "math/bits.overflowError", "math/bits.deBruijn64tab"], apart := false, laid := [("math/bits.deBruijn64tab", laid_math_bits_deBruijn64tab)] }
def RootInvertsSaid : Prop := rootInvertsRow.holds Tryd.pinned (OpenSpec.ofChange rootInvertsSpec)

/-- ITS FALSE NEIGHBOUR: 'it returns false'. Refute it at one input. -/
def rootInvertsWrong : ChangeSpec := { name := "rootInverts", fn := fun _ => fun
  | [d1, d2] => { results := [.lit (.bool false)], args := [d1, d2] }
  | _ => none }
def RootInvertsWrongFalsely : Prop := rootInvertsRow.holds Tryd.pinned (OpenSpec.ofChange rootInvertsWrong)

/-- 'assayerlaw03.RootOrders': WHATEVER THE INPUT: true; the input reads as it did. -/
def rootOrdersSpec : ChangeSpec := { name := "rootOrders", fn := fun _ => fun
  | [d] => { results := [.lit (.bool true)], args := [d] }
  | _ => none }
def rootOrdersRow : OpenClaim := { program := "ytbhnbpagjmeffaadoor", sum := "0ab698ba09d0ba4b058aec0cbcbe8464d3742ae5f261adb5e7f1652b178fb4a9", func := "assayer/assayerlaw03.RootOrders", spec := "rootOrders", inPlace := ["math/bits.Add64"], unfollowed := true, recurses := true, named := ["math/bits.divideError", "math/bits.overflowError", "math/bits.deBruijn64tab"], apart := false, laid := [("math/bits.deBruijn64tab", laid_math_bits_deBruijn64tab)] }
def RootOrdersSaid : Prop := rootOrdersRow.holds Tryd.pinned (OpenSpec.ofChange rootOrdersSpec)

/-- ITS FALSE NEIGHBOUR: 'it returns false'. Refute it at one input. -/
def rootOrdersWrong : ChangeSpec := { name := "rootOrders", fn := fun _ => fun
  | [d] => { results := [.lit (.bool false)], args := [d] }
  | _ => none }
def RootOrdersWrongFalsely : Prop := rootOrdersRow.holds Tryd.pinned (OpenSpec.ofChange rootOrdersWrong)

/-- 'assayerlaw03.RootTurns': WHATEVER THE INPUT: true; the input reads as it did. -/
def rootTurnsSpec : ChangeSpec := { name := "rootTurns", fn := fun _ => fun
  | [d1, d2, d3] => { results := [.lit (.bool true)], args := [d1, d2, d3] }
  | _ => none }
def rootTurnsRow : OpenClaim := { program := "ytbhnbpagjmeffaadoor", sum := "0ab698ba09d0ba4b058aec0cbcbe8464d3742ae5f261adb5e7f1652b178fb4a9", func := "assayer/assayerlaw03.RootTurns", spec := "rootTurns", inPlace := ["math/bits.Add64"], unfollowed := true, recurses := true, named := ["math/bits.divideError", "math/bits.overflowError", "math/bits.deBruijn64tab"], apart := false, laid := [("math/bits.deBruijn64tab", laid_math_bits_deBruijn64tab)] }
def RootTurnsSaid : Prop := rootTurnsRow.holds Tryd.pinned (OpenSpec.ofChange rootTurnsSpec)

/-- ITS FALSE NEIGHBOUR: 'it returns false'. Refute it at one input. -/
def rootTurnsWrong : ChangeSpec := { name := "rootTurns", fn := fun _ => fun
  | [d1, d2, d3] => { results := [.lit (.bool false)], args := [d1, d2, d3] }
  | _ => none }
def RootTurnsWrongFalsely : Prop := rootTurnsRow.holds Tryd.pinned (OpenSpec.ofChange rootTurnsWrong)

/-- 'assayerlaw03.RootEach': WHATEVER THE INPUT: true; the input reads as it did. -/
def rootEachSpec : ChangeSpec := { name := "rootEach", fn := fun _ => fun
  | [d] => { results := [.lit (.bool true)], args := [d] }
  | _ => none }
def rootEachRow : OpenClaim := { program := "ytbhnbpagjmeffaadoor", sum := "0ab698ba09d0ba4b058aec0cbcbe8464d3742ae5f261adb5e7f1652b178fb4a9", func := "assayer/assayerlaw03.RootEach", spec := "rootEach", inPlace := ["math/bits.Add64"], unfollowed := true, recurses := true, named := ["math/bits.divideError", "math/bits.overflowError", "math/bits.deBruijn64tab"], apart := false, laid := [("math/bits.deBruijn64tab", laid_math_bits_deBruijn64tab)] }
def RootEachSaid : Prop := rootEachRow.holds Tryd.pinned (OpenSpec.ofChange rootEachSpec)

/-- ITS FALSE NEIGHBOUR: 'it returns false'. Refute it at one input. -/
def rootEachWrong : ChangeSpec := { name := "rootEach", fn := fun _ => fun
  | [d] => { results := [.lit (.bool false)], args := [d] }
  | _ => none }
def RootEachWrongFalsely : Prop := rootEachRow.holds Tryd.pinned (OpenSpec.ofChange rootEachWrong)

/-- 'assayerlaw03.RootPairs': WHATEVER THE INPUT: true; the input reads as it did. -/
def rootPairsSpec : ChangeSpec := { name := "rootPairs", fn := fun _ => fun
  | [d] => { results := [.lit (.bool true)], args := [d] }
  | _ => none }
def rootPairsRow : OpenClaim := { program := "ytbhnbpagjmeffaadoor", sum := "0ab698ba09d0ba4b058aec0cbcbe8464d3742ae5f261adb5e7f1652b178fb4a9", func := "assayer/assayerlaw03.RootPairs", spec := "rootPairs", inPlace := ["math/bits.Add64"], unfollowed := true, recurses := true, named := ["math/bits.divideError", "math/bits.overflowError", "math/bits.deBruijn64tab"], apart := false, laid := [("math/bits.deBruijn64tab", laid_math_bits_deBruijn64tab)] }
def RootPairsSaid : Prop := rootPairsRow.holds Tryd.pinned (OpenSpec.ofChange rootPairsSpec)

/-- ITS FALSE NEIGHBOUR: 'it returns false'. Refute it at one input. -/
def rootPairsWrong : ChangeSpec := { name := "rootPairs", fn := fun _ => fun
  | [d] => { results := [.lit (.bool false)], args := [d] }
  | _ => none }
def RootPairsWrongFalsely : Prop := rootPairsRow.holds Tryd.pinned (OpenSpec.ofChange rootPairsWrong)

/- THE SECOND FORM. 'bulk': how many values and letters a reading holds, each counted each time it is reached (what is shared counts as often as it is met; a slice's spare places count too). A statement '..UptoSaid' is the law's where the arguments, and the package variables that the reading takes, are together of bulk at most 1048576: NARROWER than '..Said'. Prove '..Said' where nothing that the law and all that it calls make is longer than what came in: it says more and counts as full. Else prove '..UptoSaid'. A law counts once. -/
mutual
def uptoBulk {H : Type} : DataW H → Nat
  | .lit (.string bytes) => bytes.length + 1
  | .lit _ => 1
  | .nil => 1
  | .ptr d => uptoBulk d + 1
  | .slice elems spare => uptoBulkAll elems + uptoBulkAll spare + 1
  | .agg parts => uptoBulkAll parts + 1
  | .iface _ d => uptoBulk d + 1
  | .map entries => uptoBulkEntries entries + 1
  | .held _ => 1
def uptoBulkAll {H : Type} : List (DataW H) → Nat
  | [] => 0
  | d :: r => uptoBulk d + uptoBulkAll r
def uptoBulkEntries {H : Type} : List (Lit × DataW H) → Nat
  | [] => 0
  | x :: r => uptoBulkEntry x + uptoBulkEntries r
def uptoBulkEntry {H : Type} : Lit × DataW H → Nat
  | (.string bytes, d) => bytes.length + uptoBulk d + 1
  | (_, d) => uptoBulk d + 1
 end
def uptoSmall : (H : Type) → List (DataW H) → Bool := fun _ ds => decide (uptoBulkAll ds ≤ 1048576)
def OpenSpec.upto (s : _root_.Go.ChangeSpec) : _root_.Go.OpenSpec := { _root_.Go.OpenSpec.ofChange s with cond := some uptoSmall }

/-- 'assayerlaw03.RootTells', WHERE WHAT IT READS IS OF BULK AT MOST 1048576: true; the input reads as it did. -/
def rootTellsUptoRow : OpenClaim := { program := "ytbhnbpagjmeffaadoor", sum := "0ab698ba09d0ba4b058aec0cbcbe8464d3742ae5f261adb5e7f1652b178fb4a9", func := "assayer/assayerlaw03.RootTells", spec := "rootTells", inPlace := ["math/bits.Add64"], unfollowed := true, recurses := true, named := ["math/bits.divideError", "math/bits.overflowError", "math/bits.deBruijn64tab"], apart := false, laid := [("math/bits.deBruijn64tab", laid_math_bits_deBruijn64tab)], narrowed := true }
def RootTellsUptoSaid : Prop := rootTellsUptoRow.holds Tryd.pinned (OpenSpec.upto rootTellsSpec)

/-- 'assayerlaw03.RootInverts', WHERE WHAT IT READS IS OF BULK AT MOST 1048576: true; the input reads as it did. -/
def rootInvertsUptoRow : OpenClaim := { program := "ytbhnbpagjmeffaadoor", sum := "0ab698ba09d0ba4b058aec0cbcbe8464d3742ae5f261adb5e7f1652b178fb4a9", func := "assayer/assayerlaw03.RootInverts", spec := "rootInverts", inPlace := ["math/bits.Add64"], unfollowed := true, recurses := true, named := ["math/bits.divideError", "math/bits.overflowError", "math/bits.deBruijn64tab"], apart := false, laid := [("math/bits.deBruijn64tab", laid_math_bits_deBruijn64tab)], narrowed := true }
def RootInvertsUptoSaid : Prop := rootInvertsUptoRow.holds Tryd.pinned (OpenSpec.upto rootInvertsSpec)

/-- 'assayerlaw03.RootOrders', WHERE WHAT IT READS IS OF BULK AT MOST 1048576: true; the input reads as it did. -/
def rootOrdersUptoRow : OpenClaim := { program := "ytbhnbpagjmeffaadoor", sum := "0ab698ba09d0ba4b058aec0cbcbe8464d3742ae5f261adb5e7f1652b178fb4a9", func := "assayer/assayerlaw03.RootOrders", spec := "rootOrders", inPlace := ["math/bits.Add64"], unfollowed := true, recurses := true, named := ["math/bits.divideError", "math/bits.overflowError", "math/bits.deBruijn64tab"], apart := false, laid := [("math/bits.deBruijn64tab", laid_math_bits_deBruijn64tab)], narrowed := true }
def RootOrdersUptoSaid : Prop := rootOrdersUptoRow.holds Tryd.pinned (OpenSpec.upto rootOrdersSpec)

/-- 'assayerlaw03.RootTurns', WHERE WHAT IT READS IS OF BULK AT MOST 1048576: true; the input reads as it did. -/
def rootTurnsUptoRow : OpenClaim := { program := "ytbhnbpagjmeffaadoor", sum := "0ab698ba09d0ba4b058aec0cbcbe8464d3742ae5f261adb5e7f1652b178fb4a9", func := "assayer/assayerlaw03.RootTurns", spec := "rootTurns", inPlace := ["math/bits.Add64"], unfollowed := true, recurses := true, named := ["math/bits.divideError", "math/bits.overflowError", "math/bits.deBruijn64tab"], apart := false, laid := [("math/bits.deBruijn64tab", laid_math_bits_deBruijn64tab)], narrowed := true }
def RootTurnsUptoSaid : Prop := rootTurnsUptoRow.holds Tryd.pinned (OpenSpec.upto rootTurnsSpec)

/-- 'assayerlaw03.RootEach', WHERE WHAT IT READS IS OF BULK AT MOST 1048576: true; the input reads as it did. -/
def rootEachUptoRow : OpenClaim := { program := "ytbhnbpagjmeffaadoor", sum := "0ab698ba09d0ba4b058aec0cbcbe8464d3742ae5f261adb5e7f1652b178fb4a9", func := "assayer/assayerlaw03.RootEach", spec := "rootEach", inPlace := ["math/bits.Add64"], unfollowed := true, recurses := true, named := ["math/bits.divideError", "math/bits.overflowError", "math/bits.deBruijn64tab"], apart := false, laid := [("math/bits.deBruijn64tab", laid_math_bits_deBruijn64tab)], narrowed := true }
def RootEachUptoSaid : Prop := rootEachUptoRow.holds Tryd.pinned (OpenSpec.upto rootEachSpec)

/-- 'assayerlaw03.RootPairs', WHERE WHAT IT READS IS OF BULK AT MOST 1048576: true; the input reads as it did. -/
def rootPairsUptoRow : OpenClaim := { program := "ytbhnbpagjmeffaadoor", sum := "0ab698ba09d0ba4b058aec0cbcbe8464d3742ae5f261adb5e7f1652b178fb4a9", func := "assayer/assayerlaw03.RootPairs", spec := "rootPairs", inPlace := ["math/bits.Add64"], unfollowed := true, recurses := true, named := ["math/bits.divideError", "math/bits.overflowError", "math/bits.deBruijn64tab"], apart := false, laid := [("math/bits.deBruijn64tab", laid_math_bits_deBruijn64tab)], narrowed := true }
def RootPairsUptoSaid : Prop := rootPairsUptoRow.holds Tryd.pinned (OpenSpec.upto rootPairsSpec)

end Rows
end Go.Proofs.YtbhnbpagjmeffaaDoor
