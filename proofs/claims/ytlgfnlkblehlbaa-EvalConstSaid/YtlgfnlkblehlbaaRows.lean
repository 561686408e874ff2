/-
  No cell of these rows narrows 'for every input' (looked for: loops, veiled, ifaces, maps, wideKeys, modest, calm, conditions, laid).
  DERIVED. THE GIVEN ROWS OF THIS SEAT. 6 by the template 'for every input the law returns true; each argument reads behind the call as it read before'; 0 by the template 'total and deterministic' (their statements: YtlgfnlkblehlbaaTotals.lean).
  GIVEN WITH THE SEED: the statements are not yours to turn. If you find one false, say at which input.
  Laid BY PROGRAM, IN A SANDBOX (cutbox-rows.mjs): the forced cells as the released guide's own fill.sh prints them over the translation 556d7bd9a003e623… (all of the seat's roots in one cut). By AI agents, Wed Nov 11 2026. No macro, syntax, notation, axiom, sorry.
-/
import Derived.Test.YtlgfnlkblehlbaaChecked
import GoSem.Claim
import GoSem.ClaimJoined
import GoSem.ClaimMapViews
import Derived.JoinedTies
import Derived.KernelRfl
namespace Go.Proofs.Ytlgfnlkblehlbaa
/- THE CELL 'sum', in the pinned program and in every row, IS THE sha256 OF THE DUMP (.gsa) THAT YtlgfnlkblehlbaaProg.lean LOADS. Nothing in Lean hashes anything: it is a label: what it is worth is what the hold of that sum in a sandbox is worth. -/
noncomputable def Try.pinned : Pinned := { name := "ytlgfnlkblehlbaa", sum := "556d7bd9a003e6234eba8c17f68976fac9871f975faefa2d1cf347bee608df3f", checked := Try.checked }
namespace Rows
def none {H : Type} : Left H := { results := [], args := [] }

/-- 'assayerlaw17.EvalTells': WHATEVER THE INPUT: true; the input reads as it did. -/
def evalTellsSpec : ChangeSpec := { name := "evalTells", fn := fun _ => fun
  | [d1, d2, d3] => { results := [.lit (.bool true)], args := [d1, d2, d3] }
  | _ => none }
def evalTellsRow : OpenClaim := { program := "ytlgfnlkblehlbaa", sum := "556d7bd9a003e6234eba8c17f68976fac9871f975faefa2d1cf347bee608df3f", func := "assayer/assayerlaw17.EvalTells", spec := "evalTells", inPlace := ["math/bits.Add64"], unfollowed := true, recurses := true, named := ["math/bits.divideError", "math/bits.overflowError"], apart := false }
def EvalTellsSaid : Prop := evalTellsRow.holds Try.pinned (OpenSpec.ofChange evalTellsSpec)

/-- ITS FALSE NEIGHBOUR: 'it returns false'. Refute it at one input. -/
def evalTellsWrong : ChangeSpec := { name := "evalTells", fn := fun _ => fun
  | [d1, d2, d3] => { results := [.lit (.bool false)], args := [d1, d2, d3] }
  | _ => none }
def EvalTellsWrongFalsely : Prop := evalTellsRow.holds Try.pinned (OpenSpec.ofChange evalTellsWrong)

/-- 'assayerlaw17.EvalLifts': WHATEVER THE INPUT: true; the input reads as it did. -/
def evalLiftsSpec : ChangeSpec := { name := "evalLifts", fn := fun _ => fun
  | [d1, d2, d3] => { results := [.lit (.bool true)], args := [d1, d2, d3] }
  | _ => none }
def evalLiftsRow : OpenClaim := { program := "ytlgfnlkblehlbaa", sum := "556d7bd9a003e6234eba8c17f68976fac9871f975faefa2d1cf347bee608df3f", func := "assayer/assayerlaw17.EvalLifts", spec := "evalLifts", inPlace := ["math/bits.Add64"], unfollowed := true, recurses := true, apart := false }
def EvalLiftsSaid : Prop := evalLiftsRow.holds Try.pinned (OpenSpec.ofChange evalLiftsSpec)

/-- ITS FALSE NEIGHBOUR: 'it returns false'. Refute it at one input. -/
def evalLiftsWrong : ChangeSpec := { name := "evalLifts", fn := fun _ => fun
  | [d1, d2, d3] => { results := [.lit (.bool false)], args := [d1, d2, d3] }
  | _ => none }
def EvalLiftsWrongFalsely : Prop := evalLiftsRow.holds Try.pinned (OpenSpec.ofChange evalLiftsWrong)

/-- 'assayerlaw17.EvalTurns': WHATEVER THE INPUT: true; the input reads as it did. -/
def evalTurnsSpec : ChangeSpec := { name := "evalTurns", fn := fun _ => fun
  | [d1, d2, d3] => { results := [.lit (.bool true)], args := [d1, d2, d3] }
  | _ => none }
def evalTurnsRow : OpenClaim := { program := "ytlgfnlkblehlbaa", sum := "556d7bd9a003e6234eba8c17f68976fac9871f975faefa2d1cf347bee608df3f", func := "assayer/assayerlaw17.EvalTurns", spec := "evalTurns", inPlace := ["math/bits.Add64"], unfollowed := true, recurses := true, apart := false }
def EvalTurnsSaid : Prop := evalTurnsRow.holds Try.pinned (OpenSpec.ofChange evalTurnsSpec)

/-- ITS FALSE NEIGHBOUR: 'it returns false'. Refute it at one input. -/
def evalTurnsWrong : ChangeSpec := { name := "evalTurns", fn := fun _ => fun
  | [d1, d2, d3] => { results := [.lit (.bool false)], args := [d1, d2, d3] }
  | _ => none }
def EvalTurnsWrongFalsely : Prop := evalTurnsRow.holds Try.pinned (OpenSpec.ofChange evalTurnsWrong)

/-- 'assayerlaw17.EvalJoins': WHATEVER THE INPUT: true; the input reads as it did. -/
def evalJoinsSpec : ChangeSpec := { name := "evalJoins", fn := fun _ => fun
  | [d1, d2, d3] => { results := [.lit (.bool true)], args := [d1, d2, d3] }
  | _ => none }
def evalJoinsRow : OpenClaim := { program := "ytlgfnlkblehlbaa", sum := "556d7bd9a003e6234eba8c17f68976fac9871f975faefa2d1cf347bee608df3f", func := "assayer/assayerlaw17.EvalJoins", spec := "evalJoins", inPlace := ["math/bits.Add64"], unfollowed := true, recurses := true, named := ["math/bits.divideError", "math/bits.overflowError"], apart := false }
def EvalJoinsSaid : Prop := evalJoinsRow.holds Try.pinned (OpenSpec.ofChange evalJoinsSpec)

/-- ITS FALSE NEIGHBOUR: 'it returns false'. Refute it at one input. -/
def evalJoinsWrong : ChangeSpec := { name := "evalJoins", fn := fun _ => fun
  | [d1, d2, d3] => { results := [.lit (.bool false)], args := [d1, d2, d3] }
  | _ => none }
def EvalJoinsWrongFalsely : Prop := evalJoinsRow.holds Try.pinned (OpenSpec.ofChange evalJoinsWrong)

/-- 'assayerlaw17.EvalLines': WHATEVER THE INPUT: true; the input reads as it did. -/
def evalLinesSpec : ChangeSpec := { name := "evalLines", fn := fun _ => fun
  | [d1, d2] => { results := [.lit (.bool true)], args := [d1, d2] }
  | _ => none }
def evalLinesRow : OpenClaim := { program := "ytlgfnlkblehlbaa", sum := "556d7bd9a003e6234eba8c17f68976fac9871f975faefa2d1cf347bee608df3f", func := "assayer/assayerlaw17.EvalLines", spec := "evalLines", inPlace := ["math/bits.Add64"], unfollowed := true, recurses := true, named := ["math/bits.divideError", "math/bits.overflowError"], apart := false }
def EvalLinesSaid : Prop := evalLinesRow.holds Try.pinned (OpenSpec.ofChange evalLinesSpec)

/-- ITS FALSE NEIGHBOUR: 'it returns false'. Refute it at one input. -/
def evalLinesWrong : ChangeSpec := { name := "evalLines", fn := fun _ => fun
  | [d1, d2] => { results := [.lit (.bool false)], args := [d1, d2] }
  | _ => none }
def EvalLinesWrongFalsely : Prop := evalLinesRow.holds Try.pinned (OpenSpec.ofChange evalLinesWrong)

/-- 'assayerlaw17.EvalConst': WHATEVER THE INPUT: true; the input reads as it did. -/
def evalConstSpec : ChangeSpec := { name := "evalConst", fn := fun _ => fun
  | [d1, d2, d3] => { results := [.lit (.bool true)], args := [d1, d2, d3] }
  | _ => none }
def evalConstRow : OpenClaim := { program := "ytlgfnlkblehlbaa", sum := "556d7bd9a003e6234eba8c17f68976fac9871f975faefa2d1cf347bee608df3f", func := "assayer/assayerlaw17.EvalConst", spec := "evalConst", inPlace := ["math/bits.Add64"], unfollowed := true, recurses := true, apart := false }
def EvalConstSaid : Prop := evalConstRow.holds Try.pinned (OpenSpec.ofChange evalConstSpec)

/-- ITS FALSE NEIGHBOUR: 'it returns false'. Refute it at one input. -/
def evalConstWrong : ChangeSpec := { name := "evalConst", fn := fun _ => fun
  | [d1, d2, d3] => { results := [.lit (.bool false)], args := [d1, d2, d3] }
  | _ => none }
def EvalConstWrongFalsely : Prop := evalConstRow.holds Try.pinned (OpenSpec.ofChange evalConstWrong)

/- THE SECOND FORM. 'bulk': how many values and letters a reading holds, each counted each time it is reached (what is shared counts as often as it is met; a slice's spare places count too). A statement '..UptoSaid' is the law's where the arguments, and the package variables that the reading takes, are together of bulk at most 1048576: NARROWER than '..Said'. Prove '..Said' where nothing that the law and all that it calls make is longer than what came in: it says more and counts as full. Else prove '..UptoSaid'. A law counts once. -/
mutual
def uptoBulk {H : Type} : DataW H → Nat
  | .lit (.string bytes) => bytes.length + 1
  | .lit _ => 1
  | .nil => 1
  | .ptr d => uptoBulk d + 1
  | .slice elems spare => uptoBulkAll elems + uptoBulkAll spare + 1
  | .agg parts => uptoBulkAll parts + 1
  | .iface _ d => uptoBulk d + 1
  | .map entries => uptoBulkEntries entries + 1
  | .held _ => 1
def uptoBulkAll {H : Type} : List (DataW H) → Nat
  | [] => 0
  | d :: r => uptoBulk d + uptoBulkAll r
def uptoBulkEntries {H : Type} : List (Lit × DataW H) → Nat
  | [] => 0
  | x :: r => uptoBulkEntry x + uptoBulkEntries r
def uptoBulkEntry {H : Type} : Lit × DataW H → Nat
  | (.string bytes, d) => bytes.length + uptoBulk d + 1
  | (_, d) => uptoBulk d + 1
 end
def uptoSmall : (H : Type) → List (DataW H) → Bool := fun _ ds => decide (uptoBulkAll ds ≤ 1048576)
def OpenSpec.upto (s : _root_.Go.ChangeSpec) : _root_.Go.OpenSpec := { _root_.Go.OpenSpec.ofChange s with cond := some uptoSmall }

/-- 'assayerlaw17.EvalTells', WHERE WHAT IT READS IS OF BULK AT MOST 1048576: true; the input reads as it did. -/
def evalTellsUptoRow : OpenClaim := { program := "ytlgfnlkblehlbaa", sum := "556d7bd9a003e6234eba8c17f68976fac9871f975faefa2d1cf347bee608df3f", func := "assayer/assayerlaw17.EvalTells", spec := "evalTells", inPlace := ["math/bits.Add64"], unfollowed := true, recurses := true, named := ["math/bits.divideError", "math/bits.overflowError"], apart := false, narrowed := true }
def EvalTellsUptoSaid : Prop := evalTellsUptoRow.holds Try.pinned (OpenSpec.upto evalTellsSpec)

/-- 'assayerlaw17.EvalLifts', WHERE WHAT IT READS IS OF BULK AT MOST 1048576: true; the input reads as it did. -/
def evalLiftsUptoRow : OpenClaim := { program := "ytlgfnlkblehlbaa", sum := "556d7bd9a003e6234eba8c17f68976fac9871f975faefa2d1cf347bee608df3f", func := "assayer/assayerlaw17.EvalLifts", spec := "evalLifts", inPlace := ["math/bits.Add64"], unfollowed := true, recurses := true, apart := false, narrowed := true }
def EvalLiftsUptoSaid : Prop := evalLiftsUptoRow.holds Try.pinned (OpenSpec.upto evalLiftsSpec)

/-- 'assayerlaw17.EvalTurns', WHERE WHAT IT READS IS OF BULK AT MOST 1048576: true; the input reads as it did. -/
def evalTurnsUptoRow : OpenClaim := { program := "ytlgfnlkblehlbaa", sum := "556d7bd9a003e6234eba8c17f68976fac9871f975faefa2d1cf347bee608df3f", func := "assayer/assayerlaw17.EvalTurns", spec := "evalTurns", inPlace := ["math/bits.Add64"], unfollowed := true, recurses := true, apart := false, narrowed := true }
def EvalTurnsUptoSaid : Prop := evalTurnsUptoRow.holds Try.pinned (OpenSpec.upto evalTurnsSpec)

/-- 'assayerlaw17.EvalJoins', WHERE WHAT IT READS IS OF BULK AT MOST 1048576: true; the input reads as it did. -/
def evalJoinsUptoRow : OpenClaim := { program := "ytlgfnlkblehlbaa", sum := "556d7bd9a003e6234eba8c17f68976fac9871f975faefa2d1cf347bee608df3f", func := "assayer/assayerlaw17.EvalJoins", spec := "evalJoins", inPlace := ["math/bits.Add64"], unfollowed := true, recurses := true, named := ["math/bits.divideError", "math/bits.overflowError"], apart := false, narrowed := true }
def EvalJoinsUptoSaid : Prop := evalJoinsUptoRow.holds Try.pinned (OpenSpec.upto evalJoinsSpec)

/-- 'assayerlaw17.EvalLines', WHERE WHAT IT READS IS OF BULK AT MOST 1048576: true; the input reads as it did. -/
def evalLinesUptoRow : OpenClaim := { program := "ytlgfnlkblehlbaa", sum := "556d7bd9a003e6234eba8c17f68976fac9871f975faefa2d1cf347bee608df3f", func := "assayer/assayerlaw17.EvalLines", spec := "evalLines", inPlace := ["math/bits.Add64"], unfollowed := true, recurses := true, named := ["math/bits.divideError", "math/bits.overflowError"], apart := false, narrowed := true }
def EvalLinesUptoSaid : Prop := evalLinesUptoRow.holds Try.pinned (OpenSpec.upto evalLinesSpec)

/-- 'assayerlaw17.EvalConst', WHERE WHAT IT READS IS OF BULK AT MOST 1048576: true; the input reads as it did. -/
def evalConstUptoRow : OpenClaim := { program := "ytlgfnlkblehlbaa", sum := "556d7bd9a003e6234eba8c17f68976fac9871f975faefa2d1cf347bee608df3f", func := "assayer/assayerlaw17.EvalConst", spec := "evalConst", inPlace := ["math/bits.Add64"], unfollowed := true, recurses := true, apart := false, narrowed := true }
def EvalConstUptoSaid : Prop := evalConstUptoRow.holds Try.pinned (OpenSpec.upto evalConstSpec)

end Rows
end Go.Proofs.Ytlgfnlkblehlbaa
