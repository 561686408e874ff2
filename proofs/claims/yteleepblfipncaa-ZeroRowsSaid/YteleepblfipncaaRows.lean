/-
  No cell of these rows narrows 'for every input' (looked for: loops, veiled, ifaces, maps, wideKeys, modest, calm, conditions, laid).
  DERIVED. THE GIVEN ROWS OF THIS SEAT. 6 by the template 'for every input the law returns true; each argument reads behind the call as it read before'; 0 by the template 'total and deterministic' (their statements: YteleepblfipncaaTotals.lean).
  GIVEN WITH THE SEED: the statements are not yours to turn. If you find one false, say at which input.
  Laid BY PROGRAM, IN A SANDBOX (cutbox-rows.mjs): the forced cells as the released guide's own fill.sh prints them over the translation 7a89c858f50c4ae2… (all of the seat's roots in one cut). By AI agents, Wed Nov 11 2026. No macro, syntax, notation, axiom, sorry.
-/
import Derived.Test.YteleepblfipncaaChecked
import GoSem.Claim
import GoSem.ClaimJoined
import GoSem.ClaimMapViews
import Derived.JoinedTies
import Derived.KernelRfl
namespace Go.Proofs.Yteleepblfipncaa
/- THE CELL 'sum', in the pinned program and in every row, IS THE sha256 OF THE DUMP (.gsa) THAT YteleepblfipncaaProg.lean LOADS. Nothing in Lean hashes anything: it is a label: what it is worth is what the hold of that sum in a sandbox is worth. -/
noncomputable def Try.pinned : Pinned := { name := "yteleepblfipncaa", sum := "7a89c858f50c4ae221def1b7bfe48b56dfe3434684f3acfdea855809bec7fd8f", checked := Try.checked }
namespace Rows
def none {H : Type} : Left H := { results := [], args := [] }

/-- 'assayerlaw06.ZeroTells': WHATEVER THE INPUT: true; the input reads as it did. -/
def zeroTellsSpec : ChangeSpec := { name := "zeroTells", fn := fun _ => fun
  | [d1, d2, d3] => { results := [.lit (.bool true)], args := [d1, d2, d3] }
  | _ => none }
def zeroTellsRow : OpenClaim := { program := "yteleepblfipncaa", sum := "7a89c858f50c4ae221def1b7bfe48b56dfe3434684f3acfdea855809bec7fd8f", func := "assayer/assayerlaw06.ZeroTells", spec := "zeroTells", inPlace := ["math/bits.Add64"], named := ["math/bits.divideError", "math/bits.overflowError"], apart := false }
def ZeroTellsSaid : Prop := zeroTellsRow.holds Try.pinned (OpenSpec.ofChange zeroTellsSpec)

/-- ITS FALSE NEIGHBOUR: 'it returns false'. Refute it at one input. -/
def zeroTellsWrong : ChangeSpec := { name := "zeroTells", fn := fun _ => fun
  | [d1, d2, d3] => { results := [.lit (.bool false)], args := [d1, d2, d3] }
  | _ => none }
def ZeroTellsWrongFalsely : Prop := zeroTellsRow.holds Try.pinned (OpenSpec.ofChange zeroTellsWrong)

/-- 'assayerlaw06.ZeroOut': WHATEVER THE INPUT: true; the input reads as it did. -/
def zeroOutSpec : ChangeSpec := { name := "zeroOut", fn := fun _ => fun
  | [d1, d2, d3] => { results := [.lit (.bool true)], args := [d1, d2, d3] }
  | _ => none }
def zeroOutRow : OpenClaim := { program := "yteleepblfipncaa", sum := "7a89c858f50c4ae221def1b7bfe48b56dfe3434684f3acfdea855809bec7fd8f", func := "assayer/assayerlaw06.ZeroOut", spec := "zeroOut", inPlace := ["math/bits.Add64"], named := ["math/bits.divideError", "math/bits.overflowError"], apart := false }
def ZeroOutSaid : Prop := zeroOutRow.holds Try.pinned (OpenSpec.ofChange zeroOutSpec)

/-- ITS FALSE NEIGHBOUR: 'it returns false'. Refute it at one input. -/
def zeroOutWrong : ChangeSpec := { name := "zeroOut", fn := fun _ => fun
  | [d1, d2, d3] => { results := [.lit (.bool false)], args := [d1, d2, d3] }
  | _ => none }
def ZeroOutWrongFalsely : Prop := zeroOutRow.holds Try.pinned (OpenSpec.ofChange zeroOutWrong)

/-- 'assayerlaw06.ZeroRows': WHATEVER THE INPUT: true; the input reads as it did. -/
def zeroRowsSpec : ChangeSpec := { name := "zeroRows", fn := fun _ => fun
  | [d1, d2, d3] => { results := [.lit (.bool true)], args := [d1, d2, d3] }
  | _ => none }
def zeroRowsRow : OpenClaim := { program := "yteleepblfipncaa", sum := "7a89c858f50c4ae221def1b7bfe48b56dfe3434684f3acfdea855809bec7fd8f", func := "assayer/assayerlaw06.ZeroRows", spec := "zeroRows", inPlace := ["math/bits.Add64"], apart := false }
def ZeroRowsSaid : Prop := zeroRowsRow.holds Try.pinned (OpenSpec.ofChange zeroRowsSpec)

/-- ITS FALSE NEIGHBOUR: 'it returns false'. Refute it at one input. -/
def zeroRowsWrong : ChangeSpec := { name := "zeroRows", fn := fun _ => fun
  | [d1, d2, d3] => { results := [.lit (.bool false)], args := [d1, d2, d3] }
  | _ => none }
def ZeroRowsWrongFalsely : Prop := zeroRowsRow.holds Try.pinned (OpenSpec.ofChange zeroRowsWrong)

/-- 'assayerlaw06.ZeroSteps': WHATEVER THE INPUT: true; the input reads as it did. -/
def zeroStepsSpec : ChangeSpec := { name := "zeroSteps", fn := fun _ => fun
  | [d1, d2] => { results := [.lit (.bool true)], args := [d1, d2] }
  | _ => none }
def zeroStepsRow : OpenClaim := { program := "yteleepblfipncaa", sum := "7a89c858f50c4ae221def1b7bfe48b56dfe3434684f3acfdea855809bec7fd8f", func := "assayer/assayerlaw06.ZeroSteps", spec := "zeroSteps", inPlace := ["math/bits.Add64"], named := ["math/bits.divideError", "math/bits.overflowError"], apart := false }
def ZeroStepsSaid : Prop := zeroStepsRow.holds Try.pinned (OpenSpec.ofChange zeroStepsSpec)

/-- ITS FALSE NEIGHBOUR: 'it returns false'. Refute it at one input. -/
def zeroStepsWrong : ChangeSpec := { name := "zeroSteps", fn := fun _ => fun
  | [d1, d2] => { results := [.lit (.bool false)], args := [d1, d2] }
  | _ => none }
def ZeroStepsWrongFalsely : Prop := zeroStepsRow.holds Try.pinned (OpenSpec.ofChange zeroStepsWrong)

/-- 'assayerlaw06.ZeroGap': WHATEVER THE INPUT: true; the input reads as it did. -/
def zeroGapSpec : ChangeSpec := { name := "zeroGap", fn := fun _ => fun
  | [d1, d2] => { results := [.lit (.bool true)], args := [d1, d2] }
  | _ => none }
def zeroGapRow : OpenClaim := { program := "yteleepblfipncaa", sum := "7a89c858f50c4ae221def1b7bfe48b56dfe3434684f3acfdea855809bec7fd8f", func := "assayer/assayerlaw06.ZeroGap", spec := "zeroGap", inPlace := ["math/bits.Add64"], named := ["math/bits.divideError", "math/bits.overflowError"], apart := false }
def ZeroGapSaid : Prop := zeroGapRow.holds Try.pinned (OpenSpec.ofChange zeroGapSpec)

/-- ITS FALSE NEIGHBOUR: 'it returns false'. Refute it at one input. -/
def zeroGapWrong : ChangeSpec := { name := "zeroGap", fn := fun _ => fun
  | [d1, d2] => { results := [.lit (.bool false)], args := [d1, d2] }
  | _ => none }
def ZeroGapWrongFalsely : Prop := zeroGapRow.holds Try.pinned (OpenSpec.ofChange zeroGapWrong)

/-- 'assayerlaw06.ZeroSpots': WHATEVER THE INPUT: true; the input reads as it did. -/
def zeroSpotsSpec : ChangeSpec := { name := "zeroSpots", fn := fun _ => fun
  | [d1, d2] => { results := [.lit (.bool true)], args := [d1, d2] }
  | _ => none }
def zeroSpotsRow : OpenClaim := { program := "yteleepblfipncaa", sum := "7a89c858f50c4ae221def1b7bfe48b56dfe3434684f3acfdea855809bec7fd8f", func := "assayer/assayerlaw06.ZeroSpots", spec := "zeroSpots", inPlace := ["math/bits.Add64"], named := ["math/bits.divideError", "math/bits.overflowError"], apart := false }
def ZeroSpotsSaid : Prop := zeroSpotsRow.holds Try.pinned (OpenSpec.ofChange zeroSpotsSpec)

/-- ITS FALSE NEIGHBOUR: 'it returns false'. Refute it at one input. -/
def zeroSpotsWrong : ChangeSpec := { name := "zeroSpots", fn := fun _ => fun
  | [d1, d2] => { results := [.lit (.bool false)], args := [d1, d2] }
  | _ => none }
def ZeroSpotsWrongFalsely : Prop := zeroSpotsRow.holds Try.pinned (OpenSpec.ofChange zeroSpotsWrong)

/- THE SECOND FORM. 'bulk': how many values and letters a reading holds, each counted each time it is reached (what is shared counts as often as it is met; a slice's spare places count too). A statement '..UptoSaid' is the law's where the arguments, and the package variables that the reading takes, are together of bulk at most 1048576: NARROWER than '..Said'. Prove '..Said' where nothing that the law and all that it calls make is longer than what came in: it says more and counts as full. Else prove '..UptoSaid'. A law counts once. -/
mutual
def uptoBulk {H : Type} : DataW H → Nat
  | .lit (.string bytes) => bytes.length + 1
  | .lit _ => 1
  | .nil => 1
  | .ptr d => uptoBulk d + 1
  | .slice elems spare => uptoBulkAll elems + uptoBulkAll spare + 1
  | .agg parts => uptoBulkAll parts + 1
  | .iface _ d => uptoBulk d + 1
  | .map entries => uptoBulkEntries entries + 1
  | .held _ => 1
def uptoBulkAll {H : Type} : List (DataW H) → Nat
  | [] => 0
  | d :: r => uptoBulk d + uptoBulkAll r
def uptoBulkEntries {H : Type} : List (Lit × DataW H) → Nat
  | [] => 0
  | x :: r => uptoBulkEntry x + uptoBulkEntries r
def uptoBulkEntry {H : Type} : Lit × DataW H → Nat
  | (.string bytes, d) => bytes.length + uptoBulk d + 1
  | (_, d) => uptoBulk d + 1
 end
def uptoSmall : (H : Type) → List (DataW H) → Bool := fun _ ds => decide (uptoBulkAll ds ≤ 1048576)
def OpenSpec.upto (s : _root_.Go.ChangeSpec) : _root_.Go.OpenSpec := { _root_.Go.OpenSpec.ofChange s with cond := some uptoSmall }

/-- 'assayerlaw06.ZeroTells', WHERE WHAT IT READS IS OF BULK AT MOST 1048576: true; the input reads as it did. -/
def zeroTellsUptoRow : OpenClaim := { program := "yteleepblfipncaa", sum := "7a89c858f50c4ae221def1b7bfe48b56dfe3434684f3acfdea855809bec7fd8f", func := "assayer/assayerlaw06.ZeroTells", spec := "zeroTells", inPlace := ["math/bits.Add64"], named := ["math/bits.divideError", "math/bits.overflowError"], apart := false, narrowed := true }
def ZeroTellsUptoSaid : Prop := zeroTellsUptoRow.holds Try.pinned (OpenSpec.upto zeroTellsSpec)

/-- 'assayerlaw06.ZeroOut', WHERE WHAT IT READS IS OF BULK AT MOST 1048576: true; the input reads as it did. -/
def zeroOutUptoRow : OpenClaim := { program := "yteleepblfipncaa", sum := "7a89c858f50c4ae221def1b7bfe48b56dfe3434684f3acfdea855809bec7fd8f", func := "assayer/assayerlaw06.ZeroOut", spec := "zeroOut", inPlace := ["math/bits.Add64"], named := ["math/bits.divideError", "math/bits.overflowError"], apart := false, narrowed := true }
def ZeroOutUptoSaid : Prop := zeroOutUptoRow.holds Try.pinned (OpenSpec.upto zeroOutSpec)

/-- 'assayerlaw06.ZeroRows', WHERE WHAT IT READS IS OF BULK AT MOST 1048576: true; the input reads as it did. -/
def zeroRowsUptoRow : OpenClaim := { program := "yteleepblfipncaa", sum := "7a89c858f50c4ae221def1b7bfe48b56dfe3434684f3acfdea855809bec7fd8f", func := "assayer/assayerlaw06.ZeroRows", spec := "zeroRows", inPlace := ["math/bits.Add64"], apart := false, narrowed := true }
def ZeroRowsUptoSaid : Prop := zeroRowsUptoRow.holds Try.pinned (OpenSpec.upto zeroRowsSpec)

/-- 'assayerlaw06.ZeroSteps', WHERE WHAT IT READS IS OF BULK AT MOST 1048576: true; the input reads as it did. -/
def zeroStepsUptoRow : OpenClaim := { program := "yteleepblfipncaa", sum := "7a89c858f50c4ae221def1b7bfe48b56dfe3434684f3acfdea855809bec7fd8f", func := "assayer/assayerlaw06.ZeroSteps", spec := "zeroSteps", inPlace := ["math/bits.Add64"], named := ["math/bits.divideError", "math/bits.overflowError"], apart := false, narrowed := true }
def ZeroStepsUptoSaid : Prop := zeroStepsUptoRow.holds Try.pinned (OpenSpec.upto zeroStepsSpec)

/-- 'assayerlaw06.ZeroGap', WHERE WHAT IT READS IS OF BULK AT MOST 1048576: true; the input reads as it did. -/
def zeroGapUptoRow : OpenClaim := { program := "yteleepblfipncaa", sum := "7a89c858f50c4ae221def1b7bfe48b56dfe3434684f3acfdea855809bec7fd8f", func := "assayer/assayerlaw06.ZeroGap", spec := "zeroGap", inPlace := ["math/bits.Add64"], named := ["math/bits.divideError", "math/bits.overflowError"], apart := false, narrowed := true }
def ZeroGapUptoSaid : Prop := zeroGapUptoRow.holds Try.pinned (OpenSpec.upto zeroGapSpec)

/-- 'assayerlaw06.ZeroSpots', WHERE WHAT IT READS IS OF BULK AT MOST 1048576: true; the input reads as it did. -/
def zeroSpotsUptoRow : OpenClaim := { program := "yteleepblfipncaa", sum := "7a89c858f50c4ae221def1b7bfe48b56dfe3434684f3acfdea855809bec7fd8f", func := "assayer/assayerlaw06.ZeroSpots", spec := "zeroSpots", inPlace := ["math/bits.Add64"], named := ["math/bits.divideError", "math/bits.overflowError"], apart := false, narrowed := true }
def ZeroSpotsUptoSaid : Prop := zeroSpotsUptoRow.holds Try.pinned (OpenSpec.upto zeroSpotsSpec)

end Rows
end Go.Proofs.Yteleepblfipncaa
