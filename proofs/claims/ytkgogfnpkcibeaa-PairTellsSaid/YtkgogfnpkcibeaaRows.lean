/-
  No cell of these rows narrows 'for every input' (looked for: loops, veiled, ifaces, maps, wideKeys, modest, calm, conditions, laid).
  DERIVED. THE GIVEN ROWS OF THIS SEAT. 6 by the template 'for every input the law returns true; each argument reads behind the call as it read before'; 0 by the template 'total and deterministic' (their statements: YtkgogfnpkcibeaaTotals.lean).
  GIVEN WITH THE SEED: the statements are not yours to turn. If you find one false, say at which input.
  Laid BY PROGRAM, IN A SANDBOX (cutbox-rows.mjs): the forced cells as the released guide's own fill.sh prints them over the translation 1f2b211c1c19aa2b… (all of the seat's roots in one cut). By AI agents, Wed Nov 11 2026. No macro, syntax, notation, axiom, sorry.
-/
import Derived.Test.YtkgogfnpkcibeaaChecked
import GoSem.Claim
import GoSem.ClaimJoined
import GoSem.ClaimMapViews
import Derived.JoinedTies
import Derived.KernelRfl
namespace Go.Proofs.Ytkgogfnpkcibeaa
/- THE CELL 'sum', in the pinned program and in every row, IS THE sha256 OF THE DUMP (.gsa) THAT YtkgogfnpkcibeaaProg.lean LOADS. Nothing in Lean hashes anything: it is a label: what it is worth is what the hold of that sum in a sandbox is worth. -/
noncomputable def Try.pinned : Pinned := { name := "ytkgogfnpkcibeaa", sum := "1f2b211c1c19aa2bb92f4ba2e20cf04145dde17cbbe50fa73806d062954d6435", checked := Try.checked }
namespace Rows
def none {H : Type} : Left H := { results := [], args := [] }

/-- 'assayerlaw02.PairTells': WHATEVER THE INPUT: true; the input reads as it did. -/
def pairTellsSpec : ChangeSpec := { name := "pairTells", fn := fun _ => fun
  | [d1, d2, d3] => { results := [.lit (.bool true)], args := [d1, d2, d3] }
  | _ => none }
def pairTellsRow : OpenClaim := { program := "ytkgogfnpkcibeaa", sum := "1f2b211c1c19aa2bb92f4ba2e20cf04145dde17cbbe50fa73806d062954d6435", func := "assayer/assayerlaw02.PairTells", spec := "pairTells", inPlace := ["math/bits.Add64"], named := ["math/bits.divideError", "math/bits.overflowError"], apart := false }
def PairTellsSaid : Prop := pairTellsRow.holds Try.pinned (OpenSpec.ofChange pairTellsSpec)

/-- ITS FALSE NEIGHBOUR: 'it returns false'. Refute it at one input. -/
def pairTellsWrong : ChangeSpec := { name := "pairTells", fn := fun _ => fun
  | [d1, d2, d3] => { results := [.lit (.bool false)], args := [d1, d2, d3] }
  | _ => none }
def PairTellsWrongFalsely : Prop := pairTellsRow.holds Try.pinned (OpenSpec.ofChange pairTellsWrong)

/-- 'assayerlaw02.PairPowers': WHATEVER THE INPUT: true; the input reads as it did. -/
def pairPowersSpec : ChangeSpec := { name := "pairPowers", fn := fun _ => fun
  | [d1, d2, d3] => { results := [.lit (.bool true)], args := [d1, d2, d3] }
  | _ => none }
def pairPowersRow : OpenClaim := { program := "ytkgogfnpkcibeaa", sum := "1f2b211c1c19aa2bb92f4ba2e20cf04145dde17cbbe50fa73806d062954d6435", func := "assayer/assayerlaw02.PairPowers", spec := "pairPowers", inPlace := ["math/bits.Add64"], named := ["math/bits.divideError", "math/bits.overflowError"], apart := false }
def PairPowersSaid : Prop := pairPowersRow.holds Try.pinned (OpenSpec.ofChange pairPowersSpec)

/-- ITS FALSE NEIGHBOUR: 'it returns false'. Refute it at one input. -/
def pairPowersWrong : ChangeSpec := { name := "pairPowers", fn := fun _ => fun
  | [d1, d2, d3] => { results := [.lit (.bool false)], args := [d1, d2, d3] }
  | _ => none }
def PairPowersWrongFalsely : Prop := pairPowersRow.holds Try.pinned (OpenSpec.ofChange pairPowersWrong)

/-- 'assayerlaw02.PairField': WHATEVER THE INPUT: true; the input reads as it did. -/
def pairFieldSpec : ChangeSpec := { name := "pairField", fn := fun _ => fun
  | [d1, d2, d3] => { results := [.lit (.bool true)], args := [d1, d2, d3] }
  | _ => none }
def pairFieldRow : OpenClaim := { program := "ytkgogfnpkcibeaa", sum := "1f2b211c1c19aa2bb92f4ba2e20cf04145dde17cbbe50fa73806d062954d6435", func := "assayer/assayerlaw02.PairField", spec := "pairField", inPlace := ["math/bits.Add64"], apart := false }
def PairFieldSaid : Prop := pairFieldRow.holds Try.pinned (OpenSpec.ofChange pairFieldSpec)

/-- ITS FALSE NEIGHBOUR: 'it returns false'. Refute it at one input. -/
def pairFieldWrong : ChangeSpec := { name := "pairField", fn := fun _ => fun
  | [d1, d2, d3] => { results := [.lit (.bool false)], args := [d1, d2, d3] }
  | _ => none }
def PairFieldWrongFalsely : Prop := pairFieldRow.holds Try.pinned (OpenSpec.ofChange pairFieldWrong)

/-- 'assayerlaw02.PairTurns': WHATEVER THE INPUT: true; the input reads as it did. -/
def pairTurnsSpec : ChangeSpec := { name := "pairTurns", fn := fun _ => fun
  | [d1, d2] => { results := [.lit (.bool true)], args := [d1, d2] }
  | _ => none }
def pairTurnsRow : OpenClaim := { program := "ytkgogfnpkcibeaa", sum := "1f2b211c1c19aa2bb92f4ba2e20cf04145dde17cbbe50fa73806d062954d6435", func := "assayer/assayerlaw02.PairTurns", spec := "pairTurns", inPlace := ["math/bits.Add64"], apart := false }
def PairTurnsSaid : Prop := pairTurnsRow.holds Try.pinned (OpenSpec.ofChange pairTurnsSpec)

/-- ITS FALSE NEIGHBOUR: 'it returns false'. Refute it at one input. -/
def pairTurnsWrong : ChangeSpec := { name := "pairTurns", fn := fun _ => fun
  | [d1, d2] => { results := [.lit (.bool false)], args := [d1, d2] }
  | _ => none }
def PairTurnsWrongFalsely : Prop := pairTurnsRow.holds Try.pinned (OpenSpec.ofChange pairTurnsWrong)

/-- 'assayerlaw02.PairNorms': WHATEVER THE INPUT: true; the input reads as it did. -/
def pairNormsSpec : ChangeSpec := { name := "pairNorms", fn := fun _ => fun
  | [d1, d2] => { results := [.lit (.bool true)], args := [d1, d2] }
  | _ => none }
def pairNormsRow : OpenClaim := { program := "ytkgogfnpkcibeaa", sum := "1f2b211c1c19aa2bb92f4ba2e20cf04145dde17cbbe50fa73806d062954d6435", func := "assayer/assayerlaw02.PairNorms", spec := "pairNorms", inPlace := ["math/bits.Add64"], apart := false }
def PairNormsSaid : Prop := pairNormsRow.holds Try.pinned (OpenSpec.ofChange pairNormsSpec)

/-- ITS FALSE NEIGHBOUR: 'it returns false'. Refute it at one input. -/
def pairNormsWrong : ChangeSpec := { name := "pairNorms", fn := fun _ => fun
  | [d1, d2] => { results := [.lit (.bool false)], args := [d1, d2] }
  | _ => none }
def PairNormsWrongFalsely : Prop := pairNormsRow.holds Try.pinned (OpenSpec.ofChange pairNormsWrong)

/-- 'assayerlaw02.PairScales': WHATEVER THE INPUT: true; the input reads as it did. -/
def pairScalesSpec : ChangeSpec := { name := "pairScales", fn := fun _ => fun
  | [d1, d2, d3] => { results := [.lit (.bool true)], args := [d1, d2, d3] }
  | _ => none }
def pairScalesRow : OpenClaim := { program := "ytkgogfnpkcibeaa", sum := "1f2b211c1c19aa2bb92f4ba2e20cf04145dde17cbbe50fa73806d062954d6435", func := "assayer/assayerlaw02.PairScales", spec := "pairScales", inPlace := ["math/bits.Add64"], apart := false }
def PairScalesSaid : Prop := pairScalesRow.holds Try.pinned (OpenSpec.ofChange pairScalesSpec)

/-- ITS FALSE NEIGHBOUR: 'it returns false'. Refute it at one input. -/
def pairScalesWrong : ChangeSpec := { name := "pairScales", fn := fun _ => fun
  | [d1, d2, d3] => { results := [.lit (.bool false)], args := [d1, d2, d3] }
  | _ => none }
def PairScalesWrongFalsely : Prop := pairScalesRow.holds Try.pinned (OpenSpec.ofChange pairScalesWrong)

/- THE SECOND FORM. 'bulk': how many values and letters a reading holds, each counted each time it is reached (what is shared counts as often as it is met; a slice's spare places count too). A statement '..UptoSaid' is the law's where the arguments, and the package variables that the reading takes, are together of bulk at most 1048576: NARROWER than '..Said'. Prove '..Said' where nothing that the law and all that it calls make is longer than what came in: it says more and counts as full. Else prove '..UptoSaid'. A law counts once. -/
mutual
def uptoBulk {H : Type} : DataW H → Nat
  | .lit (.string bytes) => bytes.length + 1
  | .lit _ => 1
  | .nil => 1
  | .ptr d => uptoBulk d + 1
  | .slice elems spare => uptoBulkAll elems + uptoBulkAll spare + 1
  | .agg parts => uptoBulkAll parts + 1
  | .iface _ d => uptoBulk d + 1
  | .map entries => uptoBulkEntries entries + 1
  | .held _ => 1
def uptoBulkAll {H : Type} : List (DataW H) → Nat
  | [] => 0
  | d :: r => uptoBulk d + uptoBulkAll r
def uptoBulkEntries {H : Type} : List (Lit × DataW H) → Nat
  | [] => 0
  | x :: r => uptoBulkEntry x + uptoBulkEntries r
def uptoBulkEntry {H : Type} : Lit × DataW H → Nat
  | (.string bytes, d) => bytes.length + uptoBulk d + 1
  | (_, d) => uptoBulk d + 1
 end
def uptoSmall : (H : Type) → List (DataW H) → Bool := fun _ ds => decide (uptoBulkAll ds ≤ 1048576)
def OpenSpec.upto (s : _root_.Go.ChangeSpec) : _root_.Go.OpenSpec := { _root_.Go.OpenSpec.ofChange s with cond := some uptoSmall }

/-- 'assayerlaw02.PairTells', WHERE WHAT IT READS IS OF BULK AT MOST 1048576: true; the input reads as it did. -/
def pairTellsUptoRow : OpenClaim := { program := "ytkgogfnpkcibeaa", sum := "1f2b211c1c19aa2bb92f4ba2e20cf04145dde17cbbe50fa73806d062954d6435", func := "assayer/assayerlaw02.PairTells", spec := "pairTells", inPlace := ["math/bits.Add64"], named := ["math/bits.divideError", "math/bits.overflowError"], apart := false, narrowed := true }
def PairTellsUptoSaid : Prop := pairTellsUptoRow.holds Try.pinned (OpenSpec.upto pairTellsSpec)

/-- 'assayerlaw02.PairPowers', WHERE WHAT IT READS IS OF BULK AT MOST 1048576: true; the input reads as it did. -/
def pairPowersUptoRow : OpenClaim := { program := "ytkgogfnpkcibeaa", sum := "1f2b211c1c19aa2bb92f4ba2e20cf04145dde17cbbe50fa73806d062954d6435", func := "assayer/assayerlaw02.PairPowers", spec := "pairPowers", inPlace := ["math/bits.Add64"], named := ["math/bits.divideError", "math/bits.overflowError"], apart := false, narrowed := true }
def PairPowersUptoSaid : Prop := pairPowersUptoRow.holds Try.pinned (OpenSpec.upto pairPowersSpec)

/-- 'assayerlaw02.PairField', WHERE WHAT IT READS IS OF BULK AT MOST 1048576: true; the input reads as it did. -/
def pairFieldUptoRow : OpenClaim := { program := "ytkgogfnpkcibeaa", sum := "1f2b211c1c19aa2bb92f4ba2e20cf04145dde17cbbe50fa73806d062954d6435", func := "assayer/assayerlaw02.PairField", spec := "pairField", inPlace := ["math/bits.Add64"], apart := false, narrowed := true }
def PairFieldUptoSaid : Prop := pairFieldUptoRow.holds Try.pinned (OpenSpec.upto pairFieldSpec)

/-- 'assayerlaw02.PairTurns', WHERE WHAT IT READS IS OF BULK AT MOST 1048576: true; the input reads as it did. -/
def pairTurnsUptoRow : OpenClaim := { program := "ytkgogfnpkcibeaa", sum := "1f2b211c1c19aa2bb92f4ba2e20cf04145dde17cbbe50fa73806d062954d6435", func := "assayer/assayerlaw02.PairTurns", spec := "pairTurns", inPlace := ["math/bits.Add64"], apart := false, narrowed := true }
def PairTurnsUptoSaid : Prop := pairTurnsUptoRow.holds Try.pinned (OpenSpec.upto pairTurnsSpec)

/-- 'assayerlaw02.PairNorms', WHERE WHAT IT READS IS OF BULK AT MOST 1048576: true; the input reads as it did. -/
def pairNormsUptoRow : OpenClaim := { program := "ytkgogfnpkcibeaa", sum := "1f2b211c1c19aa2bb92f4ba2e20cf04145dde17cbbe50fa73806d062954d6435", func := "assayer/assayerlaw02.PairNorms", spec := "pairNorms", inPlace := ["math/bits.Add64"], apart := false, narrowed := true }
def PairNormsUptoSaid : Prop := pairNormsUptoRow.holds Try.pinned (OpenSpec.upto pairNormsSpec)

/-- 'assayerlaw02.PairScales', WHERE WHAT IT READS IS OF BULK AT MOST 1048576: true; the input reads as it did. -/
def pairScalesUptoRow : OpenClaim := { program := "ytkgogfnpkcibeaa", sum := "1f2b211c1c19aa2bb92f4ba2e20cf04145dde17cbbe50fa73806d062954d6435", func := "assayer/assayerlaw02.PairScales", spec := "pairScales", inPlace := ["math/bits.Add64"], apart := false, narrowed := true }
def PairScalesUptoSaid : Prop := pairScalesUptoRow.holds Try.pinned (OpenSpec.upto pairScalesSpec)

end Rows
end Go.Proofs.Ytkgogfnpkcibeaa
