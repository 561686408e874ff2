/-
  No cell of these rows narrows 'for every input' (looked for: loops, veiled, ifaces, maps, wideKeys, modest, calm, conditions, laid).
  DERIVED. THE GIVEN ROWS OF THIS SEAT. 4 by the template 'for every input the law returns true; each argument reads behind the call as it read before'; 0 by the template 'total and deterministic' (their statements: YteghnaocncmiaaaTotals.lean).
  GIVEN WITH THE SEED: the statements are not yours to turn. If you find one false, say at which input.
  Laid BY PROGRAM, IN A SANDBOX (cutbox-rows.mjs): the forced cells as the released guide's own fill.sh prints them over the translation 1e05a5704f4df24d… (all of the seat's roots in one cut). By AI agents, Wed Nov 11 2026. No macro, syntax, notation, axiom, sorry.
-/
import Derived.Test.YteghnaocncmiaaaChecked
import GoSem.Claim
import GoSem.ClaimJoined
import GoSem.ClaimMapViews
import Derived.JoinedTies
import Derived.KernelRfl
namespace Go.Proofs.Yteghnaocncmiaaa
/- THE CELL 'sum', in the pinned program and in every row, IS THE sha256 OF THE DUMP (.gsa) THAT YteghnaocncmiaaaProg.lean LOADS. Nothing in Lean hashes anything: it is a label: what it is worth is what the hold of that sum in a sandbox is worth. -/
noncomputable def Try.pinned : Pinned := { name := "yteghnaocncmiaaa", sum := "1e05a5704f4df24db3ed6775457ae1c3fba6c6f05d4f4995b73253cce020f997", checked := Try.checked }
namespace Rows
def none {H : Type} : Left H := { results := [], args := [] }

/-- 'assayerlaw22.JudgeTells': WHATEVER THE INPUT: true; the input reads as it did. -/
def judgeTellsSpec : ChangeSpec := { name := "judgeTells", fn := fun _ => fun
  | [d] => { results := [.lit (.bool true)], args := [d] }
  | _ => none }
def judgeTellsRow : OpenClaim := { program := "yteghnaocncmiaaa", sum := "1e05a5704f4df24db3ed6775457ae1c3fba6c6f05d4f4995b73253cce020f997", func := "assayer/assayerlaw22.JudgeTells", spec := "judgeTells", inPlace := ["math/bits.Add64"], named := ["math/bits.divideError", "math/bits.overflowError"], apart := false }
def JudgeTellsSaid : Prop := judgeTellsRow.holds Try.pinned (OpenSpec.ofChange judgeTellsSpec)

/-- ITS FALSE NEIGHBOUR: 'it returns false'. Refute it at one input. -/
def judgeTellsWrong : ChangeSpec := { name := "judgeTells", fn := fun _ => fun
  | [d] => { results := [.lit (.bool false)], args := [d] }
  | _ => none }
def JudgeTellsWrongFalsely : Prop := judgeTellsRow.holds Try.pinned (OpenSpec.ofChange judgeTellsWrong)

/-- 'assayerlaw22.JudgeHonest': WHATEVER THE INPUT: true; the input reads as it did. -/
def judgeHonestSpec : ChangeSpec := { name := "judgeHonest", fn := fun _ => fun
  | [d1, d2, d3] => { results := [.lit (.bool true)], args := [d1, d2, d3] }
  | _ => none }
def judgeHonestRow : OpenClaim := { program := "yteghnaocncmiaaa", sum := "1e05a5704f4df24db3ed6775457ae1c3fba6c6f05d4f4995b73253cce020f997", func := "assayer/assayerlaw22.JudgeHonest", spec := "judgeHonest", inPlace := ["math/bits.Add64"], named := ["math/bits.divideError", "math/bits.overflowError"], apart := false }
def JudgeHonestSaid : Prop := judgeHonestRow.holds Try.pinned (OpenSpec.ofChange judgeHonestSpec)

/-- ITS FALSE NEIGHBOUR: 'it returns false'. Refute it at one input. -/
def judgeHonestWrong : ChangeSpec := { name := "judgeHonest", fn := fun _ => fun
  | [d1, d2, d3] => { results := [.lit (.bool false)], args := [d1, d2, d3] }
  | _ => none }
def JudgeHonestWrongFalsely : Prop := judgeHonestRow.holds Try.pinned (OpenSpec.ofChange judgeHonestWrong)

/-- 'assayerlaw22.JudgeFirst': WHATEVER THE INPUT: true; the input reads as it did. -/
def judgeFirstSpec : ChangeSpec := { name := "judgeFirst", fn := fun _ => fun
  | [d1, d2] => { results := [.lit (.bool true)], args := [d1, d2] }
  | _ => none }
def judgeFirstRow : OpenClaim := { program := "yteghnaocncmiaaa", sum := "1e05a5704f4df24db3ed6775457ae1c3fba6c6f05d4f4995b73253cce020f997", func := "assayer/assayerlaw22.JudgeFirst", spec := "judgeFirst", inPlace := ["math/bits.Add64"], named := ["math/bits.divideError", "math/bits.overflowError"], apart := false }
def JudgeFirstSaid : Prop := judgeFirstRow.holds Try.pinned (OpenSpec.ofChange judgeFirstSpec)

/-- ITS FALSE NEIGHBOUR: 'it returns false'. Refute it at one input. -/
def judgeFirstWrong : ChangeSpec := { name := "judgeFirst", fn := fun _ => fun
  | [d1, d2] => { results := [.lit (.bool false)], args := [d1, d2] }
  | _ => none }
def JudgeFirstWrongFalsely : Prop := judgeFirstRow.holds Try.pinned (OpenSpec.ofChange judgeFirstWrong)

/-- 'assayerlaw22.JudgeSums': WHATEVER THE INPUT: true; the input reads as it did. -/
def judgeSumsSpec : ChangeSpec := { name := "judgeSums", fn := fun _ => fun
  | [d1, d2] => { results := [.lit (.bool true)], args := [d1, d2] }
  | _ => none }
def judgeSumsRow : OpenClaim := { program := "yteghnaocncmiaaa", sum := "1e05a5704f4df24db3ed6775457ae1c3fba6c6f05d4f4995b73253cce020f997", func := "assayer/assayerlaw22.JudgeSums", spec := "judgeSums", inPlace := ["math/bits.Add64"], named := ["math/bits.divideError", "math/bits.overflowError"], apart := false }
def JudgeSumsSaid : Prop := judgeSumsRow.holds Try.pinned (OpenSpec.ofChange judgeSumsSpec)

/-- ITS FALSE NEIGHBOUR: 'it returns false'. Refute it at one input. -/
def judgeSumsWrong : ChangeSpec := { name := "judgeSums", fn := fun _ => fun
  | [d1, d2] => { results := [.lit (.bool false)], args := [d1, d2] }
  | _ => none }
def JudgeSumsWrongFalsely : Prop := judgeSumsRow.holds Try.pinned (OpenSpec.ofChange judgeSumsWrong)

/- THE SECOND FORM. 'bulk': how many values and letters a reading holds, each counted each time it is reached (what is shared counts as often as it is met; a slice's spare places count too). A statement '..UptoSaid' is the law's where the arguments, and the package variables that the reading takes, are together of bulk at most 1048576: NARROWER than '..Said'. Prove '..Said' where nothing that the law and all that it calls make is longer than what came in: it says more and counts as full. Else prove '..UptoSaid'. A law counts once. -/
mutual
def uptoBulk {H : Type} : DataW H → Nat
  | .lit (.string bytes) => bytes.length + 1
  | .lit _ => 1
  | .nil => 1
  | .ptr d => uptoBulk d + 1
  | .slice elems spare => uptoBulkAll elems + uptoBulkAll spare + 1
  | .agg parts => uptoBulkAll parts + 1
  | .iface _ d => uptoBulk d + 1
  | .map entries => uptoBulkEntries entries + 1
  | .held _ => 1
def uptoBulkAll {H : Type} : List (DataW H) → Nat
  | [] => 0
  | d :: r => uptoBulk d + uptoBulkAll r
def uptoBulkEntries {H : Type} : List (Lit × DataW H) → Nat
  | [] => 0
  | x :: r => uptoBulkEntry x + uptoBulkEntries r
def uptoBulkEntry {H : Type} : Lit × DataW H → Nat
  | (.string bytes, d) => bytes.length + uptoBulk d + 1
  | (_, d) => uptoBulk d + 1
 end
def uptoSmall : (H : Type) → List (DataW H) → Bool := fun _ ds => decide (uptoBulkAll ds ≤ 1048576)
def OpenSpec.upto (s : _root_.Go.ChangeSpec) : _root_.Go.OpenSpec := { _root_.Go.OpenSpec.ofChange s with cond := some uptoSmall }

/-- 'assayerlaw22.JudgeTells', WHERE WHAT IT READS IS OF BULK AT MOST 1048576: true; the input reads as it did. -/
def judgeTellsUptoRow : OpenClaim := { program := "yteghnaocncmiaaa", sum := "1e05a5704f4df24db3ed6775457ae1c3fba6c6f05d4f4995b73253cce020f997", func := "assayer/assayerlaw22.JudgeTells", spec := "judgeTells", inPlace := ["math/bits.Add64"], named := ["math/bits.divideError", "math/bits.overflowError"], apart := false, narrowed := true }
def JudgeTellsUptoSaid : Prop := judgeTellsUptoRow.holds Try.pinned (OpenSpec.upto judgeTellsSpec)

/-- 'assayerlaw22.JudgeHonest', WHERE WHAT IT READS IS OF BULK AT MOST 1048576: true; the input reads as it did. -/
def judgeHonestUptoRow : OpenClaim := { program := "yteghnaocncmiaaa", sum := "1e05a5704f4df24db3ed6775457ae1c3fba6c6f05d4f4995b73253cce020f997", func := "assayer/assayerlaw22.JudgeHonest", spec := "judgeHonest", inPlace := ["math/bits.Add64"], named := ["math/bits.divideError", "math/bits.overflowError"], apart := false, narrowed := true }
def JudgeHonestUptoSaid : Prop := judgeHonestUptoRow.holds Try.pinned (OpenSpec.upto judgeHonestSpec)

/-- 'assayerlaw22.JudgeFirst', WHERE WHAT IT READS IS OF BULK AT MOST 1048576: true; the input reads as it did. -/
def judgeFirstUptoRow : OpenClaim := { program := "yteghnaocncmiaaa", sum := "1e05a5704f4df24db3ed6775457ae1c3fba6c6f05d4f4995b73253cce020f997", func := "assayer/assayerlaw22.JudgeFirst", spec := "judgeFirst", inPlace := ["math/bits.Add64"], named := ["math/bits.divideError", "math/bits.overflowError"], apart := false, narrowed := true }
def JudgeFirstUptoSaid : Prop := judgeFirstUptoRow.holds Try.pinned (OpenSpec.upto judgeFirstSpec)

/-- 'assayerlaw22.JudgeSums', WHERE WHAT IT READS IS OF BULK AT MOST 1048576: true; the input reads as it did. -/
def judgeSumsUptoRow : OpenClaim := { program := "yteghnaocncmiaaa", sum := "1e05a5704f4df24db3ed6775457ae1c3fba6c6f05d4f4995b73253cce020f997", func := "assayer/assayerlaw22.JudgeSums", spec := "judgeSums", inPlace := ["math/bits.Add64"], named := ["math/bits.divideError", "math/bits.overflowError"], apart := false, narrowed := true }
def JudgeSumsUptoSaid : Prop := judgeSumsUptoRow.holds Try.pinned (OpenSpec.upto judgeSumsSpec)

end Rows
end Go.Proofs.Yteghnaocncmiaaa
