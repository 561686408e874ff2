/-
  No cell of these rows narrows 'for every input' (looked for: loops, veiled, ifaces, maps, wideKeys, modest, calm, conditions, laid).
  DERIVED. THE GIVEN ROWS OF THIS SEAT. 5 by the template 'for every input the law returns true; each argument reads behind the call as it read before'; 0 by the template 'total and deterministic' (their statements: YtjcgakmhpblanaaTotals.lean).
  GIVEN WITH THE SEED: the statements are not yours to turn. If you find one false, say at which input.
  Laid BY PROGRAM, IN A SANDBOX (cutbox-rows.mjs): the forced cells as the released guide's own fill.sh prints them over the translation 083a781bf1c66472… (all of the seat's roots in one cut). By AI agents, Wed Nov 11 2026. No macro, syntax, notation, axiom, sorry.
-/
import Derived.Test.YtjcgakmhpblanaaChecked
import GoSem.Claim
import GoSem.ClaimJoined
import GoSem.ClaimMapViews
import Derived.JoinedTies
import Derived.KernelRfl
namespace Go.Proofs.Ytjcgakmhpblanaa
/- THE CELL 'sum', in the pinned program and in every row, IS THE sha256 OF THE DUMP (.gsa) THAT YtjcgakmhpblanaaProg.lean LOADS. Nothing in Lean hashes anything: it is a label: what it is worth is what the hold of that sum in a sandbox is worth. -/
noncomputable def Try.pinned : Pinned := { name := "ytjcgakmhpblanaa", sum := "083a781bf1c6647236ae84707cb17bae4ec6e6ef6cdba4ae6e8025fe1d81c76d", checked := Try.checked }
namespace Rows
def none {H : Type} : Left H := { results := [], args := [] }

/-- 'assayerlaw19.TraceMakes': WHATEVER THE INPUT: true; the input reads as it did. -/
def traceMakesSpec : ChangeSpec := { name := "traceMakes", fn := fun _ => fun
  | [d1, d2] => { results := [.lit (.bool true)], args := [d1, d2] }
  | _ => none }
def traceMakesRow : OpenClaim := { program := "ytjcgakmhpblanaa", sum := "083a781bf1c6647236ae84707cb17bae4ec6e6ef6cdba4ae6e8025fe1d81c76d", func := "assayer/assayerlaw19.TraceMakes", spec := "traceMakes", inPlace := ["math/bits.Add64"], unfollowed := true, recurses := true, named := ["math/bits.divideError", "math/bits.overflowError"], apart := false }
def TraceMakesSaid : Prop := traceMakesRow.holds Try.pinned (OpenSpec.ofChange traceMakesSpec)

/-- ITS FALSE NEIGHBOUR: 'it returns false'. Refute it at one input. -/
def traceMakesWrong : ChangeSpec := { name := "traceMakes", fn := fun _ => fun
  | [d1, d2] => { results := [.lit (.bool false)], args := [d1, d2] }
  | _ => none }
def TraceMakesWrongFalsely : Prop := traceMakesRow.holds Try.pinned (OpenSpec.ofChange traceMakesWrong)

/-- 'assayerlaw19.TraceChecks': WHATEVER THE INPUT: true; the input reads as it did. -/
def traceChecksSpec : ChangeSpec := { name := "traceChecks", fn := fun _ => fun
  | [d1, d2, d3] => { results := [.lit (.bool true)], args := [d1, d2, d3] }
  | _ => none }
def traceChecksRow : OpenClaim := { program := "ytjcgakmhpblanaa", sum := "083a781bf1c6647236ae84707cb17bae4ec6e6ef6cdba4ae6e8025fe1d81c76d", func := "assayer/assayerlaw19.TraceChecks", spec := "traceChecks", inPlace := ["math/bits.Add64"], unfollowed := true, recurses := true, named := ["math/bits.divideError", "math/bits.overflowError"], apart := false }
def TraceChecksSaid : Prop := traceChecksRow.holds Try.pinned (OpenSpec.ofChange traceChecksSpec)

/-- ITS FALSE NEIGHBOUR: 'it returns false'. Refute it at one input. -/
def traceChecksWrong : ChangeSpec := { name := "traceChecks", fn := fun _ => fun
  | [d1, d2, d3] => { results := [.lit (.bool false)], args := [d1, d2, d3] }
  | _ => none }
def TraceChecksWrongFalsely : Prop := traceChecksRow.holds Try.pinned (OpenSpec.ofChange traceChecksWrong)

/-- 'assayerlaw19.TraceKeeps': WHATEVER THE INPUT: true; the input reads as it did. -/
def traceKeepsSpec : ChangeSpec := { name := "traceKeeps", fn := fun _ => fun
  | [d1, d2] => { results := [.lit (.bool true)], args := [d1, d2] }
  | _ => none }
def traceKeepsRow : OpenClaim := { program := "ytjcgakmhpblanaa", sum := "083a781bf1c6647236ae84707cb17bae4ec6e6ef6cdba4ae6e8025fe1d81c76d", func := "assayer/assayerlaw19.TraceKeeps", spec := "traceKeeps", inPlace := ["math/bits.Add64"], unfollowed := true, recurses := true, apart := false }
def TraceKeepsSaid : Prop := traceKeepsRow.holds Try.pinned (OpenSpec.ofChange traceKeepsSpec)

/-- ITS FALSE NEIGHBOUR: 'it returns false'. Refute it at one input. -/
def traceKeepsWrong : ChangeSpec := { name := "traceKeeps", fn := fun _ => fun
  | [d1, d2] => { results := [.lit (.bool false)], args := [d1, d2] }
  | _ => none }
def TraceKeepsWrongFalsely : Prop := traceKeepsRow.holds Try.pinned (OpenSpec.ofChange traceKeepsWrong)

/-- 'assayerlaw19.TraceFirst': WHATEVER THE INPUT: true; the input reads as it did. -/
def traceFirstSpec : ChangeSpec := { name := "traceFirst", fn := fun _ => fun
  | [d1, d2, d3] => { results := [.lit (.bool true)], args := [d1, d2, d3] }
  | _ => none }
def traceFirstRow : OpenClaim := { program := "ytjcgakmhpblanaa", sum := "083a781bf1c6647236ae84707cb17bae4ec6e6ef6cdba4ae6e8025fe1d81c76d", func := "assayer/assayerlaw19.TraceFirst", spec := "traceFirst", inPlace := ["math/bits.Add64"], unfollowed := true, recurses := true, named := ["math/bits.divideError", "math/bits.overflowError"], apart := false }
def TraceFirstSaid : Prop := traceFirstRow.holds Try.pinned (OpenSpec.ofChange traceFirstSpec)

/-- ITS FALSE NEIGHBOUR: 'it returns false'. Refute it at one input. -/
def traceFirstWrong : ChangeSpec := { name := "traceFirst", fn := fun _ => fun
  | [d1, d2, d3] => { results := [.lit (.bool false)], args := [d1, d2, d3] }
  | _ => none }
def TraceFirstWrongFalsely : Prop := traceFirstRow.holds Try.pinned (OpenSpec.ofChange traceFirstWrong)

/-- 'assayerlaw19.TraceLonger': WHATEVER THE INPUT: true; the input reads as it did. -/
def traceLongerSpec : ChangeSpec := { name := "traceLonger", fn := fun _ => fun
  | [d1, d2] => { results := [.lit (.bool true)], args := [d1, d2] }
  | _ => none }
def traceLongerRow : OpenClaim := { program := "ytjcgakmhpblanaa", sum := "083a781bf1c6647236ae84707cb17bae4ec6e6ef6cdba4ae6e8025fe1d81c76d", func := "assayer/assayerlaw19.TraceLonger", spec := "traceLonger", inPlace := ["math/bits.Add64"], unfollowed := true, recurses := true, apart := false }
def TraceLongerSaid : Prop := traceLongerRow.holds Try.pinned (OpenSpec.ofChange traceLongerSpec)

/-- ITS FALSE NEIGHBOUR: 'it returns false'. Refute it at one input. -/
def traceLongerWrong : ChangeSpec := { name := "traceLonger", fn := fun _ => fun
  | [d1, d2] => { results := [.lit (.bool false)], args := [d1, d2] }
  | _ => none }
def TraceLongerWrongFalsely : Prop := traceLongerRow.holds Try.pinned (OpenSpec.ofChange traceLongerWrong)

/- THE SECOND FORM. 'bulk': how many values and letters a reading holds, each counted each time it is reached (what is shared counts as often as it is met; a slice's spare places count too). A statement '..UptoSaid' is the law's where the arguments, and the package variables that the reading takes, are together of bulk at most 1048576: NARROWER than '..Said'. Prove '..Said' where nothing that the law and all that it calls make is longer than what came in: it says more and counts as full. Else prove '..UptoSaid'. A law counts once. -/
mutual
def uptoBulk {H : Type} : DataW H → Nat
  | .lit (.string bytes) => bytes.length + 1
  | .lit _ => 1
  | .nil => 1
  | .ptr d => uptoBulk d + 1
  | .slice elems spare => uptoBulkAll elems + uptoBulkAll spare + 1
  | .agg parts => uptoBulkAll parts + 1
  | .iface _ d => uptoBulk d + 1
  | .map entries => uptoBulkEntries entries + 1
  | .held _ => 1
def uptoBulkAll {H : Type} : List (DataW H) → Nat
  | [] => 0
  | d :: r => uptoBulk d + uptoBulkAll r
def uptoBulkEntries {H : Type} : List (Lit × DataW H) → Nat
  | [] => 0
  | x :: r => uptoBulkEntry x + uptoBulkEntries r
def uptoBulkEntry {H : Type} : Lit × DataW H → Nat
  | (.string bytes, d) => bytes.length + uptoBulk d + 1
  | (_, d) => uptoBulk d + 1
 end
def uptoSmall : (H : Type) → List (DataW H) → Bool := fun _ ds => decide (uptoBulkAll ds ≤ 1048576)
def OpenSpec.upto (s : _root_.Go.ChangeSpec) : _root_.Go.OpenSpec := { _root_.Go.OpenSpec.ofChange s with cond := some uptoSmall }

/-- 'assayerlaw19.TraceMakes', WHERE WHAT IT READS IS OF BULK AT MOST 1048576: true; the input reads as it did. -/
def traceMakesUptoRow : OpenClaim := { program := "ytjcgakmhpblanaa", sum := "083a781bf1c6647236ae84707cb17bae4ec6e6ef6cdba4ae6e8025fe1d81c76d", func := "assayer/assayerlaw19.TraceMakes", spec := "traceMakes", inPlace := ["math/bits.Add64"], unfollowed := true, recurses := true, named := ["math/bits.divideError", "math/bits.overflowError"], apart := false, narrowed := true }
def TraceMakesUptoSaid : Prop := traceMakesUptoRow.holds Try.pinned (OpenSpec.upto traceMakesSpec)

/-- 'assayerlaw19.TraceChecks', WHERE WHAT IT READS IS OF BULK AT MOST 1048576: true; the input reads as it did. -/
def traceChecksUptoRow : OpenClaim := { program := "ytjcgakmhpblanaa", sum := "083a781bf1c6647236ae84707cb17bae4ec6e6ef6cdba4ae6e8025fe1d81c76d", func := "assayer/assayerlaw19.TraceChecks", spec := "traceChecks", inPlace := ["math/bits.Add64"], unfollowed := true, recurses := true, named := ["math/bits.divideError", "math/bits.overflowError"], apart := false, narrowed := true }
def TraceChecksUptoSaid : Prop := traceChecksUptoRow.holds Try.pinned (OpenSpec.upto traceChecksSpec)

/-- 'assayerlaw19.TraceKeeps', WHERE WHAT IT READS IS OF BULK AT MOST 1048576: true; the input reads as it did. -/
def traceKeepsUptoRow : OpenClaim := { program := "ytjcgakmhpblanaa", sum := "083a781bf1c6647236ae84707cb17bae4ec6e6ef6cdba4ae6e8025fe1d81c76d", func := "assayer/assayerlaw19.TraceKeeps", spec := "traceKeeps", inPlace := ["math/bits.Add64"], unfollowed := true, recurses := true, apart := false, narrowed := true }
def TraceKeepsUptoSaid : Prop := traceKeepsUptoRow.holds Try.pinned (OpenSpec.upto traceKeepsSpec)

/-- 'assayerlaw19.TraceFirst', WHERE WHAT IT READS IS OF BULK AT MOST 1048576: true; the input reads as it did. -/
def traceFirstUptoRow : OpenClaim := { program := "ytjcgakmhpblanaa", sum := "083a781bf1c6647236ae84707cb17bae4ec6e6ef6cdba4ae6e8025fe1d81c76d", func := "assayer/assayerlaw19.TraceFirst", spec := "traceFirst", inPlace := ["math/bits.Add64"], unfollowed := true, recurses := true, named := ["math/bits.divideError", "math/bits.overflowError"], apart := false, narrowed := true }
def TraceFirstUptoSaid : Prop := traceFirstUptoRow.holds Try.pinned (OpenSpec.upto traceFirstSpec)

/-- 'assayerlaw19.TraceLonger', WHERE WHAT IT READS IS OF BULK AT MOST 1048576: true; the input reads as it did. -/
def traceLongerUptoRow : OpenClaim := { program := "ytjcgakmhpblanaa", sum := "083a781bf1c6647236ae84707cb17bae4ec6e6ef6cdba4ae6e8025fe1d81c76d", func := "assayer/assayerlaw19.TraceLonger", spec := "traceLonger", inPlace := ["math/bits.Add64"], unfollowed := true, recurses := true, apart := false, narrowed := true }
def TraceLongerUptoSaid : Prop := traceLongerUptoRow.holds Try.pinned (OpenSpec.upto traceLongerSpec)

end Rows
end Go.Proofs.Ytjcgakmhpblanaa
