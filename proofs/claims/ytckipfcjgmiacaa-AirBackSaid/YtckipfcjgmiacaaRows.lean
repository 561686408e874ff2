/-
  No cell of these rows narrows 'for every input' (looked for: loops, veiled, ifaces, maps, wideKeys, modest, calm, conditions, laid).
  DERIVED. THE GIVEN ROWS OF THIS SEAT. 5 by the template 'for every input the law returns true; each argument reads behind the call as it read before'; 0 by the template 'total and deterministic' (their statements: YtckipfcjgmiacaaTotals.lean).
  GIVEN WITH THE SEED: the statements are not yours to turn. If you find one false, say at which input.
  Laid BY PROGRAM, IN A SANDBOX (cutbox-rows.mjs): the forced cells as the released guide's own fill.sh prints them over the translation c9fdb56d74e64c3f… (all of the seat's roots in one cut). By AI agents, Wed Nov 11 2026. No macro, syntax, notation, axiom, sorry.
-/
import Derived.Test.YtckipfcjgmiacaaChecked
import GoSem.Claim
import GoSem.ClaimJoined
import GoSem.ClaimMapViews
import Derived.JoinedTies
import Derived.KernelRfl
namespace Go.Proofs.Ytckipfcjgmiacaa
/- THE CELL 'sum', in the pinned program and in every row, IS THE sha256 OF THE DUMP (.gsa) THAT YtckipfcjgmiacaaProg.lean LOADS. Nothing in Lean hashes anything: it is a label: what it is worth is what the hold of that sum in a sandbox is worth. -/
noncomputable def Try.pinned : Pinned := { name := "ytckipfcjgmiacaa", sum := "c9fdb56d74e64c3fd0030190e446d3a0d5cc93bec8478dde0efb83b5f01fd35b", checked := Try.checked }
namespace Rows
def none {H : Type} : Left H := { results := [], args := [] }

/-- 'assayerlaw18.AirChecks': WHATEVER THE INPUT: true; the input reads as it did. -/
def airChecksSpec : ChangeSpec := { name := "airChecks", fn := fun _ => fun
  | [d] => { results := [.lit (.bool true)], args := [d] }
  | _ => none }
def airChecksRow : OpenClaim := { program := "ytckipfcjgmiacaa", sum := "c9fdb56d74e64c3fd0030190e446d3a0d5cc93bec8478dde0efb83b5f01fd35b", func := "assayer/assayerlaw18.AirChecks", spec := "airChecks", inPlace := ["internal/abi.NoEscape"], unfollowed := true, recurses := true, apart := false }
def AirChecksSaid : Prop := airChecksRow.holds Try.pinned (OpenSpec.ofChange airChecksSpec)

/-- ITS FALSE NEIGHBOUR: 'it returns false'. Refute it at one input. -/
def airChecksWrong : ChangeSpec := { name := "airChecks", fn := fun _ => fun
  | [d] => { results := [.lit (.bool false)], args := [d] }
  | _ => none }
def AirChecksWrongFalsely : Prop := airChecksRow.holds Try.pinned (OpenSpec.ofChange airChecksWrong)

/-- 'assayerlaw18.AirParses': WHATEVER THE INPUT: true; the input reads as it did. -/
def airParsesSpec : ChangeSpec := { name := "airParses", fn := fun _ => fun
  | [d1, d2] => { results := [.lit (.bool true)], args := [d1, d2] }
  | _ => none }
def airParsesRow : OpenClaim := { program := "ytckipfcjgmiacaa", sum := "c9fdb56d74e64c3fd0030190e446d3a0d5cc93bec8478dde0efb83b5f01fd35b", func := "assayer/assayerlaw18.AirParses", spec := "airParses", inPlace := ["internal/abi.NoEscape"], unfollowed := true, recurses := true, apart := false }
def AirParsesSaid : Prop := airParsesRow.holds Try.pinned (OpenSpec.ofChange airParsesSpec)

/-- ITS FALSE NEIGHBOUR: 'it returns false'. Refute it at one input. -/
def airParsesWrong : ChangeSpec := { name := "airParses", fn := fun _ => fun
  | [d1, d2] => { results := [.lit (.bool false)], args := [d1, d2] }
  | _ => none }
def AirParsesWrongFalsely : Prop := airParsesRow.holds Try.pinned (OpenSpec.ofChange airParsesWrong)

/-- 'assayerlaw18.AirBack': WHATEVER THE INPUT: true; the input reads as it did. -/
def airBackSpec : ChangeSpec := { name := "airBack", fn := fun _ => fun
  | [d1, d2] => { results := [.lit (.bool true)], args := [d1, d2] }
  | _ => none }
def airBackRow : OpenClaim := { program := "ytckipfcjgmiacaa", sum := "c9fdb56d74e64c3fd0030190e446d3a0d5cc93bec8478dde0efb83b5f01fd35b", func := "assayer/assayerlaw18.AirBack", spec := "airBack", inPlace := ["internal/abi.NoEscape"], unfollowed := true, recurses := true, apart := false }
def AirBackSaid : Prop := airBackRow.holds Try.pinned (OpenSpec.ofChange airBackSpec)

/-- ITS FALSE NEIGHBOUR: 'it returns false'. Refute it at one input. -/
def airBackWrong : ChangeSpec := { name := "airBack", fn := fun _ => fun
  | [d1, d2] => { results := [.lit (.bool false)], args := [d1, d2] }
  | _ => none }
def AirBackWrongFalsely : Prop := airBackRow.holds Try.pinned (OpenSpec.ofChange airBackWrong)

/-- 'assayerlaw18.AirDegree': WHATEVER THE INPUT: true; the input reads as it did. -/
def airDegreeSpec : ChangeSpec := { name := "airDegree", fn := fun _ => fun
  | [d] => { results := [.lit (.bool true)], args := [d] }
  | _ => none }
def airDegreeRow : OpenClaim := { program := "ytckipfcjgmiacaa", sum := "c9fdb56d74e64c3fd0030190e446d3a0d5cc93bec8478dde0efb83b5f01fd35b", func := "assayer/assayerlaw18.AirDegree", spec := "airDegree", inPlace := ["internal/abi.NoEscape"], unfollowed := true, recurses := true, apart := false }
def AirDegreeSaid : Prop := airDegreeRow.holds Try.pinned (OpenSpec.ofChange airDegreeSpec)

/-- ITS FALSE NEIGHBOUR: 'it returns false'. Refute it at one input. -/
def airDegreeWrong : ChangeSpec := { name := "airDegree", fn := fun _ => fun
  | [d] => { results := [.lit (.bool false)], args := [d] }
  | _ => none }
def AirDegreeWrongFalsely : Prop := airDegreeRow.holds Try.pinned (OpenSpec.ofChange airDegreeWrong)

/-- 'assayerlaw18.AirMore': WHATEVER THE INPUT: true; the input reads as it did. -/
def airMoreSpec : ChangeSpec := { name := "airMore", fn := fun _ => fun
  | [d1, d2] => { results := [.lit (.bool true)], args := [d1, d2] }
  | _ => none }
def airMoreRow : OpenClaim := { program := "ytckipfcjgmiacaa", sum := "c9fdb56d74e64c3fd0030190e446d3a0d5cc93bec8478dde0efb83b5f01fd35b", func := "assayer/assayerlaw18.AirMore", spec := "airMore", inPlace := ["internal/abi.NoEscape"], unfollowed := true, recurses := true, apart := false }
def AirMoreSaid : Prop := airMoreRow.holds Try.pinned (OpenSpec.ofChange airMoreSpec)

/-- ITS FALSE NEIGHBOUR: 'it returns false'. Refute it at one input. -/
def airMoreWrong : ChangeSpec := { name := "airMore", fn := fun _ => fun
  | [d1, d2] => { results := [.lit (.bool false)], args := [d1, d2] }
  | _ => none }
def AirMoreWrongFalsely : Prop := airMoreRow.holds Try.pinned (OpenSpec.ofChange airMoreWrong)

/- THE SECOND FORM. 'bulk': how many values and letters a reading holds, each counted each time it is reached (what is shared counts as often as it is met; a slice's spare places count too). A statement '..UptoSaid' is the law's where the arguments, and the package variables that the reading takes, are together of bulk at most 1048576: NARROWER than '..Said'. Prove '..Said' where nothing that the law and all that it calls make is longer than what came in: it says more and counts as full. Else prove '..UptoSaid'. A law counts once. -/
mutual
def uptoBulk {H : Type} : DataW H → Nat
  | .lit (.string bytes) => bytes.length + 1
  | .lit _ => 1
  | .nil => 1
  | .ptr d => uptoBulk d + 1
  | .slice elems spare => uptoBulkAll elems + uptoBulkAll spare + 1
  | .agg parts => uptoBulkAll parts + 1
  | .iface _ d => uptoBulk d + 1
  | .map entries => uptoBulkEntries entries + 1
  | .held _ => 1
def uptoBulkAll {H : Type} : List (DataW H) → Nat
  | [] => 0
  | d :: r => uptoBulk d + uptoBulkAll r
def uptoBulkEntries {H : Type} : List (Lit × DataW H) → Nat
  | [] => 0
  | x :: r => uptoBulkEntry x + uptoBulkEntries r
def uptoBulkEntry {H : Type} : Lit × DataW H → Nat
  | (.string bytes, d) => bytes.length + uptoBulk d + 1
  | (_, d) => uptoBulk d + 1
 end
def uptoSmall : (H : Type) → List (DataW H) → Bool := fun _ ds => decide (uptoBulkAll ds ≤ 1048576)
def OpenSpec.upto (s : _root_.Go.ChangeSpec) : _root_.Go.OpenSpec := { _root_.Go.OpenSpec.ofChange s with cond := some uptoSmall }

/-- 'assayerlaw18.AirChecks', WHERE WHAT IT READS IS OF BULK AT MOST 1048576: true; the input reads as it did. -/
def airChecksUptoRow : OpenClaim := { program := "ytckipfcjgmiacaa", sum := "c9fdb56d74e64c3fd0030190e446d3a0d5cc93bec8478dde0efb83b5f01fd35b", func := "assayer/assayerlaw18.AirChecks", spec := "airChecks", inPlace := ["internal/abi.NoEscape"], unfollowed := true, recurses := true, apart := false, narrowed := true }
def AirChecksUptoSaid : Prop := airChecksUptoRow.holds Try.pinned (OpenSpec.upto airChecksSpec)

/-- 'assayerlaw18.AirParses', WHERE WHAT IT READS IS OF BULK AT MOST 1048576: true; the input reads as it did. -/
def airParsesUptoRow : OpenClaim := { program := "ytckipfcjgmiacaa", sum := "c9fdb56d74e64c3fd0030190e446d3a0d5cc93bec8478dde0efb83b5f01fd35b", func := "assayer/assayerlaw18.AirParses", spec := "airParses", inPlace := ["internal/abi.NoEscape"], unfollowed := true, recurses := true, apart := false, narrowed := true }
def AirParsesUptoSaid : Prop := airParsesUptoRow.holds Try.pinned (OpenSpec.upto airParsesSpec)

/-- 'assayerlaw18.AirBack', WHERE WHAT IT READS IS OF BULK AT MOST 1048576: true; the input reads as it did. -/
def airBackUptoRow : OpenClaim := { program := "ytckipfcjgmiacaa", sum := "c9fdb56d74e64c3fd0030190e446d3a0d5cc93bec8478dde0efb83b5f01fd35b", func := "assayer/assayerlaw18.AirBack", spec := "airBack", inPlace := ["internal/abi.NoEscape"], unfollowed := true, recurses := true, apart := false, narrowed := true }
def AirBackUptoSaid : Prop := airBackUptoRow.holds Try.pinned (OpenSpec.upto airBackSpec)

/-- 'assayerlaw18.AirDegree', WHERE WHAT IT READS IS OF BULK AT MOST 1048576: true; the input reads as it did. -/
def airDegreeUptoRow : OpenClaim := { program := "ytckipfcjgmiacaa", sum := "c9fdb56d74e64c3fd0030190e446d3a0d5cc93bec8478dde0efb83b5f01fd35b", func := "assayer/assayerlaw18.AirDegree", spec := "airDegree", inPlace := ["internal/abi.NoEscape"], unfollowed := true, recurses := true, apart := false, narrowed := true }
def AirDegreeUptoSaid : Prop := airDegreeUptoRow.holds Try.pinned (OpenSpec.upto airDegreeSpec)

/-- 'assayerlaw18.AirMore', WHERE WHAT IT READS IS OF BULK AT MOST 1048576: true; the input reads as it did. -/
def airMoreUptoRow : OpenClaim := { program := "ytckipfcjgmiacaa", sum := "c9fdb56d74e64c3fd0030190e446d3a0d5cc93bec8478dde0efb83b5f01fd35b", func := "assayer/assayerlaw18.AirMore", spec := "airMore", inPlace := ["internal/abi.NoEscape"], unfollowed := true, recurses := true, apart := false, narrowed := true }
def AirMoreUptoSaid : Prop := airMoreUptoRow.holds Try.pinned (OpenSpec.upto airMoreSpec)

end Rows
end Go.Proofs.Ytckipfcjgmiacaa
