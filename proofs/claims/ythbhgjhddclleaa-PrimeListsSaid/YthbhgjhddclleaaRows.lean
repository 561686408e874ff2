/-
  No cell of these rows narrows 'for every input' (looked for: loops, veiled, ifaces, maps, wideKeys, modest, calm, conditions, laid).
  DERIVED. THE GIVEN ROWS OF THIS SEAT. 6 by the template 'for every input the law returns true; each argument reads behind the call as it read before'; 0 by the template 'total and deterministic' (their statements: YthbhgjhddclleaaTotals.lean).
  GIVEN WITH THE SEED: the statements are not yours to turn. If you find one false, say at which input.
  Laid BY PROGRAM, IN A SANDBOX (cutbox-rows.mjs): the forced cells as the released guide's own fill.sh prints them over the translation 973a98b00170d583… (all of the seat's roots in one cut). By AI agents, Wed Nov 11 2026. No macro, syntax, notation, axiom, sorry.
-/
import Derived.Test.YthbhgjhddclleaaChecked
import GoSem.Claim
import GoSem.ClaimJoined
import GoSem.ClaimMapViews
import Derived.JoinedTies
import Derived.KernelRfl
namespace Go.Proofs.Ythbhgjhddclleaa
/- THE CELL 'sum', in the pinned program and in every row, IS THE sha256 OF THE DUMP (.gsa) THAT YthbhgjhddclleaaProg.lean LOADS. Nothing in Lean hashes anything: it is a label: what it is worth is what the hold of that sum in a sandbox is worth. -/
noncomputable def Try.pinned : Pinned := { name := "ythbhgjhddclleaa", sum := "973a98b00170d5836d50706e974a2a2711052a18d9c0e663f966127d59fb3d8f", checked := Try.checked }
namespace Rows
def none {H : Type} : Left H := { results := [], args := [] }

/-- 'assayerlaw01.PrimeTells': WHATEVER THE INPUT: true; the input reads as it did. -/
def primeTellsSpec : ChangeSpec := { name := "primeTells", fn := fun _ => fun
  | [d1, d2] => { results := [.lit (.bool true)], args := [d1, d2] }
  | _ => none }
def primeTellsRow : OpenClaim := { program := "ythbhgjhddclleaa", sum := "973a98b00170d5836d50706e974a2a2711052a18d9c0e663f966127d59fb3d8f", func := "assayer/assayerlaw01.PrimeTells", spec := "primeTells", inPlace := ["math/bits.Add64"], named := ["math/bits.divideError", "math/bits.overflowError"], apart := false }
def PrimeTellsSaid : Prop := primeTellsRow.holds Try.pinned (OpenSpec.ofChange primeTellsSpec)

/-- ITS FALSE NEIGHBOUR: 'it returns false'. Refute it at one input. -/
def primeTellsWrong : ChangeSpec := { name := "primeTells", fn := fun _ => fun
  | [d1, d2] => { results := [.lit (.bool false)], args := [d1, d2] }
  | _ => none }
def PrimeTellsWrongFalsely : Prop := primeTellsRow.holds Try.pinned (OpenSpec.ofChange primeTellsWrong)

/-- 'assayerlaw01.PrimePowers': WHATEVER THE INPUT: true; the input reads as it did. -/
def primePowersSpec : ChangeSpec := { name := "primePowers", fn := fun _ => fun
  | [d1, d2] => { results := [.lit (.bool true)], args := [d1, d2] }
  | _ => none }
def primePowersRow : OpenClaim := { program := "ythbhgjhddclleaa", sum := "973a98b00170d5836d50706e974a2a2711052a18d9c0e663f966127d59fb3d8f", func := "assayer/assayerlaw01.PrimePowers", spec := "primePowers", inPlace := ["math/bits.Add64"], named := ["math/bits.divideError", "math/bits.overflowError"], apart := false }
def PrimePowersSaid : Prop := primePowersRow.holds Try.pinned (OpenSpec.ofChange primePowersSpec)

/-- ITS FALSE NEIGHBOUR: 'it returns false'. Refute it at one input. -/
def primePowersWrong : ChangeSpec := { name := "primePowers", fn := fun _ => fun
  | [d1, d2] => { results := [.lit (.bool false)], args := [d1, d2] }
  | _ => none }
def PrimePowersWrongFalsely : Prop := primePowersRow.holds Try.pinned (OpenSpec.ofChange primePowersWrong)

/-- 'assayerlaw01.PrimeLists': WHATEVER THE INPUT: true; the input reads as it did. -/
def primeListsSpec : ChangeSpec := { name := "primeLists", fn := fun _ => fun
  | [d] => { results := [.lit (.bool true)], args := [d] }
  | _ => none }
def primeListsRow : OpenClaim := { program := "ythbhgjhddclleaa", sum := "973a98b00170d5836d50706e974a2a2711052a18d9c0e663f966127d59fb3d8f", func := "assayer/assayerlaw01.PrimeLists", spec := "primeLists", inPlace := ["math/bits.Add64"], named := ["math/bits.divideError", "math/bits.overflowError"], apart := false }
def PrimeListsSaid : Prop := primeListsRow.holds Try.pinned (OpenSpec.ofChange primeListsSpec)

/-- ITS FALSE NEIGHBOUR: 'it returns false'. Refute it at one input. -/
def primeListsWrong : ChangeSpec := { name := "primeLists", fn := fun _ => fun
  | [d] => { results := [.lit (.bool false)], args := [d] }
  | _ => none }
def PrimeListsWrongFalsely : Prop := primeListsRow.holds Try.pinned (OpenSpec.ofChange primeListsWrong)

/-- 'assayerlaw01.PrimeField': WHATEVER THE INPUT: true; the input reads as it did. -/
def primeFieldSpec : ChangeSpec := { name := "primeField", fn := fun _ => fun
  | [d1, d2, d3] => { results := [.lit (.bool true)], args := [d1, d2, d3] }
  | _ => none }
def primeFieldRow : OpenClaim := { program := "ythbhgjhddclleaa", sum := "973a98b00170d5836d50706e974a2a2711052a18d9c0e663f966127d59fb3d8f", func := "assayer/assayerlaw01.PrimeField", spec := "primeField", inPlace := ["math/bits.Add64"], apart := false }
def PrimeFieldSaid : Prop := primeFieldRow.holds Try.pinned (OpenSpec.ofChange primeFieldSpec)

/-- ITS FALSE NEIGHBOUR: 'it returns false'. Refute it at one input. -/
def primeFieldWrong : ChangeSpec := { name := "primeField", fn := fun _ => fun
  | [d1, d2, d3] => { results := [.lit (.bool false)], args := [d1, d2, d3] }
  | _ => none }
def PrimeFieldWrongFalsely : Prop := primeFieldRow.holds Try.pinned (OpenSpec.ofChange primeFieldWrong)

/-- 'assayerlaw01.PrimeInverse': WHATEVER THE INPUT: true; the input reads as it did. -/
def primeInverseSpec : ChangeSpec := { name := "primeInverse", fn := fun _ => fun
  | [d1, d2, d3] => { results := [.lit (.bool true)], args := [d1, d2, d3] }
  | _ => none }
def primeInverseRow : OpenClaim := { program := "ythbhgjhddclleaa", sum := "973a98b00170d5836d50706e974a2a2711052a18d9c0e663f966127d59fb3d8f", func := "assayer/assayerlaw01.PrimeInverse", spec := "primeInverse", inPlace := ["math/bits.Add64"], apart := false }
def PrimeInverseSaid : Prop := primeInverseRow.holds Try.pinned (OpenSpec.ofChange primeInverseSpec)

/-- ITS FALSE NEIGHBOUR: 'it returns false'. Refute it at one input. -/
def primeInverseWrong : ChangeSpec := { name := "primeInverse", fn := fun _ => fun
  | [d1, d2, d3] => { results := [.lit (.bool false)], args := [d1, d2, d3] }
  | _ => none }
def PrimeInverseWrongFalsely : Prop := primeInverseRow.holds Try.pinned (OpenSpec.ofChange primeInverseWrong)

/-- 'assayerlaw01.PrimeNegs': WHATEVER THE INPUT: true; the input reads as it did. -/
def primeNegsSpec : ChangeSpec := { name := "primeNegs", fn := fun _ => fun
  | [d1, d2] => { results := [.lit (.bool true)], args := [d1, d2] }
  | _ => none }
def primeNegsRow : OpenClaim := { program := "ythbhgjhddclleaa", sum := "973a98b00170d5836d50706e974a2a2711052a18d9c0e663f966127d59fb3d8f", func := "assayer/assayerlaw01.PrimeNegs", spec := "primeNegs", inPlace := ["math/bits.Add64"], apart := false }
def PrimeNegsSaid : Prop := primeNegsRow.holds Try.pinned (OpenSpec.ofChange primeNegsSpec)

/-- ITS FALSE NEIGHBOUR: 'it returns false'. Refute it at one input. -/
def primeNegsWrong : ChangeSpec := { name := "primeNegs", fn := fun _ => fun
  | [d1, d2] => { results := [.lit (.bool false)], args := [d1, d2] }
  | _ => none }
def PrimeNegsWrongFalsely : Prop := primeNegsRow.holds Try.pinned (OpenSpec.ofChange primeNegsWrong)

/- THE SECOND FORM. 'bulk': how many values and letters a reading holds, each counted each time it is reached (what is shared counts as often as it is met; a slice's spare places count too). A statement '..UptoSaid' is the law's where the arguments, and the package variables that the reading takes, are together of bulk at most 1048576: NARROWER than '..Said'. Prove '..Said' where nothing that the law and all that it calls make is longer than what came in: it says more and counts as full. Else prove '..UptoSaid'. A law counts once. -/
mutual
def uptoBulk {H : Type} : DataW H → Nat
  | .lit (.string bytes) => bytes.length + 1
  | .lit _ => 1
  | .nil => 1
  | .ptr d => uptoBulk d + 1
  | .slice elems spare => uptoBulkAll elems + uptoBulkAll spare + 1
  | .agg parts => uptoBulkAll parts + 1
  | .iface _ d => uptoBulk d + 1
  | .map entries => uptoBulkEntries entries + 1
  | .held _ => 1
def uptoBulkAll {H : Type} : List (DataW H) → Nat
  | [] => 0
  | d :: r => uptoBulk d + uptoBulkAll r
def uptoBulkEntries {H : Type} : List (Lit × DataW H) → Nat
  | [] => 0
  | x :: r => uptoBulkEntry x + uptoBulkEntries r
def uptoBulkEntry {H : Type} : Lit × DataW H → Nat
  | (.string bytes, d) => bytes.length + uptoBulk d + 1
  | (_, d) => uptoBulk d + 1
 end
def uptoSmall : (H : Type) → List (DataW H) → Bool := fun _ ds => decide (uptoBulkAll ds ≤ 1048576)
def OpenSpec.upto (s : _root_.Go.ChangeSpec) : _root_.Go.OpenSpec := { _root_.Go.OpenSpec.ofChange s with cond := some uptoSmall }

/-- 'assayerlaw01.PrimeTells', WHERE WHAT IT READS IS OF BULK AT MOST 1048576: true; the input reads as it did. -/
def primeTellsUptoRow : OpenClaim := { program := "ythbhgjhddclleaa", sum := "973a98b00170d5836d50706e974a2a2711052a18d9c0e663f966127d59fb3d8f", func := "assayer/assayerlaw01.PrimeTells", spec := "primeTells", inPlace := ["math/bits.Add64"], named := ["math/bits.divideError", "math/bits.overflowError"], apart := false, narrowed := true }
def PrimeTellsUptoSaid : Prop := primeTellsUptoRow.holds Try.pinned (OpenSpec.upto primeTellsSpec)

/-- 'assayerlaw01.PrimePowers', WHERE WHAT IT READS IS OF BULK AT MOST 1048576: true; the input reads as it did. -/
def primePowersUptoRow : OpenClaim := { program := "ythbhgjhddclleaa", sum := "973a98b00170d5836d50706e974a2a2711052a18d9c0e663f966127d59fb3d8f", func := "assayer/assayerlaw01.PrimePowers", spec := "primePowers", inPlace := ["math/bits.Add64"], named := ["math/bits.divideError", "math/bits.overflowError"], apart := false, narrowed := true }
def PrimePowersUptoSaid : Prop := primePowersUptoRow.holds Try.pinned (OpenSpec.upto primePowersSpec)

/-- 'assayerlaw01.PrimeLists', WHERE WHAT IT READS IS OF BULK AT MOST 1048576: true; the input reads as it did. -/
def primeListsUptoRow : OpenClaim := { program := "ythbhgjhddclleaa", sum := "973a98b00170d5836d50706e974a2a2711052a18d9c0e663f966127d59fb3d8f", func := "assayer/assayerlaw01.PrimeLists", spec := "primeLists", inPlace := ["math/bits.Add64"], named := ["math/bits.divideError", "math/bits.overflowError"], apart := false, narrowed := true }
def PrimeListsUptoSaid : Prop := primeListsUptoRow.holds Try.pinned (OpenSpec.upto primeListsSpec)

/-- 'assayerlaw01.PrimeField', WHERE WHAT IT READS IS OF BULK AT MOST 1048576: true; the input reads as it did. -/
def primeFieldUptoRow : OpenClaim := { program := "ythbhgjhddclleaa", sum := "973a98b00170d5836d50706e974a2a2711052a18d9c0e663f966127d59fb3d8f", func := "assayer/assayerlaw01.PrimeField", spec := "primeField", inPlace := ["math/bits.Add64"], apart := false, narrowed := true }
def PrimeFieldUptoSaid : Prop := primeFieldUptoRow.holds Try.pinned (OpenSpec.upto primeFieldSpec)

/-- 'assayerlaw01.PrimeInverse', WHERE WHAT IT READS IS OF BULK AT MOST 1048576: true; the input reads as it did. -/
def primeInverseUptoRow : OpenClaim := { program := "ythbhgjhddclleaa", sum := "973a98b00170d5836d50706e974a2a2711052a18d9c0e663f966127d59fb3d8f", func := "assayer/assayerlaw01.PrimeInverse", spec := "primeInverse", inPlace := ["math/bits.Add64"], apart := false, narrowed := true }
def PrimeInverseUptoSaid : Prop := primeInverseUptoRow.holds Try.pinned (OpenSpec.upto primeInverseSpec)

/-- 'assayerlaw01.PrimeNegs', WHERE WHAT IT READS IS OF BULK AT MOST 1048576: true; the input reads as it did. -/
def primeNegsUptoRow : OpenClaim := { program := "ythbhgjhddclleaa", sum := "973a98b00170d5836d50706e974a2a2711052a18d9c0e663f966127d59fb3d8f", func := "assayer/assayerlaw01.PrimeNegs", spec := "primeNegs", inPlace := ["math/bits.Add64"], apart := false, narrowed := true }
def PrimeNegsUptoSaid : Prop := primeNegsUptoRow.holds Try.pinned (OpenSpec.upto primeNegsSpec)

end Rows
end Go.Proofs.Ythbhgjhddclleaa
