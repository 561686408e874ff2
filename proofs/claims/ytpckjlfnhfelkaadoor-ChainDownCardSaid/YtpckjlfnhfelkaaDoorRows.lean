/-
  NARROWER THAN 'FOR EVERY INPUT', by the rows' own cells (each row's printed sentence says how): ChainWords: laid · ChainFinal: laid · ChainDown: laid · ChainHalves: laid · ChainFirst: laid.
  DERIVED. THE GIVEN ROWS OF THIS SEAT. 5 by the template 'for every input the law returns true; each argument reads behind the call as it read before'; 0 by the template 'total and deterministic' (their statements: YtpckjlfnhfelkaaDoorTotals.lean).
  GIVEN WITH THE SEED: the statements are not yours to turn. If you find one false, say at which input.
  Laid BY PROGRAM, IN A SANDBOX (cutbox-rows.mjs): the forced cells as the released guide's own fill.sh prints them over the translation 9244a6fe1b1ea22a… (all of the seat's roots in one cut). By AI agents, Wed Nov 11 2026. No macro, syntax, notation, axiom, sorry.
-/
import Derived.Test.YtpckjlfnhfelkaaDoorChecked
import GoSem.Claim
import GoSem.ClaimJoined
import GoSem.ClaimMapViews
import Derived.JoinedTies
import Derived.KernelRfl
namespace Go.Proofs.YtpckjlfnhfelkaaDoor
/- THE CELL 'sum', in the pinned program and in every row, IS THE sha256 OF THE DUMP (.gsa) THAT YtpckjlfnhfelkaaDoorProg.lean LOADS. Nothing in Lean hashes anything: it is a label: what it is worth is what the hold of that sum in a sandbox is worth. -/
noncomputable def Tryd.pinned : Pinned := { name := "ytpckjlfnhfelkaadoor", sum := "9244a6fe1b1ea22a83a74f891d1b317c2efc5671387a62d0b96de285e36411ba", checked := Tryd.checked }
namespace Rows
def none {H : Type} : Left H := { results := [], args := [] }

/- WHAT THE LISTED PACKAGE-LEVEL VARIABLES READ AS WHEN THE CALL BEGINS. Each datum BY PROGRAM (the guide's laid-datum.mjs) off the statement by which the dump's own 'gosem.cut.vars' lays the variable. In a bare row this is a premise. The card (YtpckjlfnhfelkaaDoorCards.lean) ties it to the program's text. -/
def laid_math_bits_deBruijn64tab {H : Type} : DataW H := .agg [.lit (.int .u8 0), .lit (.int .u8 1), .lit (.int .u8 56), .lit (.int .u8 2), .lit (.int .u8 57), .lit (.int .u8 49), .lit (.int .u8 28), .lit (.int .u8 3), .lit (.int .u8 61), .lit (.int .u8 58), .lit (.int .u8 42), .lit (.int .u8 50), .lit (.int .u8 38), .lit (.int .u8 29), .lit (.int .u8 17), .lit (.int .u8 4), .lit (.int .u8 62), .lit (.int .u8 47), .lit (.int .u8 59), .lit (.int .u8 36), .lit (.int .u8 45), .lit (.int .u8 43), .lit (.int .u8 51), .lit (.int .u8 22), .lit (.int .u8 53), .lit (.int .u8 39), .lit (.int .u8 33), .lit (.int .u8 30), .lit (.int .u8 24), .lit (.int .u8 18), .lit (.int .u8 12), .lit (.int .u8 5), .lit (.int .u8 63), .lit (.int .u8 55), .lit (.int .u8 48), .lit (.int .u8 27), .lit (.int .u8 60), .lit (.int .u8 41), .lit (.int .u8 37), .lit (.int .u8 16), .lit (.int .u8 46), .lit (.int .u8 35), .lit (.int .u8 44), .lit (.int .u8 21), .lit (.int .u8 52), .lit (.int .u8 32), .lit (.int .u8 23), .lit (.int .u8 11), .lit (.int .u8 54), .lit (.int .u8 26), .lit (.int .u8 40), .lit (.int .u8 15), .lit (.int .u8 34), .lit (.int .u8 20), .lit (.int .u8 31), .lit (.int .u8 10), .lit (.int .u8 25), .lit (.int .u8 14), .lit (.int .u8 19), .lit (.int .u8 9), .lit (.int .u8 13), .lit (.int .u8 8), .lit (.int .u8 7), .lit (.int .u8 6)]

/-- 'assayerlaw21.ChainWords': WHATEVER THE INPUT: true; the input reads as it did. -/
def chainWordsSpec : ChangeSpec := { name := "chainWords", fn := fun _ => fun
  | [d1, d2] => { results := [.lit (.bool true)], args := [d1, d2] }
  | _ => none }
def chainWordsRow : OpenClaim := { program := "ytpckjlfnhfelkaadoor", sum := "9244a6fe1b1ea22a83a74f891d1b317c2efc5671387a62d0b96de285e36411ba", func := "assayer/assayerlaw21.ChainWords", spec := "chainWords", inPlace := ["math/bits.Add64"], unfollowed := true, recurses := true, named := ["math/bits.divideError", "math/bits.overflowError", "math/bits.deBruijn64tab"], apart := false, laid := [("math/bits.deBruijn64tab", laid_math_bits_deBruijn64tab)] }
def ChainWordsSaid : Prop := chainWordsRow.holds Tryd.pinned (OpenSpec.ofChange chainWordsSpec)

/-- ITS FALSE NEIGHBOUR: 'it returns false'. Refute it at one input. -/
def chainWordsWrong : ChangeSpec := { name := "chainWords", fn := fun _ => fun
  | [d1, d2] => { results := [.lit (.bool false)], args := [d1, d2] }
  | _ => none }
def ChainWordsWrongFalsely : Prop := chainWordsRow.holds Tryd.pinned (OpenSpec.ofChange chainWordsWrong)

/-- 'assayerlaw21.ChainFinal': WHATEVER THE INPUT: true; the input reads as it did. -/
def chainFinalSpec : ChangeSpec := { name := "chainFinal", fn := fun _ => fun
  | [d1, d2, d3] => { results := [.lit (.bool true)], args := [d1, d2, d3] }
  | _ => none }
def chainFinalRow : OpenClaim := { program := "ytpckjlfnhfelkaadoor", sum := "9244a6fe1b1ea22a83a74f891d1b317c2efc5671387a62d0b96de285e36411ba", func := "assayer/assayerlaw21.ChainFinal", spec := "chainFinal", inPlace := ["math/bits.Add64"], unfollowed := true, recurses := true, named := ["math/bits.divideError", "math/bits.overflowError", "math/bits.deBruijn64tab"], apart := false, laid := [("math/bits.deBruijn64tab", laid_math_bits_deBruijn64tab)] }
def ChainFinalSaid : Prop := chainFinalRow.holds Tryd.pinned (OpenSpec.ofChange chainFinalSpec)

/-- ITS FALSE NEIGHBOUR: 'it returns false'. Refute it at one input. -/
def chainFinalWrong : ChangeSpec := { name := "chainFinal", fn := fun _ => fun
  | [d1, d2, d3] => { results := [.lit (.bool false)], args := [d1, d2, d3] }
  | _ => none }
def ChainFinalWrongFalsely : Prop := chainFinalRow.holds Tryd.pinned (OpenSpec.ofChange chainFinalWrong)

/-- 'assayerlaw21.ChainDown': WHATEVER THE INPUT: true; the input reads as it did. -/
def chainDownSpec : ChangeSpec := { name := "chainDown", fn := fun _ => fun
  | [d1, d2, d3] => { results := [.lit (.bool true)], args := [d1, d2, d3] }
  | _ => none }
def chainDownRow : OpenClaim := { program := "ytpckjlfnhfelkaadoor", sum := "9244a6fe1b1ea22a83a74f891d1b317c2efc5671387a62d0b96de285e36411ba", func := "assayer/assayerlaw21.ChainDown", spec := "chainDown", inPlace := ["math/bits.Add64"], unfollowed := true, recurses := true, named := ["math/bits.divideError", "math/bits.overflowError", "math/bits.deBruijn64tab"], apart := false, laid := [("math/bits.deBruijn64tab", laid_math_bits_deBruijn64tab)] }
def ChainDownSaid : Prop := chainDownRow.holds Tryd.pinned (OpenSpec.ofChange chainDownSpec)

/-- ITS FALSE NEIGHBOUR: 'it returns false'. Refute it at one input. -/
def chainDownWrong : ChangeSpec := { name := "chainDown", fn := fun _ => fun
  | [d1, d2, d3] => { results := [.lit (.bool false)], args := [d1, d2, d3] }
  | _ => none }
def ChainDownWrongFalsely : Prop := chainDownRow.holds Tryd.pinned (OpenSpec.ofChange chainDownWrong)

/-- 'assayerlaw21.ChainHalves': WHATEVER THE INPUT: true; the input reads as it did. -/
def chainHalvesSpec : ChangeSpec := { name := "chainHalves", fn := fun _ => fun
  | [d1, d2] => { results := [.lit (.bool true)], args := [d1, d2] }
  | _ => none }
def chainHalvesRow : OpenClaim := { program := "ytpckjlfnhfelkaadoor", sum := "9244a6fe1b1ea22a83a74f891d1b317c2efc5671387a62d0b96de285e36411ba", func := "assayer/assayerlaw21.ChainHalves", spec := "chainHalves", inPlace := ["math/bits.Add64"], unfollowed := true, recurses := true, named := ["math/bits.divideError", "math/bits.overflowError", "math/bits.deBruijn64tab"], apart := false, laid := [("math/bits.deBruijn64tab", laid_math_bits_deBruijn64tab)] }
def ChainHalvesSaid : Prop := chainHalvesRow.holds Tryd.pinned (OpenSpec.ofChange chainHalvesSpec)

/-- ITS FALSE NEIGHBOUR: 'it returns false'. Refute it at one input. -/
def chainHalvesWrong : ChangeSpec := { name := "chainHalves", fn := fun _ => fun
  | [d1, d2] => { results := [.lit (.bool false)], args := [d1, d2] }
  | _ => none }
def ChainHalvesWrongFalsely : Prop := chainHalvesRow.holds Tryd.pinned (OpenSpec.ofChange chainHalvesWrong)

/-- 'assayerlaw21.ChainFirst': WHATEVER THE INPUT: true; the input reads as it did. -/
def chainFirstSpec : ChangeSpec := { name := "chainFirst", fn := fun _ => fun
  | [d1, d2, d3] => { results := [.lit (.bool true)], args := [d1, d2, d3] }
  | _ => none }
def chainFirstRow : OpenClaim := { program := "ytpckjlfnhfelkaadoor", sum := "9244a6fe1b1ea22a83a74f891d1b317c2efc5671387a62d0b96de285e36411ba", func := "assayer/assayerlaw21.ChainFirst", spec := "chainFirst", inPlace := ["math/bits.Add64"], unfollowed := true, recurses := true, named := ["math/bits.divideError", "math/bits.overflowError", "math/bits.deBruijn64tab"], apart := false, laid := [("math/bits.deBruijn64tab", laid_math_bits_deBruijn64tab)] }
def ChainFirstSaid : Prop := chainFirstRow.holds Tryd.pinned (OpenSpec.ofChange chainFirstSpec)

/-- ITS FALSE NEIGHBOUR: 'it returns false'. Refute it at one input. -/
def chainFirstWrong : ChangeSpec := { name := "chainFirst", fn := fun _ => fun
  | [d1, d2, d3] => { results := [.lit (.bool false)], args := [d1, d2, d3] }
  | _ => none }
def ChainFirstWrongFalsely : Prop := chainFirstRow.holds Tryd.pinned (OpenSpec.ofChange chainFirstWrong)

/- THE SECOND FORM. 'bulk': how many values and letters a reading holds, each counted each time it is reached (what is shared counts as often as it is met; a slice's spare places count too). A statement '..UptoSaid' is the law's where the arguments, and the package variables that the reading takes, are together of bulk at most 1048576: NARROWER than '..Said'. Prove '..Said' where nothing that the law and all that it calls make is longer than what came in: it says more and counts as full. Else prove '..UptoSaid'. A law counts once. -/
mutual
def uptoBulk {H : Type} : DataW H → Nat
  | .lit (.string bytes) => bytes.length + 1
  | .lit _ => 1
  | .nil => 1
  | .ptr d => uptoBulk d + 1
  | .slice elems spare => uptoBulkAll elems + uptoBulkAll spare + 1
  | .agg parts => uptoBulkAll parts + 1
  | .iface _ d => uptoBulk d + 1
  | .map entries => uptoBulkEntries entries + 1
  | .held _ => 1
def uptoBulkAll {H : Type} : List (DataW H) → Nat
  | [] => 0
  | d :: r => uptoBulk d + uptoBulkAll r
def uptoBulkEntries {H : Type} : List (Lit × DataW H) → Nat
  | [] => 0
  | x :: r => uptoBulkEntry x + uptoBulkEntries r
def uptoBulkEntry {H : Type} : Lit × DataW H → Nat
  | (.string bytes, d) => bytes.length + uptoBulk d + 1
  | (_, d) => uptoBulk d + 1
 end
def uptoSmall : (H : Type) → List (DataW H) → Bool := fun _ ds => decide (uptoBulkAll ds ≤ 1048576)
def OpenSpec.upto (s : _root_.Go.ChangeSpec) : _root_.Go.OpenSpec := { _root_.Go.OpenSpec.ofChange s with cond := some uptoSmall }

/-- 'assayerlaw21.ChainWords', WHERE WHAT IT READS IS OF BULK AT MOST 1048576: true; the input reads as it did. -/
def chainWordsUptoRow : OpenClaim := { program := "ytpckjlfnhfelkaadoor", sum := "9244a6fe1b1ea22a83a74f891d1b317c2efc5671387a62d0b96de285e36411ba", func := "assayer/assayerlaw21.ChainWords", spec := "chainWords", inPlace := ["math/bits.Add64"], unfollowed := true, recurses := true, named := ["math/bits.divideError", "math/bits.overflowError", "math/bits.deBruijn64tab"], apart := false, laid := [("math/bits.deBruijn64tab", laid_math_bits_deBruijn64tab)], narrowed := true }
def ChainWordsUptoSaid : Prop := chainWordsUptoRow.holds Tryd.pinned (OpenSpec.upto chainWordsSpec)

/-- 'assayerlaw21.ChainFinal', WHERE WHAT IT READS IS OF BULK AT MOST 1048576: true; the input reads as it did. -/
def chainFinalUptoRow : OpenClaim := { program := "ytpckjlfnhfelkaadoor", sum := "9244a6fe1b1ea22a83a74f891d1b317c2efc5671387a62d0b96de285e36411ba", func := "assayer/assayerlaw21.ChainFinal", spec := "chainFinal", inPlace := ["math/bits.Add64"], unfollowed := true, recurses := true, named := ["math/bits.divideError", "math/bits.overflowError", "math/bits.deBruijn64tab"], apart := false, laid := [("math/bits.deBruijn64tab", laid_math_bits_deBruijn64tab)], narrowed := true }
def ChainFinalUptoSaid : Prop := chainFinalUptoRow.holds Tryd.pinned (OpenSpec.upto chainFinalSpec)

/-- 'assayerlaw21.ChainDown', WHERE WHAT IT READS IS OF BULK AT MOST 1048576: true; the input reads as it did. -/
def chainDownUptoRow : OpenClaim := { program := "ytpckjlfnhfelkaadoor", sum := "9244a6fe1b1ea22a83a74f891d1b317c2efc5671387a62d0b96de285e36411ba", func := "assayer/assayerlaw21.ChainDown", spec := "chainDown", inPlace := ["math/bits.Add64"], unfollowed := true, recurses := true, named := ["math/bits.divideError", "math/bits.overflowError", "math/bits.deBruijn64tab"], apart := false, laid := [("math/bits.deBruijn64tab", laid_math_bits_deBruijn64tab)], narrowed := true }
def ChainDownUptoSaid : Prop := chainDownUptoRow.holds Tryd.pinned (OpenSpec.upto chainDownSpec)

/-- 'assayerlaw21.ChainHalves', WHERE WHAT IT READS IS OF BULK AT MOST 1048576: true; the input reads as it did. -/
def chainHalvesUptoRow : OpenClaim := { program := "ytpckjlfnhfelkaadoor", sum := "9244a6fe1b1ea22a83a74f891d1b317c2efc5671387a62d0b96de285e36411ba", func := "assayer/assayerlaw21.ChainHalves", spec := "chainHalves", inPlace := ["math/bits.Add64"], unfollowed := true, recurses := true, named := ["math/bits.divideError", "math/bits.overflowError", "math/bits.deBruijn64tab"], apart := false, laid := [("math/bits.deBruijn64tab", laid_math_bits_deBruijn64tab)], narrowed := true }
def ChainHalvesUptoSaid : Prop := chainHalvesUptoRow.holds Tryd.pinned (OpenSpec.upto chainHalvesSpec)

/-- 'assayerlaw21.ChainFirst', WHERE WHAT IT READS IS OF BULK AT MOST 1048576: true; the input reads as it did. -/
def chainFirstUptoRow : OpenClaim := { program := "ytpckjlfnhfelkaadoor", sum := "9244a6fe1b1ea22a83a74f891d1b317c2efc5671387a62d0b96de285e36411ba", func := "assayer/assayerlaw21.ChainFirst", spec := "chainFirst", inPlace := ["math/bits.Add64"], unfollowed := true, recurses := true, named := ["math/bits.divideError", "math/bits.overflowError", "math/bits.deBruijn64tab"], apart := false, laid := [("math/bits.deBruijn64tab", laid_math_bits_deBruijn64tab)], narrowed := true }
def ChainFirstUptoSaid : Prop := chainFirstUptoRow.holds Tryd.pinned (OpenSpec.upto chainFirstSpec)

end Rows
end Go.Proofs.YtpckjlfnhfelkaaDoor
