/-
  NARROWER THAN 'FOR EVERY INPUT', by the rows' own cells (each row's printed sentence says how): NttForth: laid · NttPairs: laid · NttBack: laid · NttAdds: laid · NttShifts: laid · NttHalf: laid.
  DERIVED. THE GIVEN ROWS OF THIS SEAT. 6 by the template 'for every input the law returns true; each argument reads behind the call as it read before'; 0 by the template 'total and deterministic' (their statements: YtflabonifbhmnaaDoorTotals.lean).
  GIVEN WITH THE SEED: the statements are not yours to turn. If you find one false, say at which input.
  Laid BY PROGRAM, IN A SANDBOX (cutbox-rows.mjs): the forced cells as the released guide's own fill.sh prints them over the translation bff07b8c7295407b… (all of the seat's roots in one cut). By AI agents, Wed Nov 11 2026. No macro, syntax, notation, axiom, sorry.
-/
import Derived.Test.YtflabonifbhmnaaDoorChecked
import GoSem.Claim
import GoSem.ClaimJoined
import GoSem.ClaimMapViews
import Derived.JoinedTies
import Derived.KernelRfl
namespace Go.Proofs.YtflabonifbhmnaaDoor
/- THE CELL 'sum', in the pinned program and in every row, IS THE sha256 OF THE DUMP (.gsa) THAT YtflabonifbhmnaaDoorProg.lean LOADS. Nothing in Lean hashes anything: it is a label: what it is worth is what the hold of that sum in a sandbox is worth. -/
noncomputable def Tryd.pinned : Pinned := { name := "ytflabonifbhmnaadoor", sum := "bff07b8c7295407b2fae62a755a331d8044f828f51ee370c741016558497b8f8", checked := Tryd.checked }
namespace Rows
def none {H : Type} : Left H := { results := [], args := [] }

/- WHAT THE LISTED PACKAGE-LEVEL VARIABLES READ AS WHEN THE CALL BEGINS. Each datum BY PROGRAM (the guide's laid-datum.mjs) off the statement by which the dump's own 'gosem.cut.vars' lays the variable. In a bare row this is a premise. The card (YtflabonifbhmnaaDoorCards.lean) ties it to the program's text. -/
def laid_math_bits_deBruijn64tab {H : Type} : DataW H := .agg [.lit (.int .u8 0), .lit (.int .u8 1), .lit (.int .u8 56), .lit (.int .u8 2), .lit (.int .u8 57), .lit (.int .u8 49), .lit (.int .u8 28), .lit (.int .u8 3), .lit (.int .u8 61), .lit (.int .u8 58), .lit (.int .u8 42), .lit (.int .u8 50), .lit (.int .u8 38), .lit (.int .u8 29), .lit (.int .u8 17), .lit (.int .u8 4), .lit (.int .u8 62), .lit (.int .u8 47), .lit (.int .u8 59), .lit (.int .u8 36), .lit (.int .u8 45), .lit (.int .u8 43), .lit (.int .u8 51), .lit (.int .u8 22), .lit (.int .u8 53), .lit (.int .u8 39), .lit (.int .u8 33), .lit (.int .u8 30), .lit (.int .u8 24), .lit (.int .u8 18), .lit (.int .u8 12), .lit (.int .u8 5), .lit (.int .u8 63), .lit (.int .u8 55), .lit (.int .u8 48), .lit (.int .u8 27), .lit (.int .u8 60), .lit (.int .u8 41), .lit (.int .u8 37), .lit (.int .u8 16), .lit (.int .u8 46), .lit (.int .u8 35), .lit (.int .u8 44), .lit (.int .u8 21), .lit (.int .u8 52), .lit (.int .u8 32), .lit (.int .u8 23), .lit (.int .u8 11), .lit (.int .u8 54), .lit (.int .u8 26), .lit (.int .u8 40), .lit (.int .u8 15), .lit (.int .u8 34), .lit (.int .u8 20), .lit (.int .u8 31), .lit (.int .u8 10), .lit (.int .u8 25), .lit (.int .u8 14), .lit (.int .u8 19), .lit (.int .u8 9), .lit (.int .u8 13), .lit (.int .u8 8), .lit (.int .u8 7), .lit (.int .u8 6)]

/-- 'assayerlaw04.NttForth': WHATEVER THE INPUT: true; the input reads as it did. -/
def nttForthSpec : ChangeSpec := { name := "nttForth", fn := fun _ => fun
  | [d1, d2, d3] => { results := [.lit (.bool true)], args := [d1, d2, d3] }
  | _ => none }
def nttForthRow : OpenClaim := { program := "ytflabonifbhmnaadoor", sum := "bff07b8c7295407b2fae62a755a331d8044f828f51ee370c741016558497b8f8", func := "assayer/assayerlaw04.NttForth", spec := "nttForth", inPlace := ["math/bits.Add64"], unfollowed := true, recurses := true, named := ["math/bits.deBruijn64tab", "math/bits.divideError", "math/bits.overflowError"], apart := false, laid := [("math/bits.deBruijn64tab", laid_math_bits_deBruijn64tab)] }
def NttForthSaid : Prop := nttForthRow.holds Tryd.pinned (OpenSpec.ofChange nttForthSpec)

/-- ITS FALSE NEIGHBOUR: 'it returns false'. Refute it at one input. -/
def nttForthWrong : ChangeSpec := { name := "nttForth", fn := fun _ => fun
  | [d1, d2, d3] => { results := [.lit (.bool false)], args := [d1, d2, d3] }
  | _ => none }
def NttForthWrongFalsely : Prop := nttForthRow.holds Tryd.pinned (OpenSpec.ofChange nttForthWrong)

/-- 'assayerlaw04.NttPairs': WHATEVER THE INPUT: true; the input reads as it did. -/
def nttPairsSpec : ChangeSpec := { name := "nttPairs", fn := fun _ => fun
  | [d1, d2, d3] => { results := [.lit (.bool true)], args := [d1, d2, d3] }
  | _ => none }
def nttPairsRow : OpenClaim := { program := "ytflabonifbhmnaadoor", sum := "bff07b8c7295407b2fae62a755a331d8044f828f51ee370c741016558497b8f8", func := "assayer/assayerlaw04.NttPairs", spec := "nttPairs", inPlace := ["math/bits.Add64"], unfollowed := true, recurses := true, named := ["math/bits.deBruijn64tab", "math/bits.divideError", "math/bits.overflowError"], apart := false, laid := [("math/bits.deBruijn64tab", laid_math_bits_deBruijn64tab)] }
def NttPairsSaid : Prop := nttPairsRow.holds Tryd.pinned (OpenSpec.ofChange nttPairsSpec)

/-- ITS FALSE NEIGHBOUR: 'it returns false'. Refute it at one input. -/
def nttPairsWrong : ChangeSpec := { name := "nttPairs", fn := fun _ => fun
  | [d1, d2, d3] => { results := [.lit (.bool false)], args := [d1, d2, d3] }
  | _ => none }
def NttPairsWrongFalsely : Prop := nttPairsRow.holds Tryd.pinned (OpenSpec.ofChange nttPairsWrong)

/-- 'assayerlaw04.NttBack': WHATEVER THE INPUT: true; the input reads as it did. -/
def nttBackSpec : ChangeSpec := { name := "nttBack", fn := fun _ => fun
  | [d1, d2, d3] => { results := [.lit (.bool true)], args := [d1, d2, d3] }
  | _ => none }
def nttBackRow : OpenClaim := { program := "ytflabonifbhmnaadoor", sum := "bff07b8c7295407b2fae62a755a331d8044f828f51ee370c741016558497b8f8", func := "assayer/assayerlaw04.NttBack", spec := "nttBack", inPlace := ["math/bits.Add64"], unfollowed := true, recurses := true, named := ["math/bits.deBruijn64tab"], apart := false, laid := [("math/bits.deBruijn64tab", laid_math_bits_deBruijn64tab)] }
def NttBackSaid : Prop := nttBackRow.holds Tryd.pinned (OpenSpec.ofChange nttBackSpec)

/-- ITS FALSE NEIGHBOUR: 'it returns false'. Refute it at one input. -/
def nttBackWrong : ChangeSpec := { name := "nttBack", fn := fun _ => fun
  | [d1, d2, d3] => { results := [.lit (.bool false)], args := [d1, d2, d3] }
  | _ => none }
def NttBackWrongFalsely : Prop := nttBackRow.holds Tryd.pinned (OpenSpec.ofChange nttBackWrong)

/-- 'assayerlaw04.NttAdds': WHATEVER THE INPUT: true; the input reads as it did. -/
def nttAddsSpec : ChangeSpec := { name := "nttAdds", fn := fun _ => fun
  | [d1, d2, d3] => { results := [.lit (.bool true)], args := [d1, d2, d3] }
  | _ => none }
def nttAddsRow : OpenClaim := { program := "ytflabonifbhmnaadoor", sum := "bff07b8c7295407b2fae62a755a331d8044f828f51ee370c741016558497b8f8", func := "assayer/assayerlaw04.NttAdds", spec := "nttAdds", inPlace := ["math/bits.Add64"], unfollowed := true, recurses := true, named := ["math/bits.deBruijn64tab", "math/bits.divideError", "math/bits.overflowError"], apart := false, laid := [("math/bits.deBruijn64tab", laid_math_bits_deBruijn64tab)] }
def NttAddsSaid : Prop := nttAddsRow.holds Tryd.pinned (OpenSpec.ofChange nttAddsSpec)

/-- ITS FALSE NEIGHBOUR: 'it returns false'. Refute it at one input. -/
def nttAddsWrong : ChangeSpec := { name := "nttAdds", fn := fun _ => fun
  | [d1, d2, d3] => { results := [.lit (.bool false)], args := [d1, d2, d3] }
  | _ => none }
def NttAddsWrongFalsely : Prop := nttAddsRow.holds Tryd.pinned (OpenSpec.ofChange nttAddsWrong)

/-- 'assayerlaw04.NttShifts': WHATEVER THE INPUT: true; the input reads as it did. -/
def nttShiftsSpec : ChangeSpec := { name := "nttShifts", fn := fun _ => fun
  | [d1, d2] => { results := [.lit (.bool true)], args := [d1, d2] }
  | _ => none }
def nttShiftsRow : OpenClaim := { program := "ytflabonifbhmnaadoor", sum := "bff07b8c7295407b2fae62a755a331d8044f828f51ee370c741016558497b8f8", func := "assayer/assayerlaw04.NttShifts", spec := "nttShifts", inPlace := ["math/bits.Add64"], unfollowed := true, recurses := true, named := ["math/bits.deBruijn64tab", "math/bits.divideError", "math/bits.overflowError"], apart := false, laid := [("math/bits.deBruijn64tab", laid_math_bits_deBruijn64tab)] }
def NttShiftsSaid : Prop := nttShiftsRow.holds Tryd.pinned (OpenSpec.ofChange nttShiftsSpec)

/-- ITS FALSE NEIGHBOUR: 'it returns false'. Refute it at one input. -/
def nttShiftsWrong : ChangeSpec := { name := "nttShifts", fn := fun _ => fun
  | [d1, d2] => { results := [.lit (.bool false)], args := [d1, d2] }
  | _ => none }
def NttShiftsWrongFalsely : Prop := nttShiftsRow.holds Tryd.pinned (OpenSpec.ofChange nttShiftsWrong)

/-- 'assayerlaw04.NttHalf': WHATEVER THE INPUT: true; the input reads as it did. -/
def nttHalfSpec : ChangeSpec := { name := "nttHalf", fn := fun _ => fun
  | [d1, d2, d3] => { results := [.lit (.bool true)], args := [d1, d2, d3] }
  | _ => none }
def nttHalfRow : OpenClaim := { program := "ytflabonifbhmnaadoor", sum := "bff07b8c7295407b2fae62a755a331d8044f828f51ee370c741016558497b8f8", func := "assayer/assayerlaw04.NttHalf", spec := "nttHalf", inPlace := ["math/bits.Add64"], unfollowed := true, recurses := true, named := ["math/bits.deBruijn64tab"], apart := false, laid := [("math/bits.deBruijn64tab", laid_math_bits_deBruijn64tab)] }
def NttHalfSaid : Prop := nttHalfRow.holds Tryd.pinned (OpenSpec.ofChange nttHalfSpec)

/-- ITS FALSE NEIGHBOUR: 'it returns false'. Refute it at one input. -/
def nttHalfWrong : ChangeSpec := { name := "nttHalf", fn := fun _ => fun
  | [d1, d2, d3] => { results := [.lit (.bool false)], args := [d1, d2, d3] }
  | _ => none }
def NttHalfWrongFalsely : Prop := nttHalfRow.holds Tryd.pinned (OpenSpec.ofChange nttHalfWrong)

/- THE SECOND FORM. 'bulk': how many values and letters a reading holds, each counted each time it is reached (what is shared counts as often as it is met; a slice's spare places count too). A statement '..UptoSaid' is the law's where the arguments, and the package variables that the reading takes, are together of bulk at most 1048576: NARROWER than '..Said'. Prove '..Said' where nothing that the law and all that it calls make is longer than what came in: it says more and counts as full. Else prove '..UptoSaid'. A law counts once. -/
mutual
def uptoBulk {H : Type} : DataW H → Nat
  | .lit (.string bytes) => bytes.length + 1
  | .lit _ => 1
  | .nil => 1
  | .ptr d => uptoBulk d + 1
  | .slice elems spare => uptoBulkAll elems + uptoBulkAll spare + 1
  | .agg parts => uptoBulkAll parts + 1
  | .iface _ d => uptoBulk d + 1
  | .map entries => uptoBulkEntries entries + 1
  | .held _ => 1
def uptoBulkAll {H : Type} : List (DataW H) → Nat
  | [] => 0
  | d :: r => uptoBulk d + uptoBulkAll r
def uptoBulkEntries {H : Type} : List (Lit × DataW H) → Nat
  | [] => 0
  | x :: r => uptoBulkEntry x + uptoBulkEntries r
def uptoBulkEntry {H : Type} : Lit × DataW H → Nat
  | (.string bytes, d) => bytes.length + uptoBulk d + 1
  | (_, d) => uptoBulk d + 1
 end
def uptoSmall : (H : Type) → List (DataW H) → Bool := fun _ ds => decide (uptoBulkAll ds ≤ 1048576)
def OpenSpec.upto (s : _root_.Go.ChangeSpec) : _root_.Go.OpenSpec := { _root_.Go.OpenSpec.ofChange s with cond := some uptoSmall }

/-- 'assayerlaw04.NttForth', WHERE WHAT IT READS IS OF BULK AT MOST 1048576: true; the input reads as it did. -/
def nttForthUptoRow : OpenClaim := { program := "ytflabonifbhmnaadoor", sum := "bff07b8c7295407b2fae62a755a331d8044f828f51ee370c741016558497b8f8", func := "assayer/assayerlaw04.NttForth", spec := "nttForth", inPlace := ["math/bits.Add64"], unfollowed := true, recurses := true, named := ["math/bits.deBruijn64tab", "math/bits.divideError", "math/bits.overflowError"], apart := false, laid := [("math/bits.deBruijn64tab", laid_math_bits_deBruijn64tab)], narrowed := true }
def NttForthUptoSaid : Prop := nttForthUptoRow.holds Tryd.pinned (OpenSpec.upto nttForthSpec)

/-- 'assayerlaw04.NttPairs', WHERE WHAT IT READS IS OF BULK AT MOST 1048576: true; the input reads as it did. -/
def nttPairsUptoRow : OpenClaim := { program := "ytflabonifbhmnaadoor", sum := "bff07b8c7295407b2fae62a755a331d8044f828f51ee370c741016558497b8f8", func := "assayer/assayerlaw04.NttPairs", spec := "nttPairs", inPlace := ["math/bits.Add64"], unfollowed := true, recurses := true, named := ["math/bits.deBruijn64tab", "math/bits.divideError", "math/bits.overflowError"], apart := false, laid := [("math/bits.deBruijn64tab", laid_math_bits_deBruijn64tab)], narrowed := true }
def NttPairsUptoSaid : Prop := nttPairsUptoRow.holds Tryd.pinned (OpenSpec.upto nttPairsSpec)

/-- 'assayerlaw04.NttBack', WHERE WHAT IT READS IS OF BULK AT MOST 1048576: true; the input reads as it did. -/
def nttBackUptoRow : OpenClaim := { program := "ytflabonifbhmnaadoor", sum := "bff07b8c7295407b2fae62a755a331d8044f828f51ee370c741016558497b8f8", func := "assayer/assayerlaw04.NttBack", spec := "nttBack", inPlace := ["math/bits.Add64"], unfollowed := true, recurses := true, named := ["math/bits.deBruijn64tab"], apart := false, laid := [("math/bits.deBruijn64tab", laid_math_bits_deBruijn64tab)], narrowed := true }
def NttBackUptoSaid : Prop := nttBackUptoRow.holds Tryd.pinned (OpenSpec.upto nttBackSpec)

/-- 'assayerlaw04.NttAdds', WHERE WHAT IT READS IS OF BULK AT MOST 1048576: true; the input reads as it did. -/
def nttAddsUptoRow : OpenClaim := { program := "ytflabonifbhmnaadoor", sum := "bff07b8c7295407b2fae62a755a331d8044f828f51ee370c741016558497b8f8", func := "assayer/assayerlaw04.NttAdds", spec := "nttAdds", inPlace := ["math/bits.Add64"], unfollowed := true, recurses := true, named := ["math/bits.deBruijn64tab", "math/bits.divideError", "math/bits.overflowError"], apart := false, laid := [("math/bits.deBruijn64tab", laid_math_bits_deBruijn64tab)], narrowed := true }
def NttAddsUptoSaid : Prop := nttAddsUptoRow.holds Tryd.pinned (OpenSpec.upto nttAddsSpec)

/-- 'assayerlaw04.NttShifts', WHERE WHAT IT READS IS OF BULK AT MOST 1048576: true; the input reads as it did. -/
def nttShiftsUptoRow : OpenClaim := { program := "ytflabonifbhmnaadoor", sum := "bff07b8c7295407b2fae62a755a331d8044f828f51ee370c741016558497b8f8", func := "assayer/assayerlaw04.NttShifts", spec := "nttShifts", inPlace := ["math/bits.Add64"], unfollowed := true, recurses := true, named := ["math/bits.deBruijn64tab", "math/bits.divideError", "math/bits.overflowError"], apart := false, laid := [("math/bits.deBruijn64tab", laid_math_bits_deBruijn64tab)], narrowed := true }
def NttShiftsUptoSaid : Prop := nttShiftsUptoRow.holds Tryd.pinned (OpenSpec.upto nttShiftsSpec)

/-- 'assayerlaw04.NttHalf', WHERE WHAT IT READS IS OF BULK AT MOST 1048576: true; the input reads as it did. -/
def nttHalfUptoRow : OpenClaim := { program := "ytflabonifbhmnaadoor", sum := "bff07b8c7295407b2fae62a755a331d8044f828f51ee370c741016558497b8f8", func := "assayer/assayerlaw04.NttHalf", spec := "nttHalf", inPlace := ["math/bits.Add64"], unfollowed := true, recurses := true, named := ["math/bits.deBruijn64tab"], apart := false, laid := [("math/bits.deBruijn64tab", laid_math_bits_deBruijn64tab)], narrowed := true }
def NttHalfUptoSaid : Prop := nttHalfUptoRow.holds Tryd.pinned (OpenSpec.upto nttHalfSpec)

end Rows
end Go.Proofs.YtflabonifbhmnaaDoor
