/-
  The walk of BlakeSums: it answers true.
-/
import Derived.Test.YtajjfonodfncmaaDoorBProg
import Derived.Test.YtajjfonodfncmaaDoorBLSums
namespace Go.Proofs.YtajjfonodfncmaaDoor
open Go Go.RowKit
set_option linter.unusedVariables false

theorem U16_wf {a : Int} (h : (Lit.int .u16 a).wf = true) : 0 ≤ a ∧ a ≤ 65535 := Go.bounds_u16 h
theorem bsums_walk (s : ByteArray) (i j : Int) (hs : s.size ≤ maxLen) (hi : 0 ≤ i ∧ i ≤ 65535) (hj : 0 ≤ j ∧ j ≤ 65535) (w : World) (hT : Laid7 w) :
    Calls Tryd.prog 3 #[.string s, .int .u16 i, .int .u16 j] w fun e w' => e = .returned (.bool true) ∧ Below w.heap.size w w' :=
  bsums_body _ ask7 s i j hi hj w (tabB_of hT) hs
end Go.Proofs.YtajjfonodfncmaaDoor
