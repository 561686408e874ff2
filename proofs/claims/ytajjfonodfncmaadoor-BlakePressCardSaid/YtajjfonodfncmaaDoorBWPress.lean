/-
  The walk of BlakePress: it answers true.
-/
import Derived.Test.YtajjfonodfncmaaDoorBProg
import Derived.Test.YtajjfonodfncmaaDoorBLPress
namespace Go.Proofs.YtajjfonodfncmaaDoor
open Go Go.RowKit
set_option linter.unusedVariables false

theorem bpress_walk (h b : Nat → Int) (n : Int) (last : Bool) (hh : IsWords 8 h) (hb : IsBytes 64 b) (hn : U n) (w : World) (hT : Laid7 w) :
    Calls Tryd.prog 4 #[.agg (cellsA 74 (blk74 h b n last))] w fun e w' => e = .returned (.bool true) ∧ Below w.heap.size w w' :=
  bpress_body _ ask7 h b n last hh hb hn w (tabB_of hT)
end Go.Proofs.YtajjfonodfncmaaDoor
