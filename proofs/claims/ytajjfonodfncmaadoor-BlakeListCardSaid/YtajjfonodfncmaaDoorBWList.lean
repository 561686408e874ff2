/-
  The walk of BlakeList: it answers true.
-/
import Derived.Test.YtajjfonodfncmaaDoorBProg
import Derived.Test.YtajjfonodfncmaaDoorBLList
import Derived.Test.YtajjfonodfncmaaDoorOpenStrs
namespace Go.Proofs.YtajjfonodfncmaaDoor
open Go Go.RowKit
set_option linter.unusedVariables false

theorem blist_walk (a : Option Addr) (len cap : Nat) (f : Nat → ByteArray) (w : World) (h : IsStrs w a len cap f) (hT : Laid7 w) :
    Calls Tryd.prog 5 #[.slice a len cap] w fun e w' => e = .returned (.bool true) ∧ Below w.heap.size w w' :=
  blist_body _ ask7 a len cap f w h.str.1 h.str.2 (tabB_of hT)
end Go.Proofs.YtajjfonodfncmaaDoor
