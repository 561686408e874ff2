/-
  What the document's Sum and Prod of layer 1 come to: contracts for the walk.
-/
import Derived.Test.YtmgbdccfgbflnaaRef
namespace Go.Proofs.Ytmgbdccfgbflnaa
open Go.RowKit
set_option linter.unusedVariables false

end Go.Proofs.Ytmgbdccfgbflnaa
