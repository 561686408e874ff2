/-
  What is asked of the program's calls of layer 7, in worlds of a kind that new memory doesn't change; what follows for texts side by side.
-/
import Derived.Test.YthfkfgjhgicfeaaGreatDoorGBlk
namespace Go.Proofs.YthfkfgjhgicfeaaGreatDoor
open Go Go.RowKit
set_option linter.unusedVariables false

end Go.Proofs.YthfkfgjhgicfeaaGreatDoor
