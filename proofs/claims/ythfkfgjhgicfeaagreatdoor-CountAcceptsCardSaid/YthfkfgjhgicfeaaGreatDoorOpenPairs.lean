/-
  What is known of an argument that is a slice of pairs.
-/
import Derived.Test.YthfkfgjhgicfeaaGreatDoorGNum
import Derived.Deep.SlicePairs
import Derived.ChangeArms
namespace Go.Proofs.YthfkfgjhgicfeaaGreatDoor
open Go.RowKit Go.ChangeShapes Go.WideShapes Go.Deep
set_option linter.unusedVariables false

end Go.Proofs.YthfkfgjhgicfeaaGreatDoor
