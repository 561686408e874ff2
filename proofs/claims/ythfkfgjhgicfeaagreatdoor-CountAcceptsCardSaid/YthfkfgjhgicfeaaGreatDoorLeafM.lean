/-
  Sums of rows: plain; texts side by side; what is asked of the program's calls of layer 9.
-/
import Derived.Test.YthfkfgjhgicfeaaGreatDoorGOct
import Derived.Test.YthfkfgjhgicfeaaGreatDoorBAsk
namespace Go.Proofs.YthfkfgjhgicfeaaGreatDoor
open Go Go.RowKit
set_option linter.unusedVariables false

end Go.Proofs.YthfkfgjhgicfeaaGreatDoor
