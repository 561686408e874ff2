/-
  What the document's 'the same numbers?' and 'the same pairs?' come to: contracts for the walk.
-/
import Derived.Test.YthfkfgjhgicfeaaDoorGRow
import Derived.Deep.QuietTactic
import Derived.BigQuiet
namespace Go.Proofs.YthfkfgjhgicfeaaDoor
open Go.RowKit
set_option linter.unusedVariables false

end Go.Proofs.YthfkfgjhgicfeaaDoor
