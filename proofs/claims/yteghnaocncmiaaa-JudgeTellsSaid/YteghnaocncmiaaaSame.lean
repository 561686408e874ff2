/-
  What the document's 'the same numbers?' and 'the same pairs?' come to: contracts for the walk.
-/
import Derived.Test.YteghnaocncmiaaaGRow
import Derived.Deep.QuietTactic
import Derived.BigQuiet
namespace Go.Proofs.Yteghnaocncmiaaa
open Go.RowKit
set_option linter.unusedVariables false

end Go.Proofs.Yteghnaocncmiaaa
