/-
  What the document's 'the same numbers?' and 'the same pairs?' come to: contracts for the walk.
-/
import Derived.Test.YtlgfnlkblehlbaaGRow
import Derived.Deep.QuietTactic
import Derived.BigQuiet
namespace Go.Proofs.Ytlgfnlkblehlbaa
open Go.RowKit
set_option linter.unusedVariables false

end Go.Proofs.Ytlgfnlkblehlbaa
