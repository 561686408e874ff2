/-
  OctM: Numbers as bytes and back: plain functions (no Go in sight but the library's own texts of numbers).
  OctRef: What the document's Eight, Number, Row come to: contracts for the walk.
  OctRef2: What the document's Number comes to.
  OctRef3: What the document's Row and Pairs come to.
  OctRef4: What the document's Pairs comes to.
  OctRef5: What the document's ReadRow comes to.
  OctRef6: What the document's ReadPairs comes to.
  OctBack: There and back: what the rows of the document are read as. Plain mathematics.
-/
import Derived.Test.YthfkfgjhgicfeaaGreatDoorGBlk
import Derived.Test.YthfkfgjhgicfeaaGreatDoorGNum
import Derived.Test.YthfkfgjhgicfeaaGreatDoorGRow
import Derived.IntWalk
import Derived.Lib.QuietBelow
import Derived.BigQuiet
import Derived.BigRegion
import Derived.Deep.RegionLaw
namespace Go.Proofs.YthfkfgjhgicfeaaGreatDoor
open Go Go.RowKit
set_option linter.unusedVariables false

end Go.Proofs.YthfkfgjhgicfeaaGreatDoor
namespace Go.Proofs.YthfkfgjhgicfeaaGreatDoor
open Go Go.RowKit
set_option linter.unusedVariables false

end Go.Proofs.YthfkfgjhgicfeaaGreatDoor
namespace Go.Proofs.YthfkfgjhgicfeaaGreatDoor
open Go Go.RowKit
set_option linter.unusedVariables false

end Go.Proofs.YthfkfgjhgicfeaaGreatDoor
namespace Go.Proofs.YthfkfgjhgicfeaaGreatDoor
open Go Go.RowKit
set_option linter.unusedVariables false

end Go.Proofs.YthfkfgjhgicfeaaGreatDoor
namespace Go.Proofs.YthfkfgjhgicfeaaGreatDoor
open Go Go.RowKit Go.Sort Go.BigFrame
set_option linter.unusedVariables false

end Go.Proofs.YthfkfgjhgicfeaaGreatDoor
namespace Go.Proofs.YthfkfgjhgicfeaaGreatDoor
open Go Go.RowKit
set_option linter.unusedVariables false

end Go.Proofs.YthfkfgjhgicfeaaGreatDoor
namespace Go.Proofs.YthfkfgjhgicfeaaGreatDoor
open Go Go.RowKit
set_option linter.unusedVariables false

end Go.Proofs.YthfkfgjhgicfeaaGreatDoor
namespace Go.Proofs.YthfkfgjhgicfeaaGreatDoor
open Go Go.RowKit
set_option linter.unusedVariables false

end Go.Proofs.YthfkfgjhgicfeaaGreatDoor
