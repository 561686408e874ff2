/-
  What the calls of the document's answer for layer 2 come to, the rest: contracts for the walk.
-/
import Derived.Test.YtflabonifbhmnaaDoorPairRef
namespace Go.Proofs.YtflabonifbhmnaaDoor
open Go.RowKit Go.Sort Go.BigFrame
set_option linter.unusedVariables false

@[go_sem] theorem field_a (x y : Value) (w : World) : (Instr.field 60 (.agg #[x, y]) 0).run Tryd.prog w = .ok x w := by kernel_rfl
@[go_sem] theorem field_b (x y : Value) (w : World) : (Instr.field 60 (.agg #[x, y]) 1).run Tryd.prog w = .ok y w := by kernel_rfl

end Go.Proofs.YtflabonifbhmnaaDoor
