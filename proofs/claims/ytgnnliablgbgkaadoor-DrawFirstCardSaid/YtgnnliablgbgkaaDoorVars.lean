/-
  Variables of two cells, many of them, side by side. No function of the program is named.
-/
import Derived.Test.YtgnnliablgbgkaaDoorBeside
namespace Go.Proofs.YtgnnliablgbgkaaDoor
open Go Go.RowKit
set_option linter.unusedVariables false

def Vars (W : World) : List (Nat × Value × Value) → Prop
  | [] => True
  | (g, u, v) :: l => Duo W g u v ∧ Vars W l
theorem Vars.keep {W W' : World} (hb : Below W.heap.size W W') : ∀ {l : List (Nat × Value × Value)}, Vars W l → Vars W' l
  | [], _ => trivial
  | _ :: _, h => ⟨h.1.keep hb, Vars.keep hb h.2⟩
end Go.Proofs.YtgnnliablgbgkaaDoor
