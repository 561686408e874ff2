/-
  The walks of layer 18's statements: they answer true.
-/
import Derived.Test.YtckipfcjgmiacaaGAirPro
import Derived.Test.YtckipfcjgmiacaaAirArg
import Derived.Test.YtckipfcjgmiacaaALAwake
import Derived.Test.YtckipfcjgmiacaaALChecks
import Derived.Test.YtckipfcjgmiacaaALParses
import Derived.Test.YtckipfcjgmiacaaALBack
import Derived.Test.YtckipfcjgmiacaaALDegree
import Derived.Test.YtckipfcjgmiacaaALMore
namespace Go.Proofs.Ytckipfcjgmiacaa
open Go Go.RowKit Go.Deep
set_option linter.unusedVariables false

theorem aawake0 (W : World) (_ : True) : Calls Try.prog 9 #[] W fun e w' => e = .returned (.bool true) ∧ Below W.heap.size W w' := aawake _ ask18 W trivial
theorem achecks_walk (v0 : Value) (w : World) (h0 : shAir.Arg w v0) : Calls Try.prog 3 #[v0] w fun e w' => e = .returned (.bool true) ∧ Below w.heap.size w w' := by
  obtain ⟨A, p, rfl, hA, hk, _⟩ := arg_air h0
  exact achecks_body _ ask18 aawake0 A p w trivial hA hk
theorem aparses_walk (v0 v1 : Value) (w : World) (h0 : Sh.string.Arg w v0) (h1 : shAir.Arg w v1) : Calls Try.prog 4 #[v0, v1] w fun e w' => e = .returned (.bool true) ∧ Below w.heap.size w w' := by
  obtain ⟨s, rfl, hs⟩ := h0.string
  obtain ⟨A, p, rfl, hA, hk, _⟩ := arg_air h1
  exact aparses_body _ ask18 aawake0 s A p w trivial hA hk hs
theorem aback_walk (v0 v1 : Value) (w : World) (h0 : shAir.Arg w v0) (h1 : Sh.string.Arg w v1) : Calls Try.prog 5 #[v0, v1] w fun e w' => e = .returned (.bool true) ∧ Below w.heap.size w w' := by
  obtain ⟨A, p, rfl, hA, hk, _⟩ := arg_air h0
  obtain ⟨s, rfl, hs⟩ := h1.string
  exact aback_body _ ask18 aawake0 s A p w trivial hA hk hs
theorem adegree_walk (v0 : Value) (w : World) (h0 : shAir.Arg w v0) : Calls Try.prog 6 #[v0] w fun e w' => e = .returned (.bool true) ∧ Below w.heap.size w w' := by
  obtain ⟨A, p, rfl, hA, hk, _⟩ := arg_air h0
  exact adegree_body _ ask18 aawake0 A p w trivial hA hk
theorem amore_walk (v0 v1 : Value) (w : World) (h0 : shAir.Arg w v0) (h1 : Sh.string.Arg w v1) : Calls Try.prog 7 #[v0, v1] w fun e w' => e = .returned (.bool true) ∧ Below w.heap.size w w' := by
  obtain ⟨A, p, rfl, hA, hk, hn⟩ := arg_air h0
  obtain ⟨s, rfl, hs⟩ := h1.string
  exact amore_body _ ask18 aawake0 A p s w trivial hA hk hn hs
end Go.Proofs.Ytckipfcjgmiacaa
