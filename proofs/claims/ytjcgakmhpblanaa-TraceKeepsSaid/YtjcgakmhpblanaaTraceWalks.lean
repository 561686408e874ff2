/-
  The walks of layer 19's statements: they answer true.
-/
import Derived.Test.YtjcgakmhpblanaaTraceProg
import Derived.Test.YtjcgakmhpblanaaTraceArg
import Derived.Test.YtjcgakmhpblanaaAirArg
import Derived.Test.YtjcgakmhpblanaaTLAwake
import Derived.Test.YtjcgakmhpblanaaTLMakes
import Derived.Test.YtjcgakmhpblanaaTLChecks
import Derived.Test.YtjcgakmhpblanaaTLKeeps
import Derived.Test.YtjcgakmhpblanaaTLFirst
import Derived.Test.YtjcgakmhpblanaaTLLonger
namespace Go.Proofs.Ytjcgakmhpblanaa
open Go Go.RowKit Go.Deep
set_option linter.unusedVariables false

theorem tawake0 (W : World) (_ : True) : Calls Try.prog 9 #[] W fun e w' => e = .returned (.bool true) ∧ Below W.heap.size W w' := tawake _ ask19 W trivial
theorem tmakes_walk (v0 v1 : Value) (w : World) (h0 : shAir.Arg w v0) (h1 : (Sh.slice shNum).Arg w v1) : Calls Try.prog 3 #[v0, v1] w fun e w' => e = .returned (.bool true) ∧ Below w.heap.size w w' := by
  obtain ⟨A, p, rfl, hA, hk, _⟩ := arg_air h0
  obtain ⟨a, n, c, rfl, hs⟩ := h1.slice
  obtain ⟨l, hr, hu⟩ := hs.row
  obtain rfl := hr.1
  exact tmakes_body _ ask19 tawake0 A p a c l w trivial hA hk hr hu
theorem tkeeps_walk (v0 v1 : Value) (w : World) (h0 : shAir.Arg w v0) (h1 : (Sh.slice shNum).Arg w v1) : Calls Try.prog 5 #[v0, v1] w fun e w' => e = .returned (.bool true) ∧ Below w.heap.size w w' := by
  obtain ⟨A, p, rfl, hA, hk, _⟩ := arg_air h0
  obtain ⟨a, n, c, rfl, hs⟩ := h1.slice
  obtain ⟨l, hr, hu⟩ := hs.row
  obtain rfl := hr.1
  exact tkeeps_body _ ask19 tawake0 A p a c l w trivial hA hk hr hu
theorem tlonger_walk (v0 v1 : Value) (w : World) (h0 : shAir.Arg w v0) (h1 : (Sh.slice shNum).Arg w v1) : Calls Try.prog 7 #[v0, v1] w fun e w' => e = .returned (.bool true) ∧ Below w.heap.size w w' := by
  obtain ⟨A, p, rfl, hA, hk, _⟩ := arg_air h0
  obtain ⟨a, n, c, rfl, hs⟩ := h1.slice
  obtain ⟨l, hr, hu⟩ := hs.row
  obtain rfl := hr.1
  exact tlonger_body _ ask19 tawake0 A p a c l w trivial hA hk hr hu
theorem tchecks_walk (v0 v1 v2 : Value) (w : World) (h0 : shAir.Arg w v0) (h1 : (Sh.slice shNum).Arg w v1) (h2 : shRows.slice.Arg w v2) : Calls Try.prog 4 #[v0, v1, v2] w fun e w' => e = .returned (.bool true) ∧ Below w.heap.size w w' := by
  obtain ⟨A, p, rfl, hA, hk, _⟩ := arg_air h0
  obtain ⟨pa, pn, pc, rfl, hs⟩ := h1.slice
  obtain ⟨a, n, c, rfl, ht⟩ := h2.slice
  obtain ⟨l, hr, hu⟩ := hs.row
  obtain ⟨rows, hx, hy⟩ := ht.rows
  exact tchecks_body _ ask19 tawake0 A p pa pn pc l a n c rows w trivial hA hk hr hu hx hy
theorem tfirst_walk (v0 v1 v2 : Value) (w : World) (h0 : shAir.Arg w v0) (h1 : (Sh.slice shNum).Arg w v1) (h2 : shRows.slice.Arg w v2) : Calls Try.prog 6 #[v0, v1, v2] w fun e w' => e = .returned (.bool true) ∧ Below w.heap.size w w' := by
  obtain ⟨A, p, rfl, hA, hk, _⟩ := arg_air h0
  obtain ⟨pa, pn, pc, rfl, hs⟩ := h1.slice
  obtain ⟨a, n, c, rfl, ht⟩ := h2.slice
  obtain ⟨l, hr, hu⟩ := hs.row
  obtain ⟨rows, hx, hy⟩ := ht.rows
  exact tfirst_body _ ask19 tawake0 A p pa pn pc l a n c rows w trivial hA hk hr hu hx hy
end Go.Proofs.Ytjcgakmhpblanaa
