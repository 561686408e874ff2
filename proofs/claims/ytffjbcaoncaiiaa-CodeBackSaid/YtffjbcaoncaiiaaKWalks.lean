/-
  The walks of layer 15's statements: they answer true.
-/
import Derived.Test.YtffjbcaoncaiiaaKProg
import Derived.Test.YtffjbcaoncaiiaaKLTells
import Derived.Test.YtffjbcaoncaiiaaKLParses
import Derived.Test.YtffjbcaoncaiiaaKLSizes
import Derived.Test.YtffjbcaoncaiiaaKLBack
import Derived.Test.YtffjbcaoncaiiaaKLJoins
import Derived.Test.YtffjbcaoncaiiaaOpsArg
namespace Go.Proofs.Ytffjbcaoncaiiaa
open Go Go.RowKit Go.Deep
set_option linter.unusedVariables false

theorem kawake0 (W : World) (_ : True) : Calls Try.prog 8 #[] W fun e w' => e = .returned (.bool true) ∧ Below W.heap.size W w' := kawake _ ask15 W trivial
theorem ktells_walk (v0 : Value) (w : World) (h0 : shOps.Arg w v0) : Calls Try.prog 3 #[v0] w fun e w' => e = .returned (.bool true) ∧ Below w.heap.size w w' := by
  obtain ⟨a, n, cap, rfl, ha⟩ := h0.slice
  obtain ⟨zs, hO, hu⟩ := ha.ops
  exact ktells_body _ ask15 kawake0 a n cap zs w trivial hO hu
theorem ksizes_walk (v0 : Value) (w : World) (h0 : shOps.Arg w v0) : Calls Try.prog 7 #[v0] w fun e w' => e = .returned (.bool true) ∧ Below w.heap.size w w' := by
  obtain ⟨a, n, cap, rfl, ha⟩ := h0.slice
  obtain ⟨zs, hO, hu⟩ := ha.ops
  exact ksizes_body _ ask15 kawake0 a n cap zs w trivial hO hu
theorem kparses_walk (v0 : Value) (w : World) (h0 : Sh.string.Arg w v0) : Calls Try.prog 4 #[v0] w fun e w' => e = .returned (.bool true) ∧ Below w.heap.size w w' := by
  obtain ⟨s, rfl, hs⟩ := h0.string
  exact kparses_body _ ask15 kawake0 s w trivial hs
theorem kback_walk (v0 v1 : Value) (w : World) (h0 : shOps.Arg w v0) (h1 : Sh.string.Arg w v1) : Calls Try.prog 5 #[v0, v1] w fun e w' => e = .returned (.bool true) ∧ Below w.heap.size w w' := by
  obtain ⟨a, n, cap, rfl, ha⟩ := h0.slice
  obtain ⟨zs, hO, hu⟩ := ha.ops
  obtain ⟨s, rfl, hs⟩ := h1.string
  exact kback_body _ ask15 kawake0 a n cap zs s w trivial hO hu hs
theorem kjoins_walk (v0 v1 : Value) (w : World) (h0 : Sh.string.Arg w v0) (h1 : Sh.string.Arg w v1) : Calls Try.prog 6 #[v0, v1] w fun e w' => e = .returned (.bool true) ∧ Below w.heap.size w w' := by
  obtain ⟨s, rfl, hs⟩ := h0.string
  obtain ⟨t, rfl, ht⟩ := h1.string
  exact kjoins_body _ ask15 kawake0 s t w trivial hs ht
end Go.Proofs.Ytffjbcaoncaiiaa
