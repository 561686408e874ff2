/-
  The walks of layer 16's statements: they answer true.
-/
import Derived.Test.YtlipphmkalppiaaHProg
import Derived.Test.YtlipphmkalppiaaHAw
import Derived.Test.YtlipphmkalppiaaHLJoins
import Derived.Test.YtlipphmkalppiaaOpsArg
namespace Go.Proofs.Ytlipphmkalppiaa
open Go Go.RowKit Go.Deep
set_option linter.unusedVariables false

theorem hawake0 (W : World) (_ : True) : Calls Try.prog 6 #[] W fun e w' => e = .returned (.bool true) ∧ Below W.heap.size W w' := hawake _ ask16 W trivial
theorem hchecks_walk (v0 v1 v2 : Value) (w : World) (h0 : shOps.Arg w v0) (h1 : (Sh.int .i64).Arg w v1) (h2 : Sh.bool.Arg w v2) : Calls Try.prog 3 #[v0, v1, v2] w fun e w' => e = .returned (.bool true) ∧ Below w.heap.size w w' := by
  obtain ⟨a, n, cap, rfl, ha⟩ := h0.slice
  obtain ⟨zs, hO, hu⟩ := ha.ops
  obtain ⟨c, rfl, hc⟩ := h1.int
  obtain ⟨b, rfl⟩ := h2.bool
  exact hchecks_body _ ask16 hawake0 a n cap zs c b w trivial hO hu (bounds_i64 hc)
theorem hmore_walk (v0 v1 v2 : Value) (w : World) (h0 : shOps.Arg w v0) (h1 : (Sh.int .u8).Arg w v1) (h2 : Sh.bool.Arg w v2) : Calls Try.prog 4 #[v0, v1, v2] w fun e w' => e = .returned (.bool true) ∧ Below w.heap.size w w' := by
  obtain ⟨a, n, cap, rfl, ha⟩ := h0.slice
  obtain ⟨zs, hO, hu⟩ := ha.ops
  obtain ⟨c, rfl, hc⟩ := h1.int
  obtain ⟨b, rfl⟩ := h2.bool
  exact hmore_body _ ask16 hawake0 a n cap zs c b w trivial hO hu (bounds_u8 hc)
theorem hjoins_walk (v0 v1 v2 : Value) (w : World) (h0 : shOps.Arg w v0) (h1 : shOps.Arg w v1) (h2 : (Sh.int .u8).Arg w v2) : Calls Try.prog 5 #[v0, v1, v2] w fun e w' => e = .returned (.bool true) ∧ Below w.heap.size w w' := by
  obtain ⟨a, n, cap, rfl, ha⟩ := h0.slice
  obtain ⟨zs, hO, hu⟩ := ha.ops
  obtain ⟨b, m, capb, rfl, hb⟩ := h1.slice
  obtain ⟨ys, hO2, hu2⟩ := hb.ops
  obtain ⟨c, rfl, hc⟩ := h2.int
  exact hjoins_body _ ask16 hawake0 a n cap zs b m capb ys c w trivial hO hu ha.nil hO2 hu2 hb.nil (bounds_u8 hc)
end Go.Proofs.Ytlipphmkalppiaa
