/-
  The walks of layer 17's statements, but EvalLines: they answer true.
-/
import Derived.Test.YtlgfnlkblehlbaaVProg
import Derived.Test.YtlgfnlkblehlbaaVLJoins
import Derived.Test.YtlgfnlkblehlbaaVLTurns
import Derived.Test.YtlgfnlkblehlbaaOpsArg
import Derived.Test.YtlgfnlkblehlbaaRowArg
namespace Go.Proofs.Ytlgfnlkblehlbaa
open Go Go.RowKit Go.Deep
set_option linter.unusedVariables false

theorem vawake0 (W : World) (_ : True) : Calls Try.prog 10 #[] W fun e w' => e = .returned (.bool true) ∧ Below W.heap.size W w' := vawake _ ask17 W trivial
theorem vtells_walk (v0 v1 v2 : Value) (w : World) (h0 : shOps.Arg w v0) (h1 : (Sh.slice shPair).Arg w v1) (h2 : (Sh.slice shPair).Arg w v2) : Calls Try.prog 3 #[v0, v1, v2] w fun e w' => e = .returned (.bool true) ∧ Below w.heap.size w w' := by
  obtain ⟨a, n, cap, rfl, ha⟩ := h0.slice
  obtain ⟨zs, hO, hu⟩ := ha.ops
  obtain ⟨b, lb, capb, rfl, hb⟩ := h1.slice
  obtain ⟨cs, hc, hcu⟩ := hb.qrow
  obtain ⟨c, lc, capc, rfl, hc'⟩ := h2.slice
  obtain ⟨ds, hd, hdu⟩ := hc'.qrow
  exact vtells_body _ ask17 vawake0 a n cap zs b lb capb cs c lc capc ds w trivial hO hu hc hcu hb.caps hd hdu hc'.caps
theorem vlifts_walk (v0 v1 v2 : Value) (w : World) (h0 : shOps.Arg w v0) (h1 : (Sh.slice shNum).Arg w v1) (h2 : (Sh.slice shNum).Arg w v2) : Calls Try.prog 4 #[v0, v1, v2] w fun e w' => e = .returned (.bool true) ∧ Below w.heap.size w w' := by
  obtain ⟨a, n, cap, rfl, ha⟩ := h0.slice
  obtain ⟨zs, hO, hu⟩ := ha.ops
  obtain ⟨b, lb, capb, rfl, hb⟩ := h1.slice
  obtain ⟨cs, hc, hcu⟩ := hb.row
  obtain ⟨c, lc, capc, rfl, hc'⟩ := h2.slice
  obtain ⟨ds, hd, hdu⟩ := hc'.row
  exact vlifts_body _ ask17 vawake0 a n cap zs b lb capb cs c lc capc ds w trivial hO hu hc hcu hb.caps hd hdu hc'.caps
theorem vturns_walk (v0 v1 v2 : Value) (w : World) (h0 : shOps.Arg w v0) (h1 : (Sh.slice shPair).Arg w v1) (h2 : (Sh.slice shPair).Arg w v2) : Calls Try.prog 5 #[v0, v1, v2] w fun e w' => e = .returned (.bool true) ∧ Below w.heap.size w w' := by
  obtain ⟨a, n, cap, rfl, ha⟩ := h0.slice
  obtain ⟨zs, hO, hu⟩ := ha.ops
  obtain ⟨b, lb, capb, rfl, hb⟩ := h1.slice
  obtain ⟨cs, hc, hcu⟩ := hb.qrow
  obtain ⟨c, lc, capc, rfl, hc'⟩ := h2.slice
  obtain ⟨ds, hd, hdu⟩ := hc'.qrow
  exact vturns_body _ ask17 vawake0 a n cap zs b lb capb cs c lc capc ds w trivial hO hu hc hcu hb.caps hd hdu hc'.caps
theorem vconst_walk (v0 v1 v2 : Value) (w : World) (h0 : shOps.Arg w v0) (h1 : (Sh.slice shNum).Arg w v1) (h2 : (Sh.slice shNum).Arg w v2) : Calls Try.prog 8 #[v0, v1, v2] w fun e w' => e = .returned (.bool true) ∧ Below w.heap.size w w' := by
  obtain ⟨a, n, cap, rfl, ha⟩ := h0.slice
  obtain ⟨zs, hO, hu⟩ := ha.ops
  obtain ⟨b, lb, capb, rfl, hb⟩ := h1.slice
  obtain ⟨cs, hc, hcu⟩ := hb.row
  obtain ⟨c, lc, capc, rfl, hc'⟩ := h2.slice
  obtain ⟨ds, hd, hdu⟩ := hc'.row
  exact vconst_body _ ask17 vawake0 a n cap zs b lb capb cs c lc capc ds w trivial hO hu hc hcu hd hdu
theorem vjoins_walk (v0 v1 v2 : Value) (w : World) (h0 : shOps.Arg w v0) (h1 : shOps.Arg w v1) (h2 : (Sh.rep 2 (Sh.slice shNum)).Arg w v2) : Calls Try.prog 6 #[v0, v1, v2] w fun e w' => e = .returned (.bool true) ∧ Below w.heap.size w w' := by
  obtain ⟨a, n, cap, rfl, ha⟩ := h0.slice
  obtain ⟨zs, hO, hu⟩ := ha.ops
  obtain ⟨a2, n2, cap2, rfl, ha2⟩ := h1.slice
  obtain ⟨ys, hO2, hu2⟩ := ha2.ops
  obtain ⟨b, lb, capb, c, lc, capc, rfl, hb, hc'⟩ := h2.two
  obtain ⟨cs, hc, hcu⟩ := hb.row
  obtain ⟨ds, hd, hdu⟩ := hc'.row
  exact vjoins_body _ ask17 vawake0 a n cap zs a2 n2 cap2 ys b lb capb cs c lc capc ds w trivial hO hu ha.nil hO2 hu2 ha2.nil hc hcu hb.caps hd hdu hc'.caps
end Go.Proofs.Ytlgfnlkblehlbaa
