/-
  The walk of CountHonest.
-/
import Derived.Test.YthfkfgjhgicfeaaDoorGCntPro
import Derived.Test.YthfkfgjhgicfeaaDoorCLHonest
import Derived.Test.YthfkfgjhgicfeaaDoorTabF
import Derived.Test.YthfkfgjhgicfeaaDoorGArgs
import Derived.Test.YthfkfgjhgicfeaaDoorPairArg
namespace Go.Proofs.YthfkfgjhgicfeaaDoor
open Go Go.RowKit Go.Deep
set_option linter.unusedVariables false

theorem honest_walk (v0 v1 v2 : Value) (w : World) (h0 : (Sh.slice shPair).Arg w v0) (h1 : (Sh.slice shPair).Arg w v1) (h2 : (Sh.rep 2 (.int .u8)).Arg w v2) (hT : LaidF w) : Calls Tryd.prog 6 #[v0, v1, v2] w fun e w' => e = .returned (.bool true) ∧ Below w.heap.size w w' := by
  obtain ⟨a, n, c, rfl, hs⟩ := h0.slice
  obtain ⟨l, hq, hu⟩ := hs.qrow
  obtain ⟨a2, n2, c2, rfl, hs2⟩ := h1.slice
  obtain ⟨l2, hq2, hu2⟩ := hs2.qrow
  obtain ⟨ts, rfl, h'⟩ := h2.arr
  obtain ⟨ys, hl', rfl, hy⟩ := holds_rep h'
  match ys, hl' with
  | [t0, t1], _ =>
    have b0 := bounds_u8 (hy t0 (by simp)); have b1 := bounds_u8 (hy t1 (by simp))
    exact count_honest _ ask23 a n c l a2 n2 c2 l2 t0 t1 w (tabF_of hT) hq hu hq2 hu2 hs.caps.1 ⟨b0.1, by omega⟩ ⟨b1.1, by omega⟩
end Go.Proofs.YthfkfgjhgicfeaaDoor
