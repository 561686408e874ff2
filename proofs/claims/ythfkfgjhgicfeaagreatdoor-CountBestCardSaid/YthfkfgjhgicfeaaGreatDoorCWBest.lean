/-
  The walk of CountBest.
-/
import Derived.Test.YthfkfgjhgicfeaaGreatDoorGCntPro
import Derived.Test.YthfkfgjhgicfeaaGreatDoorCLBest
import Derived.Test.YthfkfgjhgicfeaaGreatDoorTabF
import Derived.Test.YthfkfgjhgicfeaaGreatDoorGArgs
import Derived.Test.YthfkfgjhgicfeaaGreatDoorPairArg
namespace Go.Proofs.YthfkfgjhgicfeaaGreatDoor
open Go Go.RowKit Go.Deep
set_option linter.unusedVariables false

theorem best_walk (v0 v1 v2 : Value) (w : World) (h0 : (Sh.slice shPair).Arg w v0) (h1 : (Sh.slice shPair).Arg w v1) (h2 : (Sh.rep 2 (.int .i64)).Arg w v2) (hT : LaidF w) : Calls Tryz.prog 4 #[v0, v1, v2] w fun e w' => e = .returned (.bool true) ∧ Below w.heap.size w w' := by
  obtain ⟨a, n, c, rfl, hs⟩ := h0.slice
  obtain ⟨l, hq, hu⟩ := hs.qrow
  obtain ⟨la, ln, lc, rfl, hs1⟩ := h1.slice
  obtain ⟨l1, hq1, hu1⟩ := hs1.qrow
  obtain ⟨ds, rfl, h'⟩ := h2.arr
  obtain ⟨ys, hl', rfl, hy⟩ := holds_rep h'
  match ys, hl' with
  | [t0, t1], _ => exact count_best _ ask23 a n c l la ln lc l1 t0 t1 w (tabF_of hT) hq hu hq1 hu1
end Go.Proofs.YthfkfgjhgicfeaaGreatDoor
