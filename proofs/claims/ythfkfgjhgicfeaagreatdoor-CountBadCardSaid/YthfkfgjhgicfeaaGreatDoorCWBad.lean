/-
  The walk of CountBad.
-/
import Derived.Test.YthfkfgjhgicfeaaGreatDoorGCntPro
import Derived.Test.YthfkfgjhgicfeaaGreatDoorCLBad
import Derived.Test.YthfkfgjhgicfeaaGreatDoorTabF
import Derived.Test.YthfkfgjhgicfeaaGreatDoorGArgs
import Derived.Test.YthfkfgjhgicfeaaGreatDoorPairArg
namespace Go.Proofs.YthfkfgjhgicfeaaGreatDoor
open Go Go.RowKit Go.Deep
set_option linter.unusedVariables false

theorem bad_walk (v0 v1 v2 : Value) (w : World) (h0 : (Sh.slice shPair).Arg w v0) (h1 : (Sh.rep 2 (.int .i64)).Arg w v1) (h2 : (Sh.int .i64).Arg w v2) (hT : LaidF w) : Calls Tryz.prog 5 #[v0, v1, v2] w fun e w' => e = .returned (.bool true) ∧ Below w.heap.size w w' := by
  obtain ⟨a, n, c, rfl, hs⟩ := h0.slice
  obtain ⟨l, hq, hu⟩ := hs.qrow
  obtain ⟨ds, rfl, h'⟩ := h1.arr
  obtain ⟨ys, hl', rfl, hy⟩ := holds_rep h'
  obtain ⟨f, rfl, hf⟩ := h2.int
  match ys, hl' with
  | [t0, t1], _ => exact count_bad _ ask23 a n c l t0 t1 f w (tabF_of hT) hq hu hs.caps.1 (bounds_i64 (hy t0 (by simp))) (bounds_i64 (hy t1 (by simp)))
end Go.Proofs.YthfkfgjhgicfeaaGreatDoor
