/-
  The walk of CountEach.
-/
import Derived.Test.YthfkfgjhgicfeaaDoorGCntPro
import Derived.Test.YthfkfgjhgicfeaaDoorCLEach
import Derived.Test.YthfkfgjhgicfeaaDoorTabF
import Derived.Test.YthfkfgjhgicfeaaDoorGArgs
import Derived.Test.YthfkfgjhgicfeaaDoorPairArg
namespace Go.Proofs.YthfkfgjhgicfeaaDoor
open Go Go.RowKit Go.Deep
set_option linter.unusedVariables false

theorem each_walk (v0 v1 v2 : Value) (w : World) (h0 : (Sh.slice shPair).Arg w v0) (h1 : (Sh.int .u8).Arg w v1) (h2 : (Sh.int .u8).Arg w v2) (hT : LaidF w) : Calls Tryd.prog 5 #[v0, v1, v2] w fun e w' => e = .returned (.bool true) ∧ Below w.heap.size w w' := by
  obtain ⟨a, n, c, rfl, hs⟩ := h0.slice
  obtain ⟨l, hq, hu⟩ := hs.qrow
  obtain ⟨d, rfl, hd⟩ := h1.int
  obtain ⟨m, rfl, hm⟩ := h2.int
  exact count_each _ ask23 a n c l d m w (tabF_of hT) hq hu hs.caps.1 (bounds_u8 hd).1 (bounds_u8 hm).1 (bounds_u8 hm).2
end Go.Proofs.YthfkfgjhgicfeaaDoor
