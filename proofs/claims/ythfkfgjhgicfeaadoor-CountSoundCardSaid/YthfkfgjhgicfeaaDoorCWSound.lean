/-
  The walk of CountSound.
-/
import Derived.Test.YthfkfgjhgicfeaaDoorGCntPro
import Derived.Test.YthfkfgjhgicfeaaDoorCLSound
import Derived.Test.YthfkfgjhgicfeaaDoorTabF
import Derived.Test.YthfkfgjhgicfeaaDoorGArgs
import Derived.Test.YthfkfgjhgicfeaaDoorPairArg
namespace Go.Proofs.YthfkfgjhgicfeaaDoor
open Go Go.RowKit Go.Deep
set_option linter.unusedVariables false

abbrev shSound : Sh := .both shPair (.both (.int .u8) (.both (.int .u8) .unit))
theorem arg_sound {W : World} {v : Value} (h : shSound.Arg W v) : ∃ (y0 y1 k m : Int), v = .agg #[.int .u64 y0, .int .u64 y1, .int .u8 k, .int .u8 m] ∧ U y0 ∧ U y1 ∧ (0 ≤ k ∧ k ≤ 255) ∧ 0 ≤ m ∧ m ≤ 255 := by
  obtain ⟨cs, rfl, l1, m1, rfl, hp, l2, m2, rfl, ⟨k, rfl, hk⟩, l3, m3, rfl, ⟨m, rfl, hm⟩, hu⟩ := h.agg
  obtain rfl := hu
  obtain ⟨y0, y1, rfl, h0, h1⟩ := holds_pair hp
  exact ⟨y0, y1, k, m, rfl, h0, h1, bounds_u8 hk, bounds_u8 hm⟩
theorem sound_walk (v0 v1 v2 : Value) (w : World) (h0 : (Sh.slice shPair).Arg w v0) (h1 : (Sh.slice shPair).Arg w v1) (h2 : shSound.Arg w v2) (hT : LaidF w) : Calls Tryd.prog 4 #[v0, v1, v2] w fun e w' => e = .returned (.bool true) ∧ Below w.heap.size w w' := by
  obtain ⟨a, n, c, rfl, hs⟩ := h0.slice
  obtain ⟨l, hq, hu⟩ := hs.qrow
  obtain ⟨fa, fn, fc, rfl, hs1⟩ := h1.slice
  obtain ⟨l1, hq1, hu1⟩ := hs1.qrow
  obtain ⟨y0, y1, k, m, rfl, hy0, hy1, hk, hm⟩ := arg_sound h2
  exact count_sound _ ask23 a n c l fa fn fc l1 y0 y1 k m w (tabF_of hT) hq hu hs.caps.1 hq1 hu1 hy0 hy1 hk.1 hm.1 hm.2
end Go.Proofs.YthfkfgjhgicfeaaDoor
