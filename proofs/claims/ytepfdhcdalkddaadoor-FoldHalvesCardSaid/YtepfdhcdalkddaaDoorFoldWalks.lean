/-
  The walks of layer 20's statements: they answer true.
-/
import Derived.Test.YtepfdhcdalkddaaDoorFoldProg
import Derived.Test.YtepfdhcdalkddaaDoorTabF
import Derived.Test.YtepfdhcdalkddaaDoorGArgs
import Derived.Test.YtepfdhcdalkddaaDoorPairArg
import Derived.Test.YtepfdhcdalkddaaDoorFLAwake
import Derived.Test.YtepfdhcdalkddaaDoorFLTells
import Derived.Test.YtepfdhcdalkddaaDoorFLWords
import Derived.Test.YtepfdhcdalkddaaDoorFLHalves
import Derived.Test.YtepfdhcdalkddaaDoorFLLines
import Derived.Test.YtepfdhcdalkddaaDoorFLAdds
namespace Go.Proofs.YtepfdhcdalkddaaDoor
open Go Go.RowKit Go.Deep
set_option linter.unusedVariables false

theorem fawake0 (W : World) (h : Tab W) : Calls Tryd.prog 8 #[] W fun e w' => e = .returned (.bool true) ∧ Below W.heap.size W w' := fawake _ ask20 W h
theorem ftells_walk (v0 v1 v2 : Value) (w : World) (h0 : (Sh.rep 3 shPair).Arg w v0) (h1 : shNum.Arg w v1) (h2 : (Sh.rep 3 (.int .i64)).Arg w v2) (hT : LaidF w) : Calls Tryd.prog 3 #[v0, v1, v2] w fun e w' => e = .returned (.bool true) ∧ Below w.heap.size w w' := by
  obtain ⟨cs, rfl, h⟩ := h0.arr
  obtain ⟨zs, hl, rfl, hz⟩ := holds_pairs h
  obtain ⟨x, rfl, hx⟩ := h1.int
  obtain ⟨ds, rfl, h'⟩ := h2.arr
  obtain ⟨ys, hl', rfl, hy⟩ := holds_rep h'
  match zs, hl, ys, hl' with
  | [a, b, y], _, [m, f, i], _ => exact ftells_body _ ask20 fawake0 a.1 a.2 b.1 b.2 y.1 y.2 x m f i w (tabF_of hT) (hz a (by simp)) (hz b (by simp)) (hz y (by simp)) (U_wf hx) (bounds_i64 (hy m (by simp))) (bounds_i64 (hy f (by simp))) (bounds_i64 (hy i (by simp)))
theorem fwords_walk (v0 v1 v2 : Value) (w : World) (h0 : (Sh.slice shPair).Arg w v0) (h1 : shPair.Arg w v1) (h2 : (Sh.int .i64).Arg w v2) (hT : LaidF w) : Calls Tryd.prog 4 #[v0, v1, v2] w fun e w' => e = .returned (.bool true) ∧ Below w.heap.size w w' := by
  obtain ⟨a, n, c, rfl, hs⟩ := h0.slice
  obtain ⟨l, hq, hu⟩ := hs.qrow
  obtain ⟨y0, y1, rfl, hy0, hy1⟩ := arg_pair h1
  obtain ⟨f, rfl, hf⟩ := h2.int
  exact fwords_body _ ask20 fawake0 a n c l y0 y1 f w (tabF_of hT) hq hs.caps.1 hu hy0 hy1 (bounds_i64 hf)
theorem fhalves_walk (v0 v1 v2 : Value) (w : World) (h0 : (Sh.slice shPair).Arg w v0) (h1 : shPair.Arg w v1) (h2 : (Sh.rep 2 (.int .u8)).Arg w v2) (hT : LaidF w) : Calls Tryd.prog 5 #[v0, v1, v2] w fun e w' => e = .returned (.bool true) ∧ Below w.heap.size w w' := by
  obtain ⟨a, n, c, rfl, hs⟩ := h0.slice
  obtain ⟨l, hq, hu⟩ := hs.qrow
  obtain ⟨y0, y1, rfl, hy0, hy1⟩ := arg_pair h1
  obtain ⟨ds, rfl, h'⟩ := h2.arr
  obtain ⟨ys, hl', rfl, hy⟩ := holds_rep h'
  match ys, hl' with
  | [t0, t1], _ => exact fhalves_body _ ask20 fawake0 a n c l y0 y1 t0 t1 w (tabF_of hT) hq hu hy0 hy1 (by have := bounds_u8 (hy t0 (by simp)); omega) (by have := bounds_u8 (hy t1 (by simp)); omega)
theorem flines_walk (v0 : Value) (w : World) (h0 : (Sh.both shPair (.both shPair (.both shPair (.both shNum .unit)))).Arg w v0) (hT : LaidF w) : Calls Tryd.prog 6 #[v0] w fun e w' => e = .returned (.bool true) ∧ Below w.heap.size w w' := by
  obtain ⟨cs, rfl, l, m, rfl, h1, l', m', rfl, h2, l2, m2, rfl, h3, l3, m3, rfl, ⟨x, rfl, hx⟩, hm⟩ := h0.agg
  obtain rfl := hm
  obtain ⟨a0, a1, rfl, ha0, ha1⟩ := holds_pair h1
  obtain ⟨b0, b1, rfl, hb0, hb1⟩ := holds_pair h2
  obtain ⟨y0, y1, rfl, hy0, hy1⟩ := holds_pair h3
  exact flines_body _ ask20 fawake0 a0 a1 b0 b1 y0 y1 x w (tabF_of hT) ⟨ha0, ha1⟩ ⟨hb0, hb1⟩ ⟨hy0, hy1⟩ (U_wf hx)
theorem fadds_walk (v0 v1 v2 : Value) (w : World) (h0 : (Sh.slice shPair).Arg w v0) (h1 : (Sh.slice shPair).Arg w v1) (h2 : shPair.Arg w v2) (hT : LaidF w) : Calls Tryd.prog 7 #[v0, v1, v2] w fun e w' => e = .returned (.bool true) ∧ Below w.heap.size w w' := by
  obtain ⟨a, n, c, rfl, hs⟩ := h0.slice
  obtain ⟨l, hq, hu⟩ := hs.qrow
  obtain ⟨a2, n2, c2, rfl, hs2⟩ := h1.slice
  obtain ⟨m, hq2, hu2⟩ := hs2.qrow
  obtain ⟨y0, y1, rfl, hy0, hy1⟩ := arg_pair h2
  exact fadds_body _ ask20 fawake0 a n c l a2 n2 c2 m y0 y1 w (tabF_of hT) hq hs.caps.1 hu hq2 hu2 hs2.caps.1 hy0 hy1
end Go.Proofs.YtepfdhcdalkddaaDoor
