/-
  The walks of layer 21's statements: they answer true.
-/
import Derived.Test.YtpckjlfnhfelkaaDoorChainProg
import Derived.Test.YtpckjlfnhfelkaaDoorTabF
import Derived.Test.YtpckjlfnhfelkaaDoorGArgs
import Derived.Test.YtpckjlfnhfelkaaDoorPairArg
import Derived.Test.YtpckjlfnhfelkaaDoorCNAwake
import Derived.Test.YtpckjlfnhfelkaaDoorCNWords
import Derived.Test.YtpckjlfnhfelkaaDoorCNFinal
import Derived.Test.YtpckjlfnhfelkaaDoorCNDown
import Derived.Test.YtpckjlfnhfelkaaDoorCNHalves
import Derived.Test.YtpckjlfnhfelkaaDoorCNFirst
namespace Go.Proofs.YtpckjlfnhfelkaaDoor
open Go Go.RowKit Go.Deep
set_option linter.unusedVariables false

theorem cnawake0 (W : World) (h : Tab W) : Calls Tryd.prog 8 #[] W fun e w' => e = .returned (.bool true) ∧ Below W.heap.size W w' := cnawake _ ask21 W h
theorem cnwords_walk (v0 v1 : Value) (w : World) (h0 : (Sh.slice shPair).Arg w v0) (h1 : (Sh.slice shPair).Arg w v1) (hT : LaidF w) : Calls Tryd.prog 3 #[v0, v1] w fun e w' => e = .returned (.bool true) ∧ Below w.heap.size w w' := by
  obtain ⟨a, n, c, rfl, hs⟩ := h0.slice
  obtain ⟨l, hq, hu⟩ := hs.qrow
  obtain ⟨a2, n2, c2, rfl, hs2⟩ := h1.slice
  obtain ⟨m, hq2, hu2⟩ := hs2.qrow
  exact cnwords_body _ ask21 cnawake0 a n c l a2 n2 c2 m w (tabF_of hT) hq hu hq2 hu2
theorem cnfinal_walk (v0 v1 v2 : Value) (w : World) (h0 : (Sh.slice shPair).Arg w v0) (h1 : (Sh.int .i64).Arg w v1) (h2 : (Sh.int .i64).Arg w v2) (hT : LaidF w) : Calls Tryd.prog 4 #[v0, v1, v2] w fun e w' => e = .returned (.bool true) ∧ Below w.heap.size w w' := by
  obtain ⟨a, n, c, rfl, hs⟩ := h0.slice
  obtain ⟨l, hq, hu⟩ := hs.qrow
  obtain ⟨f, rfl, hf⟩ := h1.int
  obtain ⟨s, rfl, hss⟩ := h2.int
  exact cnfinal_body _ ask21 cnawake0 a n c l f s w (tabF_of hT) hq hu (bounds_i64 hf) (bounds_i64 hss)
theorem cndown_walk (v0 v1 v2 : Value) (w : World) (h0 : (Sh.slice shPair).Arg w v0) (h1 : (Sh.slice shPair).Arg w v1) (h2 : (Sh.rep 2 (.int .u8)).Arg w v2) (hT : LaidF w) : Calls Tryd.prog 5 #[v0, v1, v2] w fun e w' => e = .returned (.bool true) ∧ Below w.heap.size w w' := by
  obtain ⟨a, n, c, rfl, hs⟩ := h0.slice
  obtain ⟨l, hq, hu⟩ := hs.qrow
  obtain ⟨a2, n2, c2, rfl, hs2⟩ := h1.slice
  obtain ⟨m, hq2, hu2⟩ := hs2.qrow
  obtain ⟨ds, rfl, h'⟩ := h2.arr
  obtain ⟨ys, hl', rfl, hy⟩ := holds_rep h'
  match ys, hl' with
  | [t0, t1], _ => exact cndown_body _ ask21 cnawake0 a n c l a2 n2 c2 m t0 t1 w (tabF_of hT) hq hu hq2 hu2 hs.caps.1 (by have := bounds_u8 (hy t0 (by simp)); omega) (by have := bounds_u8 (hy t1 (by simp)); omega)
theorem cnhalves_walk (v0 v1 : Value) (w : World) (h0 : (Sh.slice shPair).Arg w v0) (h1 : (Sh.slice shPair).Arg w v1) (hT : LaidF w) : Calls Tryd.prog 6 #[v0, v1] w fun e w' => e = .returned (.bool true) ∧ Below w.heap.size w w' := by
  obtain ⟨a, n, c, rfl, hs⟩ := h0.slice
  obtain ⟨l, hq, hu⟩ := hs.qrow
  obtain ⟨a2, n2, c2, rfl, hs2⟩ := h1.slice
  obtain ⟨m, hq2, hu2⟩ := hs2.qrow
  exact cnhalves_body _ ask21 cnawake0 a n c l a2 n2 c2 m w (tabF_of hT) hq hu hq2 hu2
theorem cnfirst_walk (v0 v1 v2 : Value) (w : World) (h0 : (Sh.slice shPair).Arg w v0) (h1 : (Sh.slice shPair).Arg w v1) (h2 : (Sh.int .u8).Arg w v2) (hT : LaidF w) : Calls Tryd.prog 7 #[v0, v1, v2] w fun e w' => e = .returned (.bool true) ∧ Below w.heap.size w w' := by
  obtain ⟨a, n, c, rfl, hs⟩ := h0.slice
  obtain ⟨l, hq, hu⟩ := hs.qrow
  obtain ⟨a2, n2, c2, rfl, hs2⟩ := h1.slice
  obtain ⟨m, hq2, hu2⟩ := hs2.qrow
  obtain ⟨t, rfl, ht⟩ := h2.int
  exact cnfirst_body _ ask21 cnawake0 a n c l a2 n2 c2 m t w (tabF_of hT) hq hu hq2 hu2 hs2.caps.1 (by have := bounds_u8 ht; omega)
end Go.Proofs.YtpckjlfnhfelkaaDoor
