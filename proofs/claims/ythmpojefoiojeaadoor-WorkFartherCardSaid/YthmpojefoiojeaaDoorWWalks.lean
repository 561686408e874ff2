/-
  The walks of layer 14's statements: they answer true.
-/
import Derived.Test.YthmpojefoiojeaaDoorWProg
import Derived.Test.YthmpojefoiojeaaDoorWLTells
import Derived.Test.YthmpojefoiojeaaDoorWLSearches
import Derived.Test.YthmpojefoiojeaaDoorWLLess
import Derived.Test.YthmpojefoiojeaaDoorWLFarther
import Derived.Test.YthmpojefoiojeaaDoorArgs
namespace Go.Proofs.YthmpojefoiojeaaDoor
open Go Go.RowKit Go.Deep
set_option linter.unusedVariables false

theorem wawake7 (W : World) (hT : TabB W) : Calls Tryd.prog 7 #[] W fun e w' => e = .returned (.bool true) ∧ Below W.heap.size W w' := wawake _ ask14 W hT
theorem wtells_walk (v0 v1 v2 : Value) (w : World) (h0 : (Sh.both .string (.both (.int .i64) .unit)).Arg w v0) (h1 : (Sh.int .u64).Arg w v1) (h2 : (Sh.int .i64).Arg w v2) (hT : Laid7 w) :
    Calls Tryd.prog 3 #[v0, v1, v2] w fun e w' => e = .returned (.bool true) ∧ Below w.heap.size w w' := by
  obtain ⟨s, c, rfl, hs, hc⟩ := arg_spong h0
  obtain ⟨n, rfl, hn⟩ := h1.int
  obtain ⟨k, rfl, hk⟩ := h2.int
  exact wtells_body _ ask14 wawake7 s c n k w (tabB_of hT) hs (U_wf hn) (bounds_i64 hk)
theorem wsearches_walk (v0 v1 v2 : Value) (w : World) (h0 : (Sh.both .string (.both (.int .i64) .unit)).Arg w v0) (h1 : (Sh.int .i64).Arg w v1) (h2 : (Sh.int .u8).Arg w v2) (hT : Laid7 w) :
    Calls Tryd.prog 4 #[v0, v1, v2] w fun e w' => e = .returned (.bool true) ∧ Below w.heap.size w w' := by
  obtain ⟨s, c, rfl, hs, hc⟩ := arg_spong h0
  obtain ⟨n, rfl, hn⟩ := h1.int
  obtain ⟨k, rfl, hk⟩ := h2.int
  exact wsearches_body _ ask14 wawake7 s c n k w (tabB_of hT) hs (bounds_i64 hn) (by have := bounds_u8 hk; omega)
theorem wless_walk (v0 v1 : Value) (w : World) (h0 : (Sh.both .string (.both (.int .i64) .unit)).Arg w v0) (h1 : (Sh.int .u64).Arg w v1) (hT : Laid7 w) :
    Calls Tryd.prog 5 #[v0, v1] w fun e w' => e = .returned (.bool true) ∧ Below w.heap.size w w' := by
  obtain ⟨s, c, rfl, hs, hc⟩ := arg_spong h0
  obtain ⟨n, rfl, hn⟩ := h1.int
  exact wless_body _ ask14 wawake7 s c n w (tabB_of hT) hs (U_wf hn)
theorem wfarther_walk (v0 v1 v2 : Value) (w : World) (h0 : (Sh.both .string (.both (.int .i64) .unit)).Arg w v0) (h1 : (Sh.int .u8).Arg w v1) (h2 : (Sh.rep 2 (.int .u8)).Arg w v2) (hT : Laid7 w) :
    Calls Tryd.prog 6 #[v0, v1, v2] w fun e w' => e = .returned (.bool true) ∧ Below w.heap.size w w' := by
  obtain ⟨s, c, rfl, hs, hc⟩ := arg_spong h0
  obtain ⟨n, rfl, hn⟩ := h1.int
  obtain ⟨cs, rfl, h⟩ := h2.arr
  obtain ⟨zs, hl, rfl, hw⟩ := holds_rep h
  match zs, hl with
  | [a, b], _ => exact wfarther_body _ ask14 wawake7 s c n a b w (tabB_of hT) hs (by have := bounds_u8 hn; omega) (by have := bounds_u8 (hw a (by simp)); omega) (by have := bounds_u8 (hw b (by simp)); omega)
end Go.Proofs.YthmpojefoiojeaaDoor
