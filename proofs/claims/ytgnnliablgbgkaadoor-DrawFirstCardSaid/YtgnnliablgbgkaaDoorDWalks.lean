/-
  The walks of layer 13's statements: they answer true.
-/
import Derived.Test.YtgnnliablgbgkaaDoorGDPro
import Derived.Test.YtgnnliablgbgkaaDoorDAw
import Derived.Test.YtgnnliablgbgkaaDoorDLTells
import Derived.Test.YtgnnliablgbgkaaDoorDLOut
import Derived.Test.YtgnnliablgbgkaaDoorDLBounds
import Derived.Test.YtgnnliablgbgkaaDoorDLFirst
import Derived.Test.YtgnnliablgbgkaaDoorArgs
namespace Go.Proofs.YtgnnliablgbgkaaDoor
open Go Go.RowKit Go.Deep
set_option linter.unusedVariables false

theorem dawake7 (W : World) (hT : TabB W) : Calls Tryd.prog 7 #[] W fun e w' => e = .returned (.bool true) ∧ Below W.heap.size W w' := dawake _ ask13 W hT
theorem dtells_walk (v0 v1 v2 : Value) (w : World) (h0 : (Sh.both .string (.both (.int .i64) .unit)).Arg w v0) (h1 : (Sh.int .i64).Arg w v1) (h2 : (Sh.int .i64).Arg w v2) (hT : Laid7 w) :
    Calls Tryd.prog 3 #[v0, v1, v2] w fun e w' => e = .returned (.bool true) ∧ Below w.heap.size w w' := by
  obtain ⟨s, c, rfl, hs, hc⟩ := arg_spong h0
  obtain ⟨n, rfl, hn⟩ := h1.int
  obtain ⟨k, rfl, hk⟩ := h2.int
  exact dtells_body _ ask13 dawake7 s c n k w (tabB_of hT) hs hc (bounds_i64 hn)
theorem dout_walk (v0 v1 v2 : Value) (w : World) (h0 : (Sh.both .string (.both (.int .i64) .unit)).Arg w v0) (h1 : (Sh.int .i64).Arg w v1) (h2 : (Sh.int .i64).Arg w v2) (hT : Laid7 w) :
    Calls Tryd.prog 4 #[v0, v1, v2] w fun e w' => e = .returned (.bool true) ∧ Below w.heap.size w w' := by
  obtain ⟨s, c, rfl, hs, hc⟩ := arg_spong h0
  obtain ⟨n, rfl, hn⟩ := h1.int
  obtain ⟨k, rfl, hk⟩ := h2.int
  exact dout_body _ ask13 dawake7 s c n k w (tabB_of hT) hs hc
theorem dbounds_walk (v0 v1 v2 : Value) (w : World) (h0 : (Sh.both .string (.both (.int .i64) .unit)).Arg w v0) (h1 : (Sh.int .u8).Arg w v1) (h2 : (Sh.int .u8).Arg w v2) (hT : Laid7 w) :
    Calls Tryd.prog 5 #[v0, v1, v2] w fun e w' => e = .returned (.bool true) ∧ Below w.heap.size w w' := by
  obtain ⟨s, c, rfl, hs, hc⟩ := arg_spong h0
  obtain ⟨n, rfl, hn⟩ := h1.int
  obtain ⟨k, rfl, hk⟩ := h2.int
  exact dbounds_body _ ask13 dawake7 s c n k w (tabB_of hT) hs hc (by have := bounds_u8 hn; omega) (by have := bounds_u8 hk; omega)
theorem dfirst_walk (v0 v1 : Value) (w : World) (h0 : (Sh.both .string (.both (.int .i64) .unit)).Arg w v0) (h1 : (Sh.rep 3 (.int .u8)).Arg w v1) (hT : Laid7 w) :
    Calls Tryd.prog 6 #[v0, v1] w fun e w' => e = .returned (.bool true) ∧ Below w.heap.size w w' := by
  obtain ⟨s, c, rfl, hs, hc⟩ := arg_spong h0
  obtain ⟨cs, rfl, h⟩ := h1.arr
  obtain ⟨zs, hl, rfl, hw⟩ := holds_rep h
  match zs, hl with
  | [a, b, d], _ => exact dfirst_body _ ask13 dawake7 s c a b d w (tabB_of hT) hs hc (by have := bounds_u8 (hw a (by simp)); omega) (by have := bounds_u8 (hw b (by simp)); omega) (by have := bounds_u8 (hw d (by simp)); omega)
end Go.Proofs.YtgnnliablgbgkaaDoor
