/-
  What is asked of the program's calls of layer 10 is so, where the tables stand as they are laid.
-/
import Derived.Test.YtmhpbgdchocoiaaDoorRows
import Derived.Test.YtmhpbgdchocoiaaDoorTPro2
import Derived.Test.YtmhpbgdchocoiaaDoorTPro3
import Derived.Test.YtmhpbgdchocoiaaDoorBProg
import Derived.Test.YtmhpbgdchocoiaaDoorGRoot
namespace Go.Proofs.YtmhpbgdchocoiaaDoor
open Go Go.RowKit
set_option linter.unusedVariables false

/-- The tables that sums and powers of two read. -/
def TabL (W : World) : Prop := TabB W ∧ Tab W
theorem TabL.keep {W W' : World} (h : TabL W) (hb : Below W.heap.size W W') : TabL W' := ⟨h.1.keep hb, h.2.keep hb⟩
theorem ask10 : AskTree TabL where
  keep := fun h hb => h.keep hb
  build := fun a n c f W hS hn hf hT => (gbuild_is a n c f W hS hn hf hT.2 hT.1).mono fun _ _ ⟨hb, b, cb, e, hA⟩ => ⟨hb, b, cb, e, fun B hB _ => hA.weak hB⟩
  root := fun B b L c f W h hL _ => (groot_is B b L c f W h hL).mono fun _ _ h => ⟨h.1, same_below h.2.symm⟩
  path := fun B b L c f i W h hL _ _ => gpath_is B b L c f i W h hL
  climb := fun s i a n c g W h hn hg hs hi hT => gclimb_is s i a n c g W h.1 hn hg hs hi hT.1
  leads := fun root depth i a len cap zs b lenb capb qs p n c g W hr hu hq hv hl hlb hS hn hg hd hi hT => gleads_is root depth i a len cap zs b lenb capb qs p n c g W hr hu hq hv hl hlb hS.1 hn hg hd hi hT.1
def Laid10 (w : World) : Prop := laidMet Tryd.prog [("math/bits.deBruijn64tab", Rows.laid_math_bits_deBruijn64tab), ("assayer/blake.start", Rows.laid_assayer_blake_start), ("assayer/blake.orders", Rows.laid_assayer_blake_orders)] w
set_option maxRecDepth 100000 in
theorem tabL_of {w : World} (h : Laid10 w) : TabL w :=
  ⟨⟨Tabs.of (t := 60) [1] _ (.tail _ (.head _)) (by kernel_rfl) (by kernel_rfl) ⟨8, 59, by kernel_rfl, by kernel_rfl, by kernel_rfl, by kernel_rfl, by kernel_rfl⟩ (by kernel_rfl) (by decide +kernel) h,
   Tabs.of (t := 84) [16, 1] _ (.tail _ (.tail _ (.head _))) (by kernel_rfl) (by kernel_rfl) ⟨10, 83, by kernel_rfl, by kernel_rfl, by kernel_rfl, 16, 5, by kernel_rfl, by kernel_rfl, by kernel_rfl, by kernel_rfl, by kernel_rfl⟩ (by kernel_rfl) (by decide +kernel) h⟩,
   Tabs.of (t := 62) [1] _ (.head _) (by kernel_rfl) (by kernel_rfl) ⟨64, 5, by kernel_rfl, by kernel_rfl, by kernel_rfl, by kernel_rfl, by kernel_rfl⟩ (by kernel_rfl) (by decide +kernel) h⟩
end Go.Proofs.YtmhpbgdchocoiaaDoor
