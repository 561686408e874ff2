/-
  What is asked of the program's calls of layer 7 is so, where its tables stand as they are laid.
-/
import Derived.Test.YthmpojefoiojeaaDoorRows
import Derived.Test.YthmpojefoiojeaaDoorGBlkPro
namespace Go.Proofs.YthmpojefoiojeaaDoor
open Go Go.RowKit
set_option linter.unusedVariables false

theorem ask7 : AskBlake TabB where
  keep := fun h hb => h.keep hb
  press := fun h b n last hh hb hn W hT => gpress_is h b n last hb hn W hT
  sum := fun a len cap f W hr hl hT => gsum_is a len cap f W hr hl hT
def Laid7 (w : World) : Prop := laidMet Tryd.prog [("assayer/blake.start", Rows.laid_assayer_blake_start), ("assayer/blake.orders", Rows.laid_assayer_blake_orders)] w
set_option maxRecDepth 100000 in
theorem tabB_of {w : World} (h : Laid7 w) : TabB w :=
  ⟨Tabs.of (t := 42) [1] _ (.head _) (by kernel_rfl) (by kernel_rfl) ⟨8, 41, by kernel_rfl, by kernel_rfl, by kernel_rfl, by kernel_rfl, by kernel_rfl⟩ (by kernel_rfl) (by decide +kernel) h,
   Tabs.of (t := 63) [16, 1] _ (.tail _ (.head _)) (by kernel_rfl) (by kernel_rfl) ⟨10, 62, by kernel_rfl, by kernel_rfl, by kernel_rfl, 16, 5, by kernel_rfl, by kernel_rfl, by kernel_rfl, by kernel_rfl, by kernel_rfl⟩ (by kernel_rfl) (by decide +kernel) h⟩
end Go.Proofs.YthmpojefoiojeaaDoor
