/-
  Where the one table of the library stands as it is laid, powers of two are told.
-/
import Derived.Test.YthfkfgjhgicfeaaGreatDoorRows
import Derived.Test.YthfkfgjhgicfeaaGreatDoorGRow
import Derived.Test.YthfkfgjhgicfeaaGreatDoorGRoot
namespace Go.Proofs.YthfkfgjhgicfeaaGreatDoor
open Go Go.RowKit
set_option linter.unusedVariables false

def LaidF (w : World) : Prop := laidMet Tryz.prog [("math/bits.deBruijn64tab", Rows.laid_math_bits_deBruijn64tab)] w
set_option maxRecDepth 100000 in
theorem tabF_of {w : World} (h : LaidF w) : Tab w :=
  Tabs.of (t := 108) [1] _ (.head _) (by kernel_rfl) (by kernel_rfl) ⟨64, 5, by kernel_rfl, by kernel_rfl, by kernel_rfl, by kernel_rfl, by kernel_rfl⟩ (by kernel_rfl) (by decide +kernel) h
end Go.Proofs.YthfkfgjhgicfeaaGreatDoor
