/-
  The program's calls of layer 9: what is asked of them is so.
-/
import Derived.Test.YthmpojefoiojeaaDoorLeafM
import Derived.Test.YthmpojefoiojeaaDoorBProg
import Derived.Test.YthmpojefoiojeaaDoorGOctPro
namespace Go.Proofs.YthmpojefoiojeaaDoor
open Go Go.RowKit
set_option linter.unusedVariables false

theorem gleafB_is (s : ByteArray) : sumB (byte0 ++ s) = leafB s := by unfold leafB; rfl
theorem gnodeB_is (a b : ByteArray) : sumB (byte1 ++ a ++ b) = nodeB a b := by unfold nodeB; rfl
theorem gsum2 (s0 s1 z : ByteArray) (hz : sumB (s0 ++ s1) = z) (hl : s0.size + s1.size ≤ 1000000) (W : World) (t : TypeId) (hG : TabB W) : Calls Tryd.prog 17 #[.slice (some ⟨W.heap.size, 0, none⟩) 2 2] (W.alloc (.cells #[.string s0, .string s1] t)) fun e w' => e = .returned (.string z) ∧ Below W.heap.size W w' :=
  bsum_two ask7.keep ask7.sum s0 s1 z hz hl W t hG
theorem gsum3 (s0 s1 s2 z : ByteArray) (hz : sumB (s0 ++ s1 ++ s2) = z) (hl : s0.size + s1.size + s2.size ≤ 1000000) (W : World) (t : TypeId) (hG : TabB W) : Calls Tryd.prog 17 #[.slice (some ⟨W.heap.size, 0, none⟩) 3 3] (W.alloc (.cells #[.string s0, .string s1, .string s2] t)) fun e w' => e = .returned (.string z) ∧ Below W.heap.size W w' :=
  bsum_three ask7.keep ask7.sum s0 s1 s2 z hz hl W t hG
theorem gsum1 (s0 z : ByteArray) (hz : sumB s0 = z) (hl : s0.size ≤ 1000000) (W : World) (t : TypeId) (hG : TabB W) : Calls Tryd.prog 17 #[.slice (some ⟨W.heap.size, 0, none⟩) 1 1] (W.alloc (.cells #[.string s0] t)) fun e w' => e = .returned (.string z) ∧ Below W.heap.size W w' :=
  bsum_one ask7.keep ask7.sum s0 z hz hl W t hG
end Go.Proofs.YthmpojefoiojeaaDoor
