/-
  What the document's calls of layer 9 come to.
-/
import Derived.Test.YthmpojefoiojeaaDoorLeafM
import Derived.Test.YthmpojefoiojeaaDoorBSum
namespace Go.Proofs.YthmpojefoiojeaaDoor
open Go Go.RowKit
set_option linter.unusedVariables false

theorem rsum2 (s0 s1 z : ByteArray) (hz : sumB (s0 ++ s1) = z) (hl : s0.size + s1.size ≤ 1000000) (W : World) (t : TypeId) : Calls Tryd.prog 21 #[.slice (some ⟨W.heap.size, 0, none⟩) 2 2] (W.alloc (.cells #[.string s0, .string s1] t)) fun e w' => e = .returned (.string z) ∧ Below W.heap.size W w' :=
  bsum_two (G := fun _ => True) (fun _ _ => trivial) (fun a len cap F W h1 h2 _ => rsum_is a len cap F W h1 h2) s0 s1 z hz hl W t trivial
theorem rsum3 (s0 s1 s2 z : ByteArray) (hz : sumB (s0 ++ s1 ++ s2) = z) (hl : s0.size + s1.size + s2.size ≤ 1000000) (W : World) (t : TypeId) : Calls Tryd.prog 21 #[.slice (some ⟨W.heap.size, 0, none⟩) 3 3] (W.alloc (.cells #[.string s0, .string s1, .string s2] t)) fun e w' => e = .returned (.string z) ∧ Below W.heap.size W w' :=
  bsum_three (G := fun _ => True) (fun _ _ => trivial) (fun a len cap F W h1 h2 _ => rsum_is a len cap F W h1 h2) s0 s1 s2 z hz hl W t trivial
theorem rsum1 (s0 z : ByteArray) (hz : sumB s0 = z) (hl : s0.size ≤ 1000000) (W : World) (t : TypeId) : Calls Tryd.prog 21 #[.slice (some ⟨W.heap.size, 0, none⟩) 1 1] (W.alloc (.cells #[.string s0] t)) fun e w' => e = .returned (.string z) ∧ Below W.heap.size W w' :=
  bsum_one (G := fun _ => True) (fun _ _ => trivial) (fun a len cap F W h1 h2 _ => rsum_is a len cap F W h1 h2) s0 z hz hl W t trivial
theorem leafB_is (s : ByteArray) : sumB (byte0 ++ s) = leafB s := by unfold leafB; rfl
theorem nodeB_is (a b : ByteArray) : sumB (byte1 ++ a ++ b) = nodeB a b := by unfold nodeB; rfl
end Go.Proofs.YthmpojefoiojeaaDoor
