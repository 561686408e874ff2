/-
  Rows of a few pairs, and what layer 21's examples come to: no walk.
-/
import Derived.Test.YthfkfgjhgicfeaaGreatDoorGChain
namespace Go.Proofs.YthfkfgjhgicfeaaGreatDoor
open Go Go.RowKit Go.Sort Go.BigFrame
set_option linter.unusedVariables false

theorem cq_two (W : World) (a b c d : Int) (t : TypeId) : QRowA (W.alloc (.cells #[.int .u64 a, .int .u64 b, .int .u64 c, .int .u64 d] t)) (some ⟨W.heap.size, 0, none⟩) 2 [(a, b), (c, d)] :=
  ⟨rfl, by unfold maxLen; omega, fun k hk => ⟨W.heap.size, 0, rfl, by
    have : k = 0 ∨ k = 1 := by omega
    rcases this with rfl | rfl <;> simp [go_sem]⟩⟩
theorem cq_one (W : World) (a b : Int) (t : TypeId) : QRowA (W.alloc (.cells #[.int .u64 a, .int .u64 b] t)) (some ⟨W.heap.size, 0, none⟩) 1 [(a, b)] :=
  ⟨rfl, by unfold maxLen; omega, fun k hk => ⟨W.heap.size, 0, rfl, by
    have : k = 0 := by omega
    subst this; simp [go_sem]⟩⟩
end Go.Proofs.YthfkfgjhgicfeaaGreatDoor
