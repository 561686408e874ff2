/-
  A polynomial's word is taken at all places. Plain.
-/
import Derived.Test.YthfkfgjhgicfeaaGreatDoorCountH
namespace Go.Proofs.YthfkfgjhgicfeaaGreatDoor
open Go Go.RowKit
set_option linter.unusedVariables false

/-- The words of a polynomial's word. -/
theorem wordsV_yes {l ys : QL} (h : chOk l ys ys.length = true) : wordsV l ys = (chRows l ys ys.length).take (max 1 ys.length) := by
  unfold wordsV
  rw [chainV_yes h, if_pos rfl]
  simp only [chRows_len]
  split
  · rw [show max 1 ys.length = ys.length + 1 - 1 by omega]
  · rw [List.take_of_length_le (by rw [chRows_len]; omega)]
theorem atP_ev (z : QL) (x : F) : atP (z.map toQ) (lift x) = evQ z.length (qAt z) x := by
  rw [← finAt_ev]; rfl
theorem honest_at (z : QL) (m : Nat) (hm : m ≤ 32) {i : Nat} (hi : i < 2 ^ m) : atP (z.map toQ) (ptV (m : Int) 0 i) = qAt (forthQ z (shiftF 0) m) i := by
  rw [ptV_pt hm, atP_ev, qAt_forth z _ m hi]
end Go.Proofs.YthfkfgjhgicfeaaGreatDoor
