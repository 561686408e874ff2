/-
  Rows of a few pairs, and what layer 21's examples come to: no walk.
-/
import Derived.Test.YthfkfgjhgicfeaaDoorGChain
namespace Go.Proofs.YthfkfgjhgicfeaaDoor
open Go Go.RowKit Go.Sort Go.BigFrame
set_option linter.unusedVariables false

theorem cq_two (W : World) (a b c d : Int) (t : TypeId) : QRowA (W.alloc (.cells #[.int .u64 a, .int .u64 b, .int .u64 c, .int .u64 d] t)) (some ⟨W.heap.size, 0, none⟩) 2 [(a, b), (c, d)] :=
  ⟨rfl, by unfold maxLen; omega, fun k hk => ⟨W.heap.size, 0, rfl, by
    have : k = 0 ∨ k = 1 := by omega
    rcases this with rfl | rfl <;> simp [go_sem]⟩⟩
theorem cq_one (W : World) (a b : Int) (t : TypeId) : QRowA (W.alloc (.cells #[.int .u64 a, .int .u64 b] t)) (some ⟨W.heap.size, 0, none⟩) 1 [(a, b)] :=
  ⟨rfl, by unfold maxLen; omega, fun k hk => ⟨W.heap.size, 0, rfl, by
    have : k = 0 := by omega
    subst this; simp [go_sem]⟩⟩
theorem cq_zeros (W : World) (t : TypeId) : QRowA (W.alloc (.cells (madeCells #[.int .u64 0, .int .u64 0] 6) t)) (some ⟨W.heap.size, 0, none⟩) 3 [(0, 0), (0, 0), (0, 0)] := by
  have hA := Arr.newq W 3 t
  refine ⟨rfl, by unfold maxLen; omega, fun k hk => ⟨W.heap.size, 0, rfl, ?_⟩⟩
  have e : ([(0, 0), (0, 0), (0, 0)] : List (Int × Int)).getD k (0, 0) = (0, 0) := by
    have : k = 0 ∨ k = 1 ∨ k = 2 := by omega
    rcases this with rfl | rfl | rfl <;> rfl
  have h0 := (hA (k * 2) (by omega)).1
  have h1 := (hA (k * 2 + 1) (by omega)).1
  rw [e, Nat.zero_add]
  refine ⟨h0.trans ?_, h1.trans ?_⟩
  · simp [pc]
  · simp [pc]
abbrev z12 : QL := [(1, 0), (2, 0)]
def w12 : QL := forthQ z12 (shiftF 0) 2
theorem w12_len : w12.length = 4 := forthQ_len _ _ _
theorem z12_down (ys : QL) : chW w12 ys 1 = forthQ [encP (⟨1, 0⟩ + qAt ys 0 * ⟨2, 0⟩)] (shiftF 1) 1 ∧ chOk w12 ys 1 = true := by
  have h := chain_down z12 ys 1 2 rfl (by decide) (by decide) 1 (by decide)
  exact h
theorem ex_words : ∃ rows : List QL, chainV w12 [(3, 0)] = (rows, true) ∧ rows.length = 2 ∧ rows.getD 1 [] = forthQ [(7, 0)] (shiftF 1) 1 := by
  obtain ⟨h1, h2⟩ := z12_down [(3, 0)]
  refine ⟨_, chainV_yes h2, chRows_len _ _ _, ?_⟩
  show (chRows w12 [(3, 0)] 1).getD 1 [] = _
  rw [chRows_at _ _ (Nat.le_refl 1)]
  show chW w12 [(3, 0)] 1 = _
  rw [h1]
  exact congrArg (fun e => forthQ [e] (shiftF 1) 1) (by decide +kernel)
theorem ex_final : finV (forthQ [(7, 0)] (shiftF 1) 1) 1 1 = ([(7, 0)], true) := by
  have h := fin_forth [(7, 0)] 1 1 (by decide) (by decide)
  rw [show nrmQ [(7, 0)] = [(7, 0)] by decide +kernel] at h
  exact h
theorem ex_none : finV w12 0 1 = ([], false) := by
  refine finV_no fun h => ?_
  have hg : lg (w12.length : Int) = ((2 : Nat) : Int) := by rw [w12_len]; exact lg_pow 2
  have hC := finC_yes (l := w12) (f := 0) h.1 hg
  have h1 := h.2.2.2 1 (by decide) (by rw [hC, backQ_len]; decide)
  rw [hC, show backQ w12 (shiftF 0) 2 = backQ (forthQ z12 (shiftF 0) 2) (shiftF 0) 2 from rfl, back_forthQ z12 _ (shiftF_ne 0) 2 (by decide) (by decide) (by decide)] at h1
  revert h1
  decide +kernel
theorem ex_no : chainV w12 [(0, 0), (0, 0), (0, 0)] = ([], false) := by
  refine chainV_no fun h => ?_
  have h2 := chOk_at h (show 2 < 3 by decide)
  have h1 := chOk_at h (show 1 < 3 by decide)
  have h0 := chOk_at h (show 0 < 3 by decide)
  have l0 := wordV_half (l := w12) (by rw [w12_len]; decide) h0
  have l1 := wordV_half (l := chW w12 [(0, 0), (0, 0), (0, 0)] 1) (by have := chW_le w12 [(0, 0), (0, 0), (0, 0)] 1; rw [w12_len] at this; omega) h1
  have e1 : (chW w12 [(0, 0), (0, 0), (0, 0)] 1).length = 2 := by
    have : 2 * (chW w12 [(0, 0), (0, 0), (0, 0)] 1).length = 4 := l0.trans w12_len
    omega
  have e2 : (chW w12 [(0, 0), (0, 0), (0, 0)] 2).length = 1 := by
    have : 2 * (chW w12 [(0, 0), (0, 0), (0, 0)] 2).length = 2 := l1.trans e1
    omega
  have h2 : (wordV (chW w12 [(0, 0), (0, 0), (0, 0)] 2) (qAt [(0, 0), (0, 0), (0, 0)] 2) ((2 : Nat) : Int)).2 = true := h2
  rw [wordV_no (by rw [e2]; decide +kernel)] at h2
  cases h2
end Go.Proofs.YthfkfgjhgicfeaaDoor
