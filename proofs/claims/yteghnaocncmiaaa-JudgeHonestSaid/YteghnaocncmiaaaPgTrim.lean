/-
  What the program's kept, Degree and Trim of package poly come to: contracts for the walk.
-/
import Derived.Test.YteghnaocncmiaaaPolyNwt
namespace Go.Proofs.Yteghnaocncmiaaa
open Go.RowKit
set_option linter.unusedVariables false

/-- A call that tells a polynomial in a row of its own. -/
def RetA (l : List F2) (w : World) (e : Ending) (w' : World) : Prop :=
  ∃ g, e = .returned (.slice (some ⟨g, 0, none⟩) l.length l.length) ∧ w.heap.size ≤ g ∧ Below w.heap.size w w' ∧ Arr w' g (l.length * 2) (pc fun j => encP (cq l j))
theorem mk_cq (l : List F2) : mk l.length (cq l) = l := by
  refine List.ext_getElem (by rw [mk_len]) fun i h1 h2 => ?_
  simp [mk, cq, List.getD, h2]
theorem RetA.retF {l : List F2} {w w' : World} {e : Ending} (hl : l.length ≤ maxLen) (h : RetA l w e w') : RetF l w e w' := by
  obtain ⟨g, rfl, hg, hb, hA⟩ := h
  exact ⟨_, rfl, hb, by have := hA.isP (Nat.le_refl _) hl; rwa [mk_cq] at this, fun a n c he => by cases he; exact hg⟩

end Go.Proofs.Yteghnaocncmiaaa
