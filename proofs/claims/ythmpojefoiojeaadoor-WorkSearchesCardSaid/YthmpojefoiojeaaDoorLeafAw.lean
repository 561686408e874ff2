/-
  The awake of layer 9's law.
-/
import Derived.Test.YthmpojefoiojeaaDoorLeafRef
namespace Go.Proofs.YthmpojefoiojeaaDoor
open Go Go.RowKit
set_option linter.unusedVariables false

/-- An opening that lies in a variable. -/
def OpenV (W : World) (g : Nat) (v0 v1 v2 : Value) : Prop := W.cell? ⟨g, 0, none⟩ = some v0 ∧ W.cell? ⟨g, 1, none⟩ = some v1 ∧ W.cell? ⟨g, 2, none⟩ = some v2
theorem OpenV.keep {W W' : World} {g : Nat} {v0 v1 v2 : Value} (h : OpenV W g v0 v1 v2) (hb : Below W.heap.size W W') : OpenV W' g v0 v1 v2 := ⟨bkeep hb h.1, bkeep hb h.2.1, bkeep hb h.2.2⟩
theorem nil_row (w : World) : RowA w none 0 [] := ⟨rfl, by unfold maxLen; omega, fun k hk => by omega⟩
theorem nil_qrow (w : World) : QRowA w none 0 [] := ⟨rfl, by unfold maxLen; omega, fun k hk => by omega⟩
theorem lit5 : sumB ⟨#[0, 5, 0, 0, 0, 0, 0, 0, 0]⟩ = leafB (rowB [5]) := by
  rw [← leafB_is]
  exact congrArg sumB (by decide +kernel)
theorem litab : sumB ⟨#[1, 97, 98]⟩ = nodeB ⟨#[97]⟩ ⟨#[98]⟩ := by
  rw [← nodeB_is]
  exact congrArg sumB (by decide +kernel)
theorem u5 : ∀ x ∈ ([5] : List Int), U x := by intro x hx; simp at hx; subst hx; unfold U; omega
theorem u50 : ∀ x ∈ ([(5, 0)] : List (Int × Int)), U x.1 ∧ U x.2 := by intro x hx; simp at hx; subst hx; unfold U; simp
theorem unil : ∀ x ∈ ([] : List Int), U x := by intro x hx; cases hx
theorem uqnil : ∀ x ∈ ([] : List (Int × Int)), U x.1 ∧ U x.2 := by intro x hx; cases hx

end Go.Proofs.YthmpojefoiojeaaDoor
