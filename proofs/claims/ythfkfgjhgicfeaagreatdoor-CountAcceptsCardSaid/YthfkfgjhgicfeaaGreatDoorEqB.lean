/-
  Two pairs, alike or not. No function of the program is named.
-/
import Derived.Test.YthfkfgjhgicfeaaGreatDoorGNum
namespace Go.Proofs.YthfkfgjhgicfeaaGreatDoor
open Go Go.RowKit
set_option linter.unusedVariables false

/-- Two pairs' numbers, alike or not. -/
def EqB (a b c d : Int) (r : Bool) : Prop := (r = true ∧ a = c ∧ b = d) ∨ (r = false ∧ (a == c) = false) ∨ (r = false ∧ a = c ∧ (b == d) = false)
theorem eqB_enc (x y : F2) (r : Bool) (h : decide (x = y) = r) : EqB (enc x.a) (enc x.b) (enc y.a) (enc y.b) r := by
  by_cases h1 : x = y
  · exact Or.inl ⟨by rw [← h]; simpa using h1, by rw [h1], by rw [h1]⟩
  · have hr : r = false := by rw [← h]; simpa using h1
    by_cases ha : enc x.a = enc y.a
    · refine Or.inr (Or.inr ⟨hr, ha, ?_⟩)
      have : ¬ enc x.b = enc y.b := fun hb => h1 (F2.eq (enc_inj.mp ha) (enc_inj.mp hb))
      simpa using this
    · exact Or.inr (Or.inl ⟨hr, by simpa using ha⟩)

end Go.Proofs.YthfkfgjhgicfeaaGreatDoor
