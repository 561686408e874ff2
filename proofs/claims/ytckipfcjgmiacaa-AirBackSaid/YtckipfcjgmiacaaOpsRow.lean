/-
  Rows of operations, to be appended.
-/
import Derived.Test.YtckipfcjgmiacaaCodeRef3
import Derived.Test.YtckipfcjgmiacaaRows3
namespace Go.Proofs.Ytckipfcjgmiacaa
open Go Go.RowKit
set_option linter.unusedVariables false

theorem flatO_len2 (l : List Opn) : (flatO l).length = l.length * 2 := by
  induction l with
  | nil => rfl
  | cons o l ih => simp only [flatO, List.flatMap_cons, List.length_append, List.length_cons, List.length_nil] at *; omega
theorem flatO_one (l : List Opn) : ∀ u ∈ flatO l, u.oneCell' = true := by
  intro u hu
  obtain ⟨y, _, hy⟩ := List.mem_flatMap.1 hu
  simp at hy
  rcases hy with rfl | rfl <;> rfl
theorem opA_cells {W : World} {a : Option Addr} {n : Nat} {zs : List Opn} (h : OpA W a n zs) : ∀ ad, a = some ad → ∀ j u, (flatO zs)[j]? = some u → W.cell? (ad.add j) = some u := by
  rintro ad rfl j u hu
  obtain ⟨rfl, hm, hc⟩ := h
  have hj : j < zs.length * 2 := by
    have := (List.getElem?_eq_some_iff.1 hu).1
    rwa [flatO_len2] at this
  obtain ⟨b, off, e1, c0, c1⟩ := hc (j / 2) (by omega)
  cases e1
  obtain ⟨f0, f1⟩ := flatO_at zs (j / 2) (by omega)
  rw [Addr.add_mid]
  by_cases h2 : j % 2 = 0
  · have ej : j = j / 2 * 2 := by omega
    rw [ej] at hu ⊢
    rw [hu] at f0
    rw [c0, ← f0]
  · have ej : j = j / 2 * 2 + 1 := by omega
    rw [ej] at hu ⊢
    rw [hu] at f1
    rw [← Nat.add_assoc, c1, ← f1]
theorem opA_nil0 {W : World} {a : Option Addr} {n : Nat} {zs : List Opn} (h : OpA W a n zs) : a = none → n = 0 := by
  rintro rfl
  cases n with
  | zero => rfl
  | succ n => obtain ⟨b, off, e, _⟩ := h.2.2 0 (by omega); cases e
end Go.Proofs.Ytckipfcjgmiacaa
