/-
  A variable of five cells. No function of the program is named.
-/
import Derived.Test.YtjcgakmhpblanaaGArgs
namespace Go.Proofs.Ytjcgakmhpblanaa
open Go Go.RowKit
set_option linter.unusedVariables false

/-- Five cells, unfrozen. -/
def Five (W : World) (g : Nat) (v0 v1 v2 v3 v4 : Value) : Prop :=
  (W.cell? ⟨g, 0, none⟩ = some v0 ∧ W.cell? ⟨g, 1, none⟩ = some v1 ∧ W.cell? ⟨g, 2, none⟩ = some v2 ∧ W.cell? ⟨g, 3, none⟩ = some v3 ∧ W.cell? ⟨g, 4, none⟩ = some v4) ∧
  (W.frozen? ⟨g, 0, none⟩ = false ∧ W.frozen? ⟨g, 1, none⟩ = false ∧ W.frozen? ⟨g, 2, none⟩ = false ∧ W.frozen? ⟨g, 3, none⟩ = false ∧ W.frozen? ⟨g, 4, none⟩ = false)
section
variable {W W' : World} {g : Nat} {v0 v1 v2 v3 v4 : Value}
theorem Five.lt (h : Five W g v0 v1 v2 v3 v4) : g < W.heap.size := World.block_lt_of_cell? W _ h.1.1
theorem Five.keep (h : Five W g v0 v1 v2 v3 v4) (hb : Below W.heap.size W W') : Five W' g v0 v1 v2 v3 v4 := by
  obtain ⟨⟨c0, c1, c2, c3, c4⟩, f0, f1, f2, f3, f4⟩ := h
  exact ⟨⟨bkeep hb c0, bkeep hb c1, bkeep hb c2, bkeep hb c3, bkeep hb c4⟩, bfree hb c0 f0, bfree hb c1 f1, bfree hb c2 f2, bfree hb c3 f3, bfree hb c4 f4⟩
theorem Five.grown {row : Option Nat} (h : Five W g v0 v1 v2 v3 v4) (hg : W.grownBy W' row) (hne : ∀ k, row = some k → k ≠ g) : Five W' g v0 v1 v2 v3 v4 := by
  have hb := hg.block g h.lt (fun e => hne g e.symm rfl)
  obtain ⟨⟨c0, c1, c2, c3, c4⟩, f0, f1, f2, f3, f4⟩ := h
  exact ⟨⟨(World.cell?_of_block (a := ⟨g, 0, none⟩) hb).trans c0, (World.cell?_of_block (a := ⟨g, 1, none⟩) hb).trans c1, (World.cell?_of_block (a := ⟨g, 2, none⟩) hb).trans c2, (World.cell?_of_block (a := ⟨g, 3, none⟩) hb).trans c3, (World.cell?_of_block (a := ⟨g, 4, none⟩) hb).trans c4⟩,
    (World.frozen?_of_block (a := ⟨g, 0, none⟩) hb).trans f0, (World.frozen?_of_block (a := ⟨g, 1, none⟩) hb).trans f1, (World.frozen?_of_block (a := ⟨g, 2, none⟩) hb).trans f2, (World.frozen?_of_block (a := ⟨g, 3, none⟩) hb).trans f3, (World.frozen?_of_block (a := ⟨g, 4, none⟩) hb).trans f4⟩
theorem Five.set1 (h : Five W g v0 v1 v2 v3 v4) (x : Value) : Five (W.setCell ⟨g, 1, none⟩ x) g v0 x v2 v3 v4 := by
  obtain ⟨⟨c0, c1, c2, c3, c4⟩, f0, f1, f2, f3, f4⟩ := h
  simp [Five, go_sem, c0, c1, c2, c3, c4, f0, f1, f2, f3, f4]
theorem Five.set2 (h : Five W g v0 v1 v2 v3 v4) (x : Value) : Five (W.setCell ⟨g, 2, none⟩ x) g v0 v1 x v3 v4 := by
  obtain ⟨⟨c0, c1, c2, c3, c4⟩, f0, f1, f2, f3, f4⟩ := h
  simp [Five, go_sem, c0, c1, c2, c3, c4, f0, f1, f2, f3, f4]
theorem Five.set3 (h : Five W g v0 v1 v2 v3 v4) (x : Value) : Five (W.setCell ⟨g, 3, none⟩ x) g v0 v1 v2 x v4 := by
  obtain ⟨⟨c0, c1, c2, c3, c4⟩, f0, f1, f2, f3, f4⟩ := h
  simp [Five, go_sem, c0, c1, c2, c3, c4, f0, f1, f2, f3, f4]
theorem Five.set4 (h : Five W g v0 v1 v2 v3 v4) (x : Value) : Five (W.setCell ⟨g, 4, none⟩ x) g v0 v1 v2 v3 x := by
  obtain ⟨⟨c0, c1, c2, c3, c4⟩, f0, f1, f2, f3, f4⟩ := h
  simp [Five, go_sem, c0, c1, c2, c3, c4, f0, f1, f2, f3, f4]
theorem Five.far (h : Five W g v0 v1 v2 v3 v4) {g' : Nat} (hne : g' ≠ g) (o : Nat) (x : Value) : Five (W.setCell ⟨g', o, none⟩ x) g v0 v1 v2 v3 v4 :=
  h.grown (grown_set W g' o x) fun k hk => by cases hk; exact hne
theorem Five.new (W : World) (t : TypeId) : Five (W.alloc (.cells #[v0, v1, v2, v3, v4] t)) W.heap.size v0 v1 v2 v3 v4 := by simp [Five, go_sem]
end
end Go.Proofs.Ytjcgakmhpblanaa
