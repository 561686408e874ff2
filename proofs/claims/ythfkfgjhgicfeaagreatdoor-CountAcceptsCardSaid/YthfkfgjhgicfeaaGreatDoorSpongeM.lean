/-
  Sponges: plain; what is asked of the program's calls of layer 12.
-/
import Derived.Test.YthfkfgjhgicfeaaGreatDoorLeafM
namespace Go.Proofs.YthfkfgjhgicfeaaGreatDoor
open Go Go.RowKit
set_option linter.unusedVariables false

/-- A variable of two cells of any kind, unfrozen. -/
def Duo (W : World) (g : Nat) (u v : Value) : Prop := W.cell? ⟨g, 0, none⟩ = some u ∧ W.cell? ⟨g, 1, none⟩ = some v ∧ W.frozen? ⟨g, 0, none⟩ = false ∧ W.frozen? ⟨g, 1, none⟩ = false
theorem Duo.keep {W w1 : World} {g : Nat} {u v : Value} (h : Duo W g u v) (hb : Below W.heap.size W w1) : Duo w1 g u v :=
  ⟨bkeep hb h.1, bkeep hb h.2.1, bfree hb h.1 h.2.2.1, bfree hb h.2.1 h.2.2.2⟩
theorem Duo.lt {W : World} {g : Nat} {u v : Value} (h : Duo W g u v) : g < W.heap.size := World.block_lt_of_cell? W _ h.1
theorem Duo.new (W : World) (u v : Value) (t : TypeId) : Duo (W.alloc (.cells #[u, v] t)) W.heap.size u v := by simp [Duo, go_sem]
theorem Duo.far {W : World} {g g' : Nat} {u v : Value} (h : Duo W g u v) (hg : g' ≠ g) (o : Nat) (x : Value) : Duo (W.setCell ⟨g', o, none⟩ x) g u v := by
  obtain ⟨c0, c1, f0, f1⟩ := h
  exact ⟨(World.cell?_setCell_far _ _ _ _ hg).trans c0, (World.cell?_setCell_far _ _ _ _ hg).trans c1, by simp [f0], by simp [f1]⟩
theorem Duo.set {W : World} {g : Nat} {u v : Value} (h : Duo W g u v) (u' v' : Value) : Duo ((W.setCell ⟨g, 0, none⟩ u').setCell ⟨g, 1, none⟩ v') g u' v' := by
  obtain ⟨c0, c1, f0, f1⟩ := h
  simp [Duo, go_sem, c0, c1, f0, f1]
end Go.Proofs.YthfkfgjhgicfeaaGreatDoor
