/-
  Variables beside a row that grows; a row that grows beside variables that are stored to. No function of the program is named.
-/
import Derived.Test.YtckipfcjgmiacaaGRow
import Derived.Test.YtckipfcjgmiacaaSpongeM
namespace Go.Proofs.Ytckipfcjgmiacaa
open Go Go.RowKit
set_option linter.unusedVariables false

theorem grown_set (W : World) (g o : Nat) (x : Value) : W.grownBy (W.setCell ⟨g, o, none⟩ x) (some g) :=
  ⟨rfl, rfl, rfl, by simp [World.setCell], fun k hk hne => Below.heap_setCell _ _ _ _ (by intro e; exact hne (congrArg some e))⟩
/-- A row of blocks from B on stays, where a variable below B is stored to. -/
theorem own_set {W : World} {B g o : Nat} {e : TypeId} {size n : Nat} {v x : Value} {xs : List Value} (h : W.ownsRow B e size v n xs) (hg : g < B) : (W.setCell ⟨g, o, none⟩ x).ownsRow B e size v n xs :=
  h.kept (grown_set W g o x) (by
    cases hv : v.ownBlock with
    | none => exact Or.inl rfl
    | some k => exact Or.inr (by have := own_ge h k hv; intro e; cases e; omega))
theorem Duo.grown {W W' : World} {g : Nat} {u v : Value} {row : Option Nat} (h : Duo W g u v) (hg : W.grownBy W' row) (hne : ∀ k, row = some k → k ≠ g) : Duo W' g u v := by
  have hl := h.lt
  have hn : some g ≠ row := fun e => hne g e.symm rfl
  obtain ⟨c0, c1, f0, f1⟩ := h
  exact ⟨(World.cell?_of_block (a := ⟨g, 0, none⟩) (hg.block g hl hn)).trans c0, (World.cell?_of_block (a := ⟨g, 1, none⟩) (hg.block g hl hn)).trans c1, (World.frozen?_of_block (a := ⟨g, 0, none⟩) (hg.block g hl hn)).trans f0, (World.frozen?_of_block (a := ⟨g, 1, none⟩) (hg.block g hl hn)).trans f1⟩
theorem own_row_below {W W' : World} {B B' : Nat} {e : TypeId} {size n : Nat} {v : Value} {xs : List Value} {w : World} (h : W.ownsRow B' e size v n xs) (hb : Below B w W) (hg : W.grownBy W' v.ownBlock) (h1 : B ≤ B') (h2 : B ≤ W.heap.size) : Below B w W' :=
  hb.grown hg h2 fun k hk => Nat.le_trans h1 (own_ge h k hk)
theorem own_ne {W : World} {B g : Nat} {e : TypeId} {size n : Nat} {v : Value} {xs : List Value} (h : W.ownsRow B e size v n xs) (hg : g < B) : ∀ k, v.ownBlock = some k → k ≠ g := fun k hk e => by have := own_ge h k hk; omega
end Go.Proofs.Ytckipfcjgmiacaa
