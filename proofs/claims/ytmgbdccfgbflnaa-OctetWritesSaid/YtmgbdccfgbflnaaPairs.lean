/-
  What the calls of package pair come to, as the pairs': contracts for the walk.
-/
import Derived.Test.YtmgbdccfgbflnaaFtwo
import Derived.Test.YtmgbdccfgbflnaaIs
import Derived.StillTailTactics
import Derived.Deep.RegionHeld3
import Derived.StillTactics
import Derived.Laws.Pointers
import Derived.WalkSpells
namespace Go.Proofs.Ytmgbdccfgbflnaa
open Go.RowKit
set_option linter.unusedVariables false

/-- What two numbers are as a pair. -/
def Rep (a b : Int) (x : F2) : Prop := U a ∧ U b ∧ toF a = x.a ∧ toF b = x.b
theorem rep_enc (x : F2) : Rep (enc x.a) (enc x.b) x := ⟨enc_U _, enc_U _, toF_enc _, toF_enc _⟩
theorem rep_raw {a b : Int} (ha : U a) (hb : U b) : Rep a b ⟨toF a, toF b⟩ := ⟨ha, hb, rfl, rfl⟩
theorem rep_zero : Rep 0 0 0 := rep_enc 0
theorem rep_one : Rep 1 0 1 := rep_enc 1

theorem bkeep {W w1 : World} (hb : Below W.heap.size W w1) {p : Addr} {v : Value} (h : W.cell? p = some v) : w1.cell? p = some v :=
  (hb.cell (World.block_lt_of_cell? W _ h)).trans h
theorem bfree {W w1 : World} (hb : Below W.heap.size W w1) {p : Addr} {v : Value} (h : W.cell? p = some v) (hf : W.frozen? p = false) : w1.frozen? p = false :=
  (hb.frozen (World.block_lt_of_cell? W _ h)).trans hf
theorem bcell {W w1 : World} (hb : Below W.heap.size W w1) : (∀ b o, b < W.heap.size → w1.cell? ⟨b, o, none⟩ = W.cell? ⟨b, o, none⟩) ∧ (∀ b o, b < W.heap.size → w1.frozen? ⟨b, o, none⟩ = W.frozen? ⟨b, o, none⟩) :=
  ⟨fun b o h => hb.cell (p := ⟨b, o, none⟩) h, fun b o h => hb.frozen (p := ⟨b, o, none⟩) h⟩
theorem bthen {w W w1 : World} (h : Below w.heap.size w W) (hb : Below W.heap.size W w1) : Below w.heap.size w w1 := h.trans (hb.mono h.size)
theorem wp_gen {P : Program} {c : Code} {Q : Exit → Act → World → Prop} {a : Act} {w : World} (S : World → Prop) (h : S w) (k : ∀ W, S W → c.wp P Q a W) : c.wp P Q a w := k w h

/-- A variable of two cells, unfrozen. -/
def Var (W : World) (g : Nat) (x y : Int) : Prop := W.cell? ⟨g, 0, none⟩ = some (.int .u64 x) ∧ W.cell? ⟨g, 1, none⟩ = some (.int .u64 y) ∧ W.frozen? ⟨g, 0, none⟩ = false ∧ W.frozen? ⟨g, 1, none⟩ = false
theorem Var.keep {W w1 : World} {g : Nat} {x y : Int} (h : Var W g x y) (hb : Below W.heap.size W w1) : Var w1 g x y :=
  ⟨bkeep hb h.1, bkeep hb h.2.1, bfree hb h.1 h.2.2.1, bfree hb h.2.1 h.2.2.2⟩
theorem Var.lt {W : World} {g : Nat} {x y : Int} (h : Var W g x y) : g < W.heap.size := World.block_lt_of_cell? W _ h.1
theorem Var.alloc {W : World} {g : Nat} {x y : Int} (h : Var W g x y) (o : Obj) : Var (W.alloc o) g x y :=
  h.keep ((Below.refl _ _).alloc (Nat.le_refl _) _)
theorem Var.drew {W : World} {g : Nat} {x y : Int} (h : Var W g x y) : Var W.drew g x y := h
theorem Var.new (W : World) (x y : Int) (t : TypeId) : Var (W.alloc (.cells #[.int .u64 x, .int .u64 y] t)) W.heap.size x y := by simp [Var, go_sem]
theorem Var.far {W : World} {g g' : Nat} {x y : Int} (h : Var W g x y) (hg : g' ≠ g) (o : Nat) (v : Value) : Var (W.setCell ⟨g', o, none⟩ v) g x y := by
  obtain ⟨c0, c1, f0, f1⟩ := h
  exact ⟨(World.cell?_setCell_far _ _ _ _ hg).trans c0, (World.cell?_setCell_far _ _ _ _ hg).trans c1, by simp [f0], by simp [f1]⟩
theorem Var.set {W : World} {g : Nat} {x y : Int} (h : Var W g x y) (x' y' : Int) : Var ((W.setCell ⟨g, 0, none⟩ (.int .u64 x')).setCell ⟨g, 1, none⟩ (.int .u64 y')) g x' y' := by
  obtain ⟨c0, c1, f0, f1⟩ := h
  simp [Var, go_sem, c0, c1, f0, f1]
theorem row_one {W : World} {g : Nat} {x : Int} (h0 : W.cell? ⟨g, 0, none⟩ = some (.int .u64 x)) : Row W (.slice (some ⟨g, 0, none⟩) 1 1) [x] := by
  right; right
  refine ⟨g, 0, 1, rfl, by simp, by unfold maxLen; omega, ?_⟩
  intro i hi
  have : i = 0 := by simp at hi; omega
  subst this; exact h0
theorem row_tri {W : World} {g : Nat} {x y z : Int} (h0 : W.cell? ⟨g, 0, none⟩ = some (.int .u64 x)) (h1 : W.cell? ⟨g, 1, none⟩ = some (.int .u64 y)) (h2 : W.cell? ⟨g, 2, none⟩ = some (.int .u64 z)) : Row W (.slice (some ⟨g, 0, none⟩) 3 3) [x, y, z] := by
  right; right
  refine ⟨g, 0, 3, rfl, by simp, by unfold maxLen; omega, ?_⟩
  intro i hi
  have : i = 0 ∨ i = 1 ∨ i = 2 := by simp at hi; omega
  rcases this with rfl | rfl | rfl
  · exact h0
  · exact h1
  · exact h2
end Go.Proofs.Ytmgbdccfgbflnaa
