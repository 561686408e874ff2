/-
  Slices of numbers and of pairs that a call put together itself, by append. No function of the program is named.
-/
import Derived.Test.YtmgbdccfgbflnaaArr
import Derived.WalkSmall
namespace Go.Proofs.Ytmgbdccfgbflnaa
open Go Go.RowKit
set_option linter.unusedVariables false

theorem own_keep {w w' : World} {base : Nat} {e : TypeId} {size n : Nat} {v : Value} {xs : List Value} (h : w.ownsRow base e size v n xs) (hb : Below w.heap.size w w') : w'.ownsRow base e size v n xs := by
  refine ⟨h.1, ?_⟩
  rcases h.2 with h' | ⟨g, cap, cur, rfl, h0, hh, r⟩
  · exact Or.inl h'
  · refine Or.inr ⟨g, cap, cur, rfl, h0, (hb.block g ?_).trans hh, r⟩
    refine Nat.lt_of_not_le fun hge => ?_
    rw [Array.getElem?_eq_none hge] at hh
    cases hh
/-- The source of an append of one value. -/
theorem one_src {W : World} {g : Nat} {x : Value} (h : W.cell? ⟨g, 0, none⟩ = some x) : ∀ j u, [x][j]? = some u → W.cell? ((⟨g, 0, none⟩ : Addr).add j) = some u := by
  intro j u hu
  cases j with
  | zero => simp at hu; subst hu; exact h
  | succ j => simp at hu
theorem two_src {W : World} {g : Nat} {x y : Value} (h : W.cell? ⟨g, 0, none⟩ = some x) (h' : W.cell? ⟨g, 1, none⟩ = some y) : ∀ j u, [x, y][j]? = some u → W.cell? ((⟨g, 0, none⟩ : Addr).add j) = some u := by
  intro j u hu
  cases j with
  | zero => simp at hu; subst hu; exact h
  | succ j =>
    cases j with
    | zero => simp at hu; subst hu; exact h'
    | succ j => simp at hu
theorem own_form {w : World} {base : Nat} {e : TypeId} {size n : Nat} {v : Value} {xs : List Value} (h : w.ownsRow base e size v n xs) : ∃ a c, v = .slice a n c := by
  rcases h.2 with ⟨rfl, rfl⟩ | ⟨g, cap, cur, rfl, _⟩
  · exact ⟨none, 0, rfl⟩
  · exact ⟨some ⟨g, 0, none⟩, cap, rfl⟩
theorem own_ge {w : World} {base : Nat} {e : TypeId} {size n : Nat} {v : Value} {xs : List Value} (h : w.ownsRow base e size v n xs) : ∀ k, v.ownBlock = some k → base ≤ k := by
  intro k hk
  rcases h.2 with ⟨rfl, _⟩ | ⟨g, cap, cur, rfl, hb, _⟩
  · simp [Value.ownBlock] at hk
  · simp [Value.ownBlock] at hk; omega

/-- A slice of numbers that is put together since the world W. -/
def MadeU (W w : World) (v : Value) (xs : List Int) : Prop := w.ownsRow W.heap.size 22 1 v xs.length (xs.map (Value.int .u64)) ∧ Below W.heap.size W w
theorem MadeU.start (W : World) : MadeU W W (.slice none 0 0) [] := ⟨World.ownsRow_nil _ _ _ _, Below.refl _ _⟩
theorem MadeU.keep {W w w' : World} {v : Value} {xs : List Int} (h : MadeU W w v xs) (hb : Below w.heap.size w w') : MadeU W w' v xs := ⟨own_keep h.1 hb, bthen h.2 hb⟩
theorem MadeU.step {W w w1 : World} {v v' : Value} {xs : List Int} {z : Int} (h : MadeU W w v xs) (o : Obj)
    (hown : w1.ownsRow W.heap.size 22 1 v' (xs.length + 1) (xs.map (Value.int .u64) ++ [.int .u64 z])) (hg : (w.alloc o).grownBy w1 v.ownBlock) : MadeU W w1 v' (xs ++ [z]) := by
  refine ⟨by rw [List.length_append, List.map_append]; exact hown, (h.2.alloc h.2.size o).grown hg ?_ (own_ge h.1)⟩
  have := h.2.size; show _ ≤ (w.heap.push o).size; simp; omega
theorem MadeU.row {W w : World} {v : Value} {xs : List Int} (h : MadeU W w v xs) : ∃ a c, v = .slice a xs.length c ∧ Row w (.slice a xs.length c) xs := by
  obtain ⟨a, c, rfl⟩ := own_form h.1
  exact ⟨a, c, rfl, Row.own h.1⟩
theorem info64' : (Try.prog.info? 22).map (fun i => (i.zero, i.size, i.bytes)) = some (some (.int .u64 0), 1, 8) := by kernel_rfl

end Go.Proofs.Ytmgbdccfgbflnaa
