/-
  Slices of pairs that a call put together itself, by append. No function of the program is named.
-/
import Derived.Test.YtmgbdccfgbflnaaOwn
namespace Go.Proofs.Ytmgbdccfgbflnaa
open Go Go.RowKit
set_option linter.unusedVariables false

def flat (xs : List (Int × Int)) : List Value := xs.flatMap fun z => [.int .u64 z.1, .int .u64 z.2]
theorem flat_length (xs : List (Int × Int)) : (flat xs).length = xs.length * 2 := by
  induction xs with
  | nil => rfl
  | cons x xs ih => simp only [flat, List.flatMap_cons, List.length_append, List.length_cons, List.length_nil] at *; omega
theorem flat_append (xs ys : List (Int × Int)) : flat (xs ++ ys) = flat xs ++ flat ys := by simp [flat]
theorem flat_at : ∀ (xs : List (Int × Int)) (i : Nat), i < xs.length → (flat xs)[i * 2]? = some (.int .u64 (xs.getD i (0, 0)).1) ∧ (flat xs)[i * 2 + 1]? = some (.int .u64 (xs.getD i (0, 0)).2)
  | x :: xs, 0, _ => ⟨rfl, rfl⟩
  | x :: xs, i + 1, h => by
    have ih := flat_at xs i (by simpa using h)
    have e : flat (x :: xs) = .int .u64 x.1 :: .int .u64 x.2 :: flat xs := by simp [flat]
    rw [e, show (i + 1) * 2 = i * 2 + 1 + 1 by omega]
    simpa [List.getD] using ih
/-- A slice of pairs that is put together since the world W. -/
def MadeQ (W w : World) (v : Value) (xs : List (Int × Int)) : Prop := w.ownsRow W.heap.size 41 2 v xs.length (flat xs) ∧ Below W.heap.size W w
theorem MadeQ.start (W : World) : MadeQ W W (.slice none 0 0) [] := ⟨World.ownsRow_nil _ _ _ _, Below.refl _ _⟩
theorem MadeQ.keep {W w w' : World} {v : Value} {xs : List (Int × Int)} (h : MadeQ W w v xs) (hb : Below w.heap.size w w') : MadeQ W w' v xs := ⟨own_keep h.1 hb, bthen h.2 hb⟩
theorem MadeQ.step {W w w1 : World} {v v' : Value} {xs : List (Int × Int)} {y z : Int} (h : MadeQ W w v xs) (o : Obj)
    (hown : w1.ownsRow W.heap.size 41 2 v' (xs.length + 1) (flat xs ++ [.int .u64 y, .int .u64 z])) (hg : (w.alloc o).grownBy w1 v.ownBlock) : MadeQ W w1 v' (xs ++ [(y, z)]) := by
  refine ⟨by rw [List.length_append, flat_append]; exact hown, (h.2.alloc h.2.size o).grown hg ?_ (own_ge h.1)⟩
  have := h.2.size; show _ ≤ (w.heap.push o).size; simp; omega
theorem MadeQ.row {W w : World} {v : Value} {xs : List (Int × Int)} (h : MadeQ W w v xs) : ∃ a c, v = .slice a xs.length c ∧ QRow w (.slice a xs.length c) xs := by
  obtain ⟨a, c, rfl⟩ := own_form h.1
  refine ⟨a, c, rfl, ?_⟩
  rcases h.1.2 with ⟨hv, h0⟩ | ⟨g, cap, cur, hv, hb, hg, hn, hcap, hsz, ht⟩
  · exact Or.inl ⟨hv, List.length_eq_zero_iff.mp h0⟩
  · refine Or.inr (Or.inr ⟨g, 0, cap, hv, hn, hcap, fun i hi => ?_⟩)
    cases hv
    have h0 := h.1.cellAt (i * 2) (by omega)
    have h1 := h.1.cellAt (i * 2 + 1) (by omega)
    obtain ⟨f0, f1⟩ := flat_at xs i hi
    rw [Nat.zero_add, h0, h1]
    exact ⟨f0, f1⟩
end Go.Proofs.Ytmgbdccfgbflnaa
