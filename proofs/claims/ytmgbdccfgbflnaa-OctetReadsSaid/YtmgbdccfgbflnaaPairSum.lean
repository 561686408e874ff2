/-
  What pair.Sum comes to: a contract for the walk.
-/
import Derived.Test.YtmgbdccfgbflnaaPairPow
import Derived.OpenShut
namespace Go.Proofs.Ytmgbdccfgbflnaa
open Go.RowKit
set_option linter.unusedVariables false

/-- A slice of pairs that reads as zs. -/
def QRow (w : World) (v : Value) (zs : List (Int × Int)) : Prop :=
  (v = .slice none 0 0 ∧ zs = []) ∨ (∃ a cap, v = .slice (some a) 0 cap ∧ zs = []) ∨ ∃ (b off cap : Nat), v = .slice (some ⟨b, off, none⟩) zs.length cap ∧ zs.length ≤ cap ∧ cap ≤ maxLen ∧
    ∀ i, i < zs.length → w.cell? ⟨b, off + i * 2, none⟩ = some (.int .u64 (zs.getD i (0, 0)).1) ∧ w.cell? ⟨b, off + i * 2 + 1, none⟩ = some (.int .u64 (zs.getD i (0, 0)).2)
theorem QRow.keep {w w' : World} {v : Value} {zs : List (Int × Int)} (h : QRow w v zs) (hb : Below w.heap.size w w') : QRow w' v zs := by
  rcases h with h | h | ⟨b, off, cap, rfl, hc, hm, hcell⟩
  · exact Or.inl h
  · exact Or.inr (Or.inl h)
  · exact Or.inr (Or.inr ⟨b, off, cap, rfl, hc, hm, fun i hi => ⟨bkeep hb (hcell i hi).1, bkeep hb (hcell i hi).2⟩⟩)

def toQ (z : Int × Int) : F2 := ⟨toF z.1, toF z.2⟩
def qheads (zs : List (Int × Int)) (k : Nat) : List F2 := (zs.take k).map toQ
theorem qheads_zero (zs : List (Int × Int)) : qheads zs 0 = [] := by simp [qheads]
theorem qheads_succ (zs : List (Int × Int)) (k : Nat) (h : k < zs.length) : qheads zs (k + 1) = qheads zs k ++ [toQ (zs.getD k (0, 0))] := by
  unfold qheads
  rw [List.take_succ_eq_append_getElem h, List.map_append]
  simp [List.getD, h]
theorem qheads_all (zs : List (Int × Int)) (k : Nat) (h : zs.length ≤ k) : qheads zs k = zs.map toQ := by
  unfold qheads; rw [List.take_of_length_le h]
theorem qsum_snoc (zs : List (Int × Int)) (k : Nat) (h : k < zs.length) : qsum (qheads zs k) + toQ (zs.getD k (0, 0)) = qsum (qheads zs (k + 1)) := by
  rw [qheads_succ zs k h, qsum_append]; simp only [qsum]; rw [F2.add_zero]
theorem UU_getD {zs : List (Int × Int)} (h : ∀ n ∈ zs, U n.1 ∧ U n.2) (k : Nat) (hk : k < zs.length) : U (zs.getD k (0, 0)).1 ∧ U (zs.getD k (0, 0)).2 := by
  have : zs.getD k (0, 0) = zs[k] := by simp [List.getD, hk]
  rw [this]; exact h _ (List.getElem_mem hk)

/-- The loop of a sum over no pairs. -/
def SumNone (w : World) (g2 g3 : Nat) (i : Value) (W : World) : Prop := i = .int .i64 0 ∧ Below w.heap.size w W ∧ Var W g2 0 0 ∧ Var W g3 0 0
/-- The loop of a sum: how many are in, and what the sum's variable holds. -/
def SumHead (w : World) (zs : List (Int × Int)) (g2 g3 : Nat) (i : Value) (W : World) : Prop :=
  ∃ k : Nat, k ≤ zs.length ∧ i = .int .i64 k ∧ Below w.heap.size w W ∧ Var W g2 0 0 ∧ Var W g3 (enc (qsum (qheads zs k)).a) (enc (qsum (qheads zs k)).b)

end Go.Proofs.Ytmgbdccfgbflnaa
