/-
  What pair.Inv, pair.Pow come to: contracts for the walk.
-/
import Derived.Test.YtmgbdccfgbflnaaPairs
import Derived.LoopTactic
import Derived.Deep.DeepCutAuto
namespace Go.Proofs.Ytmgbdccfgbflnaa
open Go.RowKit
set_option linter.unusedVariables false

/-- What is left to do: out times base to the k. -/
def QPowInv (x : F2) (n : Int) (k : Int) (o b : F2) : Prop := o * qpow b k.toNat = qpow x n.toNat
theorem qpowInv_start (x : F2) (n : Int) : QPowInv x n n 1 x := by unfold QPowInv; rw [F2.one_mul]
theorem qpowInv_end {x : F2} {n : Int} {o b : F2} (h : QPowInv x n 0 o b) : o = qpow x n.toNat := by unfold QPowInv at h; rw [← h]; exact (F2.mul_one _).symm
theorem qpowInv_odd {x : F2} {n k : Int} {o b : F2} (h0 : 0 < k) (h : k % 2 = 1) (hp : QPowInv x n k o b) : QPowInv x n (k / 2) (o * b) (b * b) := by
  unfold QPowInv at *
  rw [← hp, qpow_two, show k.toNat = 2 * (k / 2).toNat + 1 by omega, qpow_succ]
  simp only [F2.mul_assoc, F2.mul_comm]
theorem qpowInv_even {x : F2} {n k : Int} {o b : F2} (h0 : 0 < k) (h : ¬ k % 2 = 1) (hp : QPowInv x n k o b) : QPowInv x n (k / 2) o (b * b) := by
  unfold QPowInv at *
  rw [← hp, qpow_two, show k.toNat = 2 * (k / 2).toNat by omega]

/-- The loop of a power: the number that is left, the base's variable, and what both variables hold. -/
def PowHead (w : World) (x : F2) (n : Int) (g4 g5 : Nat) (i bp : Value) (W : World) : Prop :=
  ∃ (k : Int) (g6 : Nat) (ba bb : Int) (o b : F2), U k ∧ QPowInv x n k o b ∧ Rep ba bb b ∧ i = .int .u64 k ∧ bp = .pointer (some ⟨g6, 0, none⟩) ∧
    Below w.heap.size w W ∧ Var W g4 0 0 ∧ Var W g5 (enc o.a) (enc o.b) ∧ Var W g6 ba bb ∧ g6 ≠ g4 ∧ g6 ≠ g5 ∧ w.heap.size ≤ g6

end Go.Proofs.Ytmgbdccfgbflnaa
