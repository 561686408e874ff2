/-
  What prime.Pow, prime.Inv come to, as the field's: contracts for the walk.
-/
import Derived.Test.YtmgbdccfgbflnaaPrime
import Derived.LoopTactic
namespace Go.Proofs.Ytmgbdccfgbflnaa
open Go.RowKit
set_option linter.unusedVariables false

theorem ret_int {k : IntKind} {a b : Int} (h : a = b) : Ending.returned (.int k a) = .returned (.int k b) := by rw [h]

theorem and1 (a : Int) (ha : U a) : bits .and .u64 a 1 = a % 2 := by
  obtain ⟨a0, a1⟩ := ha
  obtain ⟨n, rfl⟩ := Int.eq_ofNat_of_zero_le a0
  have h := bits_and_u64_nat n 1 (by omega) (by omega)
  rw [show n &&& 1 = n % 2 from Nat.and_one_is_mod n] at h
  exact h.trans (by omega)

/-- What is left to do: out times base to the k. -/
def PowInv (x : F) (n : Int) (k : Int) (o b : F) : Prop := o * fpow b k.toNat = fpow x n.toNat
theorem powInv_start (x : F) (n : Int) : PowInv x n n 1 x := by unfold PowInv; grind
theorem powInv_end {x : F} {n : Int} {o b : F} (h : PowInv x n 0 o b) : o = fpow x n.toNat := by unfold PowInv at h; rw [← h]; simp only [Int.toNat_zero, fpow]; grind
theorem powInv_odd {x : F} {n k : Int} {o b : F} (h0 : 0 < k) (h : k % 2 = 1) (hp : PowInv x n k o b) : PowInv x n (k / 2) (o * b) (b * b) := by
  unfold PowInv at *
  rw [← hp, fpow_two, show k.toNat = 2 * (k / 2).toNat + 1 by omega, fpow_succ]
  grind
theorem powInv_even {x : F} {n k : Int} {o b : F} (h0 : 0 < k) (h : ¬ k % 2 = 1) (hp : PowInv x n k o b) : PowInv x n (k / 2) o (b * b) := by
  unfold PowInv at *
  rw [← hp, fpow_two, show k.toNat = 2 * (k / 2).toNat by omega]

end Go.Proofs.Ytmgbdccfgbflnaa
