/-
  The points of rows and of places: what the program's and the document's calls come to.
-/
import Derived.Test.YthmpojefoiojeaaDoorZeroM
import Derived.Test.YthmpojefoiojeaaDoorGRoot
namespace Go.Proofs.YthmpojefoiojeaaDoor
open Go.RowKit
set_option linter.unusedVariables false

/-- The point of row i of 2^k, as the calls tell it: 0 below 0. -/
def rowv (k i : Int) : F := if i < 0 then 0 else fpow (ofv k) i.toNat
theorem rowv_neg {k i : Int} (h : i < 0) : rowv k i = 0 := if_pos h
theorem rowv_nat (k i : Nat) (hk : k ≤ 32) : rowv k i = rw' k i := by
  unfold rowv rw'
  rw [if_neg (by omega), ofv_in (by omega) (by omega), Int.toNat_natCast, Int.toNat_natCast]

theorem rowv_last (k : Nat) (M : Int) (hk : k ≤ 32) (hM : ((2 ^ k : Nat) : Int) = M) : rowv k (M - 1) = last k := by
  have h0 := Nat.two_pow_pos k
  have e : M - 1 = ((2 ^ k - 1 : Nat) : Int) := by omega
  rw [e, rowv_nat _ _ hk]; rfl
end Go.Proofs.YthmpojefoiojeaaDoor
