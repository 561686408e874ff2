/-
  What the calls of the document's answer for layer 1 come to, as the field's: contracts for the walk.
-/
import Derived.Test.YtmgbdccfgbflnaaDiv
import Derived.Test.YtmgbdccfgbflnaaList
import Derived.Test.YtmgbdccfgbflnaaIs
namespace Go.Proofs.Ytmgbdccfgbflnaa
open Go.RowKit
set_option linter.unusedVariables false

theorem enc_wrap_sub (y : F) : IntKind.u64.wrap (18446744069414584321 - enc y) = 18446744069414584321 - enc y := by
  have := enc_nonneg y; have := enc_lt y; rw [IntKind.wrap_u64]; omega

theorem hiOf_lt (a b : Int) (ha : 0 ≤ a ∧ a < 18446744069414584321) (hb : 0 ≤ b ∧ b < 18446744069414584321) : hiOf a b < 18446744069414584321 := by
  obtain ⟨a0, a1⟩ := ha
  obtain ⟨b0, b1⟩ := hb
  obtain ⟨n, rfl⟩ := Int.eq_ofNat_of_zero_le a0
  obtain ⟨m, rfl⟩ := Int.eq_ofNat_of_zero_le b0
  have h : n * m ≤ 18446744069414584320 * 18446744069414584320 := Nat.mul_le_mul (by omega) (by omega)
  have e : (n : Int) * (m : Int) = ((n * m : Nat) : Int) := (Int.natCast_mul n m).symm
  unfold hiOf
  rw [e]
  omega

end Go.Proofs.Ytmgbdccfgbflnaa
