/-
  What the calls of package prime come to, as the field's: contracts for the walk.
-/
import Derived.Test.YtmgbdccfgbflnaaFld
import Derived.Test.YtmgbdccfgbflnaaChecked
import Derived.WalkKit
import Derived.Laws.Externs
import Derived.Laws.Bits64b
import Derived.Lib.Mul64
import Derived.Lib.Hide
namespace Go.Proofs.Ytmgbdccfgbflnaa
open Go.RowKit
set_option linter.unusedVariables false

@[go_sem] theorem toF_enc_walk (x : F) : toF (enc x) = x := toF_enc x

/-- The upper and the lower half of a product, under names: the walk looks into neither. -/
def hiOf (a b : Int) : Int := a * b / 18446744073709551616
def loOf (a b : Int) : Int := a * b % 18446744073709551616
theorem hilo (a b : Int) : a * b = hiOf a b * 18446744073709551616 + loOf a b := by unfold hiOf loOf; omega
theorem loOf_U (a b : Int) : U (loOf a b) := by unfold loOf U; omega
theorem hiOf_U (a b : Int) (ha : U a) (hb : U b) : U (hiOf a b) := by
  obtain ⟨a0, a1⟩ := ha
  obtain ⟨b0, b1⟩ := hb
  obtain ⟨n, rfl⟩ := Int.eq_ofNat_of_zero_le a0
  obtain ⟨m, rfl⟩ := Int.eq_ofNat_of_zero_le b0
  have h : n * m ≤ 18446744073709551615 * 18446744073709551615 := Nat.mul_le_mul (by omega) (by omega)
  have e : (n : Int) * (m : Int) = ((n * m : Nat) : Int) := (Int.natCast_mul n m).symm
  unfold hiOf U
  rw [e]
  omega

theorem mask32 (a : Int) (ha : U a) : bits .and .u64 a 4294967295 = a % 4294967296 := by
  obtain ⟨a0, a1⟩ := ha
  obtain ⟨n, rfl⟩ := Int.eq_ofNat_of_zero_le a0
  refine (bits_and_u64_nat n 4294967295 (by omega) (by omega)).trans ?_
  have := Nat.and_two_pow_sub_one_eq_mod n 32
  rw [show n &&& 4294967295 = n % 4294967296 from this]
  omega

theorem wrap_id (z : Int) (h : U z) : IntKind.u64.wrap z = z := by
  obtain ⟨h0, h1⟩ := h
  rw [IntKind.wrap_u64]; omega

end Go.Proofs.Ytmgbdccfgbflnaa
