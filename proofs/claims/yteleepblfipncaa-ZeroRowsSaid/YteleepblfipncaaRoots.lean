/-
  What root.Of, root.Log, root.Turn come to: contracts for the walk.
-/
import Derived.Test.YteleepblfipncaaTurns
import Derived.Test.YteleepblfipncaaIs
import Derived.Test.YteleepblfipncaaPairs
import Derived.WalkSpells
import Derived.LoopTactic
import Derived.Shelf.Spec.TrailingZeros
namespace Go.Proofs.Yteleepblfipncaa
open Go.RowKit
set_option linter.unusedVariables false

def I64 (a : Int) : Prop := -9223372036854775808 ≤ a ∧ a ≤ 9223372036854775807
theorem I64_wf {a : Int} (h : (Lit.int .i64 a).wf = true) : I64 a := by
  have := Go.bounds_i64 h
  unfold I64; omega

theorem U8_wf {a : Int} (h : (Lit.int .u8 a).wf = true) : 0 ≤ a ∧ a ≤ 255 := Go.bounds_u8 h
theorem U32_wf {a : Int} (h : (Lit.int .u32 a).wf = true) : 0 ≤ a ∧ a ≤ 4294967295 := Go.bounds_u32 h

theorem bits_and_i64_nat (a b : Nat) (ha : a < 9223372036854775808) (hb : b < 9223372036854775808) : bits .and .i64 (a : Int) (b : Int) = ((a &&& b : Nat) : Int) := by
  have hx : a &&& b < 2 ^ 63 := Nat.and_lt_two_pow _ (by omega)
  have h1 : (BitVec.ofInt 64 (a : Int)).toNat = a := by
    rw [BitVec.ofInt_natCast, BitVec.toNat_ofNat]; exact Nat.mod_eq_of_lt (by omega)
  have h2 : (BitVec.ofInt 64 (b : Int)).toNat = b := by
    rw [BitVec.ofInt_natCast, BitVec.toNat_ofNat]; exact Nat.mod_eq_of_lt (by omega)
  show IntKind.i64.wrap ((BitVec.ofInt 64 (a : Int) &&& BitVec.ofInt 64 (b : Int)).toNat : Int) = _
  rw [BitVec.toNat_and, h1, h2, IntKind.wrap_i64]
  omega
theorem and1_i64 (m : Int) : bits .and .i64 m 1 = m % 2 := by
  show IntKind.i64.wrap ((BitVec.ofInt 64 m &&& BitVec.ofInt 64 1).toNat : Int) = _
  have h2 : (BitVec.ofInt 64 1).toNat = 1 := by decide
  rw [BitVec.toNat_and, h2, Nat.and_one_is_mod, BitVec.toNat_ofInt, IntKind.wrap_i64]
  omega


theorem step_a (x m d : Nat) (hx : x < 18446744073709551616) (hm : m < 18446744073709551616) : bits .and .u64 ((x : Int) / (d : Int)) (m : Int) = ((x / d &&& m : Nat) : Int) := by
  have := Nat.div_le_self x d
  rw [show (x : Int) / (d : Int) = ((x / d : Nat) : Int) from (Int.natCast_ediv _ _).symm, bits_and_u64_nat _ _ (by omega) hm]
theorem step_c (b d : Nat) : IntKind.u64.wrap ((b : Int) * (d : Int)) = ((b * d % 2 ^ 64 : Nat) : Int) := by
  rw [IntKind.wrap_u64, show (b : Int) * (d : Int) = ((b * d : Nat) : Int) from (Int.natCast_mul _ _).symm, show 2 ^ 64 = 18446744073709551616 from rfl]
  omega
theorem step_or (s m x : Nat) (hm : m < 18446744073709551616) : bits .or .u64 ((x / 2 ^ s &&& m : Nat) : Int) (((x &&& m) * 2 ^ s % 2 ^ 64 : Nat) : Int) = (stepBy s m x : Int) := by
  rw [bits_or_u64_nat _ _ (and_lt64 _ _ hm) (Nat.mod_lt _ (by decide))]; rfl
theorem step_last (x : Nat) (hx : x < 18446744073709551616) : stepBy 32 m5 x = x / 4294967296 ||| (x * 4294967296 % 18446744073709551616) := by
  unfold stepBy
  have e1 : ∀ a, a &&& m5 = a % 4294967296 := fun a => Nat.and_two_pow_sub_one_eq_mod a 32
  rw [e1, e1, show 2 ^ 32 = 4294967296 from rfl, show 2 ^ 64 = 18446744073709551616 from rfl, show x / 4294967296 % 4294967296 = x / 4294967296 by omega, show x % 4294967296 * 4294967296 % 18446744073709551616 = x * 4294967296 % 18446744073709551616 by omega]


/-- The lowest k bits of n, the other way round, of any whole numbers: at most 62, and none of a k below 1. -/
def tv (n k : Int) : Int := (rv (min k.toNat 62) (n % 18446744073709551616).toNat : Int)
theorem tv_bd (n k : Int) : 0 ≤ tv n k ∧ tv n k < 4611686018427387904 := by
  unfold tv
  have h := rv_lt (min k.toNat 62) (n % 18446744073709551616).toNat
  have : 2 ^ (min k.toNat 62) ≤ 2 ^ 62 := Nat.pow_le_pow_right (by decide) (by omega)
  omega
theorem tv_top (n k : Int) (h0 : 1 ≤ k) (h : k ≤ 62) (x : Nat) (hx : (x : Int) = n % 18446744073709551616) : (revBy x : Int) / 2 ^ (64 - k).toNat = tv n k := by
  unfold tv
  rw [← hx, Int.toNat_natCast, show min k.toNat 62 = k.toNat by omega, ← revBy_top x k.toNat (by omega), show (64 - k).toNat = 64 - k.toNat by omega]
  rw [Int.natCast_ediv, Int.natCast_pow]; rfl

end Go.Proofs.Yteleepblfipncaa
