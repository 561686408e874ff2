/-
  Words of 32 bits: sums, bits and turns in other orders. Plain mathematics.
-/
import Derived.Test.YtmgbdccfgbflnaaBlakeM
namespace Go.Proofs.Ytmgbdccfgbflnaa
open Go Go.RowKit
set_option linter.unusedVariables false

theorem or32_comm (a b : Int) : bits .or .u32 a b = bits .or .u32 b a := by
  unfold bits
  show IntKind.u32.wrap (((BitVec.ofInt 32 a ||| BitVec.ofInt 32 b).toNat : Nat) : Int) = IntKind.u32.wrap (((BitVec.ofInt 32 b ||| BitVec.ofInt 32 a).toNat : Nat) : Int)
  rw [BitVec.or_comm]
theorem xor32_comm (a b : Int) : xor32 a b = xor32 b a := by
  unfold xor32 bits
  show IntKind.u32.wrap (((BitVec.ofInt 32 a ^^^ BitVec.ofInt 32 b).toNat : Nat) : Int) = IntKind.u32.wrap (((BitVec.ofInt 32 b ^^^ BitVec.ofInt 32 a).toNat : Nat) : Int)
  rw [BitVec.xor_comm]
theorem xor32_bd (a b : Int) : 0 ≤ xor32 a b ∧ xor32 a b < 4294967296 := by
  unfold xor32 bits
  have := (BitVec.ofInt 32 a ^^^ BitVec.ofInt 32 b).isLt
  show 0 ≤ IntKind.u32.wrap (((BitVec.ofInt 32 a ^^^ BitVec.ofInt 32 b).toNat : Nat) : Int) ∧ IntKind.u32.wrap (((BitVec.ofInt 32 a ^^^ BitVec.ofInt 32 b).toNat : Nat) : Int) < 4294967296
  rw [IntKind.wrap_u32]
  omega
theorem or32_bd (a b : Int) : 0 ≤ bits .or .u32 a b ∧ bits .or .u32 a b < 4294967296 := by
  unfold bits
  have := (BitVec.ofInt 32 a ||| BitVec.ofInt 32 b).isLt
  show 0 ≤ IntKind.u32.wrap (((BitVec.ofInt 32 a ||| BitVec.ofInt 32 b).toNat : Nat) : Int) ∧ IntKind.u32.wrap (((BitVec.ofInt 32 a ||| BitVec.ofInt 32 b).toNat : Nat) : Int) < 4294967296
  rw [IntKind.wrap_u32]
  omega
theorem xor32_assoc (a b c : Int) : xor32 (xor32 a b) c = xor32 a (xor32 b c) := by
  have st : ∀ x : BitVec 32, BitVec.ofInt 32 (IntKind.u32.wrap ((x.toNat : Nat) : Int)) = x := by
    intro x
    rw [IntKind.wrap_u32]
    have := x.isLt
    rw [show ((x.toNat : Nat) : Int) % 4294967296 = ((x.toNat : Nat) : Int) by omega, BitVec.ofInt_natCast, BitVec.ofNat_toNat, BitVec.setWidth_eq]
  unfold xor32 bits
  show IntKind.u32.wrap (((BitVec.ofInt 32 (IntKind.u32.wrap (((BitVec.ofInt 32 a ^^^ BitVec.ofInt 32 b).toNat : Nat) : Int)) ^^^ BitVec.ofInt 32 c).toNat : Nat) : Int) = IntKind.u32.wrap (((BitVec.ofInt 32 a ^^^ BitVec.ofInt 32 (IntKind.u32.wrap (((BitVec.ofInt 32 b ^^^ BitVec.ofInt 32 c).toNat : Nat) : Int))).toNat : Nat) : Int)
  rw [st, st, BitVec.xor_assoc]
/-- Turned up by 32 - n, down by n: the same. -/
theorem rot_left (x : Int) (n : Nat) (hn : n ≤ 32) : bits .or .u32 (IntKind.u32.wrap (x * 2 ^ (32 - n))) (x / 2 ^ n) = rot32 x n := or32_comm _ _
/-- Texts of bits side by side. -/
theorem or_add (k : Nat) (P Z : Nat) (hZ : Z < 2 ^ k) (hP : P * 2 ^ k < 4294967296) (hk : k ≤ 32) : bits .or .u32 ((P * 2 ^ k : Nat) : Int) (Z : Int) = ((P * 2 ^ k + Z : Nat) : Int) := by
  have hz : Z < 4294967296 := Nat.lt_of_lt_of_le hZ (Nat.pow_le_pow_right (n := 2) (by decide) hk)
  have e : P * 2 ^ k ||| Z = P * 2 ^ k + Z := by
    have := Nat.two_pow_add_eq_or_of_lt (i := k) (b := Z) hZ P
    rw [Nat.mul_comm P]
    exact this.symm
  have h1 : (BitVec.ofInt 32 ((P * 2 ^ k : Nat) : Int) ||| BitVec.ofInt 32 (Z : Int)).toNat = P * 2 ^ k + Z := by
    rw [BitVec.toNat_or, BitVec.ofInt_natCast, BitVec.ofInt_natCast, BitVec.toNat_ofNat, BitVec.toNat_ofNat, Nat.mod_eq_of_lt hP, Nat.mod_eq_of_lt hz, e]
  have hlt : P * 2 ^ k + Z < 4294967296 := by
    rw [← h1]; exact (BitVec.ofInt 32 ((P * 2 ^ k : Nat) : Int) ||| BitVec.ofInt 32 (Z : Int)).isLt
  unfold bits
  show IntKind.u32.wrap (((BitVec.ofInt 32 ((P * 2 ^ k : Nat) : Int) ||| BitVec.ofInt 32 (Z : Int)).toNat : Nat) : Int) = _
  rw [h1, IntKind.wrap_u32]
  omega
/-- Four bytes put together from below: b0 | b1 << 8 | b2 << 16 | b3 << 24. -/
theorem word_up (b0 b1 b2 b3 : Int) (h0 : 0 ≤ b0 ∧ b0 < 256) (h1 : 0 ≤ b1 ∧ b1 < 256) (h2 : 0 ≤ b2 ∧ b2 < 256) (h3 : 0 ≤ b3 ∧ b3 < 256) :
    bits .or .u32 (bits .or .u32 (bits .or .u32 b0 (IntKind.u32.wrap (b1 * 256))) (IntKind.u32.wrap (b2 * 65536))) (IntKind.u32.wrap (b3 * 16777216)) = b0 + 256 * (b1 + 256 * (b2 + 256 * b3)) := by
  obtain ⟨B0, rfl⟩ := Int.eq_ofNat_of_zero_le h0.1
  obtain ⟨B1, rfl⟩ := Int.eq_ofNat_of_zero_le h1.1
  obtain ⟨B2, rfl⟩ := Int.eq_ofNat_of_zero_le h2.1
  obtain ⟨B3, rfl⟩ := Int.eq_ofNat_of_zero_le h3.1
  simp only [IntKind.wrap_u32]
  have e1 := or_add 8 B1 B0 (by omega) (by omega) (by decide)
  have e2 := or_add 16 B2 (B1 * 256 + B0) (by omega) (by omega) (by decide)
  have e3 := or_add 24 B3 (B2 * 65536 + (B1 * 256 + B0)) (by omega) (by omega) (by decide)
  simp only [show (2 : Nat) ^ 8 = 256 from rfl, show (2 : Nat) ^ 16 = 65536 from rfl, show (2 : Nat) ^ 24 = 16777216 from rfl] at e1 e2 e3
  rw [show ((B1 : Nat) : Int) * 256 % 4294967296 = ((B1 * 256 : Nat) : Int) by omega, show ((B2 : Nat) : Int) * 65536 % 4294967296 = ((B2 * 65536 : Nat) : Int) by omega, show ((B3 : Nat) : Int) * 16777216 % 4294967296 = ((B3 * 16777216 : Nat) : Int) by omega]
  rw [or32_comm ((B0 : Nat) : Int), e1, or32_comm (((B1 * 256 + B0 : Nat)) : Int), e2, or32_comm (((B2 * 65536 + (B1 * 256 + B0) : Nat)) : Int), e3]
  omega
theorem add32_right (a b x : Int) : IntKind.u32.wrap (a + IntKind.u32.wrap (b + x)) = add32 (add32 a b) x := by unfold add32; simp only [IntKind.wrap_u32]; omega
theorem add32_bd (a b : Int) : 0 ≤ add32 a b ∧ add32 a b < 4294967296 := by unfold add32; rw [IntKind.wrap_u32]; omega
/-- What a press answers is words. -/
theorem press_bd (h b : Nat → Int) (n : Int) (last : Bool) (j : Nat) : 0 ≤ press h b n last j ∧ press h b n last j < 4294967296 := by
  unfold press; exact xor32_bd _ _
end Go.Proofs.Ytmgbdccfgbflnaa
