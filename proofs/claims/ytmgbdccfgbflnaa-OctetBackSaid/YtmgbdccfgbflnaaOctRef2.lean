/-
  What the document's Number comes to.
-/
import Derived.Test.YtmgbdccfgbflnaaOctRef
import Derived.Test.YtmgbdccfgbflnaaBLem
namespace Go.Proofs.Ytmgbdccfgbflnaa
open Go Go.RowKit
set_option linter.unusedVariables false

theorem or64_add (k : Nat) (P Z : Nat) (hZ : Z < 2 ^ k) (hP : P * 2 ^ k < 18446744073709551616) (hk : k ≤ 64) : bits .or .u64 ((P * 2 ^ k : Nat) : Int) (Z : Int) = ((P * 2 ^ k + Z : Nat) : Int) := by
  have hz : Z < 18446744073709551616 := Nat.lt_of_lt_of_le hZ (Nat.pow_le_pow_right (n := 2) (by decide) hk)
  have e : P * 2 ^ k ||| Z = P * 2 ^ k + Z := by
    have := Nat.two_pow_add_eq_or_of_lt (i := k) (b := Z) hZ P
    rw [Nat.mul_comm P]
    exact this.symm
  have h1 : (BitVec.ofInt 64 ((P * 2 ^ k : Nat) : Int) ||| BitVec.ofInt 64 (Z : Int)).toNat = P * 2 ^ k + Z := by
    rw [BitVec.toNat_or, BitVec.ofInt_natCast, BitVec.ofInt_natCast, BitVec.toNat_ofNat, BitVec.toNat_ofNat, Nat.mod_eq_of_lt hP, Nat.mod_eq_of_lt hz, e]
  have hlt : P * 2 ^ k + Z < 18446744073709551616 := by
    rw [← h1]; exact (BitVec.ofInt 64 ((P * 2 ^ k : Nat) : Int) ||| BitVec.ofInt 64 (Z : Int)).isLt
  unfold bits
  show IntKind.u64.wrap (((BitVec.ofInt 64 ((P * 2 ^ k : Nat) : Int) ||| BitVec.ofInt 64 (Z : Int)).toNat : Nat) : Int) = _
  rw [h1, IntKind.wrap_u64]
  omega
theorem or64_byte (a b : Int) (ha : 0 ≤ a ∧ a < 72057594037927936) (hb : 0 ≤ b ∧ b < 256) : bits .or .u64 (a * 256) b = a * 256 + b := by
  obtain ⟨A, rfl⟩ := Int.eq_ofNat_of_zero_le ha.1
  obtain ⟨B, rfl⟩ := Int.eq_ofNat_of_zero_le hb.1
  have := or64_add 8 A B (by omega) (by omega) (by decide)
  simp only [show (2 : Nat) ^ 8 = 256 from rfl] at this
  rw [show (A : Int) * 256 = ((A * 256 : Nat) : Int) by omega, this]
  omega
theorem numP_lt (s : ByteArray) (t : Nat) (ht : t < 8) : 0 ≤ numP (byt s) t ∧ numP (byt s) t < 72057594037927936 := by
  have h := numP_bd (b := byt s) (byt_bd s) t
  have : (256 : Int) ^ t ≤ 256 ^ 7 := by
    have : t = 0 ∨ t = 1 ∨ t = 2 ∨ t = 3 ∨ t = 4 ∨ t = 5 ∨ t = 6 ∨ t = 7 := by omega
    rcases this with rfl | rfl | rfl | rfl | rfl | rfl | rfl | rfl <;> decide
  have e : (256 : Int) ^ 7 = 72057594037927936 := by decide
  omega
theorem byt_get (s : ByteArray) (i : Nat) (h : i < s.size) : ((s[i]'h).toNat : Int) = byt s i := by
  have h' : i < s.data.toList.length := by rw [← Go.Lib.size_eq]; exact h
  unfold byt
  simp only [List.getD, List.getElem?_eq_getElem h', Option.getD_some]
  rfl
theorem numB_zero (s : ByteArray) : numB s 0 = numP (byt s) 8 := by
  unfold numB; simp only [Nat.zero_add]
def NumHead (s : ByteArray) (n i : Value) : Prop := ∃ t : Nat, t ≤ 8 ∧ n = .int .u64 (numP (byt s) t) ∧ i = .int .i64 (7 - (t : Int))
theorem rnum_no (s : ByteArray) (hs : s.size < 8) (w : World) : Calls Try.prog 15 #[.string s] w fun e w' => e = .returned (.tuple #[.int .u64 0, .bool false]) ∧ w' = w := by
  have hs' : (s.size : Int) < 8 := by omega
  go_enter Try.func15, Try.ntmps15
  go_wp2
  go_ret2
  exact ⟨rfl, rfl⟩
theorem rnum_yes (s : ByteArray) (hs : 8 ≤ s.size) (w : World) : Calls Try.prog 15 #[.string s] w fun e w' => e = .returned (.tuple #[.int .u64 (numB s 0), .bool true]) ∧ w' = w := by
  have hs' : ¬ (s.size : Int) < 8 := by omega
  go_enter Try.func15, Try.ntmps15
  go_upto_region 5 with fail
  go_loop [4, 5] (NumHead s) (fun _ i => (intOf i + 1).toNat)
  case atStart => exact ⟨0, by omega, rfl, rfl⟩
  case round =>
    obtain ⟨t, ht, rfl, rfl⟩ := hrel
    by_cases hlt : t < 8
    · have h7 : 7 - (t : Int) ≥ 0 := by omega
      have hb := byt_bd s (7 - t)
      have hp := numP_lt s t hlt
      have ho := or64_byte _ _ hp hb
      have hwr : IntKind.u64.wrap (numP (byt s) t * 256) = numP (byt s) t * 256 := by rw [IntKind.wrap_u64]; omega
      have hin : (7 - (t : Int)).toNat = 7 - t := by omega
      go_wp2
      have e1 : IntKind.u64.wrap (((s[7 - t]'(by omega)).toNat : Nat) : Int) = byt s (7 - t) := by rw [byt_get, IntKind.wrap_u64]; omega
      go_round
      case rel => exact ⟨t + 1, by omega, by simp only [e1, ho]; rfl, by go_num⟩
      case measure => simp [intOf]; omega
    · obtain rfl : t = 8 := by omega
      have e8 := numB_zero s
      have h7 : ¬ (7 - ((8 : Nat) : Int) ≥ 0) := by omega
      go_wp2
      go_ret2
      exact ⟨rfl, rfl⟩
end Go.Proofs.Ytmgbdccfgbflnaa
