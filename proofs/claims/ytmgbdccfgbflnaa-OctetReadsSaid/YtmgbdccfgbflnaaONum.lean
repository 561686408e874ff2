/-
  The program's Number: the bytes put together from the lowest up.
-/
import Derived.Test.YtmgbdccfgbflnaaOctRef2
namespace Go.Proofs.Ytmgbdccfgbflnaa
open Go Go.RowKit
set_option linter.unusedVariables false

/-- So many bytes, the lowest first. -/
def numL (b : Nat → Int) : Nat → Int
  | 0 => 0
  | t + 1 => numL b t + b t * 256 ^ t
theorem numL_bd {b : Nat → Int} (hb : ∀ j, 0 ≤ b j ∧ b j < 256) : ∀ t, 0 ≤ numL b t ∧ numL b t < 256 ^ t
  | 0 => by simp [numL]
  | t + 1 => by
    have h := numL_bd hb t
    have h2 := hb t
    rw [numL, Int.pow_succ]
    have e : 0 < (256 : Int) ^ t := Int.pow_pos (by decide)
    generalize (256 : Int) ^ t = q at *
    constructor
    · have := Int.mul_nonneg h2.1 (Int.le_of_lt e); omega
    · have : b t * q ≤ 255 * q := Int.mul_le_mul_of_nonneg_right (by omega) (Int.le_of_lt e)
      omega
theorem numL_all (b : Nat → Int) : numL b 8 = numP b 8 := by
  simp only [numL, numP, show 7 - 0 = 7 from rfl, show 7 - 1 = 6 from rfl, show 7 - 2 = 5 from rfl, show 7 - 3 = 4 from rfl, show 7 - 4 = 3 from rfl, show 7 - 5 = 2 from rfl, show 7 - 6 = 1 from rfl, show 7 - 7 = 0 from rfl, show (256 : Int) ^ 0 = 1 from rfl, show (256 : Int) ^ 1 = 256 from rfl, show (256 : Int) ^ 2 = 65536 from rfl, show (256 : Int) ^ 3 = 16777216 from rfl, show (256 : Int) ^ 4 = 4294967296 from rfl, show (256 : Int) ^ 5 = 1099511627776 from rfl, show (256 : Int) ^ 6 = 281474976710656 from rfl, show (256 : Int) ^ 7 = 72057594037927936 from rfl]
  omega
theorem or64_comm (a b : Int) : bits .or .u64 a b = bits .or .u64 b a := by
  unfold bits
  show IntKind.u64.wrap (((BitVec.ofInt 64 a ||| BitVec.ofInt 64 b).toNat : Nat) : Int) = IntKind.u64.wrap (((BitVec.ofInt 64 b ||| BitVec.ofInt 64 a).toNat : Nat) : Int)
  rw [BitVec.or_comm]
theorem or64_next (z b : Int) (t : Nat) (ht : t < 8) (hz : 0 ≤ z ∧ z < 256 ^ t) (hb : 0 ≤ b ∧ b < 256) : bits .or .u64 z (b * 2 ^ (8 * t)) = z + b * 256 ^ t ∧ 0 ≤ b * 2 ^ (8 * t) ∧ b * 2 ^ (8 * t) < 18446744073709551616 := by
  obtain ⟨Z, rfl⟩ := Int.eq_ofNat_of_zero_le hz.1
  obtain ⟨B, rfl⟩ := Int.eq_ofNat_of_zero_le hb.1
  have e : (2 : Int) ^ (8 * t) = 256 ^ t := by rw [Int.pow_mul]; rfl
  have e' : (2 : Nat) ^ (8 * t) = 256 ^ t := by rw [Nat.pow_mul]
  have q : ((256 ^ t : Nat) : Int) = (256 : Int) ^ t := Int.natCast_pow 256 t
  have hZ : Z < 256 ^ t := by have := hz.2; rw [← q] at this; exact Int.ofNat_lt.1 this
  have h7 : 256 ^ t ≤ 256 ^ 7 := Nat.pow_le_pow_right (by decide) (by omega)
  have hP : B * 2 ^ (8 * t) < 18446744073709551616 := by
    rw [e']
    have : B * 256 ^ t ≤ 255 * 256 ^ 7 := Nat.mul_le_mul (by omega) h7
    have : 255 * 256 ^ 7 = 18374686479671623680 := by decide
    omega
  have h := or64_add (8 * t) B Z (by rw [e']; exact hZ) hP (by omega)
  have c : ((B * 2 ^ (8 * t) : Nat) : Int) = (B : Int) * 2 ^ (8 * t) := by rw [Int.natCast_mul, Int.natCast_pow]; rfl
  have c2 : (((B * 2 ^ (8 * t) + Z : Nat)) : Int) = (Z : Int) + (B : Int) * 256 ^ t := by rw [Int.natCast_add, c, e]; omega
  rw [or64_comm, ← c, h, c2]
  exact ⟨rfl, by omega, by rw [c, ← c]; omega⟩
def NumRel (s : ByteArray) (n i : Value) : Prop := ∃ t : Nat, t ≤ 8 ∧ n = .int .u64 (numL (byt s) t) ∧ i = .int .i64 t
theorem onum_no (s : ByteArray) (hs : s.size < 8) (w : World) : Calls Try.prog 14 #[.string s] w fun e w' => e = .returned (.tuple #[.int .u64 0, .bool false]) ∧ w' = w := by
  have hs' : (s.size : Int) < 8 := by omega
  go_enter Try.func14, Try.ntmps14
  go_wp2
  go_ret2
  exact ⟨rfl, rfl⟩
theorem onum_yes (s : ByteArray) (hs : 8 ≤ s.size) (w : World) : Calls Try.prog 14 #[.string s] w fun e w' => e = .returned (.tuple #[.int .u64 (numB s 0), .bool true]) ∧ w' = w := by
  have hs' : ¬ (s.size : Int) < 8 := by omega
  go_enter Try.func14, Try.ntmps14
  go_upto_region 5 with fail
  go_loop [4, 9] (NumRel s) (fun _ i => 8 - (intOf i).toNat)
  case atStart => exact ⟨0, by omega, rfl, rfl⟩
  case round =>
    obtain ⟨t, ht, rfl, rfl⟩ := hrel
    by_cases hlt : t < 8
    · have h7 : (t : Int) < 8 := by omega
      have hb := byt_bd s t
      have hp := numL_bd (b := byt s) (byt_bd s) t
      have HO := Lib.hid (or64_next _ _ t hlt hp hb)
      have HN := Lib.hid (show numL (byt s) t + byt s t * 256 ^ t = numL (byt s) (t + 1) from rfl)
      have ht8 : (8 * (t : Int)).toNat = 8 * t := by omega
      clear hp
      generalize numL (byt s) t = z at *
      have hwr : IntKind.i64.wrap (8 * (t : Int)) = 8 * (t : Int) := IntWalk.i64_in _ (by omega)
      go_wp2
      have e1 : IntKind.u64.wrap (((s[t]'(by omega)).toNat : Nat) : Int) = byt s t := by rw [byt_get, IntKind.wrap_u64]; omega
      go_round
      case rel =>
        refine ⟨t + 1, by omega, ?_, by go_num⟩
        obtain ⟨h1, h2, h3⟩ := HO.out
        have e2 : IntKind.u64.wrap (byt s t * 2 ^ (8 * t)) = byt s t * 2 ^ (8 * t) := by rw [IntKind.wrap_u64]; omega
        simp only [e1, e2, h1, HN.out]
      case measure => simp [intOf]; omega
    · obtain rfl : t = 8 := by omega
      have e8 := numB_zero s
      have h9 := numL_all (byt s)
      have h7 : ¬ (((8 : Nat) : Int) < 8) := by omega
      go_wp2
      go_ret2
      exact ⟨rfl, rfl⟩
theorem onum_is (s : ByteArray) (x : Int) (ok : Bool) (hx : (if 8 ≤ s.size then numB s 0 else 0) = x) (hok : decide (8 ≤ s.size) = ok) (w : World) : Calls Try.prog 14 #[.string s] w fun e w' => e = .returned (.tuple #[.int .u64 x, .bool ok]) ∧ Below w.heap.size w w' := by
  subst hx hok
  by_cases h : 8 ≤ s.size
  · rw [if_pos h, decide_eq_true h]
    exact (onum_yes s h w).mono fun e w' ⟨h1, h2⟩ => ⟨h1, h2 ▸ Below.refl _ _⟩
  · rw [if_neg h, decide_eq_false h]
    exact (onum_no s (by omega) w).mono fun e w' ⟨h1, h2⟩ => ⟨h1, h2 ▸ Below.refl _ _⟩
end Go.Proofs.Ytmgbdccfgbflnaa
