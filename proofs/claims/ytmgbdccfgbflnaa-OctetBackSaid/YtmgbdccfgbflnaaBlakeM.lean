/-
  The words of 32 bits, a mix, a round, a press: plain functions (no Go in sight but the kinds' own wrap and bits).
-/
import Derived.Test.YtmgbdccfgbflnaaArr
namespace Go.Proofs.Ytmgbdccfgbflnaa
open Go Go.RowKit
set_option linter.unusedVariables false

def add32 (a b : Int) : Int := IntKind.u32.wrap (a + b)
def xor32 (a b : Int) : Int := bits .xor .u32 a b
def rot32 (x : Int) (n : Nat) : Int := bits .or .u32 (x / 2 ^ n) (IntKind.u32.wrap (x * 2 ^ (32 - n)))
/-- A row of words, one of them another. -/
def upd (f : Nat → Int) (i : Nat) (v : Int) : Nat → Int := fun j => if j = i then v else f j
theorem upd_at (f : Nat → Int) (i : Nat) (v : Int) : upd f i v i = v := if_pos rfl
def mix1 (v : Nat → Int) (a b : Nat) (x : Int) : Nat → Int := upd v a (add32 (add32 (v a) (v b)) x)
def mix2 (v : Nat → Int) (d a : Nat) (n : Nat) : Nat → Int := upd v d (rot32 (xor32 (v d) (v a)) n)
def mix3 (v : Nat → Int) (c d : Nat) : Nat → Int := upd v c (add32 (v c) (v d))
def mixf (v : Nat → Int) (a b c d : Nat) (x y : Int) : Nat → Int :=
  mix2 (mix3 (mix2 (mix1 (mix2 (mix3 (mix2 (mix1 v a b x) d a 16) c d) b c 12) a b y) d a 8) c d) b c 7
def ordL : List (List Nat) := [
  [0, 1, 2, 3, 4, 5, 6, 7, 8, 9, 10, 11, 12, 13, 14, 15],
  [14, 10, 4, 8, 9, 15, 13, 6, 1, 12, 0, 2, 11, 7, 5, 3],
  [11, 8, 12, 0, 5, 2, 15, 13, 10, 14, 3, 6, 7, 1, 9, 4],
  [7, 9, 3, 1, 13, 12, 11, 14, 2, 6, 5, 10, 4, 0, 15, 8],
  [9, 0, 5, 7, 2, 4, 10, 15, 14, 1, 11, 12, 6, 8, 3, 13],
  [2, 12, 6, 10, 0, 11, 8, 3, 4, 13, 7, 5, 15, 14, 1, 9],
  [12, 5, 1, 15, 14, 13, 4, 10, 0, 7, 6, 3, 9, 2, 8, 11],
  [13, 11, 7, 14, 12, 1, 3, 9, 5, 0, 15, 4, 8, 6, 2, 10],
  [6, 15, 14, 9, 11, 3, 0, 8, 12, 2, 13, 7, 1, 4, 10, 5],
  [10, 2, 8, 4, 7, 6, 1, 5, 15, 11, 9, 14, 3, 12, 13, 0]]
/-- Which word comes when. -/
def ord (r i : Nat) : Nat := (ordL.getD r []).getD i 0
theorem ord_lt (r i : Nat) (hr : r < 10) (hi : i < 16) : ord r i < 16 := by
  have : ∀ r, r < 10 → ∀ i, i < 16 → ord r i < 16 := by decide +kernel
  exact this r hr i hi
/-- One mix of a round, and all. -/
def mixAt (m : Nat → Int) (r k a b c d : Nat) (v : Nat → Int) : Nat → Int := mixf v a b c d (m (ord r (2 * k))) (m (ord r (2 * k + 1)))
def roundf (m : Nat → Int) (r : Nat) (v : Nat → Int) : Nat → Int :=
  mixAt m r 7 3 4 9 14 (mixAt m r 6 2 7 8 13 (mixAt m r 5 1 6 11 12 (mixAt m r 4 0 5 10 15 (mixAt m r 3 3 7 11 15 (mixAt m r 2 2 6 10 14 (mixAt m r 1 1 5 9 13 (mixAt m r 0 0 4 8 12 v)))))))
def rounds (m : Nat → Int) : Nat → (Nat → Int) → Nat → Int
  | 0, v => v
  | r + 1, v => roundf m r (rounds m r v)
def begL : List Int := [1779033703, 3144134277, 1013904242, 2773480762, 1359893119, 2600822924, 528734635, 1541459225]
def beg (i : Nat) : Int := begL.getD i 0
/-- A word of four bytes, the lowest first. -/
def le4 (b : Nat → Int) (i : Nat) : Int := b (4 * i) + 256 * (b (4 * i + 1) + 256 * (b (4 * i + 2) + 256 * b (4 * i + 3)))
/-- The same, byte by byte from above. -/
def part (b : Nat → Int) (i : Nat) : Nat → Int
  | 0 => 0
  | t + 1 => part b i t * 256 + b (4 * i + (3 - t))
theorem part_four (b : Nat → Int) (i : Nat) : part b i 4 = le4 b i := by
  simp only [part, le4]
  show (((0 * 256 + b (4 * i + 3)) * 256 + b (4 * i + 2)) * 256 + b (4 * i + 1)) * 256 + b (4 * i) = _
  omega
/-- Bytes. -/
def IsBytes (n : Nat) (b : Nat → Int) : Prop := ∀ j, j < n → 0 ≤ b j ∧ b j < 256
theorem part_lt {b : Nat → Int} (hb : IsBytes 64 b) {i : Nat} (hi : i < 16) : ∀ t, t ≤ 4 → 0 ≤ part b i t ∧ part b i t < 256 ^ t
  | 0, _ => by simp [part]
  | t + 1, ht => by
    have h := part_lt hb hi t (by omega)
    have h2 := hb (4 * i + (3 - t)) (by omega)
    rw [part, Int.pow_succ]
    generalize (256 : Int) ^ t = e at *
    omega
theorem or_byte (p z : Int) (hp : 0 ≤ p) (hp2 : p < 16777216) (hz : 0 ≤ z) (hz2 : z < 256) : bits .or .u32 (p * 256) z = p * 256 + z := by
  obtain ⟨P, rfl⟩ := Int.eq_ofNat_of_zero_le hp
  obtain ⟨Z, rfl⟩ := Int.eq_ofNat_of_zero_le hz
  have e : P * 256 ||| Z = P * 256 + Z := by
    have := Nat.two_pow_add_eq_or_of_lt (i := 8) (b := Z) (by omega) P
    rw [Nat.mul_comm P 256]
    exact this.symm
  have h1 : (BitVec.ofInt 32 ((P : Int) * 256) ||| BitVec.ofInt 32 (Z : Int)).toNat = P * 256 + Z := by
    rw [BitVec.toNat_or, show (P : Int) * 256 = ((P * 256 : Nat) : Int) by omega, BitVec.ofInt_natCast, BitVec.ofInt_natCast, BitVec.toNat_ofNat, BitVec.toNat_ofNat, Nat.mod_eq_of_lt (by omega), Nat.mod_eq_of_lt (by omega), e]
  unfold bits
  show IntKind.u32.wrap (((BitVec.ofInt 32 ((P : Int) * 256) ||| BitVec.ofInt 32 (Z : Int)).toNat : Nat) : Int) = _
  rw [h1, IntKind.wrap_u32]
  omega
def not32 (x : Int) : Int := xor32 4294967295 x
/-- The sixteen words at the start. -/
def vbase (h : Nat → Int) : Nat → Int := fun j => if j < 8 then h j else beg (j - 8)
def vfirst (h : Nat → Int) (n : Int) (last : Bool) : Nat → Int :=
  let v1 := upd (vbase h) 12 (xor32 (vbase h 12) (n % 4294967296))
  let v2 := upd v1 13 (xor32 (v1 13) (n / 4294967296))
  if last then upd v2 14 (not32 (v2 14)) else v2
def press (h b : Nat → Int) (n : Int) (last : Bool) : Nat → Int := fun j =>
  xor32 (xor32 (h j) (rounds (le4 b) 10 (vfirst h n last) j)) (rounds (le4 b) 10 (vfirst h n last) (j + 8))
/-- Rows of words, of bytes, in cells. -/
abbrev w32 (f : Nat → Int) : Nat → Value := fun j => .int .u32 (f j)
abbrev w8 (f : Nat → Int) : Nat → Value := fun j => .int .u8 (f j)
theorem w32_upd (f : Nat → Int) (i : Nat) (z : Int) (j : Nat) : (if j = i then Value.int .u32 z else w32 f j) = w32 (upd f i z) j := by
  show _ = Value.int .u32 (if j = i then z else f j)
  split <;> rfl
end Go.Proofs.Ytmgbdccfgbflnaa
