/-
  BlakeM: The words of 32 bits, a mix, a round, a press: plain functions (no Go in sight but the kinds' own wrap and bits).
  SumM: The sum of a text, as plain functions: blocks, the words behind each, the bytes of the last ones.
  Row3: copy of a text into a row, as much as there is room for; clear of a piece of a row. No function of the program is named.
  Strs: append of a whole slice of texts onto a slice that the call made. No function of the program is named.
  BLem: Words of 32 bits: sums, bits and turns in other orders. Plain mathematics.
  BEval: The sum of 'abc', reckoned: rows of words as lists. Plain functions.
  BStM: Rows under way in a press: what stands through all of it. (Written by gen_bpress.py.)
-/
import Derived.Test.YthfkfgjhgicfeaaGreatDoorGRow
import Derived.Laws.BytesArg
import Derived.Lib.RabinKarpLaws
import Derived.Lib.SliceRun
import Derived.Laws.AppendOwn
import Derived.Laws.OwnMore
import Derived.Tactics
import Derived.IntWalk
namespace Go.Proofs.YthfkfgjhgicfeaaGreatDoor
open Go Go.RowKit
set_option linter.unusedVariables false

def add32 (a b : Int) : Int := IntKind.u32.wrap (a + b)
def xor32 (a b : Int) : Int := bits .xor .u32 a b
def rot32 (x : Int) (n : Nat) : Int := bits .or .u32 (x / 2 ^ n) (IntKind.u32.wrap (x * 2 ^ (32 - n)))
/-- A row of words, one of them another. -/
def upd (f : Nat → Int) (i : Nat) (v : Int) : Nat → Int := fun j => if j = i then v else f j
def mix1 (v : Nat → Int) (a b : Nat) (x : Int) : Nat → Int := upd v a (add32 (add32 (v a) (v b)) x)
def mix2 (v : Nat → Int) (d a : Nat) (n : Nat) : Nat → Int := upd v d (rot32 (xor32 (v d) (v a)) n)
def mix3 (v : Nat → Int) (c d : Nat) : Nat → Int := upd v c (add32 (v c) (v d))
def mixf (v : Nat → Int) (a b c d : Nat) (x y : Int) : Nat → Int :=
  mix2 (mix3 (mix2 (mix1 (mix2 (mix3 (mix2 (mix1 v a b x) d a 16) c d) b c 12) a b y) d a 8) c d) b c 7
def ordL : List (List Nat) := [
  [0, 1, 2, 3, 4, 5, 6, 7, 8, 9, 10, 11, 12, 13, 14, 15],
  [14, 10, 4, 8, 9, 15, 13, 6, 1, 12, 0, 2, 11, 7, 5, 3],
  [11, 8, 12, 0, 5, 2, 15, 13, 10, 14, 3, 6, 7, 1, 9, 4],
  [7, 9, 3, 1, 13, 12, 11, 14, 2, 6, 5, 10, 4, 0, 15, 8],
  [9, 0, 5, 7, 2, 4, 10, 15, 14, 1, 11, 12, 6, 8, 3, 13],
  [2, 12, 6, 10, 0, 11, 8, 3, 4, 13, 7, 5, 15, 14, 1, 9],
  [12, 5, 1, 15, 14, 13, 4, 10, 0, 7, 6, 3, 9, 2, 8, 11],
  [13, 11, 7, 14, 12, 1, 3, 9, 5, 0, 15, 4, 8, 6, 2, 10],
  [6, 15, 14, 9, 11, 3, 0, 8, 12, 2, 13, 7, 1, 4, 10, 5],
  [10, 2, 8, 4, 7, 6, 1, 5, 15, 11, 9, 14, 3, 12, 13, 0]]
/-- Which word comes when. -/
def ord (r i : Nat) : Nat := (ordL.getD r []).getD i 0
/-- One mix of a round, and all. -/
def mixAt (m : Nat → Int) (r k a b c d : Nat) (v : Nat → Int) : Nat → Int := mixf v a b c d (m (ord r (2 * k))) (m (ord r (2 * k + 1)))
def roundf (m : Nat → Int) (r : Nat) (v : Nat → Int) : Nat → Int :=
  mixAt m r 7 3 4 9 14 (mixAt m r 6 2 7 8 13 (mixAt m r 5 1 6 11 12 (mixAt m r 4 0 5 10 15 (mixAt m r 3 3 7 11 15 (mixAt m r 2 2 6 10 14 (mixAt m r 1 1 5 9 13 (mixAt m r 0 0 4 8 12 v)))))))
def rounds (m : Nat → Int) : Nat → (Nat → Int) → Nat → Int
  | 0, v => v
  | r + 1, v => roundf m r (rounds m r v)
def begL : List Int := [1779033703, 3144134277, 1013904242, 2773480762, 1359893119, 2600822924, 528734635, 1541459225]
def beg (i : Nat) : Int := begL.getD i 0
/-- A word of four bytes, the lowest first. -/
def le4 (b : Nat → Int) (i : Nat) : Int := b (4 * i) + 256 * (b (4 * i + 1) + 256 * (b (4 * i + 2) + 256 * b (4 * i + 3)))
/-- The same, byte by byte from above. -/
def part (b : Nat → Int) (i : Nat) : Nat → Int
  | 0 => 0
  | t + 1 => part b i t * 256 + b (4 * i + (3 - t))
def not32 (x : Int) : Int := xor32 4294967295 x
/-- The sixteen words at the start. -/
def vbase (h : Nat → Int) : Nat → Int := fun j => if j < 8 then h j else beg (j - 8)
def vfirst (h : Nat → Int) (n : Int) (last : Bool) : Nat → Int :=
  let v1 := upd (vbase h) 12 (xor32 (vbase h 12) (n % 4294967296))
  let v2 := upd v1 13 (xor32 (v1 13) (n / 4294967296))
  if last then upd v2 14 (not32 (v2 14)) else v2
def press (h b : Nat → Int) (n : Int) (last : Bool) : Nat → Int := fun j =>
  xor32 (xor32 (h j) (rounds (le4 b) 10 (vfirst h n last) j)) (rounds (le4 b) 10 (vfirst h n last) (j + 8))
abbrev w8 (f : Nat → Int) : Nat → Value := fun j => .int .u8 (f j)
end Go.Proofs.YthfkfgjhgicfeaaGreatDoor
namespace Go.Proofs.YthfkfgjhgicfeaaGreatDoor
open Go Go.RowKit
set_option linter.unusedVariables false

/-- A byte of a text; 0 behind its end. -/
def byt (s : ByteArray) (i : Nat) : Int := ((s.data.toList.getD i 0).toNat : Int)
def blkOf (s : ByteArray) (off : Nat) : Nat → Int := fun j => byt s (off + j)
/-- The words ahead of block k. -/
def h0 : Nat → Int := upd beg 0 (xor32 (beg 0) 16842784)
def hseq (s : ByteArray) : Nat → Nat → Int
  | 0 => h0
  | k + 1 => press (hseq s k) (blkOf s (64 * k)) (64 * ((k : Int) + 1)) false
/-- How many blocks stand ahead of the last one. -/
def nbl (s : ByteArray) : Nat := (s.size - 1) / 64
def hend (s : ByteArray) : Nat → Int := press (hseq s (nbl s)) (blkOf s (64 * nbl s)) s.size true
/-- A slice of texts, by a letter for its address. -/
def StrA (w : World) (a : Option Addr) (len : Nat) (f : Nat → ByteArray) : Prop :=
  len ≤ maxLen ∧ ∀ k, k < len → ∃ b off : Nat, a = some ⟨b, off, none⟩ ∧ w.cell? ⟨b, off + k, none⟩ = some (.string (f k))
theorem StrA.keep {w w1 : World} {a : Option Addr} {len : Nat} {f : Nat → ByteArray} (h : StrA w a len f) (hb : Below w.heap.size w w1) : StrA w1 a len f :=
  ⟨h.1, fun k hk => by obtain ⟨b, off, e, c⟩ := h.2 k hk; exact ⟨b, off, e, bkeep hb c⟩⟩
end Go.Proofs.YthfkfgjhgicfeaaGreatDoor
namespace Go.Proofs.YthfkfgjhgicfeaaGreatDoor
open Go Go.RowKit
set_option linter.unusedVariables false

section
variable {P : Program}
theorem But.cells {g : Nat} {w : World} : ∀ (vs : List Value) (o : Nat) (W : World), But g w W → But g w (W.setCells g o vs)
  | [], _, _, h => h
  | v :: r, o, W, h => But.cells r (o + 1) _ (h.setCell (p := ⟨g, o, none⟩) (Or.inl rfl) v)
end
end Go.Proofs.YthfkfgjhgicfeaaGreatDoor
namespace Go.Proofs.YthfkfgjhgicfeaaGreatDoor
open Go Go.RowKit
set_option linter.unusedVariables false

end Go.Proofs.YthfkfgjhgicfeaaGreatDoor
namespace Go.Proofs.YthfkfgjhgicfeaaGreatDoor
open Go Go.RowKit
set_option linter.unusedVariables false

end Go.Proofs.YthfkfgjhgicfeaaGreatDoor
namespace Go.Proofs.YthfkfgjhgicfeaaGreatDoor
open Go Go.RowKit
set_option linter.unusedVariables false

def fl (L : List Int) : Nat → Int := fun j => L.getD j 0
end Go.Proofs.YthfkfgjhgicfeaaGreatDoor
namespace Go.Proofs.YthfkfgjhgicfeaaGreatDoor
open Go Go.RowKit
set_option linter.unusedVariables false

def hrow (h p : Nat → Int) (i j : Nat) : Int := if j < i then p j else h j
end Go.Proofs.YthfkfgjhgicfeaaGreatDoor
