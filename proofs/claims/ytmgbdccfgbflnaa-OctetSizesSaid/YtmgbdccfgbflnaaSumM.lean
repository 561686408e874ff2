/-
  The sum of a text, as plain functions: blocks, the words behind each, the bytes of the last ones.
-/
import Derived.Test.YtmgbdccfgbflnaaBlakeM
import Derived.Test.YtmgbdccfgbflnaaRow
import Derived.Laws.BytesArg
import Derived.Lib.RabinKarpLaws
namespace Go.Proofs.Ytmgbdccfgbflnaa
open Go Go.RowKit
set_option linter.unusedVariables false

/-- A byte of a text; 0 behind its end. -/
def byt (s : ByteArray) (i : Nat) : Int := ((s.data.toList.getD i 0).toNat : Int)
theorem byt_bd (s : ByteArray) (i : Nat) : 0 ≤ byt s i ∧ byt s i < 256 := by
  unfold byt
  have := (s.data.toList.getD i 0).toNat_lt
  omega
theorem byt_out (s : ByteArray) (i : Nat) (h : s.size ≤ i) : byt s i = 0 := by
  unfold byt
  have : s.data.toList.length ≤ i := by rw [← Go.Lib.size_eq]; exact h
  simp [List.getD, List.getElem?_eq_none this]
def blkOf (s : ByteArray) (off : Nat) : Nat → Int := fun j => byt s (off + j)
theorem blkOf_bytes (s : ByteArray) (off : Nat) : IsBytes 64 (blkOf s off) := fun j _ => byt_bd s (off + j)
/-- The words ahead of block k. -/
def h0 : Nat → Int := upd beg 0 (xor32 (beg 0) 16842784)
def hseq (s : ByteArray) : Nat → Nat → Int
  | 0 => h0
  | k + 1 => press (hseq s k) (blkOf s (64 * k)) (64 * ((k : Int) + 1)) false
/-- How many blocks stand ahead of the last one. -/
def nbl (s : ByteArray) : Nat := (s.size - 1) / 64
theorem nbl_is {s : ByteArray} {k : Nat} (h : s.size ≤ 64 * k + 64) (h' : k = 0 ∨ 64 * k < s.size) : nbl s = k := by unfold nbl; omega
def hend (s : ByteArray) : Nat → Int := press (hseq s (nbl s)) (blkOf s (64 * nbl s)) s.size true
/-- Bytes of words, the lowest first. -/
def outI (h : Nat → Int) (j : Nat) : Int := h (j / 4) / 256 ^ (j % 4) % 256
def outS (h : Nat → Int) (n : Nat) : ByteArray := strOfNums ((List.range n).map (outI h))
def sumB (s : ByteArray) : ByteArray := outS (hend s) 32
theorem sumB_size (s : ByteArray) : (sumB s).size = 32 := by unfold sumB outS; rw [strOfNums_size]; simp
theorem outS_zero (h : Nat → Int) : outS h 0 = ⟨#[]⟩ := rfl
theorem outS_next (h : Nat → Int) (i : Nat) : outS h (4 * i) ++ strOfNums [h i % 256, h i / 256 % 256, h i / 65536 % 256, h i / 16777216 % 256] = outS h (4 * (i + 1)) := by
  unfold outS
  apply ByteArray.ext
  apply Array.toList_inj.1
  rw [ByteArray.data_append, Array.toList_append, strOfNums_data, strOfNums_data, strOfNums_data, ← List.map_append]
  congr 1
  rw [show 4 * (i + 1) = 4 * i + 1 + 1 + 1 + 1 by omega, List.range_succ, List.range_succ, List.range_succ, List.range_succ]
  simp only [List.map_append, List.map_cons, List.map_nil, List.append_assoc, List.cons_append, List.nil_append]
  have e0 : outI h (4 * i) = h i % 256 := by unfold outI; rw [show 4 * i / 4 = i by omega, show 4 * i % 4 = 0 by omega]; simp
  have e1 : outI h (4 * i + 1) = h i / 256 % 256 := by unfold outI; rw [show (4 * i + 1) / 4 = i by omega, show (4 * i + 1) % 4 = 1 by omega]; simp
  have e2 : outI h (4 * i + 1 + 1) = h i / 65536 % 256 := by unfold outI; rw [show (4 * i + 1 + 1) / 4 = i by omega, show (4 * i + 1 + 1) % 4 = 2 by omega]; rfl
  have e3 : outI h (4 * i + 1 + 1 + 1) = h i / 16777216 % 256 := by unfold outI; rw [show (4 * i + 1 + 1 + 1) / 4 = i by omega, show (4 * i + 1 + 1 + 1) % 4 = 3 by omega]; rfl
  rw [e0, e1, e2, e3]
/-- Texts, one behind the other. -/
def cat (f : Nat → ByteArray) : Nat → ByteArray
  | 0 => ⟨#[]⟩
  | n + 1 => cat f n ++ f n
def lens (f : Nat → ByteArray) : Nat → Nat
  | 0 => 0
  | n + 1 => lens f n + (f n).size
theorem cat_size (f : Nat → ByteArray) : ∀ n, (cat f n).size = lens f n
  | 0 => rfl
  | n + 1 => by rw [cat, ByteArray.size_append, cat_size f n, lens]
theorem lens_mono (f : Nat → ByteArray) (n : Nat) : ∀ m, lens f n ≤ lens f (n + m)
  | 0 => Nat.le_refl _
  | m + 1 => Nat.le_trans (lens_mono f n m) (Nat.le_add_right _ _)
theorem cat_congr {f g : Nat → ByteArray} : ∀ {n : Nat}, (∀ i, i < n → f i = g i) → cat f n = cat g n
  | 0, _ => rfl
  | n + 1, h => by rw [cat, cat, cat_congr (fun i hi => h i (by omega)), h n (by omega)]
/-- A slice of texts, by a letter for its address. -/
def StrA (w : World) (a : Option Addr) (len : Nat) (f : Nat → ByteArray) : Prop :=
  len ≤ maxLen ∧ ∀ k, k < len → ∃ b off : Nat, a = some ⟨b, off, none⟩ ∧ w.cell? ⟨b, off + k, none⟩ = some (.string (f k))
theorem StrA.keep {w w1 : World} {a : Option Addr} {len : Nat} {f : Nat → ByteArray} (h : StrA w a len f) (hb : Below w.heap.size w w1) : StrA w1 a len f :=
  ⟨h.1, fun k hk => by obtain ⟨b, off, e, c⟩ := h.2 k hk; exact ⟨b, off, e, bkeep hb c⟩⟩
/-- The bytes of a piece, as cells. -/
def strCs (s : ByteArray) : List Value := s.data.toList.map fun x => Value.int .u8 (x.toNat : Int)
theorem strCs_len (s : ByteArray) : (strCs s).length = s.size := by unfold strCs; rw [List.length_map, ← Go.Lib.size_eq]
theorem strCs_at (s : ByteArray) (j : Nat) (h : j < s.size) : (strCs s).getD j undef = .int .u8 (byt s j) := by
  have h' : j < s.data.toList.length := by rw [← Go.Lib.size_eq]; exact h
  unfold strCs byt
  simp only [List.getD, List.getElem?_map, List.getElem?_eq_getElem h', Option.map_some, Option.getD_some]
theorem byt_extract (s : ByteArray) (o m j : Nat) (hm : m ≤ s.size) (hj : o + j < m) : byt (s.extract o m) j = byt s (o + j) := by
  unfold byt
  have e : (s.extract o m).data.toList.getD j 0 = s.data.toList.getD (o + j) 0 := by
    rw [ByteArray.data_extract]
    simp only [List.getD, Array.toList_extract, List.extract_eq_drop_take', List.getElem?_drop]
    rw [List.getElem?_take_of_lt (by omega)]
  rw [e]
end Go.Proofs.Ytmgbdccfgbflnaa
