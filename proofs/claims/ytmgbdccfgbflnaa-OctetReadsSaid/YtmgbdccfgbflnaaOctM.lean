/-
  Numbers as bytes and back: plain functions (no Go in sight but the library's own texts of numbers).
-/
import Derived.Test.YtmgbdccfgbflnaaSumM
import Derived.Test.YtmgbdccfgbflnaaFld
namespace Go.Proofs.Ytmgbdccfgbflnaa
open Go Go.RowKit
set_option linter.unusedVariables false

/-- A number's byte, the lowest first. -/
def oct (n : Int) (i : Nat) : Int := n / 256 ^ i % 256
theorem oct_bd (n : Int) (i : Nat) : 0 ≤ oct n i ∧ oct n i < 256 := by unfold oct; omega
def eightB (n : Int) : ByteArray := strOfNums ((List.range 8).map (oct n))
theorem eightB_size (n : Int) : (eightB n).size = 8 := by unfold eightB; rw [strOfNums_size]; simp
theorem byt_nums (xs : List Int) (h : ∀ x ∈ xs, 0 ≤ x ∧ x < 256) (j : Nat) (hj : j < xs.length) : byt (strOfNums xs) j = xs.getD j 0 := by
  have hx := h (xs[j]) (List.getElem_mem hj)
  unfold byt
  rw [strOfNums_data]
  simp only [List.getD, List.getElem?_map, List.getElem?_eq_getElem hj, Option.map_some, Option.getD_some]
  have : (UInt8.ofNat xs[j].toNat).toNat = xs[j].toNat % 256 := by simp
  rw [this]
  omega
theorem byt_eight (n : Int) (i : Nat) (hi : i < 8) : byt (eightB n) i = oct n i := by
  unfold eightB
  rw [byt_nums _ (by
    intro x hx
    obtain ⟨k, _, rfl⟩ := List.mem_map.1 hx
    exact oct_bd n k) i (by simp; omega)]
  simp [List.getD, hi]
/-- The number of eight bytes, from the upper ones down: so many are in. -/
def numP (b : Nat → Int) : Nat → Int
  | 0 => 0
  | t + 1 => numP b t * 256 + b (7 - t)
def numB (s : ByteArray) (o : Nat) : Int := numP (fun j => byt s (o + j)) 8
theorem numP_bd {b : Nat → Int} (hb : ∀ j, 0 ≤ b j ∧ b j < 256) : ∀ t, 0 ≤ numP b t ∧ numP b t < 256 ^ t
  | 0 => by simp [numP]
  | t + 1 => by
    have h := numP_bd hb t
    have h2 := hb (7 - t)
    rw [numP, Int.pow_succ]
    generalize (256 : Int) ^ t = e at *
    omega
theorem numB_U (s : ByteArray) (o : Nat) : U (numB s o) := by
  have := numP_bd (b := fun j => byt s (o + j)) (fun j => byt_bd s (o + j)) 8
  unfold numB U
  have e : (256 : Int) ^ 8 = 18446744073709551616 := by decide
  omega
/-- There and back: a number's bytes. -/
theorem numP_oct (n : Int) (hn : U n) : numP (oct n) 8 = n := by
  obtain ⟨h0, h1⟩ := hn
  simp only [numP, oct, show 7 - 0 = 7 from rfl, show 7 - 1 = 6 from rfl, show 7 - 2 = 5 from rfl, show 7 - 3 = 4 from rfl, show 7 - 4 = 3 from rfl, show 7 - 5 = 2 from rfl, show 7 - 6 = 1 from rfl, show 7 - 7 = 0 from rfl, show (256 : Int) ^ 0 = 1 from rfl, show (256 : Int) ^ 1 = 256 from rfl, show (256 : Int) ^ 2 = 65536 from rfl, show (256 : Int) ^ 3 = 16777216 from rfl, show (256 : Int) ^ 4 = 4294967296 from rfl, show (256 : Int) ^ 5 = 1099511627776 from rfl, show (256 : Int) ^ 6 = 281474976710656 from rfl, show (256 : Int) ^ 7 = 72057594037927936 from rfl]
  omega
/-- Back and there: eight bytes, the bytes of their number. -/
theorem oct_numP {b : Nat → Int} (hb : ∀ j, 0 ≤ b j ∧ b j < 256) (i : Nat) (hi : i < 8) : oct (numP b 8) i = b i := by
  have b0 := hb 0; have b1 := hb 1; have b2 := hb 2; have b3 := hb 3; have b4 := hb 4; have b5 := hb 5; have b6 := hb 6; have b7 := hb 7
  have e : numP b 8 = b 0 + 256 * (b 1 + 256 * (b 2 + 256 * (b 3 + 256 * (b 4 + 256 * (b 5 + 256 * (b 6 + 256 * b 7)))))) := by
    simp only [numP, show 7 - 0 = 7 from rfl, show 7 - 1 = 6 from rfl, show 7 - 2 = 5 from rfl, show 7 - 3 = 4 from rfl, show 7 - 4 = 3 from rfl, show 7 - 5 = 2 from rfl, show 7 - 6 = 1 from rfl, show 7 - 7 = 0 from rfl]
    omega
  rw [e]
  unfold oct
  have : i = 0 ∨ i = 1 ∨ i = 2 ∨ i = 3 ∨ i = 4 ∨ i = 5 ∨ i = 6 ∨ i = 7 := by omega
  rcases this with rfl | rfl | rfl | rfl | rfl | rfl | rfl | rfl <;> simp only [show (256 : Int) ^ 0 = 1 from rfl, show (256 : Int) ^ 1 = 256 from rfl, show (256 : Int) ^ 2 = 65536 from rfl, show (256 : Int) ^ 3 = 16777216 from rfl, show (256 : Int) ^ 4 = 4294967296 from rfl, show (256 : Int) ^ 5 = 1099511627776 from rfl, show (256 : Int) ^ 6 = 281474976710656 from rfl, show (256 : Int) ^ 7 = 72057594037927936 from rfl] <;> omega
/-- Rows. -/
def rowB (l : List Int) : ByteArray := cat (fun j => eightB (l.getD j 0)) l.length
theorem lens_eight (l : List Int) : ∀ n, lens (fun j => eightB (l.getD j 0)) n = 8 * n
  | 0 => rfl
  | n + 1 => by rw [lens, lens_eight l n, eightB_size]; omega
theorem rowB_size (l : List Int) : (rowB l).size = 8 * l.length := by unfold rowB; rw [cat_size, lens_eight]
theorem byt_append (a b : ByteArray) (j : Nat) : byt (a ++ b) j = if j < a.size then byt a j else byt b (j - a.size) := by
  unfold byt
  rw [ByteArray.data_append, Array.toList_append]
  have hs : a.data.toList.length = a.size := (Go.Lib.size_eq a).symm
  by_cases h : j < a.size
  · rw [if_pos h]
    simp only [List.getD, List.getElem?_append_left (show j < a.data.toList.length by omega)]
  · rw [if_neg h]
    simp only [List.getD, List.getElem?_append_right (show a.data.toList.length ≤ j by omega), hs]
theorem byt_cat (l : List Int) : ∀ n j i, j < n → i < 8 → byt (cat (fun j => eightB (l.getD j 0)) n) (8 * j + i) = oct (l.getD j 0) i
  | 0, j, i, hj, _ => by omega
  | n + 1, j, i, hj, hi => by
    rw [cat, byt_append, cat_size, lens_eight]
    by_cases h : j = n
    · subst h
      rw [if_neg (by omega), show 8 * j + i - 8 * j = i by omega, byt_eight _ _ hi]
    · rw [if_pos (by omega), byt_cat l n j i (by omega) hi]
theorem rowB_num (l : List Int) (hl : ∀ x ∈ l, U x) (j : Nat) (hj : j < l.length) : numB (rowB l) (8 * j) = l.getD j 0 := by
  have hu : U (l.getD j 0) := by simp only [List.getD, List.getElem?_eq_getElem hj]; exact hl _ (List.getElem_mem hj)
  unfold numB
  have e : numP (fun i => byt (rowB l) (8 * j + i)) 8 = numP (oct (l.getD j 0)) 8 := by
    simp only [numP]
    unfold rowB
    rw [byt_cat l _ j _ hj (by omega), byt_cat l _ j _ hj (by omega), byt_cat l _ j _ hj (by omega), byt_cat l _ j _ hj (by omega), byt_cat l _ j _ hj (by omega), byt_cat l _ j _ hj (by omega), byt_cat l _ j _ hj (by omega), byt_cat l _ j _ hj (by omega)]
  rw [e, numP_oct _ hu]
/-- Texts of the same bytes are the same. -/
theorem byt_ext (a b : ByteArray) (hs : a.size = b.size) (h : ∀ j, j < a.size → byt a j = byt b j) : a = b := by
  apply ByteArray.ext
  apply Array.toList_inj.1
  apply List.ext_getElem
  · rw [← Go.Lib.size_eq, ← Go.Lib.size_eq, hs]
  · intro j h1 h2
    have hj := h j (by rw [Go.Lib.size_eq]; exact h1)
    unfold byt at hj
    simp only [List.getD, List.getElem?_eq_getElem h1, List.getElem?_eq_getElem h2, Option.getD_some] at hj
    exact UInt8.toNat_inj.1 (by omega)
theorem rowB_append (l m : List Int) : rowB l ++ rowB m = rowB (l ++ m) := by
  refine byt_ext _ _ (by rw [ByteArray.size_append, rowB_size, rowB_size, rowB_size, List.length_append]; omega) fun j hj => ?_
  rw [ByteArray.size_append, rowB_size, rowB_size] at hj
  have e : j = 8 * (j / 8) + j % 8 := by omega
  rw [byt_append, rowB_size]
  by_cases h : j < 8 * l.length
  · rw [if_pos h, e]
    unfold rowB
    rw [byt_cat l _ _ _ (by omega) (by omega), byt_cat (l ++ m) _ _ _ (by simp; omega) (by omega)]
    congr 1
    simp only [List.getD, List.getElem?_append_left (show j / 8 < l.length by omega)]
  · rw [if_neg h]
    have e2 : j - 8 * l.length = 8 * (j / 8 - l.length) + j % 8 := by omega
    rw [e2]
    conv => rhs; rw [e]
    unfold rowB
    rw [byt_cat m _ _ _ (by omega) (by omega), byt_cat (l ++ m) _ _ _ (by simp; omega) (by omega)]
    congr 1
    simp only [List.getD, List.getElem?_append_right (show l.length ≤ j / 8 by omega)]
end Go.Proofs.Ytmgbdccfgbflnaa
