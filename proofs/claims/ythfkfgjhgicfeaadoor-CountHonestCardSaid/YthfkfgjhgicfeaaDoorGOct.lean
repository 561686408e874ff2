/-
  OctM: Numbers as bytes and back: plain functions (no Go in sight but the library's own texts of numbers).
  OctRef: What the document's Eight, Number, Row come to: contracts for the walk.
  OctRef2: What the document's Number comes to.
  OctRef3: What the document's Row and Pairs come to.
  OctRef4: What the document's Pairs comes to.
  OctRef5: What the document's ReadRow comes to.
  OctRef6: What the document's ReadPairs comes to.
  OctBack: There and back: what the rows of the document are read as. Plain mathematics.
-/
import Derived.Test.YthfkfgjhgicfeaaDoorGBlk
import Derived.Test.YthfkfgjhgicfeaaDoorGNum
import Derived.Test.YthfkfgjhgicfeaaDoorGRow
import Derived.IntWalk
import Derived.Lib.QuietBelow
import Derived.BigQuiet
import Derived.BigRegion
import Derived.Deep.RegionLaw
namespace Go.Proofs.YthfkfgjhgicfeaaDoor
open Go Go.RowKit
set_option linter.unusedVariables false

/-- A number's byte, the lowest first. -/
def oct (n : Int) (i : Nat) : Int := n / 256 ^ i % 256
theorem oct_bd (n : Int) (i : Nat) : 0 ≤ oct n i ∧ oct n i < 256 := by unfold oct; omega
def eightB (n : Int) : ByteArray := strOfNums ((List.range 8).map (oct n))
theorem eightB_size (n : Int) : (eightB n).size = 8 := by unfold eightB; rw [strOfNums_size]; simp
theorem byt_nums (xs : List Int) (h : ∀ x ∈ xs, 0 ≤ x ∧ x < 256) (j : Nat) (hj : j < xs.length) : byt (strOfNums xs) j = xs.getD j 0 := by
  have hx := h (xs[j]) (List.getElem_mem hj)
  unfold byt
  rw [strOfNums_data]
  simp only [List.getD, List.getElem?_map, List.getElem?_eq_getElem hj, Option.map_some, Option.getD_some]
  have : (UInt8.ofNat xs[j].toNat).toNat = xs[j].toNat % 256 := by simp
  rw [this]
  omega
theorem byt_eight (n : Int) (i : Nat) (hi : i < 8) : byt (eightB n) i = oct n i := by
  unfold eightB
  rw [byt_nums _ (by
    intro x hx
    obtain ⟨k, _, rfl⟩ := List.mem_map.1 hx
    exact oct_bd n k) i (by simp; omega)]
  simp [List.getD, hi]
/-- The number of eight bytes, from the upper ones down: so many are in. -/
def numP (b : Nat → Int) : Nat → Int
  | 0 => 0
  | t + 1 => numP b t * 256 + b (7 - t)
def numB (s : ByteArray) (o : Nat) : Int := numP (fun j => byt s (o + j)) 8
theorem numP_bd {b : Nat → Int} (hb : ∀ j, 0 ≤ b j ∧ b j < 256) : ∀ t, 0 ≤ numP b t ∧ numP b t < 256 ^ t
  | 0 => by simp [numP]
  | t + 1 => by
    have h := numP_bd hb t
    have h2 := hb (7 - t)
    rw [numP, Int.pow_succ]
    generalize (256 : Int) ^ t = e at *
    omega
theorem numB_U (s : ByteArray) (o : Nat) : U (numB s o) := by
  have := numP_bd (b := fun j => byt s (o + j)) (fun j => byt_bd s (o + j)) 8
  unfold numB U
  have e : (256 : Int) ^ 8 = 18446744073709551616 := by decide
  omega
/-- There and back: a number's bytes. -/
theorem numP_oct (n : Int) (hn : U n) : numP (oct n) 8 = n := by
  obtain ⟨h0, h1⟩ := hn
  simp only [numP, oct, show 7 - 0 = 7 from rfl, show 7 - 1 = 6 from rfl, show 7 - 2 = 5 from rfl, show 7 - 3 = 4 from rfl, show 7 - 4 = 3 from rfl, show 7 - 5 = 2 from rfl, show 7 - 6 = 1 from rfl, show 7 - 7 = 0 from rfl, show (256 : Int) ^ 0 = 1 from rfl, show (256 : Int) ^ 1 = 256 from rfl, show (256 : Int) ^ 2 = 65536 from rfl, show (256 : Int) ^ 3 = 16777216 from rfl, show (256 : Int) ^ 4 = 4294967296 from rfl, show (256 : Int) ^ 5 = 1099511627776 from rfl, show (256 : Int) ^ 6 = 281474976710656 from rfl, show (256 : Int) ^ 7 = 72057594037927936 from rfl]
  omega
/-- Back and there: eight bytes, the bytes of their number. -/
theorem oct_numP {b : Nat → Int} (hb : ∀ j, 0 ≤ b j ∧ b j < 256) (i : Nat) (hi : i < 8) : oct (numP b 8) i = b i := by
  have b0 := hb 0; have b1 := hb 1; have b2 := hb 2; have b3 := hb 3; have b4 := hb 4; have b5 := hb 5; have b6 := hb 6; have b7 := hb 7
  have e : numP b 8 = b 0 + 256 * (b 1 + 256 * (b 2 + 256 * (b 3 + 256 * (b 4 + 256 * (b 5 + 256 * (b 6 + 256 * b 7)))))) := by
    simp only [numP, show 7 - 0 = 7 from rfl, show 7 - 1 = 6 from rfl, show 7 - 2 = 5 from rfl, show 7 - 3 = 4 from rfl, show 7 - 4 = 3 from rfl, show 7 - 5 = 2 from rfl, show 7 - 6 = 1 from rfl, show 7 - 7 = 0 from rfl]
    omega
  rw [e]
  unfold oct
  have : i = 0 ∨ i = 1 ∨ i = 2 ∨ i = 3 ∨ i = 4 ∨ i = 5 ∨ i = 6 ∨ i = 7 := by omega
  rcases this with rfl | rfl | rfl | rfl | rfl | rfl | rfl | rfl <;> simp only [show (256 : Int) ^ 0 = 1 from rfl, show (256 : Int) ^ 1 = 256 from rfl, show (256 : Int) ^ 2 = 65536 from rfl, show (256 : Int) ^ 3 = 16777216 from rfl, show (256 : Int) ^ 4 = 4294967296 from rfl, show (256 : Int) ^ 5 = 1099511627776 from rfl, show (256 : Int) ^ 6 = 281474976710656 from rfl, show (256 : Int) ^ 7 = 72057594037927936 from rfl] <;> omega
/-- Rows. -/
def rowB (l : List Int) : ByteArray := cat (fun j => eightB (l.getD j 0)) l.length
theorem lens_eight (l : List Int) : ∀ n, lens (fun j => eightB (l.getD j 0)) n = 8 * n
  | 0 => rfl
  | n + 1 => by rw [lens, lens_eight l n, eightB_size]; omega
theorem rowB_size (l : List Int) : (rowB l).size = 8 * l.length := by unfold rowB; rw [cat_size, lens_eight]
theorem byt_append (a b : ByteArray) (j : Nat) : byt (a ++ b) j = if j < a.size then byt a j else byt b (j - a.size) := by
  unfold byt
  rw [ByteArray.data_append, Array.toList_append]
  have hs : a.data.toList.length = a.size := (Go.Lib.size_eq a).symm
  by_cases h : j < a.size
  · rw [if_pos h]
    simp only [List.getD, List.getElem?_append_left (show j < a.data.toList.length by omega)]
  · rw [if_neg h]
    simp only [List.getD, List.getElem?_append_right (show a.data.toList.length ≤ j by omega), hs]
theorem byt_cat (l : List Int) : ∀ n j i, j < n → i < 8 → byt (cat (fun j => eightB (l.getD j 0)) n) (8 * j + i) = oct (l.getD j 0) i
  | 0, j, i, hj, _ => by omega
  | n + 1, j, i, hj, hi => by
    rw [cat, byt_append, cat_size, lens_eight]
    by_cases h : j = n
    · subst h
      rw [if_neg (by omega), show 8 * j + i - 8 * j = i by omega, byt_eight _ _ hi]
    · rw [if_pos (by omega), byt_cat l n j i (by omega) hi]
theorem rowB_num (l : List Int) (hl : ∀ x ∈ l, U x) (j : Nat) (hj : j < l.length) : numB (rowB l) (8 * j) = l.getD j 0 := by
  have hu : U (l.getD j 0) := by simp only [List.getD, List.getElem?_eq_getElem hj]; exact hl _ (List.getElem_mem hj)
  unfold numB
  have e : numP (fun i => byt (rowB l) (8 * j + i)) 8 = numP (oct (l.getD j 0)) 8 := by
    simp only [numP]
    unfold rowB
    rw [byt_cat l _ j _ hj (by omega), byt_cat l _ j _ hj (by omega), byt_cat l _ j _ hj (by omega), byt_cat l _ j _ hj (by omega), byt_cat l _ j _ hj (by omega), byt_cat l _ j _ hj (by omega), byt_cat l _ j _ hj (by omega), byt_cat l _ j _ hj (by omega)]
  rw [e, numP_oct _ hu]
/-- Texts of the same bytes are the same. -/
theorem byt_ext (a b : ByteArray) (hs : a.size = b.size) (h : ∀ j, j < a.size → byt a j = byt b j) : a = b := by
  apply ByteArray.ext
  apply Array.toList_inj.1
  apply List.ext_getElem
  · rw [← Go.Lib.size_eq, ← Go.Lib.size_eq, hs]
  · intro j h1 h2
    have hj := h j (by rw [Go.Lib.size_eq]; exact h1)
    unfold byt at hj
    simp only [List.getD, List.getElem?_eq_getElem h1, List.getElem?_eq_getElem h2, Option.getD_some] at hj
    exact UInt8.toNat_inj.1 (by omega)
theorem rowB_append (l m : List Int) : rowB l ++ rowB m = rowB (l ++ m) := by
  refine byt_ext _ _ (by rw [ByteArray.size_append, rowB_size, rowB_size, rowB_size, List.length_append]; omega) fun j hj => ?_
  rw [ByteArray.size_append, rowB_size, rowB_size] at hj
  have e : j = 8 * (j / 8) + j % 8 := by omega
  rw [byt_append, rowB_size]
  by_cases h : j < 8 * l.length
  · rw [if_pos h, e]
    unfold rowB
    rw [byt_cat l _ _ _ (by omega) (by omega), byt_cat (l ++ m) _ _ _ (by simp; omega) (by omega)]
    congr 1
    simp only [List.getD, List.getElem?_append_left (show j / 8 < l.length by omega)]
  · rw [if_neg h]
    have e2 : j - 8 * l.length = 8 * (j / 8 - l.length) + j % 8 := by omega
    rw [e2]
    conv => rhs; rw [e]
    unfold rowB
    rw [byt_cat m _ _ _ (by omega) (by omega), byt_cat (l ++ m) _ _ _ (by simp; omega) (by omega)]
    congr 1
    simp only [List.getD, List.getElem?_append_right (show l.length ≤ j / 8 by omega)]
end Go.Proofs.YthfkfgjhgicfeaaDoor
namespace Go.Proofs.YthfkfgjhgicfeaaDoor
open Go Go.RowKit
set_option linter.unusedVariables false

theorem info8 : (Tryd.prog.info? 5).map (fun i => (i.zero, i.size, i.bytes)) = some (some (.int .u8 0), 1, 1) := by kernel_rfl
def octF (n : Int) (i j : Nat) : Value := .int .u8 (if j < i then oct n j else 0)
def EightHead (w : World) (n : Int) (g : Nat) (s : Value) (W : World) : Prop := ∃ i : Nat, i ≤ 8 ∧ s = .int .i64 i ∧ Below w.heap.size w W ∧ Arr W g 8 (octF n i)
theorem octF_set (n : Int) (i : Nat) : ∀ j, (if j = i then Value.int .u8 (oct n i) else octF n i j) = octF n (i + 1) j := by
  intro j
  unfold octF
  by_cases h : j = i
  · subst h; rw [if_pos rfl, if_pos (by omega)]
  · rw [if_neg h]
    by_cases h2 : j < i
    · rw [if_pos h2, if_pos (by omega)]
    · rw [if_neg h2, if_neg (by omega)]
end Go.Proofs.YthfkfgjhgicfeaaDoor
namespace Go.Proofs.YthfkfgjhgicfeaaDoor
open Go Go.RowKit
set_option linter.unusedVariables false

theorem or64_add (k : Nat) (P Z : Nat) (hZ : Z < 2 ^ k) (hP : P * 2 ^ k < 18446744073709551616) (hk : k ≤ 64) : bits .or .u64 ((P * 2 ^ k : Nat) : Int) (Z : Int) = ((P * 2 ^ k + Z : Nat) : Int) := by
  have hz : Z < 18446744073709551616 := Nat.lt_of_lt_of_le hZ (Nat.pow_le_pow_right (n := 2) (by decide) hk)
  have e : P * 2 ^ k ||| Z = P * 2 ^ k + Z := by
    have := Nat.two_pow_add_eq_or_of_lt (i := k) (b := Z) hZ P
    rw [Nat.mul_comm P]
    exact this.symm
  have h1 : (BitVec.ofInt 64 ((P * 2 ^ k : Nat) : Int) ||| BitVec.ofInt 64 (Z : Int)).toNat = P * 2 ^ k + Z := by
    rw [BitVec.toNat_or, BitVec.ofInt_natCast, BitVec.ofInt_natCast, BitVec.toNat_ofNat, BitVec.toNat_ofNat, Nat.mod_eq_of_lt hP, Nat.mod_eq_of_lt hz, e]
  have hlt : P * 2 ^ k + Z < 18446744073709551616 := by
    rw [← h1]; exact (BitVec.ofInt 64 ((P * 2 ^ k : Nat) : Int) ||| BitVec.ofInt 64 (Z : Int)).isLt
  unfold bits
  show IntKind.u64.wrap (((BitVec.ofInt 64 ((P * 2 ^ k : Nat) : Int) ||| BitVec.ofInt 64 (Z : Int)).toNat : Nat) : Int) = _
  rw [h1, IntKind.wrap_u64]
  omega
theorem or64_byte (a b : Int) (ha : 0 ≤ a ∧ a < 72057594037927936) (hb : 0 ≤ b ∧ b < 256) : bits .or .u64 (a * 256) b = a * 256 + b := by
  obtain ⟨A, rfl⟩ := Int.eq_ofNat_of_zero_le ha.1
  obtain ⟨B, rfl⟩ := Int.eq_ofNat_of_zero_le hb.1
  have := or64_add 8 A B (by omega) (by omega) (by decide)
  simp only [show (2 : Nat) ^ 8 = 256 from rfl] at this
  rw [show (A : Int) * 256 = ((A * 256 : Nat) : Int) by omega, this]
  omega
theorem numP_lt (s : ByteArray) (t : Nat) (ht : t < 8) : 0 ≤ numP (byt s) t ∧ numP (byt s) t < 72057594037927936 := by
  have h := numP_bd (b := byt s) (byt_bd s) t
  have : (256 : Int) ^ t ≤ 256 ^ 7 := by
    have : t = 0 ∨ t = 1 ∨ t = 2 ∨ t = 3 ∨ t = 4 ∨ t = 5 ∨ t = 6 ∨ t = 7 := by omega
    rcases this with rfl | rfl | rfl | rfl | rfl | rfl | rfl | rfl <;> decide
  have e : (256 : Int) ^ 7 = 72057594037927936 := by decide
  omega
theorem byt_get (s : ByteArray) (i : Nat) (h : i < s.size) : ((s[i]'h).toNat : Int) = byt s i := by
  have h' : i < s.data.toList.length := by rw [← Go.Lib.size_eq]; exact h
  unfold byt
  simp only [List.getD, List.getElem?_eq_getElem h', Option.getD_some]
  rfl
theorem numB_zero (s : ByteArray) : numB s 0 = numP (byt s) 8 := by
  unfold numB; simp only [Nat.zero_add]
def NumHead (s : ByteArray) (n i : Value) : Prop := ∃ t : Nat, t ≤ 8 ∧ n = .int .u64 (numP (byt s) t) ∧ i = .int .i64 (7 - (t : Int))
end Go.Proofs.YthfkfgjhgicfeaaDoor
namespace Go.Proofs.YthfkfgjhgicfeaaDoor
open Go Go.RowKit
set_option linter.unusedVariables false

def rowT (zs : List Int) (k : Nat) : ByteArray := cat (fun j => eightB (zs.getD j 0)) k
theorem rowT_size (zs : List Int) (k : Nat) : (rowT zs k).size = 8 * k := by unfold rowT; rw [cat_size, lens_eight]
theorem rowT_next (zs : List Int) (k : Nat) : rowT zs k ++ eightB (zs.getD k 0) = rowT zs (k + 1) := rfl
def RowUp (w : World) (zs : List Int) (s i : Value) (W : World) : Prop := ∃ k : Nat, k ≤ zs.length ∧ s = .string (rowT zs k) ∧ i = .int .i64 k ∧ Below w.heap.size w W
end Go.Proofs.YthfkfgjhgicfeaaDoor
namespace Go.Proofs.YthfkfgjhgicfeaaDoor
open Go Go.RowKit Go.Sort Go.BigFrame
set_option linter.unusedVariables false

def pairT (zs : List (Int × Int)) : Nat → ByteArray
  | 0 => ⟨#[]⟩
  | k + 1 => (pairT zs k ++ eightB (zs.getD k (0, 0)).1) ++ eightB (zs.getD k (0, 0)).2
def pairB (zs : List (Int × Int)) : ByteArray := pairT zs zs.length
theorem pairT_size (zs : List (Int × Int)) : ∀ k, (pairT zs k).size = 16 * k
  | 0 => rfl
  | k + 1 => by rw [pairT, ByteArray.size_append, ByteArray.size_append, pairT_size zs k, eightB_size, eightB_size]; omega
def flatN : List (Int × Int) → List Int
  | [] => []
  | z :: l => z.1 :: z.2 :: flatN l
theorem flatN_len : ∀ zs, (flatN zs).length = 2 * zs.length
  | [] => rfl
  | z :: l => by simp [flatN, flatN_len l]; omega
theorem flatN_even : ∀ (zs : List (Int × Int)) (k : Nat), (flatN zs).getD (2 * k) 0 = (zs.getD k (0, 0)).1
  | [], k => by simp [flatN]
  | z :: l, 0 => rfl
  | z :: l, k + 1 => by
    have := flatN_even l k
    rw [show 2 * (k + 1) = 2 * k + 1 + 1 by omega, flatN, List.getD_cons_succ, List.getD_cons_succ, List.getD_cons_succ, this]
theorem flatN_odd : ∀ (zs : List (Int × Int)) (k : Nat), (flatN zs).getD (2 * k + 1) 0 = (zs.getD k (0, 0)).2
  | [], k => by simp [flatN]
  | z :: l, 0 => rfl
  | z :: l, k + 1 => by
    have := flatN_odd l k
    rw [show 2 * (k + 1) + 1 = 2 * k + 1 + 1 + 1 by omega, flatN, List.getD_cons_succ, List.getD_cons_succ, List.getD_cons_succ, this]
theorem pairT_row (zs : List (Int × Int)) : ∀ k, pairT zs k = rowT (flatN zs) (2 * k)
  | 0 => rfl
  | k + 1 => by
    rw [pairT, pairT_row zs k, show 2 * (k + 1) = 2 * k + 1 + 1 by omega, ← rowT_next, ← rowT_next, flatN_even, flatN_odd]
theorem pairB_row (zs : List (Int × Int)) : pairB zs = rowB (flatN zs) := by
  unfold pairB rowB
  rw [pairT_row, flatN_len]
  rfl
def PairUp (w : World) (zs : List (Int × Int)) (s i : Value) (W : World) : Prop := ∃ k : Nat, k ≤ zs.length ∧ s = .string (pairT zs k) ∧ i = .int .i64 k ∧ Below w.heap.size w W
end Go.Proofs.YthfkfgjhgicfeaaDoor
namespace Go.Proofs.YthfkfgjhgicfeaaDoor
open Go Go.RowKit
set_option linter.unusedVariables false

def nums (s : ByteArray) (n : Nat) : List Int := (List.range n).map fun j => numB s (8 * j)
theorem nums_len (s : ByteArray) (n : Nat) : (nums s n).length = n := by simp [nums]
theorem nums_snoc (s : ByteArray) (n : Nat) : nums s (n + 1) = nums s n ++ [numB s (8 * n)] := by simp [nums, List.range_succ]
theorem numB_part (s : ByteArray) (k : Nat) (h : 8 * k + 8 ≤ s.size) : numB (s.extract (8 * k) s.size) 0 = numB s (8 * k) := by
  unfold numB
  simp only [numP, Nat.zero_add]
  rw [byt_extract _ _ _ _ (Nat.le_refl _) (by omega), byt_extract _ _ _ _ (Nat.le_refl _) (by omega), byt_extract _ _ _ _ (Nat.le_refl _) (by omega), byt_extract _ _ _ _ (Nat.le_refl _) (by omega), byt_extract _ _ _ _ (Nat.le_refl _) (by omega), byt_extract _ _ _ _ (Nat.le_refl _) (by omega), byt_extract _ _ _ _ (Nat.le_refl _) (by omega), byt_extract _ _ _ _ (Nat.le_refl _) (by omega)]
/-- The bytes are those of so many numbers of the field. -/
def OkR (s : ByteArray) (n : Int) : Prop := 0 ≤ n ∧ n ≤ 1048576 ∧ (s.size : Int) = 8 * n ∧ ∀ k : Nat, (k : Int) < n → numB s (8 * k) < 18446744069414584321
def ReadPost (s : ByteArray) (n : Int) (w : World) (e : Ending) (w' : World) : Prop :=
  Below w.heap.size w w' ∧ ((¬ OkR s n ∧ e = .returned (.tuple #[.slice none 0 0, .bool false])) ∨
    (OkR s n ∧ ∃ a c, e = .returned (.tuple #[.slice a n.toNat c, .bool true]) ∧ Row w' (.slice a n.toNat c) (nums s n.toNat)))
def ReadUp (w : World) (s : ByteArray) (N : Nat) (m i : Value) (W : World) : Prop :=
  ∃ k : Nat, k ≤ N ∧ i = .int .i64 k ∧ MadeU w W m (nums s k) ∧ ∀ j, j < k → numB s (8 * j) < 18446744069414584321
end Go.Proofs.YthfkfgjhgicfeaaDoor
namespace Go.Proofs.YthfkfgjhgicfeaaDoor
open Go Go.RowKit
set_option linter.unusedVariables false

theorem info8Q : (Tryd.prog.info? 31).map (fun i => (i.zero, i.size, i.bytes)) = some (some (.agg #[.int .u64 0, .int .u64 0]), 2, 16) := by kernel_rfl
def prs (s : ByteArray) (n : Nat) : List (Int × Int) := (List.range n).map fun j => (numB s (8 * (2 * j)), numB s (8 * (2 * j + 1)))
theorem prs_len (s : ByteArray) (n : Nat) : (prs s n).length = n := by simp [prs]
theorem prs_snoc (s : ByteArray) (n : Nat) : prs s (n + 1) = prs s n ++ [(numB s (8 * (2 * n)), numB s (8 * (2 * n + 1)))] := by simp [prs, List.range_succ]
theorem nums_at (s : ByteArray) (n k : Nat) (h : k < n) : (nums s n).getD k 0 = numB s (8 * k) := by simp [nums, List.getD, h]
def ReadPostQ (s : ByteArray) (n : Int) (w : World) (e : Ending) (w' : World) : Prop :=
  Below w.heap.size w w' ∧ ((¬ OkR s (2 * n) ∧ e = .returned (.tuple #[.slice none 0 0, .bool false])) ∨
    (OkR s (2 * n) ∧ ∃ a c, e = .returned (.tuple #[.slice a n.toNat c, .bool true]) ∧ QRow w' (.slice a n.toNat c) (prs s n.toNat)))
def ReadUpQ (w : World) (s : ByteArray) (N : Nat) (m i : Value) (W : World) : Prop :=
  ∃ k : Nat, k ≤ N ∧ i = .int .i64 k ∧ MadeQ w W m (prs s k)
end Go.Proofs.YthfkfgjhgicfeaaDoor
namespace Go.Proofs.YthfkfgjhgicfeaaDoor
open Go Go.RowKit
set_option linter.unusedVariables false

theorem nums_row (l : List Int) (hl : ∀ x ∈ l, U x) : nums (rowB l) l.length = l := by
  apply List.ext_getElem
  · rw [nums_len]
  · intro j h1 h2
    have e1 : (nums (rowB l) l.length).getD j 0 = (nums (rowB l) l.length)[j] := by simp only [List.getD, List.getElem?_eq_getElem h1, Option.getD_some]
    have e2 : l.getD j 0 = l[j] := by simp only [List.getD, List.getElem?_eq_getElem h2, Option.getD_some]
    rw [← e1, ← e2, nums_at _ _ _ h2, rowB_num l hl j h2]
theorem okR_row (l : List Int) (hl : ∀ x ∈ l, U x) (hm : l.length ≤ 1048576) : OkR (rowB l) (l.length : Int) ↔ ∀ k, k < l.length → l.getD k 0 < 18446744069414584321 := by
  constructor
  · rintro ⟨_, _, _, h⟩ k hk
    have := h k (by omega)
    rwa [rowB_num l hl k hk] at this
  · intro h
    refine ⟨by omega, by omega, by rw [rowB_size]; omega, fun k hk => ?_⟩
    rw [rowB_num l hl k (by omega)]
    exact h k (by omega)
theorem okR_more (l : List Int) (s : ByteArray) (hs : s.size ≠ 0) : ¬ OkR (rowB l ++ s) (l.length : Int) := by
  rintro ⟨_, _, h, _⟩
  rw [ByteArray.size_append, rowB_size] at h
  omega
theorem prs_flat (zs : List (Int × Int)) (hz : ∀ z ∈ zs, U z.1 ∧ U z.2) : prs (pairB zs) zs.length = zs := by
  have hl : ∀ zs : List (Int × Int), (∀ z ∈ zs, U z.1 ∧ U z.2) → ∀ x ∈ flatN zs, U x := by
    intro zs
    induction zs with
    | nil => intro _ x hx; simp [flatN] at hx
    | cons z l ih =>
      intro h x hx
      simp only [flatN, List.mem_cons] at hx
      rcases hx with rfl | rfl | hx
      · exact (h z (by simp)).1
      · exact (h z (by simp)).2
      · exact ih (fun y hy => h y (by simp [hy])) x hx
  apply List.ext_getElem
  · rw [prs_len]
  · intro j h1 h2
    have e2 : zs.getD j (0, 0) = zs[j] := by simp only [List.getD, List.getElem?_eq_getElem h2, Option.getD_some]
    have hlen := flatN_len zs
    simp only [prs, List.getElem_map, List.getElem_range]
    rw [pairB_row, rowB_num _ (hl zs hz) _ (by omega), rowB_num _ (hl zs hz) _ (by omega), flatN_even, flatN_odd, e2]
end Go.Proofs.YthfkfgjhgicfeaaDoor
