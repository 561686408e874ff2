/-
  BlakeM: The words of 32 bits, a mix, a round, a press: plain functions (no Go in sight but the kinds' own wrap and bits).
  SumM: The sum of a text, as plain functions: blocks, the words behind each, the bytes of the last ones.
  Row3: copy of a text into a row, as much as there is room for; clear of a piece of a row. No function of the program is named.
  Strs: append of a whole slice of texts onto a slice that the call made. No function of the program is named.
  BLem: Words of 32 bits: sums, bits and turns in other orders. Plain mathematics.
  BEval: The sum of 'abc', reckoned: rows of words as lists. Plain functions.
  BStM: Rows under way in a press: what stands through all of it. (Written by gen_bpress.py.)
-/
import Derived.Test.YthfkfgjhgicfeaaDoorGRow
import Derived.Laws.BytesArg
import Derived.Lib.RabinKarpLaws
import Derived.Lib.SliceRun
import Derived.Laws.AppendOwn
import Derived.Laws.OwnMore
import Derived.Tactics
import Derived.IntWalk
namespace Go.Proofs.YthfkfgjhgicfeaaDoor
open Go Go.RowKit
set_option linter.unusedVariables false

def add32 (a b : Int) : Int := IntKind.u32.wrap (a + b)
def xor32 (a b : Int) : Int := bits .xor .u32 a b
def rot32 (x : Int) (n : Nat) : Int := bits .or .u32 (x / 2 ^ n) (IntKind.u32.wrap (x * 2 ^ (32 - n)))
/-- A row of words, one of them another. -/
def upd (f : Nat → Int) (i : Nat) (v : Int) : Nat → Int := fun j => if j = i then v else f j
theorem upd_at (f : Nat → Int) (i : Nat) (v : Int) : upd f i v i = v := if_pos rfl
def mix1 (v : Nat → Int) (a b : Nat) (x : Int) : Nat → Int := upd v a (add32 (add32 (v a) (v b)) x)
def mix2 (v : Nat → Int) (d a : Nat) (n : Nat) : Nat → Int := upd v d (rot32 (xor32 (v d) (v a)) n)
def mix3 (v : Nat → Int) (c d : Nat) : Nat → Int := upd v c (add32 (v c) (v d))
def mixf (v : Nat → Int) (a b c d : Nat) (x y : Int) : Nat → Int :=
  mix2 (mix3 (mix2 (mix1 (mix2 (mix3 (mix2 (mix1 v a b x) d a 16) c d) b c 12) a b y) d a 8) c d) b c 7
def ordL : List (List Nat) := [
  [0, 1, 2, 3, 4, 5, 6, 7, 8, 9, 10, 11, 12, 13, 14, 15],
  [14, 10, 4, 8, 9, 15, 13, 6, 1, 12, 0, 2, 11, 7, 5, 3],
  [11, 8, 12, 0, 5, 2, 15, 13, 10, 14, 3, 6, 7, 1, 9, 4],
  [7, 9, 3, 1, 13, 12, 11, 14, 2, 6, 5, 10, 4, 0, 15, 8],
  [9, 0, 5, 7, 2, 4, 10, 15, 14, 1, 11, 12, 6, 8, 3, 13],
  [2, 12, 6, 10, 0, 11, 8, 3, 4, 13, 7, 5, 15, 14, 1, 9],
  [12, 5, 1, 15, 14, 13, 4, 10, 0, 7, 6, 3, 9, 2, 8, 11],
  [13, 11, 7, 14, 12, 1, 3, 9, 5, 0, 15, 4, 8, 6, 2, 10],
  [6, 15, 14, 9, 11, 3, 0, 8, 12, 2, 13, 7, 1, 4, 10, 5],
  [10, 2, 8, 4, 7, 6, 1, 5, 15, 11, 9, 14, 3, 12, 13, 0]]
/-- Which word comes when. -/
def ord (r i : Nat) : Nat := (ordL.getD r []).getD i 0
theorem ord_lt (r i : Nat) (hr : r < 10) (hi : i < 16) : ord r i < 16 := by
  have : ∀ r, r < 10 → ∀ i, i < 16 → ord r i < 16 := by decide +kernel
  exact this r hr i hi
/-- One mix of a round, and all. -/
def mixAt (m : Nat → Int) (r k a b c d : Nat) (v : Nat → Int) : Nat → Int := mixf v a b c d (m (ord r (2 * k))) (m (ord r (2 * k + 1)))
def roundf (m : Nat → Int) (r : Nat) (v : Nat → Int) : Nat → Int :=
  mixAt m r 7 3 4 9 14 (mixAt m r 6 2 7 8 13 (mixAt m r 5 1 6 11 12 (mixAt m r 4 0 5 10 15 (mixAt m r 3 3 7 11 15 (mixAt m r 2 2 6 10 14 (mixAt m r 1 1 5 9 13 (mixAt m r 0 0 4 8 12 v)))))))
def rounds (m : Nat → Int) : Nat → (Nat → Int) → Nat → Int
  | 0, v => v
  | r + 1, v => roundf m r (rounds m r v)
def begL : List Int := [1779033703, 3144134277, 1013904242, 2773480762, 1359893119, 2600822924, 528734635, 1541459225]
def beg (i : Nat) : Int := begL.getD i 0
/-- A word of four bytes, the lowest first. -/
def le4 (b : Nat → Int) (i : Nat) : Int := b (4 * i) + 256 * (b (4 * i + 1) + 256 * (b (4 * i + 2) + 256 * b (4 * i + 3)))
/-- The same, byte by byte from above. -/
def part (b : Nat → Int) (i : Nat) : Nat → Int
  | 0 => 0
  | t + 1 => part b i t * 256 + b (4 * i + (3 - t))
theorem part_four (b : Nat → Int) (i : Nat) : part b i 4 = le4 b i := by
  simp only [part, le4]
  show (((0 * 256 + b (4 * i + 3)) * 256 + b (4 * i + 2)) * 256 + b (4 * i + 1)) * 256 + b (4 * i) = _
  omega
/-- Bytes. -/
def IsBytes (n : Nat) (b : Nat → Int) : Prop := ∀ j, j < n → 0 ≤ b j ∧ b j < 256
theorem part_lt {b : Nat → Int} (hb : IsBytes 64 b) {i : Nat} (hi : i < 16) : ∀ t, t ≤ 4 → 0 ≤ part b i t ∧ part b i t < 256 ^ t
  | 0, _ => by simp [part]
  | t + 1, ht => by
    have h := part_lt hb hi t (by omega)
    have h2 := hb (4 * i + (3 - t)) (by omega)
    rw [part, Int.pow_succ]
    generalize (256 : Int) ^ t = e at *
    omega
theorem or_byte (p z : Int) (hp : 0 ≤ p) (hp2 : p < 16777216) (hz : 0 ≤ z) (hz2 : z < 256) : bits .or .u32 (p * 256) z = p * 256 + z := by
  obtain ⟨P, rfl⟩ := Int.eq_ofNat_of_zero_le hp
  obtain ⟨Z, rfl⟩ := Int.eq_ofNat_of_zero_le hz
  have e : P * 256 ||| Z = P * 256 + Z := by
    have := Nat.two_pow_add_eq_or_of_lt (i := 8) (b := Z) (by omega) P
    rw [Nat.mul_comm P 256]
    exact this.symm
  have h1 : (BitVec.ofInt 32 ((P : Int) * 256) ||| BitVec.ofInt 32 (Z : Int)).toNat = P * 256 + Z := by
    rw [BitVec.toNat_or, show (P : Int) * 256 = ((P * 256 : Nat) : Int) by omega, BitVec.ofInt_natCast, BitVec.ofInt_natCast, BitVec.toNat_ofNat, BitVec.toNat_ofNat, Nat.mod_eq_of_lt (by omega), Nat.mod_eq_of_lt (by omega), e]
  unfold bits
  show IntKind.u32.wrap (((BitVec.ofInt 32 ((P : Int) * 256) ||| BitVec.ofInt 32 (Z : Int)).toNat : Nat) : Int) = _
  rw [h1, IntKind.wrap_u32]
  omega
def not32 (x : Int) : Int := xor32 4294967295 x
/-- The sixteen words at the start. -/
def vbase (h : Nat → Int) : Nat → Int := fun j => if j < 8 then h j else beg (j - 8)
def vfirst (h : Nat → Int) (n : Int) (last : Bool) : Nat → Int :=
  let v1 := upd (vbase h) 12 (xor32 (vbase h 12) (n % 4294967296))
  let v2 := upd v1 13 (xor32 (v1 13) (n / 4294967296))
  if last then upd v2 14 (not32 (v2 14)) else v2
def press (h b : Nat → Int) (n : Int) (last : Bool) : Nat → Int := fun j =>
  xor32 (xor32 (h j) (rounds (le4 b) 10 (vfirst h n last) j)) (rounds (le4 b) 10 (vfirst h n last) (j + 8))
/-- Rows of words, of bytes, in cells. -/
abbrev w32 (f : Nat → Int) : Nat → Value := fun j => .int .u32 (f j)
abbrev w8 (f : Nat → Int) : Nat → Value := fun j => .int .u8 (f j)
theorem w32_upd (f : Nat → Int) (i : Nat) (z : Int) (j : Nat) : (if j = i then Value.int .u32 z else w32 f j) = w32 (upd f i z) j := by
  show _ = Value.int .u32 (if j = i then z else f j)
  split <;> rfl
end Go.Proofs.YthfkfgjhgicfeaaDoor
namespace Go.Proofs.YthfkfgjhgicfeaaDoor
open Go Go.RowKit
set_option linter.unusedVariables false

/-- A byte of a text; 0 behind its end. -/
def byt (s : ByteArray) (i : Nat) : Int := ((s.data.toList.getD i 0).toNat : Int)
theorem byt_bd (s : ByteArray) (i : Nat) : 0 ≤ byt s i ∧ byt s i < 256 := by
  unfold byt
  have := (s.data.toList.getD i 0).toNat_lt
  omega
theorem byt_out (s : ByteArray) (i : Nat) (h : s.size ≤ i) : byt s i = 0 := by
  unfold byt
  have : s.data.toList.length ≤ i := by rw [← Go.Lib.size_eq]; exact h
  simp [List.getD, List.getElem?_eq_none this]
def blkOf (s : ByteArray) (off : Nat) : Nat → Int := fun j => byt s (off + j)
theorem blkOf_bytes (s : ByteArray) (off : Nat) : IsBytes 64 (blkOf s off) := fun j _ => byt_bd s (off + j)
/-- The words ahead of block k. -/
def h0 : Nat → Int := upd beg 0 (xor32 (beg 0) 16842784)
def hseq (s : ByteArray) : Nat → Nat → Int
  | 0 => h0
  | k + 1 => press (hseq s k) (blkOf s (64 * k)) (64 * ((k : Int) + 1)) false
/-- How many blocks stand ahead of the last one. -/
def nbl (s : ByteArray) : Nat := (s.size - 1) / 64
theorem nbl_is {s : ByteArray} {k : Nat} (h : s.size ≤ 64 * k + 64) (h' : k = 0 ∨ 64 * k < s.size) : nbl s = k := by unfold nbl; omega
def hend (s : ByteArray) : Nat → Int := press (hseq s (nbl s)) (blkOf s (64 * nbl s)) s.size true
/-- Bytes of words, the lowest first. -/
def outI (h : Nat → Int) (j : Nat) : Int := h (j / 4) / 256 ^ (j % 4) % 256
def outS (h : Nat → Int) (n : Nat) : ByteArray := strOfNums ((List.range n).map (outI h))
def sumB (s : ByteArray) : ByteArray := outS (hend s) 32
theorem sumB_size (s : ByteArray) : (sumB s).size = 32 := by unfold sumB outS; rw [strOfNums_size]; simp
theorem outS_zero (h : Nat → Int) : outS h 0 = ⟨#[]⟩ := rfl
theorem outS_next (h : Nat → Int) (i : Nat) : outS h (4 * i) ++ strOfNums [h i % 256, h i / 256 % 256, h i / 65536 % 256, h i / 16777216 % 256] = outS h (4 * (i + 1)) := by
  unfold outS
  apply ByteArray.ext
  apply Array.toList_inj.1
  rw [ByteArray.data_append, Array.toList_append, strOfNums_data, strOfNums_data, strOfNums_data, ← List.map_append]
  congr 1
  rw [show 4 * (i + 1) = 4 * i + 1 + 1 + 1 + 1 by omega, List.range_succ, List.range_succ, List.range_succ, List.range_succ]
  simp only [List.map_append, List.map_cons, List.map_nil, List.append_assoc, List.cons_append, List.nil_append]
  have e0 : outI h (4 * i) = h i % 256 := by unfold outI; rw [show 4 * i / 4 = i by omega, show 4 * i % 4 = 0 by omega]; simp
  have e1 : outI h (4 * i + 1) = h i / 256 % 256 := by unfold outI; rw [show (4 * i + 1) / 4 = i by omega, show (4 * i + 1) % 4 = 1 by omega]; simp
  have e2 : outI h (4 * i + 1 + 1) = h i / 65536 % 256 := by unfold outI; rw [show (4 * i + 1 + 1) / 4 = i by omega, show (4 * i + 1 + 1) % 4 = 2 by omega]; rfl
  have e3 : outI h (4 * i + 1 + 1 + 1) = h i / 16777216 % 256 := by unfold outI; rw [show (4 * i + 1 + 1 + 1) / 4 = i by omega, show (4 * i + 1 + 1 + 1) % 4 = 3 by omega]; rfl
  rw [e0, e1, e2, e3]
/-- Texts, one behind the other. -/
def cat (f : Nat → ByteArray) : Nat → ByteArray
  | 0 => ⟨#[]⟩
  | n + 1 => cat f n ++ f n
def lens (f : Nat → ByteArray) : Nat → Nat
  | 0 => 0
  | n + 1 => lens f n + (f n).size
theorem cat_size (f : Nat → ByteArray) : ∀ n, (cat f n).size = lens f n
  | 0 => rfl
  | n + 1 => by rw [cat, ByteArray.size_append, cat_size f n, lens]
theorem lens_mono (f : Nat → ByteArray) (n : Nat) : ∀ m, lens f n ≤ lens f (n + m)
  | 0 => Nat.le_refl _
  | m + 1 => Nat.le_trans (lens_mono f n m) (Nat.le_add_right _ _)
theorem cat_congr {f g : Nat → ByteArray} : ∀ {n : Nat}, (∀ i, i < n → f i = g i) → cat f n = cat g n
  | 0, _ => rfl
  | n + 1, h => by rw [cat, cat, cat_congr (fun i hi => h i (by omega)), h n (by omega)]
/-- A slice of texts, by a letter for its address. -/
def StrA (w : World) (a : Option Addr) (len : Nat) (f : Nat → ByteArray) : Prop :=
  len ≤ maxLen ∧ ∀ k, k < len → ∃ b off : Nat, a = some ⟨b, off, none⟩ ∧ w.cell? ⟨b, off + k, none⟩ = some (.string (f k))
theorem StrA.keep {w w1 : World} {a : Option Addr} {len : Nat} {f : Nat → ByteArray} (h : StrA w a len f) (hb : Below w.heap.size w w1) : StrA w1 a len f :=
  ⟨h.1, fun k hk => by obtain ⟨b, off, e, c⟩ := h.2 k hk; exact ⟨b, off, e, bkeep hb c⟩⟩
/-- The bytes of a piece, as cells. -/
def strCs (s : ByteArray) : List Value := s.data.toList.map fun x => Value.int .u8 (x.toNat : Int)
theorem strCs_len (s : ByteArray) : (strCs s).length = s.size := by unfold strCs; rw [List.length_map, ← Go.Lib.size_eq]
theorem strCs_at (s : ByteArray) (j : Nat) (h : j < s.size) : (strCs s).getD j undef = .int .u8 (byt s j) := by
  have h' : j < s.data.toList.length := by rw [← Go.Lib.size_eq]; exact h
  unfold strCs byt
  simp only [List.getD, List.getElem?_map, List.getElem?_eq_getElem h', Option.map_some, Option.getD_some]
theorem byt_extract (s : ByteArray) (o m j : Nat) (hm : m ≤ s.size) (hj : o + j < m) : byt (s.extract o m) j = byt s (o + j) := by
  unfold byt
  have e : (s.extract o m).data.toList.getD j 0 = s.data.toList.getD (o + j) 0 := by
    rw [ByteArray.data_extract]
    simp only [List.getD, Array.toList_extract, List.extract_eq_drop_take', List.getElem?_drop]
    rw [List.getElem?_take_of_lt (by omega)]
  rw [e]
end Go.Proofs.YthfkfgjhgicfeaaDoor
namespace Go.Proofs.YthfkfgjhgicfeaaDoor
open Go Go.RowKit
set_option linter.unusedVariables false

section
variable {P : Program}
theorem sizeOf_run {e : TypeId} {n : Nat} (hz : (P.info? e).map (·.size) = some n) (w : World) : (Go.sizeOf e).run P w = .ok n w := by
  cases hq : P.info? e with
  | none => simp [hq] at hz
  | some i =>
    have : i.size = n := by simpa [hq] using hz
    simp [Go.sizeOf, typeInfo, hq, this]
theorem strCs_one (t : ByteArray) (m : Nat) : ∀ v ∈ (strCs t).take m, v.oneCell' = true := by
  intro v hv
  have := List.mem_of_mem_take hv
  unfold strCs at this
  obtain ⟨x, _, rfl⟩ := List.mem_map.1 this
  rfl
theorem run_copy_strN (w : World) (dT sT ty elem : TypeId) (g N o dLen dCap m : Nat) (t : ByteArray) (f : Nat → Value)
    (hu : P.underlying dT = some (.slice elem)) (hz : (P.info? elem).map (·.size) = some 1) (hA : Arr w g N f) (hm : Nat.min t.size dLen = m) (hfit : o + m ≤ N) :
    ∃ w', (Builtin.copy_ #[dT, sT] ty #[.slice (some ⟨g, o, none⟩) dLen dCap, .string t]).run P w = .ok (goInt m) w' ∧ But g w w' ∧ Arr w' g N (cop f o ((strCs t).take m)) := by
  have hl : ((strCs t).take m).length = m := by rw [List.length_take, strCs_len]; have := Nat.min_le_left t.size dLen; rw [← hm]; exact Nat.min_eq_left this
  obtain ⟨w', hr, hb, hA'⟩ := run_storeCells_arr P g N o ((strCs t).take m) 0 f w hA (by rw [hl]; simpa using hfit) (strCs_one t m)
  refine ⟨w', ?_, hb, by simpa using hA'⟩
  have hzz := sizeOf_run (P := P) hz
  simp [Builtin.copy_, run_underlying hu, Builtin.lenOf, Builtin.firstCells, hzz, hm]
  unfold strCs at hr
  rw [hr]
  rfl
theorem wpList_copy_strN {ops : Array Oper} {rest : List Oper} {o : Oper} {a : Act} {w : World} {Q : Exit → Act → World → Prop} (hgd : o.guard = none) (d x : Operand) (dT sT : TypeId)
    (hop : o.op = Op.call { callee := Callee.builtin Builtin.copy, args := #[d, x], argTypes := #[dT, sT] }) (elem : TypeId) (hu : P.underlying dT = some (.slice elem)) (hz : (P.info? elem).map (·.size) = some 1)
    (g N off dLen dCap m : Nat) (hd : a.eval d = .slice (some ⟨g, off, none⟩) dLen dCap) (t : ByteArray) (hx : a.eval x = .string t) (f : Nat → Value) (hA : Arr w g N f) (hm : Nat.min t.size dLen = m) (hfit : off + m ≤ N)
    (h : ∀ w', Hid (But g w w') → Hid (Arr w' g N (cop f off ((strCs t).take m))) → wpList P ops Q rest (a.put o.dst (goInt m)) w') : wpList P ops Q (o :: rest) a w :=
  wpList_plain hgd fun K hK => by
    obtain ⟨w', hr, hb, hA'⟩ := run_copy_strN (P := P) w dT sT o.type elem g N off dLen dCap m t f hu hz hA hm hfit
    unfold Oper.wp
    simp [execOp, hop, resolve, invoke, builtin, hd, hx, hr, Result.andThen]
    exact hK _ _ (h w' hb hA')
theorem run_clear_arr (w : World) (t ty e : TypeId) (z : Value) (g N o n c : Nat) (f : Nat → Value) (hu : P.underlying t = some (.slice e)) (hv : (P.info? e).bind (·.zero) = some z) (hz : z.cells = #[z]) (h1 : z.oneCell' = true) (hA : Arr w g N f) (hfit : o + n ≤ N) :
    ∃ w', (Builtin.clear_ #[t] ty #[.slice (some ⟨g, o, none⟩) n c]).run P w = .ok (.tuple #[]) w' ∧ But g w w' ∧ Arr w' g N (cop f o (List.replicate n z)) := by
  rcases Nat.eq_zero_or_pos n with rfl | hn
  · exact ⟨w, by simp [Builtin.clear_, run_underlying hu], But.refl _ _, hA.same fun j _ => (cop_nil f o j).symm⟩
  · refine ⟨_, Go.Lib.run_clear_slice w t e ty z hu (fun w => run_zeroA e z hv) hz h1 g o n c hn (fun j hj => by rw [(hA (o + j) (by omega)).1]; rfl) (fun j hj => (hA (o + j) (by omega)).2), ?_, hA.setCells _ _ (by simpa using hfit)⟩
    have : ∀ (vs : List Value) (o : Nat) (W : World), But g w W → But g w (W.setCells g o vs) := by
      intro vs
      induction vs with
      | nil => intro _ _ h; exact h
      | cons v r ih => intro o W h; exact ih (o + 1) _ (h.setCell (p := ⟨g, o, none⟩) (Or.inl rfl) v)
    exact this _ _ _ (But.refl _ _)
theorem But.cells {g : Nat} {w : World} : ∀ (vs : List Value) (o : Nat) (W : World), But g w W → But g w (W.setCells g o vs)
  | [], _, _, h => h
  | v :: r, o, W, h => But.cells r (o + 1) _ (h.setCell (p := ⟨g, o, none⟩) (Or.inl rfl) v)
theorem wpList_clear_arr {ops : Array Oper} {rest : List Oper} {o : Oper} {a : Act} {w : World} {Q : Exit → Act → World → Prop} (hgd : o.guard = none) (d : Operand) (t : TypeId)
    (hop : o.op = Op.call { callee := Callee.builtin Builtin.clear, args := #[d], argTypes := #[t] }) (e : TypeId) (z : Value) (hu : P.underlying t = some (.slice e)) (hv : (P.info? e).bind (·.zero) = some z) (hz : z.cells = #[z]) (h1 : z.oneCell' = true)
    (g N off n c : Nat) (hd : a.eval d = .slice (some ⟨g, off, none⟩) n c) (f : Nat → Value) (hA : Arr w g N f) (hfit : off + n ≤ N)
    (h : ∀ w', Hid (But g w w') → Hid (Arr w' g N (cop f off (List.replicate n z))) → wpList P ops Q rest (a.put o.dst (.tuple #[])) w') : wpList P ops Q (o :: rest) a w :=
  wpList_plain hgd fun K hK => by
    obtain ⟨w', hr, hb, hA'⟩ := run_clear_arr (P := P) w t o.type e z g N off n c f hu hv hz h1 hA hfit
    unfold Oper.wp
    simp [execOp, hop, resolve, invoke, builtin, hd, hr, Result.andThen]
    exact hK _ _ (h w' hb hA')
end
end Go.Proofs.YthfkfgjhgicfeaaDoor
namespace Go.Proofs.YthfkfgjhgicfeaaDoor
open Go Go.RowKit
set_option linter.unusedVariables false

def strV (f : Nat → ByteArray) (n : Nat) : List Value := (List.range n).map fun j => .string (f j)
theorem strV_len (f : Nat → ByteArray) (n : Nat) : (strV f n).length = n := by simp [strV]
theorem strV_at (f : Nat → ByteArray) (n j : Nat) (u : Value) (h : (strV f n)[j]? = some u) : j < n ∧ u = .string (f j) := by
  have hj : j < n := by
    have := (List.getElem?_eq_some_iff.1 h).1
    simpa [strV] using this
  refine ⟨hj, ?_⟩
  simp [strV, hj] at h
  exact h.symm
theorem wpList_append_str {P : Program} {w : World} {ops : Array Oper} {rest : List Oper} {o : Oper} {a : Act} {Q : Exit → Act → World → Prop} (hw : Region.wanted o (yielded ops a.tmps) = true) (s x : Operand) (t : TypeId)
    (ho : o.op = .call { callee := .builtin .append, args := #[s, x], argTypes := #[t, t] })
    (base : Nat) (e : TypeId) (i : TypeInfo) (z : Value) (bytes : Nat) (ht : P.underlying t = some (.slice e)) (hi : P.info? e = some i) (hz : i.zero = some z)
    (hsize : i.size = 1) (hby : i.bytes = bytes) (hzs : z.cells.size = 1)
    (v : Value) (n : Nat) (xs : List Value) (hs : a.eval s = v) (hown : w.ownsRow base e 1 v n xs) (ax : Option Addr) (m c : Nat) (f : Nat → ByteArray) (hx : a.eval x = .slice ax m c) (hnil : ax = none → m = 0 ∧ c = 0) (hr : StrA w ax m f)
    (h63 : n + m ≤ maxLen) (hbytes : (n + m) * bytes ≤ 140737488355328) (hbase : base ≤ w.heap.size)
    (h : ∀ v' w', w'.ownsRow base e 1 v' (n + m) (xs ++ strV f m) → w.grownBy w' v.ownBlock → wpList P ops Q rest (a.put o.dst v') w') :
    wpList P ops Q (o :: rest) a w := by
  have one : ∀ u ∈ strV f m, u.oneCell' = true := by
    intro u hu
    obtain ⟨j, _, rfl⟩ := List.mem_map.1 hu
    rfl
  cases ax with
  | none =>
    obtain ⟨rfl, rfl⟩ := hnil rfl
    refine wpList_step fun K hK => ?_
    rw [if_pos hw]
    have hrun := run_append_owned_none (P := P) w base t o.type e i 1 ht hi v n xs hown
    unfold Oper.wp execOp
    simp only [ho, resolve, invoke, builtin, Sem.run_bind, Sem.run_pure, Result.andThen_ok, List.map_toArray, List.map_cons, List.map_nil, hs, hx, hrun]
    exact hK _ _ (h v w (by simpa [strV] using hown) (World.grownBy.refl _ _))
  | some ad =>
    refine wpList_step fun K hK => ?_
    rw [if_pos hw]
    refine wp_append_own w s x t ho base e i z 1 bytes ht hi hz hsize hby hzs (by omega) v n xs hs hown ad m c (strV f m) hx (by rw [strV_len]; omega) (fun j u hu => ?_) one h63 hbytes hbase fun v' w' h1 h2 _ => hK _ _ (h v' w' h1 h2)
    obtain ⟨hj, rfl⟩ := strV_at f m j u hu
    obtain ⟨b, off, e1, c1⟩ := hr.2 j hj
    cases e1
    rw [Addr.add_mid]
    exact c1
/-- What such a slice reads as. -/
theorem own_str {w : World} {base : Nat} {e : TypeId} {v : Value} {n : Nat} {f : Nat → ByteArray} (h : w.ownsRow base e 1 v n (strV f n)) (hn : 0 < n) (hm : n ≤ maxLen) : ∃ g c : Nat, v = .slice (some ⟨g, 0, none⟩) n c ∧ StrA w (some ⟨g, 0, none⟩) n f := by
  rcases h.2 with ⟨_, h0⟩ | ⟨g, cap, cur, rfl, hb, hg, hnc, hcm, hcs, htake⟩
  · omega
  · refine ⟨g, cap, rfl, hm, fun k hk => ⟨g, 0, rfl, ?_⟩⟩
    rw [Nat.zero_add, cell_of_row _ _ _ _ _ _ hg]
    have : (strV f n)[k]? = some (.string (f k)) := by simp [strV, hk]
    rw [← htake, Nat.mul_one, List.getElem?_take_of_lt hk] at this
    simpa using this
theorem own_new (W : World) (base : Nat) (s : Value) (e : TypeId) (hb : base ≤ W.heap.size) : (W.alloc (.cells #[s] e)).ownsRow base e 1 (.slice (some ⟨W.heap.size, 0, none⟩) 1 1) 1 [s] :=
  ⟨rfl, .inr ⟨W.heap.size, 1, #[s], rfl, hb, heap_alloc_new W _, Nat.le_refl _, by unfold maxLen; omega, rfl, rfl⟩⟩
end Go.Proofs.YthfkfgjhgicfeaaDoor
namespace Go.Proofs.YthfkfgjhgicfeaaDoor
open Go Go.RowKit
set_option linter.unusedVariables false

theorem or32_comm (a b : Int) : bits .or .u32 a b = bits .or .u32 b a := by
  unfold bits
  show IntKind.u32.wrap (((BitVec.ofInt 32 a ||| BitVec.ofInt 32 b).toNat : Nat) : Int) = IntKind.u32.wrap (((BitVec.ofInt 32 b ||| BitVec.ofInt 32 a).toNat : Nat) : Int)
  rw [BitVec.or_comm]
theorem xor32_comm (a b : Int) : xor32 a b = xor32 b a := by
  unfold xor32 bits
  show IntKind.u32.wrap (((BitVec.ofInt 32 a ^^^ BitVec.ofInt 32 b).toNat : Nat) : Int) = IntKind.u32.wrap (((BitVec.ofInt 32 b ^^^ BitVec.ofInt 32 a).toNat : Nat) : Int)
  rw [BitVec.xor_comm]
theorem xor32_bd (a b : Int) : 0 ≤ xor32 a b ∧ xor32 a b < 4294967296 := by
  unfold xor32 bits
  have := (BitVec.ofInt 32 a ^^^ BitVec.ofInt 32 b).isLt
  show 0 ≤ IntKind.u32.wrap (((BitVec.ofInt 32 a ^^^ BitVec.ofInt 32 b).toNat : Nat) : Int) ∧ IntKind.u32.wrap (((BitVec.ofInt 32 a ^^^ BitVec.ofInt 32 b).toNat : Nat) : Int) < 4294967296
  rw [IntKind.wrap_u32]
  omega
theorem or32_bd (a b : Int) : 0 ≤ bits .or .u32 a b ∧ bits .or .u32 a b < 4294967296 := by
  unfold bits
  have := (BitVec.ofInt 32 a ||| BitVec.ofInt 32 b).isLt
  show 0 ≤ IntKind.u32.wrap (((BitVec.ofInt 32 a ||| BitVec.ofInt 32 b).toNat : Nat) : Int) ∧ IntKind.u32.wrap (((BitVec.ofInt 32 a ||| BitVec.ofInt 32 b).toNat : Nat) : Int) < 4294967296
  rw [IntKind.wrap_u32]
  omega
theorem xor32_assoc (a b c : Int) : xor32 (xor32 a b) c = xor32 a (xor32 b c) := by
  have st : ∀ x : BitVec 32, BitVec.ofInt 32 (IntKind.u32.wrap ((x.toNat : Nat) : Int)) = x := by
    intro x
    rw [IntKind.wrap_u32]
    have := x.isLt
    rw [show ((x.toNat : Nat) : Int) % 4294967296 = ((x.toNat : Nat) : Int) by omega, BitVec.ofInt_natCast, BitVec.ofNat_toNat, BitVec.setWidth_eq]
  unfold xor32 bits
  show IntKind.u32.wrap (((BitVec.ofInt 32 (IntKind.u32.wrap (((BitVec.ofInt 32 a ^^^ BitVec.ofInt 32 b).toNat : Nat) : Int)) ^^^ BitVec.ofInt 32 c).toNat : Nat) : Int) = IntKind.u32.wrap (((BitVec.ofInt 32 a ^^^ BitVec.ofInt 32 (IntKind.u32.wrap (((BitVec.ofInt 32 b ^^^ BitVec.ofInt 32 c).toNat : Nat) : Int))).toNat : Nat) : Int)
  rw [st, st, BitVec.xor_assoc]
/-- Turned up by 32 - n, down by n: the same. -/
theorem rot_left (x : Int) (n : Nat) (hn : n ≤ 32) : bits .or .u32 (IntKind.u32.wrap (x * 2 ^ (32 - n))) (x / 2 ^ n) = rot32 x n := or32_comm _ _
/-- Texts of bits side by side. -/
theorem or_add (k : Nat) (P Z : Nat) (hZ : Z < 2 ^ k) (hP : P * 2 ^ k < 4294967296) (hk : k ≤ 32) : bits .or .u32 ((P * 2 ^ k : Nat) : Int) (Z : Int) = ((P * 2 ^ k + Z : Nat) : Int) := by
  have hz : Z < 4294967296 := Nat.lt_of_lt_of_le hZ (Nat.pow_le_pow_right (n := 2) (by decide) hk)
  have e : P * 2 ^ k ||| Z = P * 2 ^ k + Z := by
    have := Nat.two_pow_add_eq_or_of_lt (i := k) (b := Z) hZ P
    rw [Nat.mul_comm P]
    exact this.symm
  have h1 : (BitVec.ofInt 32 ((P * 2 ^ k : Nat) : Int) ||| BitVec.ofInt 32 (Z : Int)).toNat = P * 2 ^ k + Z := by
    rw [BitVec.toNat_or, BitVec.ofInt_natCast, BitVec.ofInt_natCast, BitVec.toNat_ofNat, BitVec.toNat_ofNat, Nat.mod_eq_of_lt hP, Nat.mod_eq_of_lt hz, e]
  have hlt : P * 2 ^ k + Z < 4294967296 := by
    rw [← h1]; exact (BitVec.ofInt 32 ((P * 2 ^ k : Nat) : Int) ||| BitVec.ofInt 32 (Z : Int)).isLt
  unfold bits
  show IntKind.u32.wrap (((BitVec.ofInt 32 ((P * 2 ^ k : Nat) : Int) ||| BitVec.ofInt 32 (Z : Int)).toNat : Nat) : Int) = _
  rw [h1, IntKind.wrap_u32]
  omega
/-- Four bytes put together from below: b0 | b1 << 8 | b2 << 16 | b3 << 24. -/
theorem word_up (b0 b1 b2 b3 : Int) (h0 : 0 ≤ b0 ∧ b0 < 256) (h1 : 0 ≤ b1 ∧ b1 < 256) (h2 : 0 ≤ b2 ∧ b2 < 256) (h3 : 0 ≤ b3 ∧ b3 < 256) :
    bits .or .u32 (bits .or .u32 (bits .or .u32 b0 (IntKind.u32.wrap (b1 * 256))) (IntKind.u32.wrap (b2 * 65536))) (IntKind.u32.wrap (b3 * 16777216)) = b0 + 256 * (b1 + 256 * (b2 + 256 * b3)) := by
  obtain ⟨B0, rfl⟩ := Int.eq_ofNat_of_zero_le h0.1
  obtain ⟨B1, rfl⟩ := Int.eq_ofNat_of_zero_le h1.1
  obtain ⟨B2, rfl⟩ := Int.eq_ofNat_of_zero_le h2.1
  obtain ⟨B3, rfl⟩ := Int.eq_ofNat_of_zero_le h3.1
  simp only [IntKind.wrap_u32]
  have e1 := or_add 8 B1 B0 (by omega) (by omega) (by decide)
  have e2 := or_add 16 B2 (B1 * 256 + B0) (by omega) (by omega) (by decide)
  have e3 := or_add 24 B3 (B2 * 65536 + (B1 * 256 + B0)) (by omega) (by omega) (by decide)
  simp only [show (2 : Nat) ^ 8 = 256 from rfl, show (2 : Nat) ^ 16 = 65536 from rfl, show (2 : Nat) ^ 24 = 16777216 from rfl] at e1 e2 e3
  rw [show ((B1 : Nat) : Int) * 256 % 4294967296 = ((B1 * 256 : Nat) : Int) by omega, show ((B2 : Nat) : Int) * 65536 % 4294967296 = ((B2 * 65536 : Nat) : Int) by omega, show ((B3 : Nat) : Int) * 16777216 % 4294967296 = ((B3 * 16777216 : Nat) : Int) by omega]
  rw [or32_comm ((B0 : Nat) : Int), e1, or32_comm (((B1 * 256 + B0 : Nat)) : Int), e2, or32_comm (((B2 * 65536 + (B1 * 256 + B0) : Nat)) : Int), e3]
  omega
theorem add32_right (a b x : Int) : IntKind.u32.wrap (a + IntKind.u32.wrap (b + x)) = add32 (add32 a b) x := by unfold add32; simp only [IntKind.wrap_u32]; omega
theorem add32_bd (a b : Int) : 0 ≤ add32 a b ∧ add32 a b < 4294967296 := by unfold add32; rw [IntKind.wrap_u32]; omega
/-- What a press answers is words. -/
theorem press_bd (h b : Nat → Int) (n : Int) (last : Bool) (j : Nat) : 0 ≤ press h b n last j ∧ press h b n last j < 4294967296 := by
  unfold press; exact xor32_bd _ _
end Go.Proofs.YthfkfgjhgicfeaaDoor
namespace Go.Proofs.YthfkfgjhgicfeaaDoor
open Go Go.RowKit
set_option linter.unusedVariables false

def fl (L : List Int) : Nat → Int := fun j => L.getD j 0
theorem upd_fl (L : List Int) (i : Nat) (v : Int) (h : i < L.length) : upd (fl L) i v = fl (L.set i v) := by
  funext j
  unfold upd fl
  by_cases hj : j = i
  · subst hj; simp [h]
  · rw [if_neg hj]; simp [List.getD, Ne.symm hj]
def mixL (L : List Int) (a b c d : Nat) (x y : Int) : List Int :=
  let L := L.set a (add32 (add32 (fl L a) (fl L b)) x)
  let L := L.set d (rot32 (xor32 (fl L d) (fl L a)) 16)
  let L := L.set c (add32 (fl L c) (fl L d))
  let L := L.set b (rot32 (xor32 (fl L b) (fl L c)) 12)
  let L := L.set a (add32 (add32 (fl L a) (fl L b)) y)
  let L := L.set d (rot32 (xor32 (fl L d) (fl L a)) 8)
  let L := L.set c (add32 (fl L c) (fl L d))
  L.set b (rot32 (xor32 (fl L b) (fl L c)) 7)
theorem mixL_len (L : List Int) (a b c d : Nat) (x y : Int) : (mixL L a b c d x y).length = L.length := by simp [mixL]
theorem mixL_is (L : List Int) (a b c d : Nat) (x y : Int) (hL : L.length = 16) (ha : a < 16) (hb : b < 16) (hc : c < 16) (hd : d < 16) : mixf (fl L) a b c d x y = fl (mixL L a b c d x y) := by
  unfold mixf mix1 mix2 mix3 mixL
  simp only []
  rw [upd_fl L a _ (by omega), upd_fl _ d _ (by simp; omega), upd_fl _ c _ (by simp; omega), upd_fl _ b _ (by simp; omega), upd_fl _ a _ (by simp; omega), upd_fl _ d _ (by simp; omega), upd_fl _ c _ (by simp; omega), upd_fl _ b _ (by simp; omega)]
def roundL (m : Nat → Int) (r : Nat) (L : List Int) : List Int :=
  let M := fun (L : List Int) k a b c d => mixL L a b c d (m (ord r (2 * k))) (m (ord r (2 * k + 1)))
  M (M (M (M (M (M (M (M L 0 0 4 8 12) 1 1 5 9 13) 2 2 6 10 14) 3 3 7 11 15) 4 0 5 10 15) 5 1 6 11 12) 6 2 7 8 13) 7 3 4 9 14
theorem roundL_len (m : Nat → Int) (r : Nat) (L : List Int) : (roundL m r L).length = L.length := by simp only [roundL, mixL_len]
theorem roundL_is (m : Nat → Int) (r : Nat) (L : List Int) (hL : L.length = 16) : roundf m r (fl L) = fl (roundL m r L) := by
  unfold roundf roundL mixAt
  simp only []
  rw [mixL_is L _ _ _ _ _ _ hL (by decide) (by decide) (by decide) (by decide)]
  iterate 7 rw [mixL_is _ _ _ _ _ _ _ (by simp only [mixL_len]; exact hL) (by decide) (by decide) (by decide) (by decide)]
def roundsL (m : Nat → Int) : Nat → List Int → List Int
  | 0, L => L
  | r + 1, L => roundL m r (roundsL m r L)
theorem roundsL_len (m : Nat → Int) (L : List Int) : ∀ r, (roundsL m r L).length = L.length
  | 0 => rfl
  | r + 1 => by rw [roundsL, roundL_len, roundsL_len m L r]
theorem roundsL_is (m : Nat → Int) (L : List Int) (hL : L.length = 16) : ∀ r, rounds m r (fl L) = fl (roundsL m r L)
  | 0 => rfl
  | r + 1 => by rw [rounds, roundsL_is m L hL r, roundsL, roundL_is _ _ _ (by rw [roundsL_len]; exact hL)]
theorem rounds_low (m : Nat → Int) {v u : Nat → Int} (h : ∀ j, j < 16 → v j = u j) : ∀ r j, j < 16 → rounds m r v j = rounds m r u j := by
  have key : ∀ (v u : Nat → Int) (a b c d : Nat) (x y : Int), (∀ j, j < 16 → v j = u j) → a < 16 → b < 16 → c < 16 → d < 16 → ∀ j, j < 16 → mixf v a b c d x y j = mixf u a b c d x y j := by
    have st : ∀ (v u : Nat → Int) (i : Nat) (p q : Int), (∀ j, j < 16 → v j = u j) → p = q → ∀ j, j < 16 → upd v i p j = upd u i q j := by
      intro v u i p q h hpq j hj
      subst hpq
      unfold upd
      split
      · rfl
      · exact h j hj
    intro v u a b c d x y h ha hb hc hd
    unfold mixf
    have m1 : ∀ (v u : Nat → Int) a b x, (∀ j, j < 16 → v j = u j) → a < 16 → b < 16 → ∀ j, j < 16 → mix1 v a b x j = mix1 u a b x j := fun v u a b x h ha hb => by
      unfold mix1; exact st v u a _ _ h (by rw [h a ha, h b hb])
    have m2 : ∀ (v u : Nat → Int) d a n, (∀ j, j < 16 → v j = u j) → d < 16 → a < 16 → ∀ j, j < 16 → mix2 v d a n j = mix2 u d a n j := fun v u d a n h hd ha => by
      unfold mix2; exact st v u d _ _ h (by rw [h d hd, h a ha])
    have m3 : ∀ (v u : Nat → Int) c d, (∀ j, j < 16 → v j = u j) → c < 16 → d < 16 → ∀ j, j < 16 → mix3 v c d j = mix3 u c d j := fun v u c d h hc hd => by
      unfold mix3; exact st v u c _ _ h (by rw [h c hc, h d hd])
    exact m2 _ _ _ _ _ (m3 _ _ _ _ (m2 _ _ _ _ _ (m1 _ _ _ _ _ (m2 _ _ _ _ _ (m3 _ _ _ _ (m2 _ _ _ _ _ (m1 _ _ _ _ _ h ha hb) hd ha) hc hd) hb hc) ha hb) hd ha) hc hd) hb hc
  intro r
  induction r with
  | zero => exact h
  | succ r ih =>
    unfold rounds roundf mixAt
    exact key _ _ _ _ _ _ _ _ (key _ _ _ _ _ _ _ _ (key _ _ _ _ _ _ _ _ (key _ _ _ _ _ _ _ _ (key _ _ _ _ _ _ _ _ (key _ _ _ _ _ _ _ _ (key _ _ _ _ _ _ _ _ (key _ _ _ _ _ _ _ _ ih (by decide) (by decide) (by decide) (by decide)) (by decide) (by decide) (by decide) (by decide)) (by decide) (by decide) (by decide) (by decide)) (by decide) (by decide) (by decide) (by decide)) (by decide) (by decide) (by decide) (by decide)) (by decide) (by decide) (by decide) (by decide)) (by decide) (by decide) (by decide) (by decide)) (by decide) (by decide) (by decide) (by decide)
/-- A press, by lists. -/
def pressL (h b : Nat → Int) (n : Int) (last : Bool) : List Int :=
  let R := roundsL (le4 b) 10 ((List.range 16).map (vfirst h n last))
  (List.range 8).map fun j => xor32 (xor32 (h j) (fl R j)) (fl R (j + 8))
theorem pressL_is (h b : Nat → Int) (n : Int) (last : Bool) (j : Nat) (hj : j < 8) : press h b n last j = fl (pressL h b n last) j := by
  have hv : ∀ i, i < 16 → vfirst h n last i = fl ((List.range 16).map (vfirst h n last)) i := fun i hi => by unfold fl; simp [List.getD, hi]
  have e : ∀ i, i < 16 → rounds (le4 b) 10 (vfirst h n last) i = fl (roundsL (le4 b) 10 ((List.range 16).map (vfirst h n last))) i := fun i hi => by
    rw [rounds_low (le4 b) hv 10 i hi, roundsL_is _ _ (by simp)]
  unfold press
  rw [e j (by omega), e (j + 8) (by omega)]
  unfold pressL fl
  simp [List.getD, hj]
abbrev abc : ByteArray := ⟨#[97, 98, 99]⟩
abbrev abcSum : ByteArray := ⟨#[80, 140, 94, 140, 50, 124, 20, 226, 225, 167, 43, 163, 78, 235, 69, 47, 55, 69, 139, 32, 158, 214, 58, 41, 77, 153, 155, 76, 134, 103, 89, 130]⟩
theorem out_congr {h g : Nat → Int} (e : ∀ j, j < 8 → h j = g j) : outS h 32 = outS g 32 := by
  unfold outS
  congr 1
  refine List.map_congr_left fun j hj => ?_
  have := List.mem_range.1 hj
  unfold outI
  rw [e (j / 4) (by omega)]
theorem abc_press : pressL h0 (blkOf abc 0) 3 true = [2355006544, 3792993330, 2737547233, 793111374, 545998135, 691721886, 1285265741, 2186897286] := by decide +kernel
theorem abc_sum : sumB abc = abcSum := by
  have e : ∀ j, j < 8 → hend abc j = fl (pressL h0 (blkOf abc 0) 3 true) j := fun j hj => by
    show press (hseq abc (nbl abc)) (blkOf abc (64 * nbl abc)) _ true j = _
    rw [show nbl abc = 0 from rfl]
    exact pressL_is h0 (blkOf abc 0) 3 true j hj
  unfold sumB
  rw [out_congr e, abc_press]
  decide +kernel
end Go.Proofs.YthfkfgjhgicfeaaDoor
namespace Go.Proofs.YthfkfgjhgicfeaaDoor
open Go Go.RowKit
set_option linter.unusedVariables false

theorem w32_all (n : Nat) (f : Nat → Int) : (cellsA n (w32 f)).all (·.oneCell') = true := by
  rw [Array.all_eq_true]
  intro i hi
  simp [cellsA]
  rfl
/-- What stands through all of it: the words ahead, the bytes, the result's place. -/
def PSt (w : World) (h b : Nat → Int) (W : World) : Prop := Below w.heap.size w W ∧ Arr W w.heap.size 8 (w32 h) ∧ Arr W (w.heap.size + 1) 64 (w8 b) ∧ Arr W (w.heap.size + 2) 8 (fun _ => .int .u32 0) ∧ w.heap.size + 2 < W.heap.size
theorem PSt.keep {w W W' : World} {h b : Nat → Int} (s : PSt w h b W) (hb : Below W.heap.size W W') : PSt w h b W' := ⟨bthen s.1 hb, s.2.1.keep hb, s.2.2.1.keep hb, s.2.2.2.1.keep hb, Nat.lt_of_lt_of_le s.2.2.2.2 hb.size⟩
theorem PSt.alloc {w W : World} {h b : Nat → Int} (s : PSt w h b W) (o : Obj) : PSt w h b (W.alloc o) := s.keep ((Below.refl _ _).alloc (Nat.le_refl _) o)
theorem PSt.far {w W : World} {h b : Nat → Int} (s : PSt w h b W) {g : Nat} (hg : w.heap.size + 2 < g) (o : Nat) (v : Value) : PSt w h b (W.setCell ⟨g, o, none⟩ v) :=
  ⟨s.1.setCell (by show w.heap.size ≤ g; omega) _, s.2.1.far (by omega) _ _, s.2.2.1.far (by omega) _ _, s.2.2.2.1.far (by omega) _ _, by simpa using s.2.2.2.2⟩
theorem PSt.but {w W W' : World} {h b : Nat → Int} (s : PSt w h b W) {g : Nat} (hg : w.heap.size + 2 < g) (hb : But g W W') : PSt w h b W' :=
  ⟨But.below s.1 hb (by omega) s.1.size, hb.arr s.2.1 (by omega), hb.arr s.2.2.1 (by omega), hb.arr s.2.2.2.1 (by omega), Nat.lt_of_lt_of_le s.2.2.2.2 hb.size⟩
theorem PSt.start (w : World) (h b : Nat → Int) (t1 t2 t3 : TypeId) (c : Array Value) (hc : c = Array.replicate 8 (.int .u32 0)) : PSt w h b (((w.alloc (.cells (cellsA 8 (w32 h)) t1)).alloc (.cells (cellsA 64 (w8 b)) t2)).alloc (.cells c t3)) := by
  have a1 := Arr.box w 8 (w32 h) t1
  have b1 := (Below.refl w.heap.size w).alloc (Nat.le_refl _) (.cells (cellsA 8 (w32 h)) t1)
  have s1 : (w.alloc (.cells (cellsA 8 (w32 h)) t1)).heap.size = w.heap.size + 1 := by simp
  generalize w.alloc (.cells (cellsA 8 (w32 h)) t1) = w1 at *
  have a2 := Arr.box w1 64 (w8 b) t2
  have s2 : (w1.alloc (.cells (cellsA 64 (w8 b)) t2)).heap.size = w.heap.size + 2 := by simp [s1]
  have b2 := b1.alloc (by omega) (.cells (cellsA 64 (w8 b)) t2)
  replace a1 := a1.alloc (.cells (cellsA 64 (w8 b)) t2)
  generalize w1.alloc (.cells (cellsA 64 (w8 b)) t2) = w2 at *
  have a3 := Arr.zeros w2 8 (.int .u32 0) c t3 hc
  have s3 : (w2.alloc (.cells c t3)).heap.size = w.heap.size + 3 := by simp [s2]
  rw [s1] at a2
  rw [s2] at a3
  exact ⟨b2.alloc (by omega) _, a1.alloc _, a2.alloc _, a3, by omega⟩
theorem PSt.cells {w W : World} {h b : Nat → Int} (s : PSt w h b W) {g : Nat} (hg : w.heap.size + 2 < g) (vs : List Value) (o : Nat := 0) : PSt w h b (W.setCells g o vs) :=
  ⟨belowCells s.1 _ (by omega) _ _, Arr.farCells (by omega) _ _ s.2.1, Arr.farCells (by omega) _ _ s.2.2.1, Arr.farCells (by omega) _ _ s.2.2.2.1, by rw [setCells_size]; exact s.2.2.2.2⟩
theorem PSt.drew {w W : World} {h b : Nat → Int} (s : PSt w h b W) : PSt w h b W.drew := ⟨s.1.drew, s.2.1, s.2.2.1, s.2.2.2.1, s.2.2.2.2⟩
/-- The block's words so far. -/
def mrow (b : Nat → Int) (i t j : Nat) : Int := if j < i then le4 b j else if j = i then part b i t else 0
theorem mrow_at (b : Nat → Int) (i t : Nat) : mrow b i t i = part b i t := by unfold mrow; rw [if_neg (by omega), if_pos rfl]
theorem mrow_set (b : Nat → Int) (i t : Nat) : ∀ j, (if j = i then Value.int .u32 (part b i (t + 1)) else w32 (mrow b i t) j) = w32 (mrow b i (t + 1)) j := by
  intro j
  show _ = Value.int .u32 (mrow b i (t + 1) j)
  unfold mrow
  by_cases h : j = i
  · subst h; rw [if_pos rfl, if_neg (by omega), if_pos rfl]
  · rw [if_neg h, if_neg h]
    show Value.int .u32 (mrow b i t j) = _
    unfold mrow; rw [if_neg h]
theorem mrow_next (b : Nat → Int) (i : Nat) : ∀ j, w32 (mrow b i 4) j = w32 (mrow b (i + 1) 0) j := by
  intro j
  show Value.int .u32 (mrow b i 4 j) = Value.int .u32 (mrow b (i + 1) 0 j)
  unfold mrow
  by_cases h : j < i
  · rw [if_pos h, if_pos (by omega)]
  · by_cases h' : j = i
    · subst h'; rw [if_neg h, if_pos rfl, if_pos (by omega), part_four]
    · rw [if_neg h, if_neg h', if_neg (by omega)]
      split <;> rfl
/-- The sixteen words so far. -/
def vrow (h : Nat → Int) (i j : Nat) : Int := if j < i then h j else if 8 ≤ j ∧ j < 8 + i then beg (j - 8) else 0
theorem vrow_set (h : Nat → Int) (i : Nat) (hi : i < 8) : ∀ j, (if j = i + 8 then Value.int .u32 (beg i) else if j = i then Value.int .u32 (h i) else w32 (vrow h i) j) = w32 (vrow h (i + 1)) j := by
  intro j
  show _ = Value.int .u32 (vrow h (i + 1) j)
  unfold vrow
  by_cases h1 : j = i + 8
  · subst h1; rw [if_pos rfl, if_neg (by omega), if_pos (by omega)]; congr 2
  · rw [if_neg h1]
    by_cases h2 : j = i
    · subst h2; rw [if_pos rfl, if_pos (by omega)]
    · rw [if_neg h2]
      show Value.int .u32 (vrow h i j) = _
      unfold vrow
      by_cases h3 : j < i
      · rw [if_pos h3, if_pos (show j < i + 1 by omega)]
      · rw [if_neg h3, if_neg (show ¬ j < i + 1 by omega)]
        by_cases h4 : 8 ≤ j ∧ j < 8 + i
        · rw [if_pos h4, if_pos (show 8 ≤ j ∧ j < 8 + (i + 1) by omega)]
        · rw [if_neg h4, if_neg (show ¬ (8 ≤ j ∧ j < 8 + (i + 1)) by omega)]
theorem vrow_end (h : Nat → Int) : ∀ j, j < 16 → w32 (vrow h 8) j = w32 (vbase h) j := by
  intro j hj
  show Value.int .u32 (vrow h 8 j) = Value.int .u32 (vbase h j)
  unfold vrow vbase
  by_cases h1 : j < 8
  · rw [if_pos h1, if_pos h1]
  · rw [if_neg h1, if_neg h1, if_pos (by omega)]
def hrow (h p : Nat → Int) (i j : Nat) : Int := if j < i then p j else h j
theorem hrow_set (h p : Nat → Int) (i : Nat) : ∀ j, (if j = i then Value.int .u32 (p i) else w32 (hrow h p i) j) = w32 (hrow h p (i + 1)) j := by
  intro j
  show _ = Value.int .u32 (hrow h p (i + 1) j)
  unfold hrow
  by_cases h1 : j = i
  · subst h1; rw [if_pos rfl, if_pos (by omega)]
  · rw [if_neg h1]
    show Value.int .u32 (hrow h p i j) = _
    unfold hrow
    by_cases h2 : j < i
    · rw [if_pos h2, if_pos (by omega)]
    · rw [if_neg h2, if_neg (by omega)]
def PLoop1 (w : World) (h b : Nat → Int) (gm : Nat) (s : Value) (W : World) : Prop := ∃ i : Nat, i ≤ 16 ∧ s = .int .i64 i ∧ PSt w h b W ∧ Arr W gm 16 (w32 (mrow b i 0))
def PLoop2 (w : World) (h b : Nat → Int) (gm i : Nat) (s : Value) (W : World) : Prop := ∃ t : Nat, t ≤ 4 ∧ s = .int .i64 (3 - (t : Int)) ∧ PSt w h b W ∧ Arr W gm 16 (w32 (mrow b i t))
theorem cast_0 : ((0 : Nat) : Int) = 0 := rfl
theorem cast_1 : ((1 : Nat) : Int) = 1 := rfl
theorem cast_2 : ((2 : Nat) : Int) = 2 := rfl
theorem cast_3 : ((3 : Nat) : Int) = 3 := rfl
theorem cast_4 : ((4 : Nat) : Int) = 4 := rfl
theorem cast_5 : ((5 : Nat) : Int) = 5 := rfl
theorem cast_6 : ((6 : Nat) : Int) = 6 := rfl
theorem cast_7 : ((7 : Nat) : Int) = 7 := rfl
theorem cast_8 : ((8 : Nat) : Int) = 8 := rfl
theorem cast_9 : ((9 : Nat) : Int) = 9 := rfl
theorem cast_10 : ((10 : Nat) : Int) = 10 := rfl
theorem cast_11 : ((11 : Nat) : Int) = 11 := rfl
theorem cast_12 : ((12 : Nat) : Int) = 12 := rfl
theorem cast_13 : ((13 : Nat) : Int) = 13 := rfl
theorem cast_14 : ((14 : Nat) : Int) = 14 := rfl
theorem cast_15 : ((15 : Nat) : Int) = 15 := rfl
/-- At the end: the answer so far. -/
def PSt5 (w : World) (h p : Nat → Int) (i : Nat) (W : World) : Prop := Below w.heap.size w W ∧ Arr W w.heap.size 8 (w32 (hrow h p i)) ∧ Arr W (w.heap.size + 2) 8 (fun _ => .int .u32 0)
def PLoop5 (w : World) (h p u : Nat → Int) (gv : Nat) (s : Value) (W : World) : Prop := ∃ i : Nat, i ≤ 8 ∧ s = .int .i64 i ∧ PSt5 w h p i W ∧ Arr W gv 16 (w32 u)
def PLoop4 (w : World) (h b : Nat → Int) (gm gv : Nat) (v : Nat → Int) (s : Value) (W : World) : Prop := ∃ r : Nat, r ≤ 10 ∧ s = .int .i64 r ∧ PSt w h b W ∧ Arr W gm 16 (w32 (le4 b)) ∧ Arr W gv 16 (w32 (rounds (le4 b) r v))
def PLoop3 (w : World) (h b : Nat → Int) (gm gv gb : Nat) (s : Value) (W : World) : Prop := ∃ i : Nat, i ≤ 8 ∧ s = .int .i64 i ∧ PSt w h b W ∧ Arr W gm 16 (w32 (le4 b)) ∧ Arr W gv 16 (w32 (vrow h i)) ∧ Arr W gb 8 (w32 beg)
end Go.Proofs.YthfkfgjhgicfeaaDoor
