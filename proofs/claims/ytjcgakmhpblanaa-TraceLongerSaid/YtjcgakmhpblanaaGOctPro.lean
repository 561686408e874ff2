/-
  OPut: The program's Row, Pairs and Eight: bytes that are laid down one by one behind those of a row of the call's own.
  OPutQ: The program's Pairs.
  ONum: The program's Number: the bytes put together from the lowest up.
  ORead: The program's ReadRow.
  OReadQ: The program's ReadPairs.
-/
import Derived.Test.YtjcgakmhpblanaaGOct
import Derived.Test.YtjcgakmhpblanaaGRow
import Derived.Laws.BytesArg
import Derived.Laws.OwnMore
import Derived.Laws.MakeOwn
namespace Go.Proofs.Ytjcgakmhpblanaa
open Go Go.RowKit Go.Sort Go.BigFrame
set_option linter.unusedVariables false

/-- A slice of bytes that is put together since the world W. -/
def MadeB (W w : World) (v : Value) (xs : List Int) : Prop := w.ownsRow W.heap.size 5 1 v xs.length (xs.map (Value.int .u8)) ∧ Below W.heap.size W w
theorem MadeB.keep {W w w' : World} {v : Value} {xs : List Int} (h : MadeB W w v xs) (hb : Below w.heap.size w w') : MadeB W w' v xs := ⟨own_keep h.1 hb, bthen h.2 hb⟩
theorem MadeB.step {W w w1 : World} {v v' : Value} {xs : List Int} {z : Int} (h : MadeB W w v xs)
    (hown : w1.ownsRow W.heap.size 5 1 v' (xs.length + 1) (xs.map (Value.int .u8) ++ [.int .u8 z])) (hg : w.grownBy w1 v.ownBlock) : MadeB W w1 v' (xs ++ [z]) :=
  ⟨by rw [List.length_append, List.map_append]; exact hown, h.2.grown hg h.2.size (own_ge h.1)⟩
/-- The bytes of a number, so many. -/
def octs (n : Int) (i : Nat) : List Int := (List.range i).map (oct n)
theorem octs_next (n : Int) (i : Nat) : octs n i ++ [oct n i] = octs n (i + 1) := by simp [octs, List.range_succ]
theorem octs_len (n : Int) (i : Nat) : (octs n i).length = i := by simp [octs]
theorem strOf_app (xs ys : List Int) : strOfNums (xs ++ ys) = strOfNums xs ++ strOfNums ys := by
  apply ByteArray.ext
  rw [ByteArray.data_append]
  simp [strOfNums]
theorem strOf_octs (xs : List Int) (n : Int) : strOfNums (xs ++ octs n 8) = strOfNums xs ++ eightB n := strOf_app _ _
theorem MadeB.text {W w : World} {v : Value} {xs : List Int} (h : MadeB W w v xs) : (v = .slice none 0 0 ∧ xs = []) ∨ ∃ g cap, v = .slice (some ⟨g, 0, none⟩) xs.length cap ∧ ∀ i, i < xs.length → w.cell? ⟨g, 0 + i, none⟩ = some (.int .u8 (xs.getD i 0)) := by
  rcases h.1.2 with ⟨rfl, h0⟩ | ⟨g, cap, cur, rfl, _⟩
  · exact Or.inl ⟨rfl, List.eq_nil_of_length_eq_zero h0⟩
  · refine Or.inr ⟨g, cap, rfl, fun i hi => ?_⟩
    have := h.1.cells (g := g) rfl i (.int .u8 (xs.getD i 0)) (by simp [List.getD, hi])
    rwa [Addr.add_lit] at this
def PutRel (w : World) (n : Int) (xs : List Int) (W0 : World) (v s m i : Value) (W : World) : Prop := ∃ k : Nat, k ≤ 8 ∧ i = .int .i64 k ∧ m = .int .u64 (n / 256 ^ k) ∧ MadeB w W s (xs ++ octs n k) ∧ Grew W0 W v s
theorem make_bytes (c : Nat) (hc : c ≤ 2000000) (W : World) : (Instr.makeSlice 81 (.int .i64 0) (.int .i64 (c : Int))).run Try.prog W = .ok (.slice (some ⟨W.heap.size, 0, none⟩) 0 c) (W.alloc (.cells (madeCells #[.int .u8 0] c) 5)) := by
  obtain ⟨i0, hi, hz0, hz1, hz2⟩ := info_parts info8
  have h := run_make (P := Try.prog) W 81 5 i0 (.int .u8 0) Try.underlying81 hi hz0 .i64 .i64 0 c (by omega) (by omega) (by rw [hz2]; omega) (by omega)
  rw [h, hz1]
  simp only [Int.toNat_natCast, Nat.mul_one]
  rfl
theorem MadeB.made (W : World) (c : Nat) (hc : c ≤ 2000000) : MadeB W (W.alloc (.cells (madeCells #[.int .u8 0] c) 5)) (.slice (some ⟨W.heap.size, 0, none⟩) 0 c) [] :=
  ⟨World.ownsRow_made W _ c (Nat.le_refl _) (by unfold maxLen; omega) (by have := size_madeCells #[Value.int .u8 0] c; simpa using this), (Below.refl _ _).alloc (Nat.le_refl _) _⟩
/-- The bytes of a row, so many numbers of it. -/
def rowL (zs : List Int) : Nat → List Int
  | 0 => []
  | k + 1 => rowL zs k ++ octs (zs.getD k 0) 8
theorem rowL_len (zs : List Int) : ∀ k, (rowL zs k).length = 8 * k
  | 0 => rfl
  | k + 1 => by rw [rowL, List.length_append, rowL_len zs k, octs_len]; omega
theorem rowL_text (zs : List Int) : ∀ k, strOfNums (rowL zs k) = rowT zs k
  | 0 => rfl
  | k + 1 => by rw [rowL, strOf_octs, rowL_text zs k, rowT_next]
def RowRel (w : World) (zs : List Int) (s i : Value) (W : World) : Prop := ∃ k : Nat, k ≤ zs.length ∧ i = .int .i64 k ∧ MadeB w W s (rowL zs k)
theorem rowB_one (n : Int) : rowB [n] = eightB n := by
  refine byt_ext _ _ (by rw [rowB_size, eightB_size]; rfl) fun j hj => ?_
  rw [rowB_size] at hj
  simp only [List.length_cons, List.length_nil] at hj
  have := byt_cat [n] 1 0 j (by omega) (by omega)
  simp only [Nat.mul_zero, Nat.zero_add] at this
  unfold rowB
  rw [show [n].length = 1 from rfl, this, byt_eight _ _ (by omega)]
  rfl
end Go.Proofs.Ytjcgakmhpblanaa
namespace Go.Proofs.Ytjcgakmhpblanaa
open Go Go.RowKit Go.Sort Go.BigFrame
set_option linter.unusedVariables false

/-- The row under way, while the region of the two calls runs. -/
def curB (D : Nat → Bool) (σ : Nat → Value) (v : Value) : Value := if D 22 = true then σ 22 else if D 19 = true then σ 19 else v
def curX (D : Nat → Bool) (xs : List Int) (x y : Int) : List Int := if D 22 = true then xs ++ octs x 8 ++ octs y 8 else if D 19 = true then xs ++ octs x 8 else xs
structure PutsW (w : World) (v : Value) (xs : List Int) (g : Nat) (x y : Int) (val : Nat → Value) (D : Nat → Bool) (σ : Nat → Value) (W : World) : Prop where
  var : Var W g x y
  row : MadeB w W (curB D σ v) (curX D xs x y)
  far : (curB D σ v).ownBlock ≠ some g
  ord : D 22 = true → D 19 = true
  sv : ∀ d, d ∈ [16, 17, 18, 20, 21] → D d = true → σ d = val d
section
variable {w : World} {v : Value} {xs : List Int} {g : Nat} {x y : Int} {val : Nat → Value} {D : Nat → Bool} {σ : Nat → Value} {W : World}
theorem PutsW.start (h : MadeB w W v xs) (hv : Var W g x y) (hf : v.ownBlock ≠ some g) (σ : Nat → Value) : PutsW w v xs g x y val (fun _ => false) σ W :=
  ⟨hv, h, hf, fun h => absurd h Bool.false_ne_true, fun d _ h => absurd h Bool.false_ne_true⟩
theorem PutsW.next (h : PutsW w v xs g x y val D σ W) {d : Nat} {u : Value} (h0 : d ≠ 19 ∧ d ≠ 22) (hu : u = val d) : PutsW w v xs g x y val (fun k => if k = d then true else D k) (fun k => if k = d then u else σ k) W := by
  obtain ⟨h1, h2⟩ := h0
  have e1 : curB (fun k => if k = d then true else D k) (fun k => if k = d then u else σ k) v = curB D σ v := by unfold curB; simp [Ne.symm h1, Ne.symm h2]
  have e2 : curX (fun k => if k = d then true else D k) xs x y = curX D xs x y := by unfold curX; simp [Ne.symm h1, Ne.symm h2]
  refine ⟨h.var, by rw [e1, e2]; exact h.row, by rw [e1]; exact h.far, by simpa [Ne.symm h1, Ne.symm h2] using h.ord, fun e he => ?_⟩
  by_cases c : e = d
  · subst c; intro _; simp only [if_pos]; exact hu
  · simp only [if_neg c]; exact h.sv e he
theorem Grew.far {W W' : World} {v v' : Value} (hG : Grew W W' v v') (hv : Var W g x y) (hf : v.ownBlock ≠ some g) : Var W' g x y ∧ v'.ownBlock ≠ some g := by
  refine ⟨hv.grown hG.grown hf, fun h => ?_⟩
  rcases hG.own g h with c | c
  · exact hf c
  · have := hv.lt; omega
theorem PutsW.put1 (h : PutsW w v xs g x y val D σ W) (hd : D 19 = false) {v' : Value} {W' : World} (hM : MadeB w W' v' (xs ++ octs x 8)) (hG : Grew W W' v v') : PutsW w v xs g x y val (fun k => if k = 19 then true else D k) (fun k => if k = 19 then v' else σ k) W' := by
  have d22 : D 22 = false := by
    cases c : D 22 with
    | false => rfl
    | true => have := h.ord c; rw [hd] at this; cases this
  have e0 : curB D σ v = v := by unfold curB; simp [d22, hd]
  have e1 : curB (fun k => if k = 19 then true else D k) (fun k => if k = 19 then v' else σ k) v = v' := by unfold curB; simp [d22]
  have e2 : curX (fun k => if k = 19 then true else D k) xs x y = xs ++ octs x 8 := by unfold curX; simp [d22]
  obtain ⟨f1, f2⟩ := hG.far h.var (e0 ▸ h.far)
  refine ⟨f1, by rw [e1, e2]; exact hM, by rw [e1]; exact f2, by simp [d22], fun e he => ?_⟩
  have c : e ≠ 19 := by intro c; subst c; revert he; decide
  simp only [if_neg c]; exact h.sv e he
theorem PutsW.put2 (h : PutsW w v xs g x y val D σ W) (hd : D 22 = false) (h19 : D 19 = true) {v' : Value} {W' : World} (hM : MadeB w W' v' (xs ++ octs x 8 ++ octs y 8)) (hG : Grew W W' (σ 19) v') : PutsW w v xs g x y val (fun k => if k = 22 then true else D k) (fun k => if k = 22 then v' else σ k) W' := by
  have e0 : curB D σ v = σ 19 := by unfold curB; simp [hd, h19]
  have e1 : curB (fun k => if k = 22 then true else D k) (fun k => if k = 22 then v' else σ k) v = v' := by unfold curB; simp
  have e2 : curX (fun k => if k = 22 then true else D k) xs x y = xs ++ octs x 8 ++ octs y 8 := by unfold curX; simp
  obtain ⟨f1, f2⟩ := hG.far h.var (e0 ▸ h.far)
  refine ⟨f1, by rw [e1, e2]; exact hM, by rw [e1]; exact f2, by simp [h19], fun e he => ?_⟩
  have c : e ≠ 22 := by intro c; subst c; revert he; decide
  simp only [if_neg c]; exact h.sv e he
theorem PutsW.at19 (h : PutsW w v xs g x y val D σ W) (hd : D 19 = false) : MadeB w W v xs := by
  have d22 : D 22 = false := by
    cases c : D 22 with
    | false => rfl
    | true => have := h.ord c; rw [hd] at this; cases this
  have := h.row
  unfold curB curX at this
  simpa [d22, hd] using this
theorem PutsW.at22 (h : PutsW w v xs g x y val D σ W) (hd : D 22 = false) (h19 : D 19 = true) : MadeB w W (σ 19) (xs ++ octs x 8) := by
  have := h.row
  unfold curB curX at this
  simpa [hd, h19] using this
theorem PutsW.done (h : PutsW w v xs g x y val D σ W) (hd : D 22 = true) : MadeB w W (σ 22) (xs ++ octs x 8 ++ octs y 8) := by
  have := h.row
  unfold curB curX at this
  simpa [hd] using this
end
def PutsVal (v : Value) (g : Nat) (x y : Int) : Nat → Value
  | 16 => v
  | 17 => .pointer (some ⟨g, 0, none⟩)
  | 18 => .int .u64 x
  | 20 => .pointer (some ⟨g, 1, none⟩)
  | 21 => .int .u64 y
  | _ => undef
/-- The bytes of pairs, so many of them. -/
def pairL (zs : List (Int × Int)) : Nat → List Int
  | 0 => []
  | k + 1 => pairL zs k ++ octs (zs.getD k (0, 0)).1 8 ++ octs (zs.getD k (0, 0)).2 8
theorem pairL_len (zs : List (Int × Int)) : ∀ k, (pairL zs k).length = 16 * k
  | 0 => rfl
  | k + 1 => by rw [pairL, List.length_append, List.length_append, pairL_len zs k, octs_len, octs_len]; omega
theorem pairL_text (zs : List (Int × Int)) : ∀ k, strOfNums (pairL zs k) = pairT zs k
  | 0 => rfl
  | k + 1 => by rw [pairL, strOf_octs, strOf_octs, pairL_text zs k, pairT]
def PairRel (w : World) (zs : List (Int × Int)) (s i : Value) (W : World) : Prop := ∃ k : Nat, k ≤ zs.length ∧ i = .int .i64 k ∧ MadeB w W s (pairL zs k)
end Go.Proofs.Ytjcgakmhpblanaa
namespace Go.Proofs.Ytjcgakmhpblanaa
open Go Go.RowKit
set_option linter.unusedVariables false

/-- So many bytes, the lowest first. -/
def numL (b : Nat → Int) : Nat → Int
  | 0 => 0
  | t + 1 => numL b t + b t * 256 ^ t
theorem numL_bd {b : Nat → Int} (hb : ∀ j, 0 ≤ b j ∧ b j < 256) : ∀ t, 0 ≤ numL b t ∧ numL b t < 256 ^ t
  | 0 => by simp [numL]
  | t + 1 => by
    have h := numL_bd hb t
    have h2 := hb t
    rw [numL, Int.pow_succ]
    have e : 0 < (256 : Int) ^ t := Int.pow_pos (by decide)
    generalize (256 : Int) ^ t = q at *
    constructor
    · have := Int.mul_nonneg h2.1 (Int.le_of_lt e); omega
    · have : b t * q ≤ 255 * q := Int.mul_le_mul_of_nonneg_right (by omega) (Int.le_of_lt e)
      omega
theorem numL_all (b : Nat → Int) : numL b 8 = numP b 8 := by
  simp only [numL, numP, show 7 - 0 = 7 from rfl, show 7 - 1 = 6 from rfl, show 7 - 2 = 5 from rfl, show 7 - 3 = 4 from rfl, show 7 - 4 = 3 from rfl, show 7 - 5 = 2 from rfl, show 7 - 6 = 1 from rfl, show 7 - 7 = 0 from rfl, show (256 : Int) ^ 0 = 1 from rfl, show (256 : Int) ^ 1 = 256 from rfl, show (256 : Int) ^ 2 = 65536 from rfl, show (256 : Int) ^ 3 = 16777216 from rfl, show (256 : Int) ^ 4 = 4294967296 from rfl, show (256 : Int) ^ 5 = 1099511627776 from rfl, show (256 : Int) ^ 6 = 281474976710656 from rfl, show (256 : Int) ^ 7 = 72057594037927936 from rfl]
  omega
theorem or64_comm (a b : Int) : bits .or .u64 a b = bits .or .u64 b a := by
  unfold bits
  show IntKind.u64.wrap (((BitVec.ofInt 64 a ||| BitVec.ofInt 64 b).toNat : Nat) : Int) = IntKind.u64.wrap (((BitVec.ofInt 64 b ||| BitVec.ofInt 64 a).toNat : Nat) : Int)
  rw [BitVec.or_comm]
theorem or64_next (z b : Int) (t : Nat) (ht : t < 8) (hz : 0 ≤ z ∧ z < 256 ^ t) (hb : 0 ≤ b ∧ b < 256) : bits .or .u64 z (b * 2 ^ (8 * t)) = z + b * 256 ^ t ∧ 0 ≤ b * 2 ^ (8 * t) ∧ b * 2 ^ (8 * t) < 18446744073709551616 := by
  obtain ⟨Z, rfl⟩ := Int.eq_ofNat_of_zero_le hz.1
  obtain ⟨B, rfl⟩ := Int.eq_ofNat_of_zero_le hb.1
  have e : (2 : Int) ^ (8 * t) = 256 ^ t := by rw [Int.pow_mul]; rfl
  have e' : (2 : Nat) ^ (8 * t) = 256 ^ t := by rw [Nat.pow_mul]
  have q : ((256 ^ t : Nat) : Int) = (256 : Int) ^ t := Int.natCast_pow 256 t
  have hZ : Z < 256 ^ t := by have := hz.2; rw [← q] at this; exact Int.ofNat_lt.1 this
  have h7 : 256 ^ t ≤ 256 ^ 7 := Nat.pow_le_pow_right (by decide) (by omega)
  have hP : B * 2 ^ (8 * t) < 18446744073709551616 := by
    rw [e']
    have : B * 256 ^ t ≤ 255 * 256 ^ 7 := Nat.mul_le_mul (by omega) h7
    have : 255 * 256 ^ 7 = 18374686479671623680 := by decide
    omega
  have h := or64_add (8 * t) B Z (by rw [e']; exact hZ) hP (by omega)
  have c : ((B * 2 ^ (8 * t) : Nat) : Int) = (B : Int) * 2 ^ (8 * t) := by rw [Int.natCast_mul, Int.natCast_pow]; rfl
  have c2 : (((B * 2 ^ (8 * t) + Z : Nat)) : Int) = (Z : Int) + (B : Int) * 256 ^ t := by rw [Int.natCast_add, c, e]; omega
  rw [or64_comm, ← c, h, c2]
  exact ⟨rfl, by omega, by rw [c, ← c]; omega⟩
def NumRel (s : ByteArray) (n i : Value) : Prop := ∃ t : Nat, t ≤ 8 ∧ n = .int .u64 (numL (byt s) t) ∧ i = .int .i64 t
theorem onum_no (s : ByteArray) (hs : s.size < 8) (w : World) : Calls Try.prog 69 #[.string s] w fun e w' => e = .returned (.tuple #[.int .u64 0, .bool false]) ∧ w' = w := by
  have hs' : (s.size : Int) < 8 := by omega
  go_enter Try.func69, Try.ntmps69
  go_wp2
  go_ret2
  exact ⟨rfl, rfl⟩
theorem onum_yes (s : ByteArray) (hs : 8 ≤ s.size) (w : World) : Calls Try.prog 69 #[.string s] w fun e w' => e = .returned (.tuple #[.int .u64 (numB s 0), .bool true]) ∧ w' = w := by
  have hs' : ¬ (s.size : Int) < 8 := by omega
  go_enter Try.func69, Try.ntmps69
  go_upto_region 5 with fail
  go_loop [4, 9] (NumRel s) (fun _ i => 8 - (intOf i).toNat)
  case atStart => exact ⟨0, by omega, rfl, rfl⟩
  case round =>
    obtain ⟨t, ht, rfl, rfl⟩ := hrel
    by_cases hlt : t < 8
    · have h7 : (t : Int) < 8 := by omega
      have hb := byt_bd s t
      have hp := numL_bd (b := byt s) (byt_bd s) t
      have HO := Lib.hid (or64_next _ _ t hlt hp hb)
      have HN := Lib.hid (show numL (byt s) t + byt s t * 256 ^ t = numL (byt s) (t + 1) from rfl)
      have ht8 : (8 * (t : Int)).toNat = 8 * t := by omega
      clear hp
      generalize numL (byt s) t = z at *
      have hwr : IntKind.i64.wrap (8 * (t : Int)) = 8 * (t : Int) := IntWalk.i64_in _ (by omega)
      go_wp2
      have e1 : IntKind.u64.wrap (((s[t]'(by omega)).toNat : Nat) : Int) = byt s t := by rw [byt_get, IntKind.wrap_u64]; omega
      go_round
      case rel =>
        refine ⟨t + 1, by omega, ?_, by go_num⟩
        obtain ⟨h1, h2, h3⟩ := HO.out
        have e2 : IntKind.u64.wrap (byt s t * 2 ^ (8 * t)) = byt s t * 2 ^ (8 * t) := by rw [IntKind.wrap_u64]; omega
        simp only [e1, e2, h1, HN.out]
      case measure => simp [intOf]; omega
    · obtain rfl : t = 8 := by omega
      have e8 := numB_zero s
      have h9 := numL_all (byt s)
      have h7 : ¬ (((8 : Nat) : Int) < 8) := by omega
      go_wp2
      go_ret2
      exact ⟨rfl, rfl⟩
theorem onum_is (s : ByteArray) (x : Int) (ok : Bool) (hx : (if 8 ≤ s.size then numB s 0 else 0) = x) (hok : decide (8 ≤ s.size) = ok) (w : World) : Calls Try.prog 69 #[.string s] w fun e w' => e = .returned (.tuple #[.int .u64 x, .bool ok]) ∧ Below w.heap.size w w' := by
  subst hx hok
  by_cases h : 8 ≤ s.size
  · rw [if_pos h, decide_eq_true h]
    exact (onum_yes s h w).mono fun e w' ⟨h1, h2⟩ => ⟨h1, h2 ▸ Below.refl _ _⟩
  · rw [if_neg h, decide_eq_false h]
    exact (onum_no s (by omega) w).mono fun e w' ⟨h1, h2⟩ => ⟨h1, h2 ▸ Below.refl _ _⟩
end Go.Proofs.Ytjcgakmhpblanaa
namespace Go.Proofs.Ytjcgakmhpblanaa
open Go Go.RowKit
set_option linter.unusedVariables false

theorem info64r : (Try.prog.info? 46).map (fun i => (i.zero, i.size, i.bytes)) = some (some (.int .u64 0), 1, 8) := by kernel_rfl
def rdF (s : ByteArray) (k j : Nat) : Value := .int .u64 (if j < k then numB s (8 * j) else 0)
theorem rdF_set (s : ByteArray) (k : Nat) : ∀ j, (if j = k then Value.int .u64 (numB s (8 * k)) else rdF s k j) = rdF s (k + 1) j := by
  intro j
  unfold rdF
  by_cases h : j = k
  · subst h; rw [if_pos rfl, if_pos (by omega)]
  · rw [if_neg h]
    by_cases h2 : j < k
    · rw [if_pos h2, if_pos (by omega)]
    · rw [if_neg h2, if_neg (by omega)]
def ReadRel (w : World) (s : ByteArray) (N : Nat) (i : Value) (W : World) : Prop :=
  ∃ k : Nat, k ≤ N ∧ i = .int .i64 k ∧ Below w.heap.size w W ∧ Arr W w.heap.size N (rdF s k) ∧ ∀ j, j < k → numB s (8 * j) < 18446744069414584321
end Go.Proofs.Ytjcgakmhpblanaa
namespace Go.Proofs.Ytjcgakmhpblanaa
open Go Go.RowKit
set_option linter.unusedVariables false

def rdQ' (s : ByteArray) (k j : Nat) : Int × Int := if j < k then (numB s (8 * (2 * j)), numB s (8 * (2 * j + 1))) else (0, 0)
def ReadRelQ (w w1 : World) (s : ByteArray) (N : Nat) (i : Value) (W : World) : Prop :=
  ∃ k : Nat, k ≤ N ∧ i = .int .i64 k ∧ Below w1.heap.size w1 W ∧ Arr W w1.heap.size (N * 2) (pc (rdQ' s k))
theorem rdQ'_set (s : ByteArray) (k : Nat) : ∀ j, (if j = k then (numB s (8 * (2 * k)), numB s (8 * (2 * k + 1))) else rdQ' s k j) = rdQ' s (k + 1) j := by
  intro j
  unfold rdQ'
  by_cases h : j = k
  · subst h; rw [if_pos rfl, if_pos (by omega)]
  · rw [if_neg h]
    by_cases h2 : j < k
    · rw [if_pos h2, if_pos (by omega)]
    · rw [if_neg h2, if_neg (by omega)]
end Go.Proofs.Ytjcgakmhpblanaa
