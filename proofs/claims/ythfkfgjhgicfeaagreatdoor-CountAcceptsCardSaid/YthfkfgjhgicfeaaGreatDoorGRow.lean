/-
  Arr: Rows of cells that a call made itself, cell by cell; slices of numbers, read by a letter for their address. No function of the program is named.
  But: What a call leaves that writes into one block alone: all other blocks that were there are as they were. No function of the program is named.
  Copy: The builtin copy, of elements of one cell or of more, into a row that a call made itself. No function of the program is named.
  Row: Arrays by value: rows of cells that lie in a variable, read whole, stored whole, boxed. No function of the program is named.
  Own: Slices of numbers and of pairs that a call put together itself, by append. No function of the program is named.
  OwnQ: Slices of pairs that a call put together itself, by append. No function of the program is named.
  Flat: Arguments all of whose cells are integers of one kind (structs and arrays of such, nested), opened: the integers, one behind the other. No function of the program is named.
  EqA: Arrays by value in a region that draws: read out of a variable; held against each other. No function of the program is named.
  Tabs: Package-level tables of integers, nested or not, as many as a row lists: what their cells hold. No function of the program is named.
  Lay: A region that draws its order: each operation is shown once, by what is known of the world and the slots for each set of operations that have come up so far (a predicate Wd of: which slots are done, what they hold, the world). Operations may write memory as they like: appends, stores, copies. No Go text in sight.
  Apps: Two slices of pairs that a call puts together itself, both appended to in one region that draws its order ('xs, ys = append(xs, a), append(ys, b)'); a third one, of numbers, stands beside. No function of the program is named.
  AppU: append of a whole slice of numbers onto a slice that the call made; two numbers at once. No function of the program is named.
  Row2: Arrays by value: an element of one; a table read whole; a piece of a row stored. No function of the program is named.
  Made: Slices of whatever one-cell elements, put together by the call itself; what lies beside the row that grows. No function of the program is named.
-/
import Derived.Test.YthfkfgjhgicfeaaGreatDoorGNum
import Derived.Deep.OwnRows
import Derived.Deep.Draws
import Derived.Laws.CopyOwn
import Derived.Deep.MidRow
import Derived.Lib.LazyBuf
import Derived.WalkSmall
import Derived.OpenShut
import Derived.ChangeArms
import Derived.Deep.SlicePairs
import Derived.ChangeKeysEq
import Derived.LaidLaws
import Derived.Maps.AppendAt
import Derived.Laws.OwnMore
import Derived.OwnWalk
import Derived.Laws.AppendOwn
import Derived.Tactics
namespace Go.Proofs.YthfkfgjhgicfeaaGreatDoor
open Go Go.RowKit
set_option linter.unusedVariables false

/-- A pair as it is kept. -/
def encP (x : F2) : Int × Int := (enc x.a, enc x.b)
/-- The first n cells of a block, none frozen. -/
def Arr (W : World) (g n : Nat) (f : Nat → Value) : Prop := ∀ j, j < n → W.cell? ⟨g, j, none⟩ = some (f j) ∧ W.frozen? ⟨g, j, none⟩ = false
theorem Arr.keep {W w1 : World} {g n : Nat} {f : Nat → Value} (h : Arr W g n f) (hb : Below W.heap.size W w1) : Arr w1 g n f :=
  fun j hj => ⟨bkeep hb (h j hj).1, bfree hb (h j hj).1 (h j hj).2⟩
theorem Arr.alloc {W : World} {g n : Nat} {f : Nat → Value} (h : Arr W g n f) (o : Obj) : Arr (W.alloc o) g n f := h.keep ((Below.refl _ _).alloc (Nat.le_refl _) _)
theorem Arr.same {W : World} {g n : Nat} {f f' : Nat → Value} (h : Arr W g n f) (hf : ∀ j, j < n → f j = f' j) : Arr W g n f' := fun j hj => by rw [← hf j hj]; exact h j hj
theorem Arr.set {W : World} {g n : Nat} {f : Nat → Value} (h : Arr W g n f) (i : Nat) (v : Value) (hi : i < n) : Arr (W.setCell ⟨g, i, none⟩ v) g n (fun j => if j = i then v else f j) := by
  intro j hj
  obtain ⟨c, e⟩ := h j hj
  obtain ⟨ci, ei⟩ := h i hi
  by_cases hji : j = i
  · subst hji
    simp [go_sem, ci, ei]
  · show _ = some (if j = i then v else f j) ∧ _
    rw [if_neg hji]
    refine ⟨(World.cell?_setCell_other _ _ _ _ (by intro hh; cases hh; exact hji rfl)).trans c, by simp [e]⟩
theorem Arr.far {W : World} {g n : Nat} {f : Nat → Value} (h : Arr W g n f) {g' : Nat} (hg : g' ≠ g) (o : Nat) (v : Value) : Arr (W.setCell ⟨g', o, none⟩ v) g n f := by
  intro j hj
  obtain ⟨c, e⟩ := h j hj
  exact ⟨(World.cell?_setCell_far _ _ _ _ hg).trans c, by simp [e]⟩
theorem Var.arr {W : World} {g : Nat} {x y : Int} (h : Var W g x y) {g' : Nat} (hg : g' ≠ g) (o : Nat) (v : Value) : Var (W.setCell ⟨g', o, none⟩ v) g x y := h.far hg o v
theorem Arr.new (W : World) (z : Array Value) (n : Nat) (t : TypeId) : Arr (W.alloc (.cells (madeCells z n) t)) W.heap.size n (fun j => z[j % z.size]!) := by
  intro j hj
  constructor
  · rw [cell_of_row _ _ _ _ _ _ (heap_alloc_new W (.cells (madeCells z n) t))]
    simp [madeCells, hj]
  · have hh := heap_alloc_new W (.cells (madeCells z n) t)
    unfold World.frozen?
    simp only [hh]
    simp
theorem Arr.lt {W : World} {g n : Nat} {f : Nat → Value} (h : Arr W g n f) (hn : 0 < n) : g < W.heap.size := World.block_lt_of_cell? W _ (h 0 hn).1

/-- A slice of numbers, by a letter for its address. -/
def RowA (w : World) (a : Option Addr) (len : Nat) (zs : List Int) : Prop :=
  zs.length = len ∧ len ≤ maxLen ∧ ∀ k, k < len → ∃ b off : Nat, a = some ⟨b, off, none⟩ ∧ w.cell? ⟨b, off + k, none⟩ = some (.int .u64 (zs.getD k 0))
theorem Row.at {w : World} {a : Option Addr} {len cap : Nat} {zs : List Int} (h : Row w (.slice a len cap) zs) : RowA w a len zs := by
  rcases h with ⟨h, rfl⟩ | ⟨x, c, h, rfl⟩ | ⟨b, off, c, h, hc, hm, hcell⟩
  · cases h; exact ⟨rfl, by unfold maxLen; omega, fun k hk => by omega⟩
  · cases h; exact ⟨rfl, by unfold maxLen; omega, fun k hk => by omega⟩
  · cases h; exact ⟨rfl, by omega, fun k hk => ⟨b, off, rfl, hcell k hk⟩⟩
theorem RowA.keep {w w1 : World} {a : Option Addr} {len : Nat} {zs : List Int} (h : RowA w a len zs) (hb : Below w.heap.size w w1) : RowA w1 a len zs :=
  ⟨h.1, h.2.1, fun k hk => by obtain ⟨b, off, e, c⟩ := h.2.2 k hk; exact ⟨b, off, e, bkeep hb c⟩⟩
/-- A slice of pairs, likewise. -/
def QRowA (w : World) (a : Option Addr) (len : Nat) (zs : List (Int × Int)) : Prop :=
  zs.length = len ∧ len ≤ maxLen ∧ ∀ k, k < len → ∃ b off : Nat, a = some ⟨b, off, none⟩ ∧ w.cell? ⟨b, off + k * 2, none⟩ = some (.int .u64 (zs.getD k (0, 0)).1) ∧ w.cell? ⟨b, off + k * 2 + 1, none⟩ = some (.int .u64 (zs.getD k (0, 0)).2)
theorem QRow.at {w : World} {a : Option Addr} {len cap : Nat} {zs : List (Int × Int)} (h : QRow w (.slice a len cap) zs) : QRowA w a len zs := by
  rcases h with ⟨h, rfl⟩ | ⟨x, c, h, rfl⟩ | ⟨b, off, c, h, hc, hm, hcell⟩
  · cases h; exact ⟨rfl, by unfold maxLen; omega, fun k hk => by omega⟩
  · cases h; exact ⟨rfl, by unfold maxLen; omega, fun k hk => by omega⟩
  · cases h; exact ⟨rfl, by omega, fun k hk => ⟨b, off, rfl, hcell k hk⟩⟩
theorem QRow.cap {w : World} {a : Option Addr} {len cap : Nat} {zs : List (Int × Int)} (h : QRow w (.slice a len cap) zs) : len ≤ cap := by
  rcases h with ⟨h, rfl⟩ | ⟨x, c, h, rfl⟩ | ⟨b, off, c, h, hc, hm, hcell⟩
  · cases h; exact Nat.le_refl _
  · cases h; exact Nat.zero_le _
  · cases h; exact hc
theorem QRowA.keep {w w1 : World} {a : Option Addr} {len : Nat} {zs : List (Int × Int)} (h : QRowA w a len zs) (hb : Below w.heap.size w w1) : QRowA w1 a len zs :=
  ⟨h.1, h.2.1, fun k hk => by obtain ⟨b, off, e, c, d⟩ := h.2.2 k hk; exact ⟨b, off, e, bkeep hb c, bkeep hb d⟩⟩
theorem qrow_one {W : World} {g : Nat} {x y : Int} (h0 : W.cell? ⟨g, 0, none⟩ = some (.int .u64 x)) (h1 : W.cell? ⟨g, 1, none⟩ = some (.int .u64 y)) : QRow W (.slice (some ⟨g, 0, none⟩) 1 1) [(x, y)] := by
  right; right
  refine ⟨g, 0, 1, rfl, by simp, by unfold maxLen; omega, ?_⟩
  intro i hi
  have : i = 0 := by simp at hi; omega
  subst this
  exact ⟨h0, h1⟩

/-- What a call made itself is such a slice. -/
theorem Arr.row {W : World} {g n : Nat} {zs : List Int} (h : Arr W g n (fun j => .int .u64 (zs.getD j 0))) (hz : zs.length = n) (hn : n ≤ maxLen) : Row W (.slice (some ⟨g, 0, none⟩) n n) zs := by
  refine Or.inr (Or.inr ⟨g, 0, n, by rw [hz], by omega, hn, fun i hi => ?_⟩)
  rw [Nat.zero_add]
  exact (h i (by omega)).1
theorem Arr.qrow {W : World} {g n : Nat} {zs : List (Int × Int)} (h : Arr W g (n * 2) (fun j => .int .u64 (if j % 2 = 0 then (zs.getD (j / 2) (0, 0)).1 else (zs.getD (j / 2) (0, 0)).2))) (hz : zs.length = n) (hn : n ≤ maxLen) : QRow W (.slice (some ⟨g, 0, none⟩) n n) zs := by
  refine Or.inr (Or.inr ⟨g, 0, n, by rw [hz], by omega, hn, fun i hi => ?_⟩)
  rw [Nat.zero_add]
  have h0 := (h (i * 2) (by omega)).1
  have h1 := (h (i * 2 + 1) (by omega)).1
  dsimp only at h0 h1
  rw [if_pos (by omega), show i * 2 / 2 = i by omega] at h0
  rw [if_neg (by omega), show (i * 2 + 1) / 2 = i by omega] at h1
  exact ⟨h0, h1⟩

/-- A row of pairs, cell by cell. -/
def pc (x : Nat → Int × Int) (j : Nat) : Value := .int .u64 (if j % 2 = 0 then (x (j / 2)).1 else (x (j / 2)).2)
theorem pc_even (x : Nat → Int × Int) (k : Nat) : pc x (k * 2) = .int .u64 (x k).1 := by unfold pc; rw [if_pos (by omega), show k * 2 / 2 = k by omega]
theorem pc_odd (x : Nat → Int × Int) (k : Nat) : pc x (k * 2 + 1) = .int .u64 (x k).2 := by unfold pc; rw [if_neg (by omega), show (k * 2 + 1) / 2 = k by omega]
theorem pc_same {x y : Nat → Int × Int} {n : Nat} (h : ∀ i, i < n → x i = y i) : ∀ j, j < n * 2 → pc x j = pc y j := fun j hj => by
  unfold pc; rw [h (j / 2) (by omega)]
theorem Arr.cells {W : World} {g n : Nat} {x : Nat → Int × Int} (h : Arr W g (n * 2) (pc x)) (k : Nat) (hk : k < n) :
    W.cell? ⟨g, k * 2, none⟩ = some (.int .u64 (x k).1) ∧ W.cell? ⟨g, k * 2 + 1, none⟩ = some (.int .u64 (x k).2) ∧ W.frozen? ⟨g, k * 2, none⟩ = false ∧ W.frozen? ⟨g, k * 2 + 1, none⟩ = false := by
  have h0 := h (k * 2) (by omega)
  have h1 := h (k * 2 + 1) (by omega)
  rw [pc_even] at h0
  rw [pc_odd] at h1
  exact ⟨h0.1, h1.1, h0.2, h1.2⟩
theorem Arr.setq {W : World} {g n : Nat} {x : Nat → Int × Int} (h : Arr W g (n * 2) (pc x)) (k : Nat) (a b : Int) (hk : k < n) :
    Arr ((W.setCell ⟨g, k * 2, none⟩ (.int .u64 a)).setCell ⟨g, k * 2 + 1, none⟩ (.int .u64 b)) g (n * 2) (pc fun i => if i = k then (a, b) else x i) := by
  refine ((h.set (k * 2) _ (by omega)).set (k * 2 + 1) _ (by omega)).same fun j hj => ?_
  by_cases e1 : j = k * 2 + 1
  · subst e1; rw [if_pos rfl, pc_odd, if_pos rfl]
  · rw [if_neg e1]
    by_cases e2 : j = k * 2
    · subst e2; rw [if_pos rfl, pc_even, if_pos rfl]
    · have e3 : j / 2 ≠ k := by omega
      rw [if_neg e2]; unfold pc; simp only [if_neg e3]
theorem Arr.newq (W : World) (n : Nat) (t : TypeId) : Arr (W.alloc (.cells (madeCells #[.int .u64 0, .int .u64 0] (n * 2)) t)) W.heap.size (n * 2) (pc fun _ => (0, 0)) := by
  refine (Arr.new W _ _ t).same fun j hj => ?_
  have : j % 2 = 0 ∨ j % 2 = 1 := by omega
  unfold pc
  rcases this with h | h <;> simp [h]
theorem run_make_pairs {P : Program} (t e : TypeId) (z : Value) (ht : P.underlying t = some (.slice e)) (hinfo : (P.info? e).map (fun i => (i.zero, i.size, i.bytes)) = some (some z, 2, 16)) (hz1 : z.cells = #[.int .u64 0, .int .u64 0])
    (n : Nat) (hn : n ≤ 4294967296) (w : World) :
    (Instr.makeSlice t (.int .i64 (n : Int)) (.int .i64 (n : Int))).run P w = .ok (.slice (some ⟨w.heap.size, 0, none⟩) n n) (w.alloc (.cells (madeCells #[.int .u64 0, .int .u64 0] (n * 2)) e)) := by
  obtain ⟨i, hi, hzz⟩ := Option.map_eq_some_iff.1 hinfo
  simp only [Prod.mk.injEq] at hzz
  obtain ⟨hz, hs, hb⟩ := hzz
  have hr := run_make (P := P) w t e i z ht hi hz .i64 .i64 n n (by omega) (Int.le_refl _) (by rw [hb]; omega) (by omega)
  simp only [Int.toNat_natCast, hs, hz1] at hr
  exact hr
end Go.Proofs.YthfkfgjhgicfeaaGreatDoor
namespace Go.Proofs.YthfkfgjhgicfeaaGreatDoor
open Go Go.RowKit
set_option linter.unusedVariables false

/-- All blocks of w but g are as they were; no block has gone; the streams are as they were. -/
structure But (g : Nat) (w w' : World) : Prop where
  os : w'.os = w.os
  tape : w'.tape = w.tape
  output : w'.output = w.output
  size : w.heap.size ≤ w'.heap.size
  block : ∀ k, k < w.heap.size → k ≠ g → w'.heap[k]? = w.heap[k]?
theorem But.refl (g : Nat) (w : World) : But g w w := ⟨rfl, rfl, rfl, Nat.le_refl _, fun _ _ _ => rfl⟩
theorem But.trans {g : Nat} {a b c : World} (h : But g a b) (k : But g b c) : But g a c :=
  ⟨k.os.trans h.os, k.tape.trans h.tape, k.output.trans h.output, Nat.le_trans h.size k.size, fun i hi hg => (k.block i (Nat.lt_of_lt_of_le hi h.size) hg).trans (h.block i hi hg)⟩
theorem But.of {g : Nat} {w w' : World} (h : Below w.heap.size w w') : But g w w' := ⟨h.os, h.tape, h.output, h.size, fun k hk _ => h.block k hk⟩
theorem But.drew {g : Nat} {a w : World} (h : But g a w) : But g a w.drew := ⟨h.os, h.tape, h.output, h.size, h.block⟩
theorem But.drewN {g : Nat} {a w : World} (h : But g a w) (n : Nat) : But g a (w.drewN n) := ⟨h.os, h.tape, h.output, h.size, h.block⟩
theorem But.alloc {g : Nat} {a w : World} (h : But g a w) (o : Obj) : But g a (w.alloc o) := h.trans (But.of ((Below.refl _ _).alloc (Nat.le_refl _) o))
/-- A store into g, or into a block that came later. -/
theorem But.setCell {g : Nat} {a w : World} (h : But g a w) {p : Addr} (hp : p.block = g ∨ a.heap.size ≤ p.block) (u : Value) : But g a (w.setCell p u) :=
  ⟨h.os, h.tape, h.output, Nat.le_trans h.size (by simp [World.setCell]), fun k hk hg => by rw [Below.heap_setCell _ _ _ _ (by omega)]; exact h.block k hk hg⟩
theorem But.then {g : Nat} {a w w' : World} (h : But g a w) (k : Below w.heap.size w w') : But g a w' := h.trans (But.of k)
/-- Such a call, of a call whose own block it is. -/
theorem But.below {B g : Nat} {a w w' : World} (h : Below B a w) (k : But g w w') (hg : B ≤ g) (hB : B ≤ w.heap.size) : Below B a w' :=
  h.trans ⟨k.os, k.tape, k.output, k.size, fun i hi => k.block i (by omega) (by omega)⟩
theorem But.cell {g : Nat} {w w' : World} (h : But g w w') {p : Addr} (hp : p.block < w.heap.size) (hg : p.block ≠ g) : w'.cell? p = w.cell? p := World.cell?_of_block (w := w) (h.block p.block hp hg)
theorem But.frozen {g : Nat} {w w' : World} (h : But g w w') {p : Addr} (hp : p.block < w.heap.size) (hg : p.block ≠ g) : w'.frozen? p = w.frozen? p := World.frozen?_of_block (w := w) (h.block p.block hp hg)
/-- A cell of another block. -/
theorem But.keep {g : Nat} {w w' : World} (h : But g w w') {p : Addr} {v : Value} (hc : w.cell? p = some v) (hg : p.block ≠ g) : w'.cell? p = some v := by
  rw [h.cell (World.block_lt_of_cell? w _ hc) hg]; exact hc
theorem But.arr {g g' : Nat} {w w' : World} {n : Nat} {f : Nat → Value} (h : But g w w') (hA : Arr w g' n f) (hg : g' ≠ g) : Arr w' g' n f := fun j hj => by
  obtain ⟨c, e⟩ := hA j hj
  exact ⟨h.keep c hg, by rw [h.frozen (World.block_lt_of_cell? w _ c) hg]; exact e⟩
theorem Arr.drew {w : World} {g n : Nat} {f : Nat → Value} (h : Arr w g n f) : Arr w.drew g n f := h
theorem Arr.drewN {w : World} {g n : Nat} {f : Nat → Value} (h : Arr w g n f) (k : Nat) : Arr (w.drewN k) g n f := h

end Go.Proofs.YthfkfgjhgicfeaaGreatDoor
namespace Go.Proofs.YthfkfgjhgicfeaaGreatDoor
open Go Go.RowKit
set_option linter.unusedVariables false
set_option linter.unusedSimpArgs false

/-- What a row of cells is behind a copy of cs to its place o. -/
def cop (f : Nat → Value) (o : Nat) (cs : List Value) (j : Nat) : Value := if o ≤ j ∧ j < o + cs.length then cs.getD (j - o) undef else f j
theorem cop_nil (f : Nat → Value) (o j : Nat) : cop f o [] j = f j := if_neg (by simp only [List.length_nil]; omega)
theorem run_storeCells_arr (P : Program) (g N o : Nat) : ∀ (vs : List Value) (i : Nat) (f : Nat → Value) (w : World), Arr w g N f → o + i + vs.length ≤ N → (∀ v ∈ vs, v.oneCell' = true) →
    ∃ w', (storeCells ⟨g, o, none⟩ vs i).run P w = .ok () w' ∧ But g w w' ∧ Arr w' g N (cop f (o + i) vs)
  | [], i, f, w, hA, _, _ => ⟨w, rfl, But.refl _ _, hA.same fun j _ => (cop_nil f _ j).symm⟩
  | v :: rest, i, f, w, hA, hl, h1 => by
    have hi : o + i < N := by simp at hl; omega
    have hadd : (⟨g, o, none⟩ : Addr).add i = ⟨g, o + i, none⟩ := by unfold Addr.add; split <;> simp_all
    obtain ⟨c, e⟩ := hA (o + i) hi
    have hst : (store ((⟨g, o, none⟩ : Addr).add i) v).run P w = .ok () (w.setCell ⟨g, o + i, none⟩ v) := by
      rw [hadd, run_store P w _ v _ (h1 v (by simp)), c]
      simp [e]
    obtain ⟨w', hr, hb, hA'⟩ := run_storeCells_arr P g N o rest (i + 1) _ _ (hA.set (o + i) v hi) (by simp at hl ⊢; omega) (fun x hx => h1 x (by simp [hx]))
    refine ⟨w', by simp only [storeCells, Sem.run_bind, hst, Result.andThen_ok, hr], ((But.refl g w).setCell (p := ⟨g, o + i, none⟩) (Or.inl rfl) v).trans hb, hA'.same fun j hj => ?_⟩
    unfold cop
    simp only [List.length_cons]
    by_cases h2 : j = o + i
    · subst h2
      rw [if_neg (by omega)]; simp
    · by_cases h3 : o + (i + 1) ≤ j ∧ j < o + (i + 1) + rest.length
      · rw [if_pos h3, if_pos (by omega), show j - (o + i) = (j - (o + (i + 1))) + 1 by omega]; rfl
      · rw [if_neg h3, if_neg h2, if_neg (by omega)]
/-- copy: as many elements as the shorter of both has. -/
theorem run_copy_arr {P : Program} (w : World) (dT sT ty elem : TypeId) (g N o dLen dCap sLen sCap size n : Nat) (sp : Option Addr) (cs : List Value) (f : Nat → Value)
    (hu : P.underlying dT = some (.slice elem)) (hs : (P.info? elem).map (·.size) = some size) (hA : Arr w g N f) (hn : Nat.min sLen dLen = n) (hcs : cs.length = n * size)
    (hsrc : 0 < n → ∃ a, sp = some a ∧ ∀ j v, cs[j]? = some v → w.cell? (a.add j) = some v) (hsrc0 : n = 0 → cs = []) (hfit : o + cs.length ≤ N) (h1 : ∀ v ∈ cs, v.oneCell' = true) :
    ∃ w', (Builtin.copy_ #[dT, sT] ty #[.slice (some ⟨g, o, none⟩) dLen dCap, .slice sp sLen sCap]).run P w = .ok (goInt n) w' ∧ But g w w' ∧ Arr w' g N (cop f o cs) := by
  obtain ⟨w', hst, hb, hA'⟩ := run_storeCells_arr P g N o cs 0 f w hA (by simpa using hfit) h1
  refine ⟨w', ?_, hb, by simpa using hA'⟩
  cases hq : P.info? elem with
  | none => simp [hq] at hs
  | some i =>
    have hi : i.size = size := by simpa [hq] using hs
    rcases Nat.eq_zero_or_pos n with h0 | h0
    · have hc := hsrc0 h0
      subst hc
      simp only [storeCells] at hst
      cases sp with
      | none => simp [Builtin.copy_, run_underlying hu, Builtin.lenOf, Builtin.firstCells, sizeOf, typeInfo, hq, hi, hn, h0, storeCells]; exact Result.ok.inj hst |>.2
      | some a => 
        have hl := run_loadCells_list (P := P) w a [] (by simp)
        simp only [List.length_nil] at hl
        simp [Builtin.copy_, run_underlying hu, Builtin.lenOf, Builtin.firstCells, sizeOf, typeInfo, hq, hi, hn, h0, storeCells, hl]; exact Result.ok.inj hst |>.2
    · obtain ⟨a, rfl, hc⟩ := hsrc h0
      have hl := run_loadCells_list (P := P) w a cs hc
      rw [hcs] at hl
      simp [Builtin.copy_, run_underlying hu, Builtin.lenOf, Builtin.firstCells, sizeOf, typeInfo, hq, hi, hn, hl, hst]
theorem wp_copy_arr {P : Program} {w : World} {o : Oper} {a : Act} {K : Act → World → Prop} {Q : Exit → Act → World → Prop} (d s : Operand) (dT sT : TypeId)
    (ho : o.op = .call { callee := .builtin .copy, args := #[d, s], argTypes := #[dT, sT] }) (elem : TypeId) (hu : P.underlying dT = some (.slice elem)) (size : Nat) (hs : (P.info? elem).map (·.size) = some size)
    (g N off dLen dCap sLen sCap : Nat) (sp : Option Addr) (hd : a.eval d = .slice (some ⟨g, off, none⟩) dLen dCap) (hse : a.eval s = .slice sp sLen sCap)
    (n : Nat) (hn : Nat.min sLen dLen = n) (cs : List Value) (hcs : cs.length = n * size) (f : Nat → Value) (hA : Arr w g N f)
    (hsrc : 0 < n → ∃ a, sp = some a ∧ ∀ j v, cs[j]? = some v → w.cell? (a.add j) = some v) (hsrc0 : n = 0 → cs = []) (hfit : off + cs.length ≤ N) (h1 : ∀ v ∈ cs, v.oneCell' = true)
    (h : ∀ w', Hid (But g w w') → Hid (Arr w' g N (cop f off cs)) → K (a.put o.dst (goInt n)) w') :
    Oper.wp P o a w K Q := by
  obtain ⟨w', hrun, hb, hA'⟩ := run_copy_arr (P := P) w dT sT o.type elem g N off dLen dCap sLen sCap size n sp cs f hu hs hA hn hcs hsrc hsrc0 hfit h1
  unfold Oper.wp
  simp [execOp, ho, resolve, invoke, builtin, hd, hse, hrun, Result.andThen]
  exact h w' hb hA'
theorem wpList_copy_arr {P : Program} {w : World} {ops : Array Oper} {rest : List Oper} {o : Oper} {a : Act} {Q : Exit → Act → World → Prop} (hgd : o.guard = none) (d s : Operand) (dT sT : TypeId)
    (ho : o.op = .call { callee := .builtin .copy, args := #[d, s], argTypes := #[dT, sT] }) (elem : TypeId) (hu : P.underlying dT = some (.slice elem)) (size : Nat) (hs : (P.info? elem).map (·.size) = some size)
    (g N off dLen dCap sLen sCap : Nat) (sp : Option Addr) (hd : a.eval d = .slice (some ⟨g, off, none⟩) dLen dCap) (hse : a.eval s = .slice sp sLen sCap)
    (n : Nat) (hn : Nat.min sLen dLen = n) (cs : List Value) (hcs : cs.length = n * size) (f : Nat → Value) (hA : Arr w g N f)
    (hsrc : 0 < n → ∃ a, sp = some a ∧ ∀ j v, cs[j]? = some v → w.cell? (a.add j) = some v) (hsrc0 : n = 0 → cs = []) (hfit : off + cs.length ≤ N) (h1 : ∀ v ∈ cs, v.oneCell' = true)
    (h : ∀ w', Hid (But g w w') → Hid (Arr w' g N (cop f off cs)) → wpList P ops Q rest (a.put o.dst (goInt n)) w') :
    wpList P ops Q (o :: rest) a w := by
  refine wpList_plain hgd fun K hK => ?_
  exact wp_copy_arr d s dT sT ho elem hu size hs g N off dLen dCap sLen sCap sp hd hse n hn cs hcs f hA hsrc hsrc0 hfit h1 fun w' hb hA' => hK _ _ (h w' hb hA')
end Go.Proofs.YthfkfgjhgicfeaaGreatDoor
namespace Go.Proofs.YthfkfgjhgicfeaaGreatDoor
open Go Go.RowKit
set_option linter.unusedVariables false

/-- A row's values, one behind the other. -/
def cellsA (n : Nat) (f : Nat → Value) : Array Value := ((List.range n).map f).toArray
theorem cellsA_list (n : Nat) (f : Nat → Value) : (cellsA n f).toList = (List.range n).map f := by simp [cellsA]
theorem Arr.range {W : World} {g n : Nat} {f : Nat → Value} (h : Arr W g n f) : W.rangeAt g 0 (cellsA n f).toList := by
  intro j v hv
  rw [cellsA_list] at hv
  have hj : j < n := by
    have := List.getElem?_eq_some_iff.1 hv
    simpa using this.1
  rw [List.getElem?_map, List.getElem?_range hj] at hv
  simp at hv
  rw [Nat.zero_add, (h j hj).1, hv]
section
variable {P : Program}
end
/-- Stored whole. -/
theorem Arr.stored {W : World} {g n : Nat} {f : Nat → Value} (h : Arr W g n f) (f' : Nat → Value) : Arr (W.setCells g 0 (cellsA n f').toList) g n f' := by
  intro j hj
  constructor
  · have := World.cell?_setCells_in g (cellsA n f').toList 0 W (fun i hi => by
      rw [Nat.zero_add]
      have hi' : i < n := by simpa [cellsA] using hi
      rw [(h i hi').1]; rfl) j (by simpa [cellsA] using hj)
    rw [Nat.zero_add] at this
    rw [this]
    simp [cellsA]
  · rw [World.frozen?_setCells]
    exact (h j hj).2
theorem Arr.setCells {g N : Nat} : ∀ (vs : List Value) (o : Nat) {f : Nat → Value} {W : World}, Arr W g N f → o + vs.length ≤ N → Arr (W.setCells g o vs) g N (cop f o vs)
  | [], o, f, W, h, _ => h.same fun j _ => (cop_nil f o j).symm
  | v :: rest, o, f, W, h, hl => by
    have ho : o < N := by simp at hl; omega
    refine (Arr.setCells rest (o + 1) (h.set o v ho) (by simp at hl; omega)).same fun j hj => ?_
    unfold cop
    simp only [List.length_cons]
    by_cases h2 : j = o
    · subst h2
      rw [if_neg (by omega), if_pos rfl, if_pos (by omega)]; simp
    · by_cases h3 : o + 1 ≤ j ∧ j < o + 1 + rest.length
      · rw [if_pos h3, if_pos (by omega), show j - o = (j - (o + 1)) + 1 by omega]; rfl
      · rw [if_neg h3, if_neg h2, if_neg (by omega)]
end Go.Proofs.YthfkfgjhgicfeaaGreatDoor
namespace Go.Proofs.YthfkfgjhgicfeaaGreatDoor
open Go Go.RowKit
set_option linter.unusedVariables false

theorem own_keep {w w' : World} {base : Nat} {e : TypeId} {size n : Nat} {v : Value} {xs : List Value} (h : w.ownsRow base e size v n xs) (hb : Below w.heap.size w w') : w'.ownsRow base e size v n xs := by
  refine ⟨h.1, ?_⟩
  rcases h.2 with h' | ⟨g, cap, cur, rfl, h0, hh, r⟩
  · exact Or.inl h'
  · refine Or.inr ⟨g, cap, cur, rfl, h0, (hb.block g ?_).trans hh, r⟩
    refine Nat.lt_of_not_le fun hge => ?_
    rw [Array.getElem?_eq_none hge] at hh
    cases hh
/-- The source of an append of one value. -/
theorem one_src {W : World} {g : Nat} {x : Value} (h : W.cell? ⟨g, 0, none⟩ = some x) : ∀ j u, [x][j]? = some u → W.cell? ((⟨g, 0, none⟩ : Addr).add j) = some u := by
  intro j u hu
  cases j with
  | zero => simp at hu; subst hu; exact h
  | succ j => simp at hu
theorem two_src {W : World} {g : Nat} {x y : Value} (h : W.cell? ⟨g, 0, none⟩ = some x) (h' : W.cell? ⟨g, 1, none⟩ = some y) : ∀ j u, [x, y][j]? = some u → W.cell? ((⟨g, 0, none⟩ : Addr).add j) = some u := by
  intro j u hu
  cases j with
  | zero => simp at hu; subst hu; exact h
  | succ j =>
    cases j with
    | zero => simp at hu; subst hu; exact h'
    | succ j => simp at hu
theorem own_form {w : World} {base : Nat} {e : TypeId} {size n : Nat} {v : Value} {xs : List Value} (h : w.ownsRow base e size v n xs) : ∃ a c, v = .slice a n c := by
  rcases h.2 with ⟨rfl, rfl⟩ | ⟨g, cap, cur, rfl, _⟩
  · exact ⟨none, 0, rfl⟩
  · exact ⟨some ⟨g, 0, none⟩, cap, rfl⟩
theorem own_ge {w : World} {base : Nat} {e : TypeId} {size n : Nat} {v : Value} {xs : List Value} (h : w.ownsRow base e size v n xs) : ∀ k, v.ownBlock = some k → base ≤ k := by
  intro k hk
  rcases h.2 with ⟨rfl, _⟩ | ⟨g, cap, cur, rfl, hb, _⟩
  · simp [Value.ownBlock] at hk
  · simp [Value.ownBlock] at hk; omega

theorem own_arr {w : World} {base : Nat} {e : TypeId} {size n : Nat} {v : Value} {xs : List Value} (h : w.ownsRow base e size v n xs) (h0 : 0 < n) :
    ∃ g c, v = .slice (some ⟨g, 0, none⟩) n c ∧ base ≤ g ∧ n ≤ c ∧ c ≤ maxLen ∧ Arr w g (n * size) (fun j => xs.getD j undef) := by
  obtain ⟨h1, h2 | ⟨g, cap, cur, hv, hb, hg, hn, hc, hs, ht⟩⟩ := h
  · omega
  · refine ⟨g, cap, hv, hb, hn, hc, fun j hj => ?_⟩
    have hle : n * size ≤ cap * size := Nat.mul_le_mul_right _ hn
    constructor
    · have : cur[j]? = some (xs.getD j undef) := by
        rw [← ht]
        have hj2 : j < cur.toList.length := by simp; omega
        simp [List.getD, hj, show j < cur.size by omega]
      simp [World.cell?, hg, this]
    · simp [World.frozen?, hg]
theorem Arr.eq {w : World} {g n m : Nat} {f : Nat → Value} (h : Arr w g n f) (e : n = m) : Arr w g m f := e ▸ h

/-- A slice of numbers that is put together since the world W. -/
def MadeU (W w : World) (v : Value) (xs : List Int) : Prop := w.ownsRow W.heap.size 29 1 v xs.length (xs.map (Value.int .u64)) ∧ Below W.heap.size W w
theorem MadeU.start (W : World) : MadeU W W (.slice none 0 0) [] := ⟨World.ownsRow_nil _ _ _ _, Below.refl _ _⟩
theorem MadeU.keep {W w w' : World} {v : Value} {xs : List Int} (h : MadeU W w v xs) (hb : Below w.heap.size w w') : MadeU W w' v xs := ⟨own_keep h.1 hb, bthen h.2 hb⟩
theorem MadeU.step {W w w1 : World} {v v' : Value} {xs : List Int} {z : Int} (h : MadeU W w v xs) (o : Obj)
    (hown : w1.ownsRow W.heap.size 29 1 v' (xs.length + 1) (xs.map (Value.int .u64) ++ [.int .u64 z])) (hg : (w.alloc o).grownBy w1 v.ownBlock) : MadeU W w1 v' (xs ++ [z]) := by
  refine ⟨by rw [List.length_append, List.map_append]; exact hown, (h.2.alloc h.2.size o).grown hg ?_ (own_ge h.1)⟩
  have := h.2.size; show _ ≤ (w.heap.push o).size; simp; omega
theorem MadeU.row {W w : World} {v : Value} {xs : List Int} (h : MadeU W w v xs) : ∃ a c, v = .slice a xs.length c ∧ Row w (.slice a xs.length c) xs := by
  obtain ⟨a, c, rfl⟩ := own_form h.1
  exact ⟨a, c, rfl, Row.own h.1⟩
theorem info64' : (Tryz.prog.info? 29).map (fun i => (i.zero, i.size, i.bytes)) = some (some (.int .u64 0), 1, 8) := by kernel_rfl

end Go.Proofs.YthfkfgjhgicfeaaGreatDoor
namespace Go.Proofs.YthfkfgjhgicfeaaGreatDoor
open Go Go.RowKit
set_option linter.unusedVariables false

def flat (xs : List (Int × Int)) : List Value := xs.flatMap fun z => [.int .u64 z.1, .int .u64 z.2]
theorem flat_length (xs : List (Int × Int)) : (flat xs).length = xs.length * 2 := by
  induction xs with
  | nil => rfl
  | cons x xs ih => simp only [flat, List.flatMap_cons, List.length_append, List.length_cons, List.length_nil] at *; omega
theorem flat_append (xs ys : List (Int × Int)) : flat (xs ++ ys) = flat xs ++ flat ys := by simp [flat]
theorem flat_at : ∀ (xs : List (Int × Int)) (i : Nat), i < xs.length → (flat xs)[i * 2]? = some (.int .u64 (xs.getD i (0, 0)).1) ∧ (flat xs)[i * 2 + 1]? = some (.int .u64 (xs.getD i (0, 0)).2)
  | x :: xs, 0, _ => ⟨rfl, rfl⟩
  | x :: xs, i + 1, h => by
    have ih := flat_at xs i (by simpa using h)
    have e : flat (x :: xs) = .int .u64 x.1 :: .int .u64 x.2 :: flat xs := by simp [flat]
    rw [e, show (i + 1) * 2 = i * 2 + 1 + 1 by omega]
    simpa [List.getD] using ih
/-- A slice of pairs that is put together since the world W. -/
def MadeQ (W w : World) (v : Value) (xs : List (Int × Int)) : Prop := w.ownsRow W.heap.size 31 2 v xs.length (flat xs) ∧ Below W.heap.size W w
theorem MadeQ.start (W : World) : MadeQ W W (.slice none 0 0) [] := ⟨World.ownsRow_nil _ _ _ _, Below.refl _ _⟩
theorem MadeQ.keep {W w w' : World} {v : Value} {xs : List (Int × Int)} (h : MadeQ W w v xs) (hb : Below w.heap.size w w') : MadeQ W w' v xs := ⟨own_keep h.1 hb, bthen h.2 hb⟩
theorem MadeQ.step {W w w1 : World} {v v' : Value} {xs : List (Int × Int)} {y z : Int} (h : MadeQ W w v xs) (o : Obj)
    (hown : w1.ownsRow W.heap.size 31 2 v' (xs.length + 1) (flat xs ++ [.int .u64 y, .int .u64 z])) (hg : (w.alloc o).grownBy w1 v.ownBlock) : MadeQ W w1 v' (xs ++ [(y, z)]) := by
  refine ⟨by rw [List.length_append, flat_append]; exact hown, (h.2.alloc h.2.size o).grown hg ?_ (own_ge h.1)⟩
  have := h.2.size; show _ ≤ (w.heap.push o).size; simp; omega
theorem MadeQ.row {W w : World} {v : Value} {xs : List (Int × Int)} (h : MadeQ W w v xs) : ∃ a c, v = .slice a xs.length c ∧ QRow w (.slice a xs.length c) xs := by
  obtain ⟨a, c, rfl⟩ := own_form h.1
  refine ⟨a, c, rfl, ?_⟩
  rcases h.1.2 with ⟨hv, h0⟩ | ⟨g, cap, cur, hv, hb, hg, hn, hcap, hsz, ht⟩
  · exact Or.inl ⟨hv, List.length_eq_zero_iff.mp h0⟩
  · refine Or.inr (Or.inr ⟨g, 0, cap, hv, hn, hcap, fun i hi => ?_⟩)
    cases hv
    have h0 := h.1.cellAt (i * 2) (by omega)
    have h1 := h.1.cellAt (i * 2 + 1) (by omega)
    obtain ⟨f0, f1⟩ := flat_at xs i hi
    rw [Nat.zero_add, h0, h1]
    exact ⟨f0, f1⟩
end Go.Proofs.YthfkfgjhgicfeaaGreatDoor
namespace Go.Proofs.YthfkfgjhgicfeaaGreatDoor
open Go Go.ChangeShapes Go.WideShapes Go.Deep
set_option linter.unusedVariables false

section
variable {H : Type} {enc : TypeId × Value → H} {P : Program} {w : World} {base : Nat} {spare : Nat → Bool} {held : Bool}
theorem okWide_array {r : Reach} {b0 : Nat} {t : TypeId} {v : Value} {n : Nat} {e : TypeId} (ht : P.underlying t = some (.array n e)) (h : Value.okWide P w r b0 t v) : ∃ cs, v = .agg cs ∧ cs.size = P.cellsOf t := by
  simp only [Value.okWide, ht] at h
  obtain ⟨cs, h1, h2, _⟩ := h
  exact ⟨cs, h1, h2⟩
end
end Go.Proofs.YthfkfgjhgicfeaaGreatDoor
namespace Go.Proofs.YthfkfgjhgicfeaaGreatDoor
open Go Go.RowKit
set_option linter.unusedVariables false

section
variable {P : Program}
end
end Go.Proofs.YthfkfgjhgicfeaaGreatDoor
namespace Go.Proofs.YthfkfgjhgicfeaaGreatDoor
open Go Go.RowKit Go.ChangeShapes Go.WideShapes
set_option linter.unusedVariables false

section
variable {H : Type} {enc : TypeId × Value → H} {P : Program} {w : World} {base : Nat} {spare : Nat → Bool} {held : Bool}
/-- Integers of one kind, in arrays of such: how many cells an element takes, a level each. -/
def TabT (P : Program) (k : IntKind) : List Nat → TypeId → Prop
  | [], t => P.underlying t = some (.int k) ∧ P.cellsOf t = 1
  | c :: r, t => ∃ m e, P.underlying t = some (.array m e) ∧ P.cellsOf e = c ∧ P.cellsOf t = m * c ∧ TabT P k r e
/-- The integer at a place of a datum. -/
def tabAt : List Nat → DataW H → Nat → Int
  | [], .lit (.int _ z), _ => z
  | c :: r, .agg l, j => match l[j / c]? with
    | some d => tabAt r d (j % c)
    | none => 0
  | _, _, _ => 0
theorem tab_cells {k : IntKind} : ∀ (r : List Nat) (t : TypeId) (fuel : Nat) (cs : List Value) (x : DataW H) (p : List MemPlace), TabT P k r t → DataW.trod enc P w base spare held fuel t cs = some (x, p) →
    ∀ j, j < P.cellsOf t → cs[j]? = some (.int k (tabAt r x j))
  | [], t, fuel, cs, x, p, hT, h, j, hj => by
    obtain ⟨hu, hc⟩ := hT
    obtain ⟨z, rfl, hx, _⟩ := DataW.trod_int hu h
    obtain ⟨rfl, rfl⟩ := Prod.mk.inj hx
    rw [hc] at hj
    obtain rfl : j = 0 := by omega
    rfl
  | c :: r, t, fuel, cs, x, p, hT, h, j, hj => by
    obtain ⟨m, e, hu, hce, hct, hTe⟩ := hT
    obtain ⟨xs, q, _, hx, hl, hxl, hi⟩ := DataW.trod_array hu h
    obtain ⟨rfl, _⟩ := Prod.mk.inj hx
    have hc0 : 0 < c := Nat.pos_of_ne_zero fun h0 => by rw [h0] at hct; omega
    have hjm : j / c < m := (Nat.div_lt_iff_lt_mul hc0).2 (by omega)
    have hxi := hi (j / c) hjm
    obtain ⟨y, hy⟩ : ∃ y, xs[j / c]? = some y := ⟨xs[j / c]'(by omega), List.getElem?_eq_getElem _⟩
    rw [hy, hce] at hxi
    have ih := tab_cells r e q _ y.1 y.2 hTe hxi (j % c) (by rw [hce]; exact Nat.mod_lt _ hc0)
    rw [List.getElem?_take_of_lt (Nat.mod_lt _ hc0), List.getElem?_drop, Nat.mul_comm, Nat.div_add_mod] at ih
    rw [ih]
    have : (xs.map (·.1))[j / c]? = some y.1 := by rw [List.getElem?_map, hy]; rfl
    simp only [tabAt, this]
end
/-- A table's cells. -/
def Tabs (W : World) (g n : Nat) (k : IntKind) (Z : Nat → Int) : Prop := ∀ j, j < n → W.cell? ⟨g, j, none⟩ = some (.int k (Z j))
theorem Tabs.keep {W W' : World} {g n : Nat} {k : IntKind} {Z : Nat → Int} (h : Tabs W g n k Z) (hb : Below W.heap.size W W') : Tabs W' g n k Z := fun j hj => bkeep hb (h j hj)
theorem Tabs.of {P : Program} {W : World} {l : List (String × DataW Unit)} {name : String} {d : DataW Unit} {g n : Nat} {t : TypeId} {k : IntKind} (r : List Nat) (Z : Nat → Int) (hm : (name, d) ∈ l)
    (hg : P.globalNamed name = some g) (hty : (P.globals[g]?).map (·.type) = some t) (hT : TabT P k r t) (hn : P.cellsOf t = n) (hZ : ∀ j, j < n → tabAt r d j = Z j) (h : laidMet P l W) : Tabs W g n k Z := by
  obtain ⟨ps, hv, _⟩ := h
  have key : ∀ (l : List (String × DataW Unit)) (ps : List MemPlace), DataW.LaidVars P W l ps → (name, d) ∈ l → Tabs W g n k Z := by
    intro l
    induction l with
    | nil => intro _ _ hm; cases hm
    | cons a l ih =>
      intro ps hv hm
      obtain ⟨n', d'⟩ := a
      obtain ⟨g', t', cs, fuel, p, q, hg', ht', hvar, hd, hrest, _⟩ := hv
      rcases List.mem_cons.1 hm with he | hm
      · obtain ⟨rfl, rfl⟩ := Prod.mk.inj he
        obtain rfl := Option.some.inj (hg.symm.trans hg')
        obtain rfl := Option.some.inj (hty.symm.trans ht')
        intro j hj
        have hc := tab_cells r t fuel cs.toList d p hT hd j (by omega)
        have := World.var?_cell hg hvar j
        rw [this, ← hZ j hj]
        simpa using hc
      · exact ih q hrest hm
  exact key l ps hv hm
end Go.Proofs.YthfkfgjhgicfeaaGreatDoor
namespace Go.Proofs.YthfkfgjhgicfeaaGreatDoor
open Go Go.RowKit
set_option linter.unusedVariables false

/-- What one operation is asked. -/
def OpRunsW (P : Program) (ops : Array Oper) (Q : Exit → Act → World → Prop) (a : Act) (ds : List Nat) (Wd : (Nat → Bool) → (Nat → Value) → World → Prop) (o : Oper) (d : Nat) (needs : List Nat) : Prop :=
  ∀ (D : Nat → Bool) (σ : Nat → Value) (W : World) (K : Act → World → Prop), Wd D σ W → D d = false → (∀ k ∈ needs, D k = true) →
    (∀ (v : Value) (W' : World), Wd (fun k => if k = d then true else D k) (fun k => if k = d then v else σ k) W' → K ((fill a ds σ).put o.dst v) W') →
    if Region.wanted o (yielded ops (fill a ds σ).tmps) = true then Oper.wp P o (fill a ds σ) W K Q else K ((fill a ds σ).put o.dst undef) W

theorem wp_region_lay {P : Program} {id : Nat} {Q : Exit → Act → World → Prop} {a : Act} {w : World} {l : List Oper} (plan : List (Nat × List Nat)) (Wd : (Nat → Bool) → (Nat → Value) → World → Prop)
    (hm : P.follows .mixedOrders = true) (hB : planOk .any l.toArray plan = true)
    (hw0 : ∀ σ, Wd (fun _ => false) σ { w with drawn := w.drawn + 1 })
    (hops : ∀ (i : Nat) (o : Oper) (d : Nat) (needs : List Nat), l[i]? = some o → plan[i]? = some (d, needs) → OpRunsW P l.toArray Q a (plan.map (·.1)) Wd o d needs)
    (hend : ∀ (D : Nat → Bool) (σ : Nat → Value) (W : World), Wd D σ W → (∀ d ∈ plan.map (·.1), D d = true) → wpList P l.toArray Q (l.drop plan.length) (fill a (plan.map (·.1)) σ) W) :
    (Code.region id l.toArray true).wp P Q a w := by
  simp only [planOk, Bool.and_eq_true, decide_eq_true_eq] at hB
  obtain ⟨⟨⟨⟨⟨hlen, hnd⟩, hbk⟩, hT⟩, hseq⟩, hpl⟩ := hB
  have hT' : plan.length = l.toArray.size ∨ (Region.sinkB .any l.toArray plan.length = true ∧ Region.chainB .any l.toArray plan.length = true) := by
    simpa only [Bool.or_eq_true, decide_eq_true_eq, Bool.and_eq_true] using hT
  have plan_at : ∀ i, i < plan.length → ∃ d needs o, plan[i]? = some (d, needs) ∧ l[i]? = some o ∧ o.dst = some d ∧
      ∀ k ∈ needs, ∃ e ∈ o.after, Region.binds .any e = true ∧ e.on < i ∧ ((l.toArray[e.on]?).bind (·.dst)) = some k := by
    intro i hi
    have h1 := List.all_eq_true.1 hpl i (List.mem_range.2 hi)
    cases hp : plan[i]? with
    | none => rw [hp] at h1; simp at h1
    | some q =>
      obtain ⟨d, needs⟩ := q
      cases ho : l.toArray[i]? with
      | none => rw [hp, ho] at h1; simp at h1
      | some o =>
        rw [hp, ho] at h1
        simp only [Bool.and_eq_true, decide_eq_true_eq, List.all_eq_true] at h1
        refine ⟨d, needs, o, rfl, by simpa using ho, h1.1, fun k hk => ?_⟩
        obtain ⟨e, he, hb⟩ := Array.any_eq_true'.1 (h1.2 k hk)
        simp only [Bool.and_eq_true, decide_eq_true_eq, beq_iff_eq] at hb
        exact ⟨e, he, hb.1.1, hb.1.2, hb.2⟩
  have plan_inj : ∀ (i j d : Nat) (ni nj : List Nat), plan[i]? = some (d, ni) → plan[j]? = some (d, nj) → i = j := by
    intro i j d ni nj hi hj
    have h1 : (plan.map (·.1))[i]? = some d := by simp [hi]
    have h2 : (plan.map (·.1))[j]? = some d := by simp [hj]
    have hil : i < (plan.map (·.1)).length := by
      rcases Nat.lt_or_ge i (plan.map (·.1)).length with h | h
      · exact h
      · rw [List.getElem?_eq_none h] at h1; cases h1
    exact (List.getElem?_inj hil hnd).1 (h1.trans h2.symm)
  have mem_ds : ∀ i d needs, plan[i]? = some (d, needs) → d ∈ plan.map (·.1) := fun i d needs h => List.mem_map.2 ⟨(d, needs), List.mem_of_getElem? h, rfl⟩
  let J : Array Bool → Act → World → Prop := fun listed a' W => ∃ (D : Nat → Bool) (σ : Nat → Value), a' = fill a (plan.map (·.1)) σ ∧ Wd D σ W ∧
    ∀ (i d : Nat) (needs : List Nat), plan[i]? = some (d, needs) → D d = listed.getD i false
  have step : ∀ listed a' W i, HeadInv .any l.toArray plan.length listed → J listed a' W → i ∈ Region.ready .any l.toArray listed → i < plan.length → wpOp P l.toArray Q i (J (listed.setIfInBounds i true)) a' W := by
    rintro listed a' W i inv ⟨D, σ, rfl, hW, hD⟩ hi hin
    obtain ⟨d, needs, o, hp, ho, hd, hneeds⟩ := plan_at i hin
    obtain ⟨hun, o', ho', hall⟩ := mem_ready.1 hi
    have hoa : l.toArray[i]? = some o := by simpa using ho
    have : o' = o := Option.some.inj (ho'.symm.trans hoa)
    subst this
    have hui : listed.getD i false = false := getD_both hun
    have hop := hops i o' d needs ho hp D σ W (J (listed.setIfInBounds i true)) hW (by rw [hD i d needs hp]; exact hui) ?_ ?_
    · unfold wpOp
      simp only [hoa]
      split
      · rename_i hw; rw [if_pos hw] at hop; exact Or.inl hop
      · rename_i hw; rw [if_neg hw] at hop; exact hop
    · intro k hk
      obtain ⟨e, he, hb, hlt, hdst⟩ := hneeds k hk
      have hle := hall e he hb
      obtain ⟨d2, n2, o2, hp2, ho2, hd2, _⟩ := plan_at e.on (by omega)
      have : d2 = k := by
        have h3 : l.toArray[e.on]? = some o2 := by simpa using ho2
        rw [h3] at hdst
        simp only [Option.bind_some] at hdst
        exact Option.some.inj (hd2.symm.trans hdst)
      subst this
      rw [hD e.on d2 n2 hp2]; exact hle
    · intro v W' hv
      refine ⟨_, _, by rw [hd, fill_put hnd (mem_ds i d needs hp)], hv, fun j e nj hj => ?_⟩
      by_cases hji : j = i
      · subst hji
        have : (e, nj) = (d, needs) := Option.some.inj (hj.symm.trans hp)
        cases this
        rw [if_pos rfl]
        have := inv.size
        simp; omega
      · have hne : e ≠ d := fun h => hji (by subst h; exact plan_inj _ _ _ _ _ hj hp)
        rw [if_neg hne, getD_set_ne false (Ne.symm hji)]
        exact hD j e nj hj
  have hdone : ∀ i, i < plan.length → (doneArr plan.length (l.toArray.size - plan.length)).getD i false = true := by
    intro i hi
    have h1 : i < (doneArr plan.length (l.toArray.size - plan.length)).size := by simp [doneArr]; omega
    simp only [Array.getD, h1, dite_true]
    simp only [doneArr]
    show (List.replicate plan.length true ++ List.replicate (l.toArray.size - plan.length) false)[i]'(by simp; omega) = true
    rw [List.getElem_append_left (by simpa using hi), List.getElem_replicate]
  have fin : ∀ a' W, J (doneArr plan.length (l.toArray.size - plan.length)) a' W → wpAny P .any l.toArray Q (l.toArray.size - plan.length) (doneArr plan.length (l.toArray.size - plan.length)) a' W := by
    rintro a' W ⟨D, σ, rfl, hW, hD⟩
    have hl2 : (l.drop plan.length).length = l.toArray.size - plan.length := by simp
    have := wpAny_of_seq (md := .any) (Q' := Q) (P := P) (l.drop plan.length) plan.length (doneArr plan.length (l.toArray.size - plan.length)) (fill a (plan.map (·.1)) σ) W (fun j => by simp [List.getElem?_drop]) (by rw [hl2]; exact hseq)
      (hend D σ W hW (fun d hd => by
        obtain ⟨q, hq, rfl⟩ := List.mem_map.1 hd
        obtain ⟨i, hi, hqi⟩ := List.getElem_of_mem hq
        rw [hD i q.1 q.2 (by rw [List.getElem?_eq_getElem hi, hqi])]
        exact hdone i hi))
    rwa [hl2] at this
  refine wp_region_any hm ?_
  have inv0 : HeadInv .any l.toArray plan.length (Array.replicate l.toArray.size false) :=
    ⟨by simp, fun j oj _ hl => (by rw [getD_replicate_false] at hl; cases hl), fun t _ ht => getD_in (by simpa using ht) (getD_replicate_false _ _)⟩
  have hc0 : ∀ k, cnt (Array.replicate l.toArray.size false) k = k := by
    intro k
    induction k with
    | zero => rfl
    | succ k ih => rw [cnt, ih, getD_replicate_false]; simp
  have key := loose_go (P := P) (Q := Q) (md := .any) (J := J) hlen hT' hbk step fin plan.length (Array.replicate l.toArray.size false) a { w with drawn := w.drawn + 1 } (hc0 _) inv0
    ⟨fun _ => false, fun d => a.tmps.getD d undef, fill_self.symm, hw0 _, fun i d needs _ => by rw [getD_replicate_false]⟩
  rw [show plan.length + (l.toArray.size - plan.length) = l.toArray.size by omega] at key
  exact key

/-- All operations of the head, one by one. -/
def OpsRunW (P : Program) (ops : Array Oper) (Q : Exit → Act → World → Prop) (a : Act) (ds : List Nat) (Wd : (Nat → Bool) → (Nat → Value) → World → Prop) : List Oper → List (Nat × List Nat) → Prop
  | _, [] => True
  | [], _ :: _ => True
  | o :: os, (d, needs) :: ps => OpRunsW P ops Q a ds Wd o d needs ∧ OpsRunW P ops Q a ds Wd os ps
theorem OpsRunW.at {P : Program} {ops : Array Oper} {Q : Exit → Act → World → Prop} {a : Act} {ds : List Nat} {Wd : (Nat → Bool) → (Nat → Value) → World → Prop} : ∀ {os : List Oper} {ps : List (Nat × List Nat)}, OpsRunW P ops Q a ds Wd os ps →
    ∀ (i : Nat) (o : Oper) (d : Nat) (needs : List Nat), os[i]? = some o → ps[i]? = some (d, needs) → OpRunsW P ops Q a ds Wd o d needs
  | os, [], _, i, o, d, needs, _, h => by simp at h
  | [], _ :: _, _, i, o, d, needs, h, _ => by simp at h
  | o' :: os, (d', n') :: ps, h, 0, o, d, needs, h1, h2 => by
    simp at h1 h2
    obtain ⟨rfl, rfl⟩ := h2
    subst h1
    exact h.1
  | o' :: os, (d', n') :: ps, h, i + 1, o, d, needs, h1, h2 => OpsRunW.at h.2 i o d needs (by simpa using h1) (by simpa using h2)
theorem opsw_cons {P : Program} {ops : Array Oper} {Q : Exit → Act → World → Prop} {a : Act} {ds : List Nat} {Wd : (Nat → Bool) → (Nat → Value) → World → Prop} {o : Oper} {os : List Oper} {d : Nat} {needs : List Nat} {ps : List (Nat × List Nat)}
    (h : OpRunsW P ops Q a ds Wd o d needs) (hs : OpsRunW P ops Q a ds Wd os ps) : OpsRunW P ops Q a ds Wd (o :: os) ((d, needs) :: ps) := ⟨h, hs⟩
theorem opsw_nil {P : Program} {ops : Array Oper} {Q : Exit → Act → World → Prop} {a : Act} {ds : List Nat} {Wd : (Nat → Bool) → (Nat → Value) → World → Prop} {os : List Oper} : OpsRunW P ops Q a ds Wd os [] := by
  cases os <;> exact trivial
theorem OpRunsW.any {P : Program} {ops : Array Oper} {Q : Exit → Act → World → Prop} {a : Act} {ds : List Nat} {Wd : (Nat → Bool) → (Nat → Value) → World → Prop} {o : Oper} {d : Nat} {needs : List Nat}
    (h : ∀ Q' : Exit → Act → World → Prop, OpRunsW P ops Q' a ds Wd o d needs) : OpRunsW P ops Q a ds Wd o d needs := h Q
/-- The law, its operations handed over one by one. -/
theorem wp_lay {P : Program} {id : Nat} {Q : Exit → Act → World → Prop} {a : Act} {w : World} {l : List Oper} (plan : List (Nat × List Nat)) (Wd : (Nat → Bool) → (Nat → Value) → World → Prop)
    (hm : P.follows .mixedOrders = true) (hB : planOk .any l.toArray plan = true)
    (hw0 : ∀ σ, Wd (fun _ => false) σ { w with drawn := w.drawn + 1 })
    (hops : OpsRunW P l.toArray Q a (plan.map (·.1)) Wd l plan)
    (hend : ∀ (D : Nat → Bool) (σ : Nat → Value) (W : World), Wd D σ W → (∀ d ∈ plan.map (·.1), D d = true) → wpList P l.toArray Q (l.drop plan.length) (fill a (plan.map (·.1)) σ) W) :
    (Code.region id l.toArray true).wp P Q a w :=
  wp_region_lay plan Wd hm hB hw0 hops.at hend
end Go.Proofs.YthfkfgjhgicfeaaGreatDoor
namespace Go.Proofs.YthfkfgjhgicfeaaGreatDoor
open Go Go.RowKit
set_option linter.unusedVariables false

theorem wp_append_own_at {P : Program} {w : World} {o : Oper} {a : Act} {K : Act → World → Prop} {Q : Exit → Act → World → Prop} (s x : Operand) (t : TypeId)
    (ho : o.op = .call { callee := .builtin .append, args := #[s, x], argTypes := #[t, t] })
    (base : Nat) (e : TypeId) (i : TypeInfo) (z : Value) (size bytes : Nat) (ht : P.underlying t = some (.slice e)) (hi : P.info? e = some i) (hz : i.zero = some z)
    (hsize : i.size = size) (hby : i.bytes = bytes) (hzs : z.cells.size = size) (hsz : 0 < size)
    (v : Value) (n : Nat) (xs : List Value) (hs : a.eval s = v) (hown : w.ownsRow base e size v n xs)
    (ad : Addr) (m c : Nat) (news : List Value) (hx : a.eval x = .slice (some ad) m c) (hl : news.length = m * size) (hnews : ∀ j u, news[j]? = some u → w.cell? (ad.add j) = some u) (h1 : ∀ u ∈ news, u.oneCell' = true)
    (h63 : n + m ≤ maxLen) (hbytes : (n + m) * bytes ≤ 140737488355328) (hbase : base ≤ w.heap.size)
    (h : ∀ v' w', w'.ownsRow base e size v' (n + m) (xs ++ news) → w.grownBy w' v.ownBlock → (v'.ownBlock = v.ownBlock ∨ v'.ownBlock = some w.heap.size) → K (a.put o.dst v') w') : o.wp P a w K Q := by
  obtain ⟨v', w', hr, h2, h3, h4, h5⟩ := run_append_own_at (P := P) w base t o.type e i z size bytes ht hi hz hsize hby hzs hsz v n xs hown ad m c news hl hnews h1 h63 hbytes hbase
  unfold Oper.wp execOp
  simp only [ho, resolve, invoke, builtin, Sem.run_bind, Sem.run_pure, Result.andThen_ok, List.map_toArray, List.map_cons, List.map_nil, hs, hx, hr]
  exact h v' w' h2 h3 h5
theorem own_block {W : World} {base : Nat} {e : TypeId} {size n : Nat} {v : Value} {xs : List Value} (h : W.ownsRow base e size v n xs) {k : Nat} (hk : v.ownBlock = some k) : ∃ cur, W.heap[k]? = some (.cells cur e (0, 0)) := by
  rcases h.2 with ⟨rfl, _⟩ | ⟨g, cap, cur, rfl, _, hg, _⟩
  · simp [Value.ownBlock] at hk
  · simp [Value.ownBlock] at hk
    subst hk
    exact ⟨cur, hg⟩
/-- Rows of unlike elements lie in unlike blocks. -/
theorem own_unlike {W : World} {base base' : Nat} {e e' : TypeId} {size size' n n' : Nat} {v v' : Value} {xs xs' : List Value} (h : W.ownsRow base e size v n xs) (h' : W.ownsRow base' e' size' v' n' xs') (hne : e ≠ e') : v.ownBlock = none ∨ v.ownBlock ≠ v'.ownBlock := by
  cases hv : v.ownBlock with
  | none => exact Or.inl rfl
  | some k =>
    refine Or.inr fun he => ?_
    obtain ⟨c, hc⟩ := own_block h hv
    obtain ⟨c', hc'⟩ := own_block h' he.symm
    rw [hc] at hc'
    cases hc'
    exact hne rfl
theorem own_apart {v v' : Value} (h : ∀ k, v.ownBlock = some k → v'.ownBlock ≠ some k) : v'.ownBlock = none ∨ v'.ownBlock ≠ v.ownBlock := by
  cases hv : v'.ownBlock with
  | none => exact Or.inl rfl
  | some k => exact Or.inr fun he => h k he.symm hv
theorem MadeQ.kept {W w w' : World} {v : Value} {xs : List (Int × Int)} {row : Option Nat} (h : MadeQ W w v xs) (hg : w.grownBy w' row) (hne : v.ownBlock = none ∨ v.ownBlock ≠ row) (hr : ∀ k, row = some k → W.heap.size ≤ k) : MadeQ W w' v xs :=
  ⟨h.1.kept hg hne, h.2.grown hg h.2.size hr⟩
theorem MadeU.kept {W w w' : World} {v : Value} {xs : List Int} {row : Option Nat} (h : MadeU W w v xs) (hg : w.grownBy w' row) (hne : v.ownBlock = none ∨ v.ownBlock ≠ row) (hr : ∀ k, row = some k → W.heap.size ≤ k) : MadeU W w' v xs :=
  ⟨h.1.kept hg hne, h.2.grown hg h.2.size hr⟩
theorem MadeQ.grow {W w w' : World} {v v' : Value} {xs : List (Int × Int)} {y z : Int} (h : MadeQ W w v xs) (hown : w'.ownsRow W.heap.size 31 2 v' (xs.length + 1) (flat xs ++ [.int .u64 y, .int .u64 z])) (hg : w.grownBy w' v.ownBlock) : MadeQ W w' v' (xs ++ [(y, z)]) :=
  ⟨by rw [List.length_append, flat_append]; exact hown, h.2.grown hg h.2.size (own_ge h.1)⟩
theorem Var.grown {W W' : World} {g : Nat} {x y : Int} {row : Option Nat} (h : Var W g x y) (hg : W.grownBy W' row) (hne : row ≠ some g) : Var W' g x y := by
  obtain ⟨c0, c1, f0, f1⟩ := h
  have hlt : g < W.heap.size := World.block_lt_of_cell? W _ c0
  have hb := hg.block g hlt (fun h => hne h.symm)
  exact ⟨(World.cell?_of_block (a := ⟨g, 0, none⟩) hb).trans c0, (World.cell?_of_block (a := ⟨g, 1, none⟩) hb).trans c1, (World.frozen?_of_block (a := ⟨g, 0, none⟩) hb).trans f0, (World.frozen?_of_block (a := ⟨g, 1, none⟩) hb).trans f1⟩

section
variable {w : World} {s1 a1 f1 s2 a2 f2 : Nat} {v7 v8 v9 : Value} {xs ys : List (Int × Int)} {p q : Int × Int} {ns : List Int} {simple : List Nat} {val : Nat → Value} {D : Nat → Bool} {σ : Nat → Value} {W : World}
end
end Go.Proofs.YthfkfgjhgicfeaaGreatDoor
namespace Go.Proofs.YthfkfgjhgicfeaaGreatDoor
open Go Go.RowKit
set_option linter.unusedVariables false

end Go.Proofs.YthfkfgjhgicfeaaGreatDoor
namespace Go.Proofs.YthfkfgjhgicfeaaGreatDoor
open Go Go.RowKit
set_option linter.unusedVariables false

section
variable {P : Program}
theorem Tabs.range {W : World} {g n : Nat} {k : IntKind} {Z : Nat → Int} (h : Tabs W g n k Z) : W.rangeAt g 0 (cellsA n fun j => .int k (Z j)).toList := by
  intro j v hv
  rw [cellsA_list] at hv
  have hj : j < n := by
    have := List.getElem?_eq_some_iff.1 hv
    simpa using this.1
  rw [List.getElem?_map, List.getElem?_range hj] at hv
  simp at hv
  rw [Nat.zero_add, h j hj, hv]
end
end Go.Proofs.YthfkfgjhgicfeaaGreatDoor
namespace Go.Proofs.YthfkfgjhgicfeaaGreatDoor
open Go Go.RowKit
set_option linter.unusedVariables false

theorem wpList_append_own_at {P : Program} {w : World} {ops : Array Oper} {rest : List Oper} {o : Oper} {a : Act} {Q : Exit → Act → World → Prop} (hgd : o.guard = none) (s x : Operand) (t : TypeId)
    (ho : o.op = .call { callee := .builtin .append, args := #[s, x], argTypes := #[t, t] })
    (base : Nat) (e : TypeId) (i : TypeInfo) (z : Value) (size bytes : Nat) (ht : P.underlying t = some (.slice e)) (hi : P.info? e = some i) (hz : i.zero = some z)
    (hsize : i.size = size) (hby : i.bytes = bytes) (hzs : z.cells.size = size) (hsz : 0 < size)
    (v : Value) (n : Nat) (xs : List Value) (hs : a.eval s = v) (hown : w.ownsRow base e size v n xs)
    (ad : Addr) (m c : Nat) (news : List Value) (hx : a.eval x = .slice (some ad) m c) (hl : news.length = m * size) (hnews : ∀ j u, news[j]? = some u → w.cell? (ad.add j) = some u) (h1 : ∀ u ∈ news, u.oneCell' = true)
    (h63 : n + m ≤ maxLen) (hbytes : (n + m) * bytes ≤ 140737488355328) (hbase : base ≤ w.heap.size)
    (h : ∀ v' w', w'.ownsRow base e size v' (n + m) (xs ++ news) → w.grownBy w' v.ownBlock → (v'.ownBlock = v.ownBlock ∨ v'.ownBlock = some w.heap.size) → wpList P ops Q rest (a.put o.dst v') w') : wpList P ops Q (o :: rest) a w :=
  wpList_plain hgd fun K hK => wp_append_own_at s x t ho base e i z size bytes ht hi hz hsize hby hzs hsz v n xs hs hown ad m c news hx hl hnews h1 h63 hbytes hbase fun v' w' h2 h3 h4 => hK _ _ (h v' w' h2 h3 h4)
/-- A slice of elements of one cell that is put together since the world W. -/
def MadeG (e : TypeId) (W w : World) (v : Value) (xs : List Value) : Prop := w.ownsRow W.heap.size e 1 v xs.length xs ∧ Below W.heap.size W w
section
variable {e : TypeId} {W w w' : World} {v v' : Value} {xs : List Value}
theorem MadeG.start (e : TypeId) (W : World) : MadeG e W W (.slice none 0 0) [] := ⟨World.ownsRow_nil _ _ _ _, Below.refl _ _⟩
theorem MadeG.nil (h : Below W.heap.size W w) : MadeG e W w (.slice none 0 0) [] := ⟨World.ownsRow_nil _ _ _ _, h⟩
theorem MadeG.keep (h : MadeG e W w v xs) (hb : Below w.heap.size w w') : MadeG e W w' v xs := ⟨own_keep h.1 hb, bthen h.2 hb⟩
theorem MadeG.kept {row : Option Nat} (h : MadeG e W w v xs) (hg : w.grownBy w' row) (hne : v.ownBlock = none ∨ v.ownBlock ≠ row) (hr : ∀ k, row = some k → W.heap.size ≤ k) : MadeG e W w' v xs :=
  ⟨h.1.kept hg hne, h.2.grown hg h.2.size hr⟩
theorem MadeG.grow {z : Value} (h : MadeG e W w v xs) (hown : w'.ownsRow W.heap.size e 1 v' (xs.length + 1) (xs ++ [z])) (hg : w.grownBy w' v.ownBlock) : MadeG e W w' v' (xs ++ [z]) :=
  ⟨by rw [List.length_append]; exact hown, h.2.grown hg h.2.size (own_ge h.1)⟩
theorem MadeG.row (h : MadeG e W w v xs) : ∃ a c, v = .slice a xs.length c ∧ xs.length ≤ c ∧ c ≤ maxLen ∧ (a = none → xs.length = 0 ∧ c = 0) ∧ ∀ k, k < xs.length → ∃ b off : Nat, a = some ⟨b, off, none⟩ ∧ w.cell? ⟨b, off + k, none⟩ = some (xs.getD k undef) := by
  rcases h.1.2 with ⟨rfl, h0⟩ | ⟨g, cap, cur, rfl, hb, hg, hn, hc, _⟩
  · exact ⟨none, 0, by rw [h0], by omega, by unfold maxLen; omega, fun _ => ⟨h0, rfl⟩, fun k hk => by omega⟩
  · refine ⟨some ⟨g, 0, none⟩, cap, rfl, hn, hc, (fun e => by cases e), fun k hk => ⟨g, 0, rfl, ?_⟩⟩
    have := h.1.cells (g := g) rfl k (xs.getD k undef) (by simp [List.getD, hk])
    rwa [Addr.add_lit] at this
end
end Go.Proofs.YthfkfgjhgicfeaaGreatDoor
