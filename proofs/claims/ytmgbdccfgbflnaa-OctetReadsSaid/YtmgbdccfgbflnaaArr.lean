/-
  Rows of cells that a call made itself, cell by cell; slices of numbers, read by a letter for their address. No function of the program is named.
-/
import Derived.Test.YtmgbdccfgbflnaaPairSum
import Derived.Deep.OwnRows
namespace Go.Proofs.Ytmgbdccfgbflnaa
open Go Go.RowKit
set_option linter.unusedVariables false

/-- A pair as it is kept. -/
def encP (x : F2) : Int × Int := (enc x.a, enc x.b)
/-- The first n cells of a block, none frozen. -/
def Arr (W : World) (g n : Nat) (f : Nat → Value) : Prop := ∀ j, j < n → W.cell? ⟨g, j, none⟩ = some (f j) ∧ W.frozen? ⟨g, j, none⟩ = false
theorem Arr.keep {W w1 : World} {g n : Nat} {f : Nat → Value} (h : Arr W g n f) (hb : Below W.heap.size W w1) : Arr w1 g n f :=
  fun j hj => ⟨bkeep hb (h j hj).1, bfree hb (h j hj).1 (h j hj).2⟩
theorem Arr.alloc {W : World} {g n : Nat} {f : Nat → Value} (h : Arr W g n f) (o : Obj) : Arr (W.alloc o) g n f := h.keep ((Below.refl _ _).alloc (Nat.le_refl _) _)
theorem Arr.same {W : World} {g n : Nat} {f f' : Nat → Value} (h : Arr W g n f) (hf : ∀ j, j < n → f j = f' j) : Arr W g n f' := fun j hj => by rw [← hf j hj]; exact h j hj
theorem Arr.set {W : World} {g n : Nat} {f : Nat → Value} (h : Arr W g n f) (i : Nat) (v : Value) (hi : i < n) : Arr (W.setCell ⟨g, i, none⟩ v) g n (fun j => if j = i then v else f j) := by
  intro j hj
  obtain ⟨c, e⟩ := h j hj
  obtain ⟨ci, ei⟩ := h i hi
  by_cases hji : j = i
  · subst hji
    simp [go_sem, ci, ei]
  · show _ = some (if j = i then v else f j) ∧ _
    rw [if_neg hji]
    refine ⟨(World.cell?_setCell_other _ _ _ _ (by intro hh; cases hh; exact hji rfl)).trans c, by simp [e]⟩
theorem Arr.far {W : World} {g n : Nat} {f : Nat → Value} (h : Arr W g n f) {g' : Nat} (hg : g' ≠ g) (o : Nat) (v : Value) : Arr (W.setCell ⟨g', o, none⟩ v) g n f := by
  intro j hj
  obtain ⟨c, e⟩ := h j hj
  exact ⟨(World.cell?_setCell_far _ _ _ _ hg).trans c, by simp [e]⟩
theorem Var.arr {W : World} {g : Nat} {x y : Int} (h : Var W g x y) {g' : Nat} (hg : g' ≠ g) (o : Nat) (v : Value) : Var (W.setCell ⟨g', o, none⟩ v) g x y := h.far hg o v
theorem Arr.new (W : World) (z : Array Value) (n : Nat) (t : TypeId) : Arr (W.alloc (.cells (madeCells z n) t)) W.heap.size n (fun j => z[j % z.size]!) := by
  intro j hj
  constructor
  · rw [cell_of_row _ _ _ _ _ _ (heap_alloc_new W (.cells (madeCells z n) t))]
    simp [madeCells, hj]
  · have hh := heap_alloc_new W (.cells (madeCells z n) t)
    unfold World.frozen?
    simp only [hh]
    simp
theorem Arr.lt {W : World} {g n : Nat} {f : Nat → Value} (h : Arr W g n f) (hn : 0 < n) : g < W.heap.size := World.block_lt_of_cell? W _ (h 0 hn).1

/-- A slice of numbers, by a letter for its address. -/
def RowA (w : World) (a : Option Addr) (len : Nat) (zs : List Int) : Prop :=
  zs.length = len ∧ len ≤ maxLen ∧ ∀ k, k < len → ∃ b off : Nat, a = some ⟨b, off, none⟩ ∧ w.cell? ⟨b, off + k, none⟩ = some (.int .u64 (zs.getD k 0))
theorem Row.at {w : World} {a : Option Addr} {len cap : Nat} {zs : List Int} (h : Row w (.slice a len cap) zs) : RowA w a len zs := by
  rcases h with ⟨h, rfl⟩ | ⟨x, c, h, rfl⟩ | ⟨b, off, c, h, hc, hm, hcell⟩
  · cases h; exact ⟨rfl, by unfold maxLen; omega, fun k hk => by omega⟩
  · cases h; exact ⟨rfl, by unfold maxLen; omega, fun k hk => by omega⟩
  · cases h; exact ⟨rfl, by omega, fun k hk => ⟨b, off, rfl, hcell k hk⟩⟩
theorem RowA.keep {w w1 : World} {a : Option Addr} {len : Nat} {zs : List Int} (h : RowA w a len zs) (hb : Below w.heap.size w w1) : RowA w1 a len zs :=
  ⟨h.1, h.2.1, fun k hk => by obtain ⟨b, off, e, c⟩ := h.2.2 k hk; exact ⟨b, off, e, bkeep hb c⟩⟩
/-- A slice of pairs, likewise. -/
def QRowA (w : World) (a : Option Addr) (len : Nat) (zs : List (Int × Int)) : Prop :=
  zs.length = len ∧ len ≤ maxLen ∧ ∀ k, k < len → ∃ b off : Nat, a = some ⟨b, off, none⟩ ∧ w.cell? ⟨b, off + k * 2, none⟩ = some (.int .u64 (zs.getD k (0, 0)).1) ∧ w.cell? ⟨b, off + k * 2 + 1, none⟩ = some (.int .u64 (zs.getD k (0, 0)).2)
theorem QRow.at {w : World} {a : Option Addr} {len cap : Nat} {zs : List (Int × Int)} (h : QRow w (.slice a len cap) zs) : QRowA w a len zs := by
  rcases h with ⟨h, rfl⟩ | ⟨x, c, h, rfl⟩ | ⟨b, off, c, h, hc, hm, hcell⟩
  · cases h; exact ⟨rfl, by unfold maxLen; omega, fun k hk => by omega⟩
  · cases h; exact ⟨rfl, by unfold maxLen; omega, fun k hk => by omega⟩
  · cases h; exact ⟨rfl, by omega, fun k hk => ⟨b, off, rfl, hcell k hk⟩⟩
theorem QRowA.keep {w w1 : World} {a : Option Addr} {len : Nat} {zs : List (Int × Int)} (h : QRowA w a len zs) (hb : Below w.heap.size w w1) : QRowA w1 a len zs :=
  ⟨h.1, h.2.1, fun k hk => by obtain ⟨b, off, e, c, d⟩ := h.2.2 k hk; exact ⟨b, off, e, bkeep hb c, bkeep hb d⟩⟩
/-- Short rows that were just made. -/
theorem row_two {W : World} {g : Nat} {x y : Int} (h0 : W.cell? ⟨g, 0, none⟩ = some (.int .u64 x)) (h1 : W.cell? ⟨g, 1, none⟩ = some (.int .u64 y)) : Row W (.slice (some ⟨g, 0, none⟩) 2 2) [x, y] := by
  right; right
  refine ⟨g, 0, 2, rfl, by simp, by unfold maxLen; omega, ?_⟩
  intro i hi
  have : i = 0 ∨ i = 1 := by simp at hi; omega
  rcases this with rfl | rfl
  · exact h0
  · exact h1
theorem qrow_one {W : World} {g : Nat} {x y : Int} (h0 : W.cell? ⟨g, 0, none⟩ = some (.int .u64 x)) (h1 : W.cell? ⟨g, 1, none⟩ = some (.int .u64 y)) : QRow W (.slice (some ⟨g, 0, none⟩) 1 1) [(x, y)] := by
  right; right
  refine ⟨g, 0, 1, rfl, by simp, by unfold maxLen; omega, ?_⟩
  intro i hi
  have : i = 0 := by simp at hi; omega
  subst this
  exact ⟨h0, h1⟩

/-- What a call made itself is such a slice. -/
theorem Arr.row {W : World} {g n : Nat} {zs : List Int} (h : Arr W g n (fun j => .int .u64 (zs.getD j 0))) (hz : zs.length = n) (hn : n ≤ maxLen) : Row W (.slice (some ⟨g, 0, none⟩) n n) zs := by
  refine Or.inr (Or.inr ⟨g, 0, n, by rw [hz], by omega, hn, fun i hi => ?_⟩)
  rw [Nat.zero_add]
  exact (h i (by omega)).1
theorem Arr.qrow {W : World} {g n : Nat} {zs : List (Int × Int)} (h : Arr W g (n * 2) (fun j => .int .u64 (if j % 2 = 0 then (zs.getD (j / 2) (0, 0)).1 else (zs.getD (j / 2) (0, 0)).2))) (hz : zs.length = n) (hn : n ≤ maxLen) : QRow W (.slice (some ⟨g, 0, none⟩) n n) zs := by
  refine Or.inr (Or.inr ⟨g, 0, n, by rw [hz], by omega, hn, fun i hi => ?_⟩)
  rw [Nat.zero_add]
  have h0 := (h (i * 2) (by omega)).1
  have h1 := (h (i * 2 + 1) (by omega)).1
  dsimp only at h0 h1
  rw [if_pos (by omega), show i * 2 / 2 = i by omega] at h0
  rw [if_neg (by omega), show (i * 2 + 1) / 2 = i by omega] at h1
  exact ⟨h0, h1⟩

/-- A row of pairs, cell by cell. -/
def pc (x : Nat → Int × Int) (j : Nat) : Value := .int .u64 (if j % 2 = 0 then (x (j / 2)).1 else (x (j / 2)).2)
theorem pc_even (x : Nat → Int × Int) (k : Nat) : pc x (k * 2) = .int .u64 (x k).1 := by unfold pc; rw [if_pos (by omega), show k * 2 / 2 = k by omega]
theorem pc_odd (x : Nat → Int × Int) (k : Nat) : pc x (k * 2 + 1) = .int .u64 (x k).2 := by unfold pc; rw [if_neg (by omega), show (k * 2 + 1) / 2 = k by omega]
theorem pc_same {x y : Nat → Int × Int} {n : Nat} (h : ∀ i, i < n → x i = y i) : ∀ j, j < n * 2 → pc x j = pc y j := fun j hj => by
  unfold pc; rw [h (j / 2) (by omega)]
theorem Arr.cells {W : World} {g n : Nat} {x : Nat → Int × Int} (h : Arr W g (n * 2) (pc x)) (k : Nat) (hk : k < n) :
    W.cell? ⟨g, k * 2, none⟩ = some (.int .u64 (x k).1) ∧ W.cell? ⟨g, k * 2 + 1, none⟩ = some (.int .u64 (x k).2) ∧ W.frozen? ⟨g, k * 2, none⟩ = false ∧ W.frozen? ⟨g, k * 2 + 1, none⟩ = false := by
  have h0 := h (k * 2) (by omega)
  have h1 := h (k * 2 + 1) (by omega)
  rw [pc_even] at h0
  rw [pc_odd] at h1
  exact ⟨h0.1, h1.1, h0.2, h1.2⟩
theorem Arr.setq {W : World} {g n : Nat} {x : Nat → Int × Int} (h : Arr W g (n * 2) (pc x)) (k : Nat) (a b : Int) (hk : k < n) :
    Arr ((W.setCell ⟨g, k * 2, none⟩ (.int .u64 a)).setCell ⟨g, k * 2 + 1, none⟩ (.int .u64 b)) g (n * 2) (pc fun i => if i = k then (a, b) else x i) := by
  refine ((h.set (k * 2) _ (by omega)).set (k * 2 + 1) _ (by omega)).same fun j hj => ?_
  by_cases e1 : j = k * 2 + 1
  · subst e1; rw [if_pos rfl, pc_odd, if_pos rfl]
  · rw [if_neg e1]
    by_cases e2 : j = k * 2
    · subst e2; rw [if_pos rfl, pc_even, if_pos rfl]
    · have e3 : j / 2 ≠ k := by omega
      rw [if_neg e2]; unfold pc; simp only [if_neg e3]
theorem Arr.newq (W : World) (n : Nat) (t : TypeId) : Arr (W.alloc (.cells (madeCells #[.int .u64 0, .int .u64 0] (n * 2)) t)) W.heap.size (n * 2) (pc fun _ => (0, 0)) := by
  refine (Arr.new W _ _ t).same fun j hj => ?_
  have : j % 2 = 0 ∨ j % 2 = 1 := by omega
  unfold pc
  rcases this with h | h <;> simp [h]
theorem run_make_pairs {P : Program} (t e : TypeId) (z : Value) (ht : P.underlying t = some (.slice e)) (hinfo : (P.info? e).map (fun i => (i.zero, i.size, i.bytes)) = some (some z, 2, 16)) (hz1 : z.cells = #[.int .u64 0, .int .u64 0])
    (n : Nat) (hn : n ≤ 4294967296) (w : World) :
    (Instr.makeSlice t (.int .i64 (n : Int)) (.int .i64 (n : Int))).run P w = .ok (.slice (some ⟨w.heap.size, 0, none⟩) n n) (w.alloc (.cells (madeCells #[.int .u64 0, .int .u64 0] (n * 2)) e)) := by
  obtain ⟨i, hi, hzz⟩ := Option.map_eq_some_iff.1 hinfo
  simp only [Prod.mk.injEq] at hzz
  obtain ⟨hz, hs, hb⟩ := hzz
  have hr := run_make (P := P) w t e i z ht hi hz .i64 .i64 n n (by omega) (Int.le_refl _) (by rw [hb]; omega) (by omega)
  simp only [Int.toNat_natCast, hs, hz1] at hr
  exact hr
end Go.Proofs.Ytmgbdccfgbflnaa
