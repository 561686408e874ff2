/-
  What a call leaves that writes into one block alone: all other blocks that were there are as they were. No function of the program is named.
-/
import Derived.Test.YtmgbdccfgbflnaaArr
import Derived.Deep.Draws
namespace Go.Proofs.Ytmgbdccfgbflnaa
open Go Go.RowKit
set_option linter.unusedVariables false

/-- All blocks of w but g are as they were; no block has gone; the streams are as they were. -/
structure But (g : Nat) (w w' : World) : Prop where
  os : w'.os = w.os
  tape : w'.tape = w.tape
  output : w'.output = w.output
  size : w.heap.size ≤ w'.heap.size
  block : ∀ k, k < w.heap.size → k ≠ g → w'.heap[k]? = w.heap[k]?
theorem But.refl (g : Nat) (w : World) : But g w w := ⟨rfl, rfl, rfl, Nat.le_refl _, fun _ _ _ => rfl⟩
theorem But.trans {g : Nat} {a b c : World} (h : But g a b) (k : But g b c) : But g a c :=
  ⟨k.os.trans h.os, k.tape.trans h.tape, k.output.trans h.output, Nat.le_trans h.size k.size, fun i hi hg => (k.block i (Nat.lt_of_lt_of_le hi h.size) hg).trans (h.block i hi hg)⟩
theorem But.of {g : Nat} {w w' : World} (h : Below w.heap.size w w') : But g w w' := ⟨h.os, h.tape, h.output, h.size, fun k hk _ => h.block k hk⟩
theorem But.drew {g : Nat} {a w : World} (h : But g a w) : But g a w.drew := ⟨h.os, h.tape, h.output, h.size, h.block⟩
theorem But.drewN {g : Nat} {a w : World} (h : But g a w) (n : Nat) : But g a (w.drewN n) := ⟨h.os, h.tape, h.output, h.size, h.block⟩
theorem But.alloc {g : Nat} {a w : World} (h : But g a w) (o : Obj) : But g a (w.alloc o) := h.trans (But.of ((Below.refl _ _).alloc (Nat.le_refl _) o))
/-- A store into g, or into a block that came later. -/
theorem But.setCell {g : Nat} {a w : World} (h : But g a w) {p : Addr} (hp : p.block = g ∨ a.heap.size ≤ p.block) (u : Value) : But g a (w.setCell p u) :=
  ⟨h.os, h.tape, h.output, Nat.le_trans h.size (by simp [World.setCell]), fun k hk hg => by rw [Below.heap_setCell _ _ _ _ (by omega)]; exact h.block k hk hg⟩
theorem But.then {g : Nat} {a w w' : World} (h : But g a w) (k : Below w.heap.size w w') : But g a w' := h.trans (But.of k)
/-- Such a call, of a call whose own block it is. -/
theorem But.below {B g : Nat} {a w w' : World} (h : Below B a w) (k : But g w w') (hg : B ≤ g) (hB : B ≤ w.heap.size) : Below B a w' :=
  h.trans ⟨k.os, k.tape, k.output, k.size, fun i hi => k.block i (by omega) (by omega)⟩
theorem But.cell {g : Nat} {w w' : World} (h : But g w w') {p : Addr} (hp : p.block < w.heap.size) (hg : p.block ≠ g) : w'.cell? p = w.cell? p := World.cell?_of_block (w := w) (h.block p.block hp hg)
theorem But.frozen {g : Nat} {w w' : World} (h : But g w w') {p : Addr} (hp : p.block < w.heap.size) (hg : p.block ≠ g) : w'.frozen? p = w.frozen? p := World.frozen?_of_block (w := w) (h.block p.block hp hg)
/-- A cell of another block. -/
theorem But.keep {g : Nat} {w w' : World} (h : But g w w') {p : Addr} {v : Value} (hc : w.cell? p = some v) (hg : p.block ≠ g) : w'.cell? p = some v := by
  rw [h.cell (World.block_lt_of_cell? w _ hc) hg]; exact hc
theorem But.arr {g g' : Nat} {w w' : World} {n : Nat} {f : Nat → Value} (h : But g w w') (hA : Arr w g' n f) (hg : g' ≠ g) : Arr w' g' n f := fun j hj => by
  obtain ⟨c, e⟩ := hA j hj
  exact ⟨h.keep c hg, by rw [h.frozen (World.block_lt_of_cell? w _ c) hg]; exact e⟩
theorem Arr.drew {w : World} {g n : Nat} {f : Nat → Value} (h : Arr w g n f) : Arr w.drew g n f := h
theorem Arr.drewN {w : World} {g n : Nat} {f : Nat → Value} (h : Arr w g n f) (k : Nat) : Arr (w.drewN k) g n f := h

/-- A number that stands for x, as it may come; c: as it is kept. -/
def Num (c : Bool) (z : Int) (x : F) : Prop := U z ∧ toF z = x ∧ (c = true → z = enc x)
def NumQ (c : Bool) (z : Int × Int) (x : F2) : Prop := Rep z.1 z.2 x ∧ (c = true → z = (enc x.a, enc x.b))
theorem num_enc (c : Bool) (x : F) : Num c (enc x) x := ⟨enc_U _, toF_enc _, fun _ => rfl⟩
theorem numq_enc (c : Bool) (x : F2) : NumQ c (enc x.a, enc x.b) x := ⟨rep_enc x, fun _ => rfl⟩
/-- Numbers of the field in such a block. -/
def ArrF (c : Bool) (w : World) (g n : Nat) (x : Nat → F) : Prop := ∃ z : Nat → Int, Arr w g n (fun j => .int .u64 (z j)) ∧ ∀ j, j < n → Num c (z j) (x j)
/-- Pairs, likewise. -/
def ArrQ (c : Bool) (w : World) (g n : Nat) (x : Nat → F2) : Prop := ∃ z : Nat → Int × Int, Arr w g (n * 2) (pc z) ∧ ∀ j, j < n → NumQ c (z j) (x j)
theorem ArrF.same {c : Bool} {w : World} {g n : Nat} {x y : Nat → F} (h : ArrF c w g n x) (hxy : ∀ j, j < n → x j = y j) : ArrF c w g n y := by
  obtain ⟨z, h1, h2⟩ := h
  exact ⟨z, h1, fun j hj => by rw [← hxy j hj]; exact h2 j hj⟩
theorem ArrQ.same {c : Bool} {w : World} {g n : Nat} {x y : Nat → F2} (h : ArrQ c w g n x) (hxy : ∀ j, j < n → x j = y j) : ArrQ c w g n y := by
  obtain ⟨z, h1, h2⟩ := h
  exact ⟨z, h1, fun j hj => by rw [← hxy j hj]; exact h2 j hj⟩
theorem ArrF.of {c : Bool} {w : World} {g n : Nat} {x : Nat → F} (h : Arr w g n (fun j => .int .u64 (enc (x j)))) : ArrF c w g n x := ⟨fun j => enc (x j), h, fun j _ => num_enc _ _⟩
theorem ArrQ.of {c : Bool} {w : World} {g n : Nat} {x : Nat → F2} (h : Arr w g (n * 2) (pc fun j => encP (x j))) : ArrQ c w g n x := ⟨fun j => encP (x j), h, fun j _ => numq_enc _ _⟩
theorem ArrF.enc {w : World} {g n : Nat} {x : Nat → F} (h : ArrF true w g n x) : Arr w g n (fun j => .int .u64 (enc (x j))) := by
  obtain ⟨z, h1, h2⟩ := h
  exact h1.same fun j hj => by rw [(h2 j hj).2.2 rfl]
theorem ArrQ.enc {w : World} {g n : Nat} {x : Nat → F2} (h : ArrQ true w g n x) : Arr w g (n * 2) (pc fun j => encP (x j)) := by
  obtain ⟨z, h1, h2⟩ := h
  exact h1.same (pc_same fun j hj => (h2 j hj).2 rfl)
end Go.Proofs.Ytmgbdccfgbflnaa
