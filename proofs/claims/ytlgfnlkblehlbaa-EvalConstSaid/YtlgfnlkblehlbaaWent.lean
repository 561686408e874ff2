/-
  What a call leaves that writes into a variable and into a row of its own; a row in a variable of one cell. No function of the program is named.
-/
import Derived.Test.YtlgfnlkblehlbaaBeside
import Derived.Test.YtlgfnlkblehlbaaGRow
namespace Go.Proofs.Ytlgfnlkblehlbaa
open Go Go.RowKit
set_option linter.unusedVariables false

/-- What a call leaves that writes into a variable and into a row of its own: all other blocks that were there are as they were; the row's block is the one that it was, or a new one. -/
structure Went (g : Nat) (w w' : World) (v v' : Value) : Prop where
  os : w'.os = w.os
  tape : w'.tape = w.tape
  output : w'.output = w.output
  size : w.heap.size ≤ w'.heap.size
  block : ∀ k, k < w.heap.size → k ≠ g → v.ownBlock ≠ some k → w'.heap[k]? = w.heap[k]?
  own : ∀ k, v'.ownBlock = some k → v.ownBlock = some k ∨ w.heap.size ≤ k
theorem Went.refl (g : Nat) (w : World) (v : Value) : Went g w w v v := ⟨rfl, rfl, rfl, Nat.le_refl _, fun _ _ _ _ => rfl, fun _ h => .inl h⟩
theorem Went.trans {g : Nat} {w w1 w2 : World} {v v1 v2 : Value} (h : Went g w w1 v v1) (h' : Went g w1 w2 v1 v2) : Went g w w2 v v2 := by
  refine ⟨h'.os.trans h.os, h'.tape.trans h.tape, h'.output.trans h.output, Nat.le_trans h.size h'.size, fun k hk hg hv => ?_, fun k hk => ?_⟩
  · refine (h'.block k (Nat.lt_of_lt_of_le hk h.size) hg fun e => ?_).trans (h.block k hk hg hv)
    rcases h.own k e with c | c
    · exact hv c
    · omega
  · rcases h'.own k hk with c | c
    · exact h.own k c
    · exact .inr (Nat.le_trans h.size c)
theorem Went.below {g : Nat} {w w' : World} (v : Value) (h : Below w.heap.size w w') : Went g w w' v v := ⟨h.os, h.tape, h.output, h.size, fun k hk _ _ => h.block k hk, fun _ h => .inl h⟩
theorem Went.grown {g : Nat} {w w' : World} {v v' : Value} (h : w.grownBy w' v.ownBlock) (ha : v'.ownBlock = v.ownBlock ∨ v'.ownBlock = some w.heap.size) : Went g w w' v v' :=
  ⟨h.os, h.tape, h.output, h.size, fun k hk _ hv => h.block k hk (fun e => hv e.symm), fun k hk => by
    rcases ha with e | e
    · exact .inl (e ▸ hk)
    · rw [hk] at e; cases e; exact .inr (Nat.le_refl _)⟩
theorem Went.set (g o : Nat) (w : World) (x v : Value) : Went g w (w.setCell ⟨g, o, none⟩ x) v v :=
  ⟨rfl, rfl, rfl, by simp [World.setCell], fun k hk hg _ => Below.heap_setCell _ _ _ _ (by intro e; exact hg e), fun _ h => .inl h⟩
theorem Went.from {B g : Nat} {w0 w w' : World} {v v' : Value} (h : Went g w w' v v') (hb : Below B w0 w) (hg : B ≤ g) (hv : ∀ k, v.ownBlock = some k → B ≤ k) (hB : B ≤ w.heap.size) : Below B w0 w' :=
  hb.trans ⟨h.os, h.tape, h.output, h.size, fun i hi => h.block i (by omega) (by omega) (fun e => by have := hv i e; omega)⟩
/-- A row of its own, in a variable of one cell. -/
structure VarRow (B : Nat) (e : TypeId) (s : Nat) (W : World) (g : Nat) (v : Value) (n : Nat) (xs : List Value) : Prop where
  c : W.cell? ⟨g, 0, none⟩ = some v
  f : W.frozen? ⟨g, 0, none⟩ = false
  own : W.ownsRow B e s v n xs
  ne : v.ownBlock ≠ some g
  le : B ≤ g
section
variable {B s : Nat} {e : TypeId} {W W' : World} {g : Nat} {v : Value} {n : Nat} {xs : List Value}
theorem VarRow.lt (h : VarRow B e s W g v n xs) : g < W.heap.size := World.block_lt_of_cell? W _ h.c
theorem VarRow.keep (h : VarRow B e s W g v n xs) (hb : Below W.heap.size W W') : VarRow B e s W' g v n xs :=
  ⟨bkeep hb h.c, bfree hb h.c h.f, own_keep h.own hb, h.ne, h.le⟩
theorem VarRow.gep (h : VarRow B e s W g v n xs) : ∀ k, v.ownBlock = some k → B ≤ k := own_ge h.own
theorem VarRow.size (h : VarRow B e s W g v n xs) : B ≤ W.heap.size := by have := h.lt; have := h.le; omega
/-- Another row, in whatever world it grew. -/
theorem VarRow.put (h : VarRow B e s W g v n xs) {v' : Value} {n' : Nat} {xs' : List Value} (hg : W.grownBy W' v.ownBlock) (ho : W'.ownsRow B e s v' n' xs') (ha : v'.ownBlock = v.ownBlock ∨ v'.ownBlock = some W.heap.size) :
    VarRow B e s (W'.setCell ⟨g, 0, none⟩ v') g v' n' xs' := by
  have hl := h.lt
  have hn : some g ≠ v.ownBlock := fun e => h.ne e.symm
  have k0 := (World.cell?_of_block (a := ⟨g, 0, none⟩) (hg.block g hl hn)).trans h.c
  have j0 := (World.frozen?_of_block (a := ⟨g, 0, none⟩) (hg.block g hl hn)).trans h.f
  have ne : v'.ownBlock ≠ some g := by
    rcases ha with e | e
    · rw [e]; exact h.ne
    · rw [e]; intro c; cases c; omega
  refine ⟨by simp [go_sem, k0], by simp [j0], ?_, ne, h.le⟩
  exact ho.kept (grown_set W' g 0 v') (by
    cases hv : v'.ownBlock with
    | none => exact .inl rfl
    | some k => exact .inr (by intro e; exact ne (hv.trans e)))
/-- A variable that is made with a row of its own. -/
theorem VarRow.first (hB : B ≤ W.heap.size) (ho : W.ownsRow B e s v n xs) (T : TypeId) : VarRow B e s (W.alloc (.cells #[v] T)) W.heap.size v n xs :=
  ⟨by simp [go_sem], by simp [go_sem], ho.alloc _, fun e => by have := (ho.lt _ e).2; omega, hB⟩
theorem Went.put (h : VarRow B e s W g v n xs) {v' : Value} (hg : W.grownBy W' v.ownBlock) (ha : v'.ownBlock = v.ownBlock ∨ v'.ownBlock = some W.heap.size) : Went g W (W'.setCell ⟨g, 0, none⟩ v') v v' :=
  (Went.grown hg ha).trans (Went.set g 0 W' v' v')
theorem Went.bel {w0 : World} {v' : Value} (hw : Went g W W' v v') (h : VarRow w0.heap.size e s W g v n xs) (hb : Below w0.heap.size w0 W) : Below w0.heap.size w0 W' := hw.from hb h.le h.gep h.size
theorem Went.setNew {w : World} {v' : Value} (h : Went g w W v v') {p : Addr} (hp : w.heap.size ≤ p.block) (u : Value) : Went g w (W.setCell p u) v v' :=
  ⟨h.os, h.tape, h.output, by have := h.size; simpa [World.setCell] using this, fun k hk h1 h2 => (Below.heap_setCell _ _ _ _ (by omega)).trans (h.block k hk h1 h2), h.own⟩
theorem Went.drew {w : World} {v' : Value} (h : Went g w W v v') : Went g w W.drew v v' := ⟨h.os, h.tape, h.output, h.size, h.block, h.own⟩
theorem VarRow.far (h : VarRow B e s W g v n xs) {p : Nat} (hp : p ≠ g) (hv : v.ownBlock ≠ some p) (o : Nat) (u : Value) : VarRow B e s (W.setCell ⟨p, o, none⟩ u) g v n xs := by
  have hne : ∀ k, k ≠ p → (W.setCell ⟨p, o, none⟩ u).heap[k]? = W.heap[k]? := fun k hk => Below.heap_setCell _ _ _ _ hk
  refine ⟨(World.cell?_of_block (a := ⟨g, 0, none⟩) (hne g (Ne.symm hp))).trans h.c, (World.frozen?_of_block (a := ⟨g, 0, none⟩) (hne g (Ne.symm hp))).trans h.f, ?_, h.ne, h.le⟩
  exact h.own.kept (grown_set W p o u) (by
    cases c : v.ownBlock with
    | none => exact .inl rfl
    | some k => exact .inr (by intro e; exact hv (c.trans e)))
theorem VarRow.drew (h : VarRow B e s W g v n xs) : VarRow B e s W.drew g v n xs := ⟨h.c, h.f, h.own, h.ne, h.le⟩
theorem Var.went {v' : Value} {h : Nat} {x y : Int} (hV : Var W h x y) (hW : Went g W W' v v') (hne : h ≠ g) (hx : v.ownBlock ≠ some h) : Var W' h x y := by
  have hl := hV.lt
  obtain ⟨c0, c1, f0, f1⟩ := hV
  have hb := hW.block h hl hne hx
  exact ⟨(World.cell?_of_block (a := ⟨h, 0, none⟩) hb).trans c0, (World.cell?_of_block (a := ⟨h, 1, none⟩) hb).trans c1, (World.frozen?_of_block (a := ⟨h, 0, none⟩) hb).trans f0, (World.frozen?_of_block (a := ⟨h, 1, none⟩) hb).trans f1⟩
end
end Go.Proofs.Ytlgfnlkblehlbaa
