/-
  The program's sum under way of layer 12: a sponge and its texts in a variable; write, end and absorb.
-/
import Derived.Test.YthmpojefoiojeaaDoorSpongeM
import Derived.Test.YthmpojefoiojeaaDoorBProg
import Derived.Test.YthmpojefoiojeaaDoorLProg
import Derived.Test.YthmpojefoiojeaaDoorRows3
import Derived.Test.YthmpojefoiojeaaDoorStack
namespace Go.Proofs.YthmpojefoiojeaaDoor
open Go Go.RowKit
set_option linter.unusedVariables false

/-- What a call leaves that writes into a variable and into a row of its own: all other blocks that were there are as they were; the row's block is the one that it was, or a new one. -/
structure Went (g : Nat) (w w' : World) (v v' : Value) : Prop where
  os : w'.os = w.os
  tape : w'.tape = w.tape
  output : w'.output = w.output
  size : w.heap.size ≤ w'.heap.size
  block : ∀ k, k < w.heap.size → k ≠ g → v.ownBlock ≠ some k → w'.heap[k]? = w.heap[k]?
  own : ∀ k, v'.ownBlock = some k → v.ownBlock = some k ∨ w.heap.size ≤ k
theorem Went.refl (g : Nat) (w : World) (v : Value) : Went g w w v v := ⟨rfl, rfl, rfl, Nat.le_refl _, fun _ _ _ _ => rfl, fun _ h => .inl h⟩
theorem Went.trans {g : Nat} {w w1 w2 : World} {v v1 v2 : Value} (h : Went g w w1 v v1) (h' : Went g w1 w2 v1 v2) : Went g w w2 v v2 := by
  refine ⟨h'.os.trans h.os, h'.tape.trans h.tape, h'.output.trans h.output, Nat.le_trans h.size h'.size, fun k hk hg hv => ?_, fun k hk => ?_⟩
  · refine (h'.block k (Nat.lt_of_lt_of_le hk h.size) hg fun e => ?_).trans (h.block k hk hg hv)
    rcases h.own k e with c | c
    · exact hv c
    · omega
  · rcases h'.own k hk with c | c
    · exact h.own k c
    · exact .inr (Nat.le_trans h.size c)
theorem Went.below {g : Nat} {w w' : World} (v : Value) (h : Below w.heap.size w w') : Went g w w' v v := ⟨h.os, h.tape, h.output, h.size, fun k hk _ _ => h.block k hk, fun _ h => .inl h⟩
theorem Went.grown {g : Nat} {w w' : World} {v v' : Value} (h : w.grownBy w' v.ownBlock) (ha : v'.ownBlock = v.ownBlock ∨ v'.ownBlock = some w.heap.size) : Went g w w' v v' :=
  ⟨h.os, h.tape, h.output, h.size, fun k hk _ hv => h.block k hk (fun e => hv e.symm), fun k hk => by
    rcases ha with e | e
    · exact .inl (e ▸ hk)
    · rw [hk] at e; cases e; exact .inr (Nat.le_refl _)⟩
theorem Went.set (g o : Nat) (w : World) (x v : Value) : Went g w (w.setCell ⟨g, o, none⟩ x) v v :=
  ⟨rfl, rfl, rfl, by simp [World.setCell], fun k hk hg _ => Below.heap_setCell _ _ _ _ (by intro e; exact hg e), fun _ h => .inl h⟩
theorem Went.from {B g : Nat} {w0 w w' : World} {v v' : Value} (h : Went g w w' v v') (hb : Below B w0 w) (hg : B ≤ g) (hv : ∀ k, v.ownBlock = some k → B ≤ k) (hB : B ≤ w.heap.size) : Below B w0 w' :=
  hb.trans ⟨h.os, h.tape, h.output, h.size, fun i hi => h.block i (by omega) (by omega) (fun e => by have := hv i e; omega)⟩
theorem Went.strs {g b o n : Nat} {w w' : World} {v v' : Value} {f : Nat → ByteArray} (h : Went g w w' v v') (hS : StrA w (some ⟨b, o, none⟩) n f) (hb : b ≠ g) (hv : v.ownBlock ≠ some b) : StrA w' (some ⟨b, o, none⟩) n f :=
  ⟨hS.1, fun k hk => by
    obtain ⟨b1, o1, e, c⟩ := hS.2 k hk
    cases e
    exact ⟨b, o, rfl, (World.cell?_of_block (a := ⟨b, o + k, none⟩) (h.block b (World.block_lt_of_cell? w _ c) hb hv)).trans c⟩⟩
def strsV (l : List ByteArray) : List Value := l.map Value.string
theorem strsV_len (l : List ByteArray) : (strsV l).length = l.length := by simp [strsV]
/-- A sponge and a sum under way, in a variable: the state, the count, and the texts. -/
structure Stp (B : Nat) (W : World) (g : Nat) (s : ByteArray) (c : Int) (v : Value) (l : List ByteArray) : Prop where
  c0 : W.cell? ⟨g, 0, none⟩ = some (.string s)
  c1 : W.cell? ⟨g, 1, none⟩ = some (.int .i64 c)
  c2 : W.cell? ⟨g, 2, none⟩ = some v
  f0 : W.frozen? ⟨g, 0, none⟩ = false
  f1 : W.frozen? ⟨g, 1, none⟩ = false
  f2 : W.frozen? ⟨g, 2, none⟩ = false
  own : W.ownsRow B 9 1 v l.length (strsV l)
  ne : v.ownBlock ≠ some g
  le : B ≤ g
section
variable {B : Nat} {W W' : World} {g : Nat} {s : ByteArray} {c : Int} {v : Value} {l : List ByteArray}
theorem Stp.lt (h : Stp B W g s c v l) : g < W.heap.size := World.block_lt_of_cell? W _ h.c0
theorem Stp.keep (h : Stp B W g s c v l) (hb : Below W.heap.size W W') : Stp B W' g s c v l :=
  ⟨bkeep hb h.c0, bkeep hb h.c1, bkeep hb h.c2, bfree hb h.c0 h.f0, bfree hb h.c1 h.f1, bfree hb h.c2 h.f2, own_keep h.own hb, h.ne, h.le⟩
theorem Stp.new (W : World) (B : Nat) (hB : B ≤ W.heap.size) (s : ByteArray) (c : Int) (t : TypeId) : Stp B (W.alloc (.cells #[.string s, .int .i64 c, .slice none 0 0] t)) W.heap.size s c (.slice none 0 0) [] :=
  ⟨by simp [go_sem], by simp [go_sem], by simp [go_sem], by simp [go_sem], by simp [go_sem], by simp [go_sem], World.ownsRow_nil _ _ _ _, by simp [Value.ownBlock], hB⟩
theorem Stp.gep (h : Stp B W g s c v l) : ∀ k, v.ownBlock = some k → B ≤ k := own_ge h.own
/-- Another row, in whatever world it grew. -/
theorem Stp.put (h : Stp B W g s c v l) {v' : Value} {l' : List ByteArray} (hg : W.grownBy W' v.ownBlock) (ho : W'.ownsRow B 9 1 v' l'.length (strsV l')) (ha : v'.ownBlock = v.ownBlock ∨ v'.ownBlock = some W.heap.size) :
    Stp B (W'.setCell ⟨g, 2, none⟩ v') g s c v' l' := by
  have hl := h.lt
  have hn : some g ≠ v.ownBlock := fun e => h.ne e.symm
  have k0 := (World.cell?_of_block (a := ⟨g, 0, none⟩) (hg.block g hl hn)).trans h.c0
  have k1 := (World.cell?_of_block (a := ⟨g, 1, none⟩) (hg.block g hl hn)).trans h.c1
  have k2 := (World.cell?_of_block (a := ⟨g, 2, none⟩) (hg.block g hl hn)).trans h.c2
  have j0 := (World.frozen?_of_block (a := ⟨g, 0, none⟩) (hg.block g hl hn)).trans h.f0
  have j1 := (World.frozen?_of_block (a := ⟨g, 1, none⟩) (hg.block g hl hn)).trans h.f1
  have j2 := (World.frozen?_of_block (a := ⟨g, 2, none⟩) (hg.block g hl hn)).trans h.f2
  have ne : v'.ownBlock ≠ some g := by
    rcases ha with e | e
    · rw [e]; exact h.ne
    · rw [e]; intro c; cases c; omega
  refine ⟨by simp [go_sem, k0], by simp [go_sem, k1], by simp [go_sem, k2], by simp [j0], by simp [j1], by simp [j2], ?_, ne, h.le⟩
  exact ho.kept (grown_set W' g 2 v') (by
    cases hv : v'.ownBlock with
    | none => exact .inl rfl
    | some k => exact .inr (by intro e; exact ne (hv.trans e)))
theorem Stp.state (h : Stp B W g s c v l) (s' : ByteArray) (c' : Int) : Stp B ((W.setCell ⟨g, 0, none⟩ (.string s')).setCell ⟨g, 1, none⟩ (.int .i64 c')) g s' c' v l := by
  obtain ⟨c0, c1, c2, f0, f1, f2, ho, ne, le⟩ := h
  have st : ∀ (W : World) (o : Nat) (x : Value), W.ownsRow B 9 1 v l.length (strsV l) → (W.setCell ⟨g, o, none⟩ x).ownsRow B 9 1 v l.length (strsV l) := fun W o x h => h.kept (grown_set W g o x) (by
    cases hv : v.ownBlock with
    | none => exact .inl rfl
    | some k => exact .inr (by intro e; exact ne (hv.trans e)))
  refine ⟨by simp [go_sem, c0], by simp [go_sem, c1], by simp [go_sem, c2], by simp [f0], by simp [f1], by simp [f2], st _ _ _ (st _ _ _ ho), ne, le⟩
/-- The texts, as they are read. -/
theorem Stp.row (h : Stp B W g s c v l) (hl : 0 < l.length) (hm : l.length ≤ 1000) : ∃ b cap : Nat, v = .slice (some ⟨b, 0, none⟩) l.length cap ∧ StrA W (some ⟨b, 0, none⟩) l.length (tx l) ∧ l.length ≤ cap ∧ cap ≤ maxLen := by
  obtain ⟨b, cap, e, h1, h2, h3, h4⟩ := own_arr h.own hl
  refine ⟨b, cap, e, ⟨by unfold maxLen; omega, fun k hk => ⟨b, 0, rfl, ?_⟩⟩, h2, h3⟩
  have h5 := (h4 k (by omega)).1
  simp only [Nat.zero_add]
  rw [h5]
  simp [strsV, List.getD, tx, hk]
end
theorem infoStr : (Tryd.prog.info? 9).map (fun i => (i.zero, i.size, i.bytes)) = some (some (.string ⟨#[]⟩), 1, 16) := by kernel_rfl
end Go.Proofs.YthmpojefoiojeaaDoor
