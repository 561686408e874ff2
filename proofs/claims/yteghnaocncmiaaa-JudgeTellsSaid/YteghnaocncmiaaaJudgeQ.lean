/-
  Slices of pairs of pairs that are put together; a variable of four cells.
-/
import Derived.Test.YteghnaocncmiaaaJudgeM
import Derived.Test.YteghnaocncmiaaaJudgeH
import Derived.Test.YteghnaocncmiaaaGArgs
namespace Go.Proofs.Yteghnaocncmiaaa
open Go Go.RowKit
set_option linter.unusedVariables false

def quadL (q : Quad) : List Value := [.int .u64 q.1.1, .int .u64 q.1.2, .int .u64 q.2.1, .int .u64 q.2.2]
def flatD (qs : List Quad) : List Value := qs.flatMap quadL
theorem flatD_app (qs rs : List Quad) : flatD (qs ++ rs) = flatD qs ++ flatD rs := List.flatMap_append
theorem flatD_one (q : Quad) : flatD [q] = quadL q := by simp [flatD]
theorem flatD_len : ∀ qs : List Quad, (flatD qs).length = qs.length * 4
  | [] => rfl
  | q :: qs => by
    have h := flatD_len qs
    unfold flatD at h ⊢
    rw [List.flatMap_cons, List.length_append, h, List.length_cons]
    show 4 + qs.length * 4 = _
    omega
theorem flatD_at : ∀ (qs : List Quad) (i : Nat), i < qs.length → (flatD qs)[i * 4]? = some (.int .u64 (qs.getD i zeroQ).1.1) ∧ (flatD qs)[i * 4 + 1]? = some (.int .u64 (qs.getD i zeroQ).1.2) ∧ (flatD qs)[i * 4 + 2]? = some (.int .u64 (qs.getD i zeroQ).2.1) ∧ (flatD qs)[i * 4 + 3]? = some (.int .u64 (qs.getD i zeroQ).2.2)
  | q :: qs, 0, _ => ⟨rfl, rfl, rfl, rfl⟩
  | q :: qs, i + 1, h => by
    have ih := flatD_at qs i (by simpa using h)
    have e : ∀ j, (flatD (q :: qs))[j + 4]? = (flatD qs)[j]? := fun j => rfl
    have e2 : (q :: qs).getD (i + 1) zeroQ = qs.getD i zeroQ := rfl
    rw [e2]
    obtain ⟨h0, h1, h2, h3⟩ := ih
    refine ⟨?_, ?_, ?_, ?_⟩
    · rw [show (i + 1) * 4 = i * 4 + 4 by omega, e]; exact h0
    · rw [show (i + 1) * 4 + 1 = i * 4 + 1 + 4 by omega, e]; exact h1
    · rw [show (i + 1) * 4 + 2 = i * 4 + 2 + 4 by omega, e]; exact h2
    · rw [show (i + 1) * 4 + 3 = i * 4 + 3 + 4 by omega, e]; exact h3
theorem infoD : (Try.prog.info? 28).map (fun i => (i.zero, i.size, i.bytes)) = some (some (.agg #[.int .u64 0, .int .u64 0, .int .u64 0, .int .u64 0]), 4, 32) := by kernel_rfl
theorem own_quads {w : World} {B : Nat} {v : Value} {qs : List Quad} (h : w.ownsRow B 28 4 v qs.length (flatD qs)) : ∃ a c, v = .slice a qs.length c ∧ QuadsA w a qs.length qs := by
  obtain ⟨a, c, rfl⟩ := own_form h
  refine ⟨a, c, rfl, rfl, ?_, ?_⟩
  · rcases h.2 with ⟨_, h0⟩ | ⟨g, cap, cur, hv, hb, hg, hn, hcap, hsz, ht⟩
    · rw [h0]; unfold maxLen; omega
    · omega
  · intro k hk
    rcases h.2 with ⟨_, h0⟩ | ⟨g, cap, cur, hv, hb, hg, hn, hcap, hsz, ht⟩
    · omega
    · cases hv
      obtain ⟨f0, f1, f2, f3⟩ := flatD_at qs k hk
      refine ⟨g, 0, rfl, ?_, ?_, ?_, ?_⟩
      · rw [Nat.zero_add, h.cellAt (k * 4) (by omega)]; exact f0
      · rw [Nat.zero_add, h.cellAt (k * 4 + 1) (by omega)]; exact f1
      · rw [Nat.zero_add, h.cellAt (k * 4 + 2) (by omega)]; exact f2
      · rw [Nat.zero_add, h.cellAt (k * 4 + 3) (by omega)]; exact f3
def MadeD (W w : World) (v : Value) (qs : List Quad) : Prop := w.ownsRow W.heap.size 28 4 v qs.length (flatD qs) ∧ Below W.heap.size W w
section
variable {W w w' : World} {v v' : Value} {qs : List Quad}
theorem MadeD.start (W : World) : MadeD W W (.slice none 0 0) [] := ⟨World.ownsRow_nil _ _ _ _, Below.refl _ _⟩
theorem MadeD.keep (h : MadeD W w v qs) (hb : Below w.heap.size w w') : MadeD W w' v qs := ⟨own_keep h.1 hb, bthen h.2 hb⟩
theorem MadeD.step {q : Quad} (h : MadeD W w v qs) (hown : w'.ownsRow W.heap.size 28 4 v' (qs.length + 1) (flatD qs ++ quadL q)) (hg : w.grownBy w' v.ownBlock) : MadeD W w' v' (qs ++ [q]) :=
  ⟨by rw [List.length_append, flatD_app, flatD_one]; exact hown, h.2.grown hg h.2.size (own_ge h.1)⟩
theorem MadeD.told (h : MadeD W w v qs) : ∃ a c, v = .slice a qs.length c ∧ QuadsA w a qs.length qs := own_quads h.1
end
/-- The source of an append of one pair of pairs. -/
theorem quad_src {W : World} {g : Nat} {x y z u : Value} (h0 : W.cell? ⟨g, 0, none⟩ = some x) (h1 : W.cell? ⟨g, 1, none⟩ = some y) (h2 : W.cell? ⟨g, 2, none⟩ = some z) (h3 : W.cell? ⟨g, 3, none⟩ = some u) : ∀ j t, [x, y, z, u][j]? = some t → W.cell? ((⟨g, 0, none⟩ : Addr).add j) = some t := by
  intro j t ht
  match j, ht with
  | 0, ht => simp at ht; subst ht; exact h0
  | 1, ht => simp at ht; subst ht; exact h1
  | 2, ht => simp at ht; subst ht; exact h2
  | 3, ht => simp at ht; subst ht; exact h3
  | j + 4, ht => simp at ht
/-- Four cells, unfrozen. -/
def Quo (W : World) (g : Nat) (v0 v1 v2 v3 : Value) : Prop :=
  (W.cell? ⟨g, 0, none⟩ = some v0 ∧ W.cell? ⟨g, 1, none⟩ = some v1 ∧ W.cell? ⟨g, 2, none⟩ = some v2 ∧ W.cell? ⟨g, 3, none⟩ = some v3) ∧
  (W.frozen? ⟨g, 0, none⟩ = false ∧ W.frozen? ⟨g, 1, none⟩ = false ∧ W.frozen? ⟨g, 2, none⟩ = false ∧ W.frozen? ⟨g, 3, none⟩ = false)
section
variable {W W' : World} {g : Nat} {v0 v1 v2 v3 : Value}
theorem Quo.lt (h : Quo W g v0 v1 v2 v3) : g < W.heap.size := World.block_lt_of_cell? W _ h.1.1
theorem Quo.keep (h : Quo W g v0 v1 v2 v3) (hb : Below W.heap.size W W') : Quo W' g v0 v1 v2 v3 := by
  obtain ⟨⟨c0, c1, c2, c3⟩, f0, f1, f2, f3⟩ := h
  exact ⟨⟨bkeep hb c0, bkeep hb c1, bkeep hb c2, bkeep hb c3⟩, bfree hb c0 f0, bfree hb c1 f1, bfree hb c2 f2, bfree hb c3 f3⟩
theorem Quo.grown {row : Option Nat} (h : Quo W g v0 v1 v2 v3) (hg : W.grownBy W' row) (hne : ∀ k, row = some k → k ≠ g) : Quo W' g v0 v1 v2 v3 := by
  have hb := hg.block g h.lt (fun e => hne g e.symm rfl)
  obtain ⟨⟨c0, c1, c2, c3⟩, f0, f1, f2, f3⟩ := h
  exact ⟨⟨(World.cell?_of_block (a := ⟨g, 0, none⟩) hb).trans c0, (World.cell?_of_block (a := ⟨g, 1, none⟩) hb).trans c1, (World.cell?_of_block (a := ⟨g, 2, none⟩) hb).trans c2, (World.cell?_of_block (a := ⟨g, 3, none⟩) hb).trans c3⟩,
    (World.frozen?_of_block (a := ⟨g, 0, none⟩) hb).trans f0, (World.frozen?_of_block (a := ⟨g, 1, none⟩) hb).trans f1, (World.frozen?_of_block (a := ⟨g, 2, none⟩) hb).trans f2, (World.frozen?_of_block (a := ⟨g, 3, none⟩) hb).trans f3⟩
theorem Quo.put (h : Quo W g v0 v1 v2 v3) (x0 x1 x2 x3 : Value) : Quo ((((W.setCell ⟨g, 0, none⟩ x0).setCell ⟨g, 1, none⟩ x1).setCell ⟨g, 2, none⟩ x2).setCell ⟨g, 3, none⟩ x3) g x0 x1 x2 x3 := by
  obtain ⟨⟨c0, c1, c2, c3⟩, f0, f1, f2, f3⟩ := h
  simp [Quo, go_sem, c0, c1, c2, c3, f0, f1, f2, f3]
theorem Quo.far (h : Quo W g v0 v1 v2 v3) {g' : Nat} (hne : g' ≠ g) (o : Nat) (x : Value) : Quo (W.setCell ⟨g', o, none⟩ x) g v0 v1 v2 v3 :=
  h.grown (grown_set W g' o x) fun k hk => by cases hk; exact hne
theorem Quo.new (W : World) (t : TypeId) : Quo (W.alloc (.cells #[v0, v1, v2, v3] t)) W.heap.size v0 v1 v2 v3 := by simp [Quo, go_sem]
end
end Go.Proofs.Yteghnaocncmiaaa
