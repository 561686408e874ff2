/-
  What is known of an argument that is a slice of pairs.
-/
import Derived.Test.YthfkfgjhgicfeaaDoorGNum
import Derived.Deep.SlicePairs
import Derived.ChangeArms
namespace Go.Proofs.YthfkfgjhgicfeaaDoor
open Go.RowKit Go.ChangeShapes Go.WideShapes Go.Deep
set_option linter.unusedVariables false

def IsPairs (w : World) (a : Option Addr) (len cap : Nat) (zs : List (Int × Int)) : Prop :=
  (a = none ∧ len = 0 ∧ cap = 0 ∧ zs = []) ∨
  ∃ x, a = some x ∧ len ≤ cap ∧ cap ≤ maxLen ∧ zs.length = len ∧ ∀ i, i < len → w.cell? (x.add (i * 2)) = some (.int .u64 (zs.getD i (0, 0)).1) ∧ w.cell? (x.add (i * 2 + 1)) = some (.int .u64 (zs.getD i (0, 0)).2) ∧ U (zs.getD i (0, 0)).1 ∧ U (zs.getD i (0, 0)).2

theorem IsPairs.of {H : Type} {enc : TypeId × Value → H} {P : Program} {W : World} {t e : TypeId} {f0 f1 : Field} {fuel : Nat} {a : Option Addr} {len cap : Nat} {x : DataW H × List MemPlace} (ht : P.underlying t = some (.slice e)) (he : P.underlying e = some (.struct #[f0, f1]))
    (ce : P.cellsOf e = 2) (o0 : f0.offset = 0) (o1 : f1.offset = 1) (c0 : P.cellsOf f0.type = 1) (c1 : P.cellsOf f1.type = 1) (u0 : P.underlying f0.type = some (.int .u64)) (u1 : P.underlying f1.type = some (.int .u64))
    (h : DataW.trod enc P W 0 (fun _ => true) true fuel t (Value.cells (.slice a len cap)).toList = some x) : ∃ zs, IsPairs W a len cap zs := by
  rcases open_slice_pairs ht he ce o0 o1 c0 c1 h with ⟨hcs, _⟩ | ⟨y, l, c, m, n, V0, V1, D0, D1, P0, P1, hcs, _, hl, hm, hmm, _, hi⟩
  · simp [Value.cells] at hcs
    obtain ⟨rfl, rfl, rfl⟩ := hcs
    exact ⟨[], .inl ⟨rfl, rfl, rfl, rfl⟩⟩
  · simp [Value.cells] at hcs
    obtain ⟨rfl, rfl, rfl⟩ := hcs
    refine ⟨(List.range len).map fun i => (intOf (V0 i), intOf (V1 i)), .inr ⟨_, rfl, hl, hm, by simp, fun i hil => ?_⟩⟩
    have hg : ((List.range len).map fun i => (intOf (V0 i), intOf (V1 i))).getD i (0, 0) = (intOf (V0 i), intOf (V1 i)) := by simp [List.getD, hil]
    rw [hg]
    obtain ⟨h1, h2, h3, h4⟩ := hi i (by rw [hmm]; simp; omega)
    obtain ⟨n0, e0, _, w0⟩ := DataW.trod_int u0 h3
    obtain ⟨n1, e1, _, w1⟩ := DataW.trod_int u1 h4
    simp at e0 e1
    rw [h1, h2, e0, e1]
    exact ⟨rfl, rfl, U_wf w0, U_wf w1⟩

theorem IsPairs.row {w : World} {a : Option Addr} {len cap : Nat} {zs : List (Int × Int)} (h : IsPairs w a len cap zs) : QRow w (.slice a len cap) zs ∧ zs.length = len ∧ ∀ n ∈ zs, U n.1 ∧ U n.2 := by
  rcases h with ⟨rfl, rfl, rfl, rfl⟩ | ⟨x, rfl, hl, hm, hz, hi⟩
  · exact ⟨Or.inl ⟨rfl, rfl⟩, rfl, by simp⟩
  · have hu : ∀ n ∈ zs, U n.1 ∧ U n.2 := by
      intro n hn
      obtain ⟨i, hil, rfl⟩ := List.getElem_of_mem hn
      have := (hi i (by omega)).2.2
      simpa [List.getD, hil] using this
    refine ⟨?_, hz, hu⟩
    by_cases h0 : len = 0
    · subst h0
      exact Or.inr (Or.inl ⟨x, cap, rfl, List.length_eq_zero_iff.mp hz⟩)
    · obtain ⟨b, off, spot⟩ := x
      have hspot : spot = none := by simpa [Addr.add] using World.cell?_spot (hi 0 (by omega)).1
      subst hspot
      refine Or.inr (Or.inr ⟨b, off, cap, by rw [hz], by omega, hm, fun i hil => ?_⟩)
      have := hi i (by omega)
      rw [Go.WideShapes.add_plain, Go.WideShapes.add_plain] at this
      exact ⟨this.1, by simpa [Nat.add_assoc] using this.2.1⟩
end Go.Proofs.YthfkfgjhgicfeaaDoor
