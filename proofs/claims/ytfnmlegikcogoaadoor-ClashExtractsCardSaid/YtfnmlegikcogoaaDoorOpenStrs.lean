/-
  Arguments that are slices of texts, opened. No function of the program is named.
-/
import Derived.Test.YtfnmlegikcogoaaDoorGBlk
import Derived.Deep.Strs
namespace Go.Proofs.YtfnmlegikcogoaaDoor
open Go Go.RowKit Go.ChangeShapes Go.WideShapes Go.Deep
set_option linter.unusedVariables false

def IsStrs (w : World) (a : Option Addr) (len cap : Nat) (f : Nat → ByteArray) : Prop :=
  (a = none ∧ len = 0 ∧ cap = 0) ∨ ∃ x, a = some x ∧ len ≤ cap ∧ cap ≤ maxLen ∧ ∀ i, i < len → w.cell? (x.add i) = some (.string (f i)) ∧ (f i).size ≤ maxLen
theorem IsStrs.of {H : Type} {enc : TypeId × Value → H} {P : Program} {W : World} {t e : TypeId} {fuel : Nat} {a : Option Addr} {len cap : Nat} {x : DataW H × List MemPlace} (ht : P.underlying t = some (.slice e)) (he : P.underlying e = some .string) (hc : P.cellsOf e = 1)
    (h : DataW.trod enc P W 0 (fun _ => true) true fuel t (Value.cells (.slice a len cap)).toList = some x) : ∃ f, IsStrs W a len cap f := by
  rcases open_strs ht he hc h with ⟨hcs, _⟩ | ⟨y, l, c, m, Sx, hcs, _, hl, hm, hmm, _, hi⟩
  · simp [Value.cells] at hcs
    obtain ⟨rfl, rfl, rfl⟩ := hcs
    exact ⟨fun _ => ⟨#[]⟩, .inl ⟨rfl, rfl, rfl⟩⟩
  · simp [Value.cells] at hcs
    obtain ⟨rfl, rfl, rfl⟩ := hcs
    exact ⟨Sx, .inr ⟨_, rfl, hl, hm, fun i hil => hi i (by rw [hmm]; simp; omega)⟩⟩
theorem IsStrs.str {w : World} {a : Option Addr} {len cap : Nat} {f : Nat → ByteArray} (h : IsStrs w a len cap f) : StrA w a len f ∧ (a = none → len = 0 ∧ cap = 0) := by
  rcases h with ⟨rfl, rfl, rfl⟩ | ⟨x, rfl, hl, hm, hi⟩
  · exact ⟨⟨by unfold maxLen; omega, fun k hk => by omega⟩, fun _ => ⟨rfl, rfl⟩⟩
  · refine ⟨⟨by omega, fun k hk => ?_⟩, fun h => by cases h⟩
    obtain ⟨b, off, spot⟩ := x
    have hspot : spot = none := by
      have := World.cell?_spot (hi 0 (by omega)).1
      simpa [Addr.add] using this
    subst hspot
    refine ⟨b, off, rfl, ?_⟩
    have := (hi k hk).1
    rwa [Go.WideShapes.add_plain] at this
end Go.Proofs.YtfnmlegikcogoaaDoor
