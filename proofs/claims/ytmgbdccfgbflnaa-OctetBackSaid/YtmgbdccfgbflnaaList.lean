/-
  What prime.Sum and prime.Prod come to, as the field's: contracts for the walk.
-/
import Derived.Test.YtmgbdccfgbflnaaPow
import Derived.OwnWalk
import Derived.Below
import Derived.OpenShut
import Derived.Laws.OwnMore
namespace Go.Proofs.Ytmgbdccfgbflnaa
open Go.RowKit
set_option linter.unusedVariables false

def fsum : List F → F
  | [] => 0
  | x :: l => x + fsum l
def fprod : List F → F
  | [] => 1
  | x :: l => x * fprod l
theorem fsum_append (l m : List F) : fsum (l ++ m) = fsum l + fsum m := by
  induction l with
  | nil => simp only [List.nil_append, fsum]; grind
  | cons x l ih => simp only [List.cons_append, fsum, ih]; grind
theorem fprod_append (l m : List F) : fprod (l ++ m) = fprod l * fprod m := by
  induction l with
  | nil => simp only [List.nil_append, fprod]; grind
  | cons x l ih => simp only [List.cons_append, fprod, ih]; grind
theorem fsum_reverse (l : List F) : fsum l.reverse = fsum l := by
  induction l with
  | nil => rfl
  | cons x l ih => rw [List.reverse_cons, fsum_append, ih]; simp only [fsum]; grind
theorem fprod_reverse (l : List F) : fprod l.reverse = fprod l := by
  induction l with
  | nil => rfl
  | cons x l ih => rw [List.reverse_cons, fprod_append, ih]; simp only [fprod]; grind

/-- The first k numbers of a row, in the field. -/
def heads (zs : List Int) (k : Nat) : List F := (zs.take k).map toF
theorem heads_zero (zs : List Int) : heads zs 0 = [] := by simp [heads]
theorem heads_succ (zs : List Int) (k : Nat) (h : k < zs.length) : heads zs (k + 1) = heads zs k ++ [toF (zs.getD k 0)] := by
  unfold heads
  rw [List.take_succ_eq_append_getElem h, List.map_append]
  simp [List.getD, h]
theorem heads_all (zs : List Int) (k : Nat) (h : zs.length ≤ k) : heads zs k = zs.map toF := by
  unfold heads; rw [List.take_of_length_le h]

/-- A slice of numbers that reads as zs. -/
def Row (w : World) (v : Value) (zs : List Int) : Prop :=
  (v = .slice none 0 0 ∧ zs = []) ∨ (∃ a cap, v = .slice (some a) 0 cap ∧ zs = []) ∨ ∃ (b off cap : Nat), v = .slice (some ⟨b, off, none⟩) zs.length cap ∧ zs.length ≤ cap ∧ cap ≤ maxLen ∧ ∀ i, i < zs.length → w.cell? ⟨b, off + i, none⟩ = some (.int .u64 (zs.getD i 0))

theorem Row.below {w w' : World} {v : Value} {zs : List Int} (h : Row w v zs) (hb : Below w.heap.size w w') : Row w' v zs := by
  rcases h with h | h | ⟨b, off, cap, rfl, hc, hm, hcell⟩
  · exact Or.inl h
  · exact Or.inr (Or.inl h)
  · exact Or.inr (Or.inr ⟨b, off, cap, rfl, hc, hm, fun i hi => (hb.cell (World.block_lt_of_cell? w _ (hcell i hi))).trans (hcell i hi)⟩)

/-- What 'open_ints' gives of a slice that came in is such a slice. -/
theorem Row.came {w : World} {a : Option Addr} {len cap : Nat} {zs : List Int}
    (h : (a = none ∧ len = 0 ∧ cap = 0 ∧ zs = []) ∨ ∃ x, a = some x ∧ len ≤ cap ∧ cap ≤ maxLen ∧ zs.length = cap ∧ (∀ i, i < zs.length → w.cell? (x.add i) = some (.int .u64 (zs.getD i 0))) ∧ ∀ n ∈ zs, (Lit.int .u64 n).wf = true) :
    Row w (.slice a len cap) (zs.take len) ∧ (zs.take len).length = len ∧ ∀ n ∈ zs.take len, (Lit.int .u64 n).wf = true := by
  rcases h with ⟨rfl, rfl, rfl, rfl⟩ | ⟨x, rfl, hl, hm, hz, hcell, hwf⟩
  · exact ⟨Or.inl ⟨rfl, rfl⟩, rfl, by simp⟩
  · have hlen : (zs.take len).length = len := by rw [List.length_take]; omega
    refine ⟨?_, hlen, fun n hn => hwf n (List.mem_of_mem_take hn)⟩
    by_cases h0 : len = 0
    · subst h0; exact Or.inr (Or.inl ⟨x, cap, rfl, by simp⟩)
    · obtain ⟨b, off, rfl, hc⟩ := Go.ints_at hcell (by omega)
      refine Or.inr (Or.inr ⟨b, off, cap, by rw [hlen], by omega, hm, ?_⟩)
      intro i hi
      rw [hlen] at hi
      rw [hc i (by omega)]
      congr 2
      simp [List.getD, hi]

/-- A row of numbers that the call itself made is such a slice. -/
theorem Row.own {w : World} {base : Nat} {e : TypeId} {v : Value} {zs : List Int} (h : w.ownsRow base e 1 v zs.length (zs.map (Value.int .u64))) : Row w v zs := by
  rcases h.2 with ⟨rfl, h0⟩ | ⟨g, cap, cur, rfl, hb, hg, hn, hcap, hsz, ht⟩
  · exact Or.inl ⟨rfl, List.length_eq_zero_iff.mp h0⟩
  · refine Or.inr (Or.inr ⟨g, 0, cap, rfl, hn, hcap, ?_⟩)
    intro i hi
    have := h.cellAt i (by omega)
    rw [Nat.zero_add, this]
    simp [List.getD, hi]

theorem U_getD {zs : List Int} (h : ∀ n ∈ zs, U n) (k : Nat) (hk : k < zs.length) : U (zs.getD k 0) := by
  have : zs.getD k 0 = zs[k] := by simp [List.getD, hk]
  rw [this]; exact h _ (List.getElem_mem hk)

end Go.Proofs.Ytmgbdccfgbflnaa
