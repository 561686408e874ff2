/-
  Rows of numbers, as an argument.
-/
import Derived.Test.YtjcgakmhpblanaaTraceW
import Derived.Test.YtjcgakmhpblanaaRowArg
namespace Go.Proofs.Ytjcgakmhpblanaa
open Go Go.RowKit Go.Deep
set_option linter.unusedVariables false

/-- A row of numbers: an element of a table. -/
abbrev shRows : Sh := .slice shNum
theorem SliceOf.rows {W : World} {a : Option Addr} {len cap : Nat} (h : SliceOf W shRows a len cap) : ∃ rows : List (List Int), RowsA W a len rows ∧ UsRows rows := by
  obtain ⟨h1, h2, h3, h4⟩ := h
  obtain ⟨f, hf⟩ := choose_lt (n := len) (α := List Int) (p := fun i s => (∃ b off : Nat, a = some ⟨b, off, none⟩ ∧ ∃ (ak : Option Addr) (ck : Nat), W.cell? ⟨b, off + i, none⟩ = some (.slice ak s.length ck) ∧ RowA W ak s.length s ∧ s.length ≤ ck) ∧ UsR s) (fun i hi => by
    obtain ⟨b, off, l, e, hl, hc, hh⟩ := h4 i hi
    obtain ⟨ak, n, ck, rfl, hs⟩ := Sh.Holds.slice hh
    obtain ⟨zs, hz, hu⟩ := hs.row
    obtain rfl := hz.1
    have c0 := hc 0 (by decide)
    exact ⟨zs, ⟨b, off, e, ak, ck, by simpa [Sh.width] using c0, hz, hs.1⟩, hu⟩)
  refine ⟨(List.range len).map f, ⟨by simp, by omega, fun k hk => ?_⟩, fun o ho => ?_⟩
  · rw [range_getD _ _ _ _ hk]
    exact (hf k hk).1
  · obtain ⟨i, hi, rfl⟩ := List.mem_map.1 ho
    exact (hf i (List.mem_range.1 hi)).2
end Go.Proofs.Ytjcgakmhpblanaa
