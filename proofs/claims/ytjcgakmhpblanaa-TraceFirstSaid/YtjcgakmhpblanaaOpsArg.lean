/-
  A slice of operations, as an argument.
-/
import Derived.Test.YtjcgakmhpblanaaGCode
import Derived.Test.YtjcgakmhpblanaaGArgs
namespace Go.Proofs.Ytjcgakmhpblanaa
open Go Go.RowKit Go.Deep
set_option linter.unusedVariables false

theorem SliceOf.ops {W : World} {a : Option Addr} {len cap : Nat} (h : SliceOf W (.both (.int .i64) (.both (.int .u64) .unit)) a len cap) : ∃ zs : List Opn, OpA W a len zs ∧ (∀ o ∈ zs, OkO o) := by
  obtain ⟨h1, h2, h3, h4⟩ := h
  obtain ⟨f, hf⟩ := choose_lt (n := len) (α := Opn) (p := fun i s => (∃ b off : Nat, a = some ⟨b, off, none⟩ ∧ W.cell? ⟨b, off + i * 2, none⟩ = some (.int .i64 s.1) ∧ W.cell? ⟨b, off + i * 2 + 1, none⟩ = some (.int .u64 s.2)) ∧ OkO s) (fun i hi => by
    obtain ⟨b, off, l, e, hl, hc, l1, m1, rfl, ⟨k, rfl, hk⟩, l2, m2, rfl, ⟨n, rfl, hn⟩, hm⟩ := h4 i hi
    obtain rfl := hm
    have c0 := hc 0 (by decide)
    have c1 := hc 1 (by decide)
    exact ⟨(k, n), ⟨b, off, e, by simpa [Sh.width] using c0, by simpa [Sh.width, Nat.add_assoc] using c1⟩, bounds_i64 hk, U_wf hn⟩)
  refine ⟨(List.range len).map f, ⟨by simp, by omega, fun k hk => ?_⟩, fun o ho => ?_⟩
  · have e : ((List.range len).map f).getD k (0, 0) = f k := by simp [List.getD, hk]
    rw [e]
    exact (hf k hk).1
  · obtain ⟨i, hi, rfl⟩ := List.mem_map.1 ho
    exact (hf i (List.mem_range.1 hi)).2
abbrev shOps : Sh := .slice (.both (.int .i64) (.both (.int .u64) .unit))
theorem SliceOf.nil {W : World} {e : Sh} {a : Option Addr} {len cap : Nat} (h : SliceOf W e a len cap) : a = none → cap = 0 := fun e => (h.2.2.1 e).2
end Go.Proofs.Ytjcgakmhpblanaa
