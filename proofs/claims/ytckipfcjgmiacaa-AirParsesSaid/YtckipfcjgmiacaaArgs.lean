/-
  Arguments of some shapes, opened: a sponge, slices of texts, of numbers, of pairs, an array of numbers. No function of the program is named.
-/
import Derived.Test.YtckipfcjgmiacaaShape
import Derived.Test.YtckipfcjgmiacaaGBlk
import Derived.Test.YtckipfcjgmiacaaGRow
namespace Go.Proofs.Ytckipfcjgmiacaa
open Go Go.RowKit Go.Deep
set_option linter.unusedVariables false

theorem arg_spong {W : World} {v : Value} (h : (Sh.both .string (.both (.int .i64) .unit)).Arg W v) : ∃ s c, v = .agg #[.string s, .int .i64 c] ∧ s.size ≤ maxLen ∧ (-9223372036854775808 ≤ c ∧ c ≤ 9223372036854775807) := by
  obtain ⟨cs, rfl, l, m, rfl, ⟨s, rfl, hs⟩, l', m', rfl, ⟨c, rfl, hc⟩, hm⟩ := h.agg
  obtain rfl := hm
  exact ⟨s, c, rfl, hs, bounds_i64 hc⟩
/-- A slice of texts. -/
theorem SliceOf.strs {W : World} {a : Option Addr} {len cap : Nat} (h : SliceOf W .string a len cap) : ∃ f : Nat → ByteArray, StrA W a len f ∧ (∀ k, k < len → (f k).size ≤ maxLen) := by
  obtain ⟨h1, h2, h3, h4⟩ := h
  obtain ⟨f, hf⟩ := choose_lt (n := len) (α := ByteArray) (p := fun i s => (∃ b off : Nat, a = some ⟨b, off, none⟩ ∧ W.cell? ⟨b, off + i, none⟩ = some (.string s)) ∧ s.size ≤ maxLen) (fun i hi => by
    obtain ⟨b, off, l, e, hl, hc, s, rfl, hs⟩ := h4 i hi
    have := hc 0 (by decide)
    exact ⟨s, ⟨b, off, e, by simpa [Sh.width] using this⟩, hs⟩)
  exact ⟨f, ⟨by omega, fun k hk => (hf k hk).1⟩, fun k hk => (hf k hk).2⟩
/-- An array of numbers of one kind. -/
theorem holds_rep {W : World} {k : IntKind} : ∀ {n : Nat} {cs : List Value}, (Sh.rep n (.int k)).Holds W cs → ∃ zs : List Int, zs.length = n ∧ cs = zs.map (Value.int k) ∧ ∀ z ∈ zs, (Lit.int k z).wf = true
  | 0, cs, h => by
    have := h.1
    simp at this
    exact ⟨[], rfl, by simpa using this, fun z hz => by cases hz⟩
  | n + 1, cs, h => by
    obtain ⟨h1, h2⟩ := h
    have h0 := h2 0 (by omega)
    obtain ⟨z, hz, hw⟩ := h0
    cases cs with
    | nil => simp [Sh.width] at h1
    | cons c cs =>
      simp [Sh.width] at hz h1
      obtain ⟨zs, hl, he, hws⟩ := holds_rep (n := n) (cs := cs) ⟨by simpa [Sh.width] using h1, fun i hi => by
        have := h2 (i + 1) (by omega)
        simpa [Sh.width] using this⟩
      subst hz
      subst he
      exact ⟨z :: zs, by simp [hl], by simp, fun x hx => by
        rcases List.mem_cons.1 hx with rfl | hx
        · exact hw
        · exact hws x hx⟩
end Go.Proofs.Ytckipfcjgmiacaa
