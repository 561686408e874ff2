/-
  Arguments that are pairs, arrays of pairs, or have pairs in them. No function of the program is named.
-/
import Derived.Test.YthfkfgjhgicfeaaGreatDoorRowArg
namespace Go.Proofs.YthfkfgjhgicfeaaGreatDoor
open Go Go.RowKit Go.Deep
set_option linter.unusedVariables false

theorem holds_pair {W : World} {cs : List Value} (h : shPair.Holds W cs) : ∃ a b, cs = [.int .u64 a, .int .u64 b] ∧ U a ∧ U b := by
  obtain ⟨l, m, rfl, ⟨a, rfl, ha⟩, l', m', rfl, ⟨b, rfl, hb⟩, hm⟩ := h
  obtain rfl := hm
  exact ⟨a, b, rfl, U_wf ha, U_wf hb⟩
theorem arg_pair {W : World} {v : Value} (h : shPair.Arg W v) : ∃ a b, v = .agg #[.int .u64 a, .int .u64 b] ∧ U a ∧ U b := by
  obtain ⟨cs, hv, h'⟩ := h.agg
  obtain ⟨a, b, hc, ha, hb⟩ := holds_pair h'
  subst hv hc
  exact ⟨a, b, rfl, ha, hb⟩
/-- An array of pairs. -/
theorem holds_pairs {W : World} : ∀ {n : Nat} {cs : List Value}, (Sh.rep n shPair).Holds W cs → ∃ zs : List (Int × Int), zs.length = n ∧ cs = zs.flatMap (fun z => [.int .u64 z.1, .int .u64 z.2]) ∧ ∀ z ∈ zs, U z.1 ∧ U z.2
  | 0, cs, h => by
    have := h.1
    simp at this
    exact ⟨[], rfl, by simpa using this, fun z hz => by cases hz⟩
  | n + 1, cs, h => by
    obtain ⟨h1, h2⟩ := h
    obtain ⟨a, b, hz, ha, hb⟩ := holds_pair (h2 0 (by omega))
    match cs, h1, h2, hz with
    | [], h1, _, _ => simp [Sh.width] at h1
    | [c], h1, _, _ => simp [Sh.width] at h1; omega
    | c :: d :: cs, h1, h2, hz =>
      simp [Sh.width] at hz h1
      obtain ⟨zs, hl, he, hws⟩ := holds_pairs (n := n) (cs := cs) ⟨by simp [Sh.width]; omega, fun i hi => by
        have := h2 (i + 1) (by omega)
        have e : (c :: d :: cs).drop ((i + 1) * shPair.width) = cs.drop (i * shPair.width) := by
          have : (i + 1) * shPair.width = i * shPair.width + 1 + 1 := by simp [Sh.width]; omega
          rw [this]; rfl
        rwa [e] at this⟩
      obtain ⟨rfl, rfl⟩ := hz
      subst he
      exact ⟨(a, b) :: zs, by simp [hl], by simp, fun x hx => by
        rcases List.mem_cons.1 hx with rfl | hx
        · exact ⟨ha, hb⟩
        · exact hws x hx⟩
end Go.Proofs.YthfkfgjhgicfeaaGreatDoor
