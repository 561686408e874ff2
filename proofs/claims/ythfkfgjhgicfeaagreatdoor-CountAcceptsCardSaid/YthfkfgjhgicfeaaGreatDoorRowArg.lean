/-
  Slices of numbers and of pairs, arrays of slices, as arguments. No function of the program is named.
-/
import Derived.Test.YthfkfgjhgicfeaaGreatDoorGArgs
import Derived.Test.YthfkfgjhgicfeaaGreatDoorGRows
namespace Go.Proofs.YthfkfgjhgicfeaaGreatDoor
open Go Go.RowKit Go.Deep
set_option linter.unusedVariables false

abbrev shNum : Sh := .int .u64
abbrev shPair : Sh := .both (.int .u64) (.both (.int .u64) .unit)
theorem SliceOf.row {W : World} {a : Option Addr} {len cap : Nat} (h : SliceOf W shNum a len cap) : ∃ zs : List Int, RowA W a len zs ∧ (∀ n ∈ zs, U n) := by
  obtain ⟨h1, h2, h3, h4⟩ := h
  obtain ⟨f, hf⟩ := choose_lt (n := len) (α := Int) (p := fun i s => (∃ b off : Nat, a = some ⟨b, off, none⟩ ∧ W.cell? ⟨b, off + i, none⟩ = some (.int .u64 s)) ∧ U s) (fun i hi => by
    obtain ⟨b, off, l, e, hl, hc, n, rfl, hn⟩ := h4 i hi
    have c0 := hc 0 (by decide)
    exact ⟨n, ⟨b, off, e, by simpa [Sh.width] using c0⟩, U_wf hn⟩)
  refine ⟨(List.range len).map f, ⟨by simp, by omega, fun k hk => ?_⟩, fun o ho => ?_⟩
  · rw [range_getD _ _ _ _ hk]
    exact (hf k hk).1
  · obtain ⟨i, hi, rfl⟩ := List.mem_map.1 ho
    exact (hf i (List.mem_range.1 hi)).2
theorem SliceOf.qrow {W : World} {a : Option Addr} {len cap : Nat} (h : SliceOf W shPair a len cap) : ∃ zs : List (Int × Int), QRowA W a len zs ∧ (∀ n ∈ zs, U n.1 ∧ U n.2) := by
  obtain ⟨h1, h2, h3, h4⟩ := h
  obtain ⟨f, hf⟩ := choose_lt (n := len) (α := Int × Int) (p := fun i s => (∃ b off : Nat, a = some ⟨b, off, none⟩ ∧ W.cell? ⟨b, off + i * 2, none⟩ = some (.int .u64 s.1) ∧ W.cell? ⟨b, off + i * 2 + 1, none⟩ = some (.int .u64 s.2)) ∧ U s.1 ∧ U s.2) (fun i hi => by
    obtain ⟨b, off, l, e, hl, hc, l1, m1, rfl, ⟨k, rfl, hk⟩, l2, m2, rfl, ⟨n, rfl, hn⟩, hm⟩ := h4 i hi
    obtain rfl := hm
    have c0 := hc 0 (by decide)
    have c1 := hc 1 (by decide)
    exact ⟨(k, n), ⟨b, off, e, by simpa [Sh.width] using c0, by simpa [Sh.width, Nat.add_assoc] using c1⟩, U_wf hk, U_wf hn⟩)
  refine ⟨(List.range len).map f, ⟨by simp, by omega, fun k hk => ?_⟩, fun o ho => ?_⟩
  · rw [range_getD _ _ _ _ hk]
    exact (hf k hk).1
  · obtain ⟨i, hi, rfl⟩ := List.mem_map.1 ho
    exact (hf i (List.mem_range.1 hi)).2
theorem SliceOf.caps {W : World} {e : Sh} {a : Option Addr} {len cap : Nat} (h : SliceOf W e a len cap) : len ≤ cap ∧ cap ≤ maxLen := ⟨h.1, h.2.1⟩
/-- An array of slices. -/
theorem holds_slices {W : World} {e : Sh} : ∀ {n : Nat} {cs : List Value}, (Sh.rep n (.slice e)).Holds W cs → ∃ l : List (Option Addr × Nat × Nat), l.length = n ∧ cs = l.map (fun s => Value.slice s.1 s.2.1 s.2.2) ∧ ∀ s ∈ l, SliceOf W e s.1 s.2.1 s.2.2
  | 0, cs, h => by
    have := h.1
    simp at this
    exact ⟨[], rfl, by simpa using this, fun z hz => by cases hz⟩
  | n + 1, cs, h => by
    obtain ⟨h1, h2⟩ := h
    obtain ⟨a, len, cap, hz, hw⟩ := Sh.Holds.slice (h2 0 (by omega))
    cases cs with
    | nil => simp [Sh.width] at h1
    | cons c cs =>
      simp [Sh.width] at hz h1
      obtain ⟨zs, hl, he, hws⟩ := holds_slices (n := n) (cs := cs) ⟨by simpa [Sh.width] using h1, fun i hi => by
        have := h2 (i + 1) (by omega)
        simpa [Sh.width] using this⟩
      subst hz
      subst he
      exact ⟨(a, len, cap) :: zs, by simp [hl], by simp, fun x hx => by
        rcases List.mem_cons.1 hx with rfl | hx
        · exact hw
        · exact hws x hx⟩
theorem Sh.Arg.two {W : World} {e : Sh} {v : Value} (h : (Sh.rep 2 (.slice e)).Arg W v) : ∃ (a : Option Addr) (la ca : Nat) (b : Option Addr) (lb cb : Nat), v = .agg #[.slice a la ca, .slice b lb cb] ∧ SliceOf W e a la ca ∧ SliceOf W e b lb cb := by
  obtain ⟨cs, rfl, hc⟩ := h.arr
  obtain ⟨l, hl, rfl, hs⟩ := holds_slices hc
  match l, hl, hs with
  | [(a, la, ca), (b, lb, cb)], _, hs => exact ⟨a, la, ca, b, lb, cb, rfl, hs (a, la, ca) (by simp), hs (b, lb, cb) (by simp)⟩
theorem Sh.Arg.four {W : World} {e : Sh} {v : Value} (h : (Sh.rep 4 (.slice e)).Arg W v) : ∃ (a : Option Addr) (la ca : Nat) (b : Option Addr) (lb cb : Nat) (c : Option Addr) (lc cc : Nat) (d : Option Addr) (ld cd : Nat), v = .agg #[.slice a la ca, .slice b lb cb, .slice c lc cc, .slice d ld cd] ∧ SliceOf W e a la ca ∧ SliceOf W e b lb cb ∧ SliceOf W e c lc cc ∧ SliceOf W e d ld cd := by
  obtain ⟨cs, rfl, hc⟩ := h.arr
  obtain ⟨l, hl, rfl, hs⟩ := holds_slices hc
  match l, hl, hs with
  | [(a, la, ca), (b, lb, cb), (c, lc, cc), (d, ld, cd)], _, hs => exact ⟨a, la, ca, b, lb, cb, c, lc, cc, d, ld, cd, rfl, hs (a, la, ca) (by simp), hs (b, lb, cb) (by simp), hs (c, lc, cc) (by simp), hs (d, ld, cd) (by simp)⟩
end Go.Proofs.YthfkfgjhgicfeaaGreatDoor
