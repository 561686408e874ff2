/-
  Rows that are made, without other rules, and twice as many: plain.
-/
import Derived.Test.YtjcgakmhpblanaaTraceM
namespace Go.Proofs.Ytjcgakmhpblanaa
open Go Go.RowKit
set_option linter.unusedVariables false

theorem AirP.upto_ok {A : AirP} {n k : Nat} (h : (A.upto n).2 = 0) (hk : k ≤ n) : (A.upto k).2 = 0 := by
  by_cases c : (A.upto k).2 = 0
  · exact c
  · have e : A.upto k = ([], (A.upto k).2) := Prod.ext (AirP.upto_nil c) rfl
    rw [A.upto_stop e c hk] at h
    exact h
/-! ### Without other rules -/
abbrev AirP.bare (A : AirP) : AirP := ⟨A.cols, A.log, A.steps, [], A.bounds⟩
theorem AirP.bare_one {A : AirP} {k : Nat} (h : k < A.steps.length) : A.bare.one k = A.one k ∧ A.bare.form k = A.form k := by
  refine ⟨?_, funext fun l => ?_⟩
  · unfold AirP.one AirP.text
    simp only [if_pos h]
  · unfold AirP.form
    simp only [if_pos h]
theorem AirP.bare_upto {A : AirP} : ∀ {k : Nat}, k ≤ A.steps.length → A.bare.upto k = A.upto k
  | 0, _ => rfl
  | k + 1, h => by
    obtain ⟨e1, e2⟩ := AirP.bare_one (A := A) (k := k) (by omega)
    rw [AirP.upto, AirP.upto, AirP.bare_upto (by omega), e1, e2]
theorem AirP.bare_all {A : AirP} (h : A.check = 0) : A.bare.all.2 = 0 ∧ A.bare.all.1.length = A.steps.length ∧ A.bare.check = 0 := by
  obtain ⟨h1, h2, h3, h4, h5⟩ := AirP.check_ok h
  have hf : A.bare.fits := ⟨h2.1, h2.2.1, h2.2.2.1, by simp⟩
  have hc : A.bare.count = A.steps.length := by simp [AirP.count]
  have e : A.bare.all = A.upto A.steps.length := by
    unfold AirP.all
    rw [if_pos hf, hc, AirP.bare_upto (Nat.le_refl _)]
  have e2 : (A.upto A.steps.length).2 = 0 := AirP.upto_ok h4 (by unfold AirP.count; omega)
  refine ⟨by rw [e]; exact e2, by rw [e]; exact (AirP.upto_len e2).1, AirP.check_is h1 (by rw [e]; exact e2) h5⟩
theorem AirP.bare_makes {A : AirP} {first : List Int} (h : A.makes first) : A.bare.makes first := ⟨(AirP.bare_all h.1).2.2, h.2⟩
theorem AirP.bare_row (A : AirP) (first : List Int) : ∀ k, A.bare.rowAt first k = A.rowAt first k
  | 0 => rfl
  | k + 1 => by
    rw [AirP.rowAt, AirP.rowAt, AirP.bare_row A first k]
    rfl
theorem AirP.bare_rows (A : AirP) (first : List Int) (n : Nat) : A.bare.rowsUp first n = A.rowsUp first n := by
  unfold AirP.rowsUp
  exact List.map_congr_left fun k _ => AirP.bare_row A first k
theorem AirP.all_many {A : AirP} (h : A.check = 0) : A.all.1.length = A.steps.length + A.rules.length := by
  obtain ⟨_, _, h3, h4, _⟩ := AirP.check_ok h
  exact AirP.all_len (by rw [h3]; exact h4)
/-- No rule but the other ones is broken by rows that are made. -/
theorem AirP.made_bad {A : AirP} {first : List Int} (h : A.makes first) {n i k : Nat} (hk : k < A.many) (hb : A.badB (A.shown (A.rowsUp first n)) (A.rowsUp first n) i k = true) : A.steps.length ≤ k ∧ k < A.steps.length + A.rules.length := by
  have hl := AirP.all_many h.1
  by_cases c : k < A.all.1.length
  · by_cases d : k < A.steps.length
    · rw [AirP.bad_rule c, AirP.step_kept h d] at hb; cases hb
    · exact ⟨by omega, by omega⟩
  · obtain ⟨j, rfl⟩ : ∃ j, k = A.all.1.length + j := ⟨k - A.all.1.length, by omega⟩
    rw [AirP.bad_place, AirP.place_kept (by unfold AirP.many at hk; omega)] at hb
    cases hb
theorem AirP.made_told {A : AirP} {first : List Int} (h : A.makes first) : A.told (A.shown (A.rowsUp first A.size.toNat)) (A.rowsUp first A.size.toNat) = ((0, 0), 0) ∨
    ∃ i k : Nat, A.told (A.shown (A.rowsUp first A.size.toNat)) (A.rowsUp first A.size.toNat) = (((i : Int), (k : Int)), 7) ∧ A.steps.length ≤ k ∧ k < A.steps.length + A.rules.length := by
  rcases AirP.told_cases A (A.shown (A.rowsUp first A.size.toNat)) (A.rowsUp first A.size.toNat) with ⟨c, _⟩ | ⟨_, e, _⟩ | ⟨_, i, k, _, hk, hb, _, _, e⟩
  · exact absurd (AirP.make_whole h) c
  · exact .inl e
  · exact .inr ⟨i, k, e, AirP.made_bad h hk hb⟩
theorem AirP.bare_told {A : AirP} {first : List Int} (h : A.makes first) : A.bare.told (A.shown (A.rowsUp first A.size.toNat)) (A.rowsUp first A.size.toNat) = ((0, 0), 0) := by
  have h0 := AirP.made_told (AirP.bare_makes h)
  rw [AirP.bare_rows A first] at h0
  rcases h0 with e | ⟨i, k, _, h1, h2⟩
  · exact e
  · have h1 : A.steps.length ≤ k := h1
    have h2 : k < A.steps.length + 0 := h2
    omega
/-! ### Twice as many -/
abbrev AirP.longer (A : AirP) : AirP := ⟨A.cols, A.log + 1, A.steps, A.rules, A.bounds⟩
theorem AirP.longer_upto (A : AirP) : ∀ k, A.longer.upto k = A.upto k
  | 0 => rfl
  | k + 1 => by
    rw [AirP.upto, AirP.upto, AirP.longer_upto A k]
    rfl
theorem AirP.longer_size {A : AirP} (h : 0 ≤ A.log) : A.longer.size = 2 * A.size := by
  unfold AirP.size
  simp only
  rw [show (A.log + 1).toNat = A.log.toNat + 1 by omega, Nat.pow_succ]
  omega
theorem AirP.longer_check {A : AirP} (h : A.check = 0) (hl : A.log ≤ 5) : A.longer.check = 0 := by
  obtain ⟨h1, h2, h3, h4, h5⟩ := AirP.check_ok h
  have e : A.longer.all = A.all := by
    unfold AirP.all
    rw [AirP.longer_upto]
    rfl
  refine AirP.check_is ⟨by have := h1.1; simp only; omega, by simp only; omega, h1.2.2⟩ (by rw [e, h3]; exact h4) (fun i hi => ?_)
  obtain ⟨⟨q1, q2, q3, q4⟩, q5⟩ := h5 i hi
  refine ⟨⟨q1, q2, q3, ?_⟩, q5⟩
  rw [AirP.longer_size h1.1]
  have hs := AirP.size_bd h1
  have q4 : (A.longer.bound i).2 < A.size := q4
  omega
theorem AirP.longer_makes {A : AirP} {first : List Int} (h : A.makes first) (hl : A.log ≤ 5) : A.longer.makes first := ⟨AirP.longer_check h.1 hl, h.2⟩
theorem AirP.longer_row (A : AirP) (first : List Int) : ∀ k, A.longer.rowAt first k = A.rowAt first k
  | 0 => rfl
  | k + 1 => by
    rw [AirP.rowAt, AirP.rowAt, AirP.longer_row A first k]
    rfl
theorem AirP.longer_rows (A : AirP) (first : List Int) (n : Nat) : A.longer.rowsUp first n = A.rowsUp first n := by
  unfold AirP.rowsUp
  exact List.map_congr_left fun k _ => AirP.longer_row A first k
theorem AirP.rowsUp_take (A : AirP) (first : List Int) {n m : Nat} (h : n ≤ m) : (A.rowsUp first m).take n = A.rowsUp first n := by
  unfold AirP.rowsUp
  rw [← List.map_take, List.take_range, Nat.min_eq_left h]
end Go.Proofs.Ytjcgakmhpblanaa
