/-
  A row in a variable's field appended to what one or two calls tell that write as they go ('a.f = append(a.f, r.next(..))'), in a region that draws its order, up to the store. No function of the program is named.
-/
import Derived.Test.YtckipfcjgmiacaaGRow
import Derived.Test.YtckipfcjgmiacaaRows3
namespace Go.Proofs.Ytckipfcjgmiacaa
open Go Go.RowKit
set_option linter.unusedVariables false

/-- c1, c2: the calls (one call: c1 = c2); km: the new element (one call: km = c1); kb: the new element's array; ka: the append; S: what is known of the world, by which calls have come up; S2: behind the append. -/
structure FillW (S : Bool → Bool → World → Prop) (S2 : Value → World → Prop) (c1 c2 km kb ka : Nat) (z : List Value) (simple : List Nat) (val : Nat → Value) (D : Nat → Bool) (σ : Nat → Value) (W : World) : Prop where
  st : D ka = false → S (D c1) (D c2) W
  post : D ka = true → S2 (σ ka) W
  li : D ka = false → D kb = true → ∃ g, σ kb = .slice (some ⟨g, 0, none⟩) 1 1 ∧ ∀ j u, z[j]? = some u → W.cell? ((⟨g, 0, none⟩ : Addr).add j) = some u
  o1 : D kb = true → D c1 = true ∧ D c2 = true
  o2 : D ka = true → D kb = true
  o3 : D km = true → D c1 = true ∧ D c2 = true
  sv : ∀ d, d ∈ simple → D d = true → σ d = val d
section
variable {S : Bool → Bool → World → Prop} {S2 : Value → World → Prop} {c1 c2 km kb ka : Nat} {z : List Value} {simple : List Nat} {val : Nat → Value} {D : Nat → Bool} {σ : Nat → Value} {W : World}
theorem FillW.start (h : S false false W) (σ : Nat → Value) : FillW S S2 c1 c2 km kb ka z simple val (fun _ => false) σ W :=
  ⟨fun _ => h, fun h => absurd h Bool.false_ne_true, fun _ h => absurd h Bool.false_ne_true, fun h => absurd h Bool.false_ne_true, fun h => absurd h Bool.false_ne_true, fun h => absurd h Bool.false_ne_true, fun _ _ h => absurd h Bool.false_ne_true⟩
theorem FillW.open_b (h : FillW S S2 c1 c2 km kb ka z simple val D σ W) (hd : D kb = false) : D ka = false := by
  cases c : D ka with
  | false => rfl
  | true => exact absurd (h.o2 c) (by simp [hd])
theorem FillW.open_c (h : FillW S S2 c1 c2 km kb ka z simple val D σ W) {d : Nat} (hc : d = c1 ∨ d = c2) (hd : D d = false) : D kb = false ∧ D ka = false := by
  have e : D kb = false := by
    cases c : D kb with
    | false => rfl
    | true =>
      obtain ⟨h1, h2⟩ := h.o1 c
      rcases hc with rfl | rfl
      · rw [hd] at h1; cases h1
      · rw [hd] at h2; cases h2
  exact ⟨e, h.open_b e⟩
theorem FillW.sv_next (h : FillW S S2 c1 c2 km kb ka z simple val D σ W) {d : Nat} {v : Value} (hv : d ∈ simple → v = val d) : ∀ d', d' ∈ simple → (if d' = d then true else D d') = true → (if d' = d then v else σ d') = val d' := by
  intro d' hd
  by_cases c : d' = d
  · subst c; intro _; simp only [if_pos]; exact hv hd
  · simp only [if_neg c]; exact h.sv d' hd
/-- An operation whose value is known, in the world as it is. -/
theorem FillW.next (h : FillW S S2 c1 c2 km kb ka z simple val D σ W) {d : Nat} {v : Value} (h0 : d ≠ c1 ∧ d ≠ c2 ∧ d ≠ kb ∧ d ≠ ka) (hv : v = val d) (hm : d = km → D c1 = true ∧ D c2 = true) :
    FillW S S2 c1 c2 km kb ka z simple val (fun k => if k = d then true else D k) (fun k => if k = d then v else σ k) W := by
  obtain ⟨h1, h2, h3, h4⟩ := h0
  refine ⟨?_, ?_, ?_, ?_, ?_, ?_, h.sv_next fun _ => hv⟩
  · simp only [if_neg (Ne.symm h1), if_neg (Ne.symm h2), if_neg (Ne.symm h4)]; exact h.st
  · simp only [if_neg (Ne.symm h4)]; exact h.post
  · simp only [if_neg (Ne.symm h3), if_neg (Ne.symm h4)]; exact h.li
  · simp only [if_neg (Ne.symm h1), if_neg (Ne.symm h2), if_neg (Ne.symm h3)]; exact h.o1
  · simp only [if_neg (Ne.symm h3), if_neg (Ne.symm h4)]; exact h.o2
  · simp only [if_neg (Ne.symm h1), if_neg (Ne.symm h2)]
    by_cases c : km = d
    · exact fun _ => hm c.symm
    · simp only [if_neg c]; exact h.o3
/-- A call. -/
theorem FillW.call (h : FillW S S2 c1 c2 km kb ka z simple val D σ W) {d : Nat} {v : Value} {W' : World} (hc : d = c1 ∨ d = c2) (hd : D d = false) (h0 : d ≠ kb ∧ d ≠ ka) (hm : km = d → c1 = d ∧ c2 = d) (hv : v = val d)
    (hS : S (if c1 = d then true else D c1) (if c2 = d then true else D c2) W') :
    FillW S S2 c1 c2 km kb ka z simple val (fun k => if k = d then true else D k) (fun k => if k = d then v else σ k) W' := by
  obtain ⟨hb, ha⟩ := h.open_c hc hd
  obtain ⟨h3, h4⟩ := h0
  refine ⟨fun _ => hS, ?_, ?_, ?_, ?_, ?_, h.sv_next fun _ => hv⟩
  · simp only [if_neg (Ne.symm h4), ha]; intro c; cases c
  · simp only [if_neg (Ne.symm h3), hb]; intro _ c; cases c
  · simp only [if_neg (Ne.symm h3), hb]; intro c; cases c
  · simp only [if_neg (Ne.symm h4), ha]; intro c; cases c
  · by_cases c : km = d
    · obtain ⟨e1, e2⟩ := hm c
      intro _
      exact ⟨by simp only [if_pos e1], by simp only [if_pos e2]⟩
    · simp only [if_neg c]
      intro e
      obtain ⟨q1, q2⟩ := h.o3 e
      constructor
      · split
        · rfl
        · exact q1
      · split
        · rfl
        · exact q2
/-- The new element's array. -/
theorem FillW.build (h : FillW S S2 c1 c2 km kb ka z simple val D σ W) {W' : World} {g : Nat} (hd : D kb = false) (h1 : D c1 = true) (h2 : D c2 = true) (h0 : kb ≠ c1 ∧ kb ≠ c2 ∧ kb ≠ km ∧ kb ≠ ka) (hs : kb ∉ simple)
    (hz : ∀ j u, z[j]? = some u → W'.cell? ((⟨g, 0, none⟩ : Addr).add j) = some u) (hS : S true true W') :
    FillW S S2 c1 c2 km kb ka z simple val (fun k => if k = kb then true else D k) (fun k => if k = kb then .slice (some ⟨g, 0, none⟩) 1 1 else σ k) W' := by
  have ha := h.open_b hd
  obtain ⟨q1, q2, qm, q3⟩ := h0
  refine ⟨?_, ?_, ?_, ?_, ?_, ?_, h.sv_next fun c => absurd c hs⟩
  · simp only [if_neg (Ne.symm q1), if_neg (Ne.symm q2), h1, h2]; exact fun _ => hS
  · simp only [if_neg (Ne.symm q3), ha]; intro c; cases c
  · intro _ _; exact ⟨g, by simp, hz⟩
  · simp only [if_neg (Ne.symm q1), if_neg (Ne.symm q2)]; exact fun _ => ⟨h1, h2⟩
  · simp only [if_neg (Ne.symm q3), ha]; intro c; cases c
  · simp only [if_neg (Ne.symm q1), if_neg (Ne.symm q2), if_neg (Ne.symm qm)]; exact h.o3
/-- The append. -/
theorem FillW.app (h : FillW S S2 c1 c2 km kb ka z simple val D σ W) {v' : Value} {W' : World} (hb : D kb = true) (h0 : ka ≠ c1 ∧ ka ≠ c2 ∧ ka ≠ km ∧ ka ≠ kb) (hs : ka ∉ simple) (hS : S2 v' W') :
    FillW S S2 c1 c2 km kb ka z simple val (fun k => if k = ka then true else D k) (fun k => if k = ka then v' else σ k) W' := by
  obtain ⟨q1, q2, qm, q3⟩ := h0
  refine ⟨?_, ?_, ?_, ?_, ?_, ?_, h.sv_next fun c => absurd c hs⟩
  · simp
  · intro _; simpa using hS
  · simp
  · simp only [if_neg (Ne.symm q1), if_neg (Ne.symm q2), if_neg (Ne.symm q3)]; exact h.o1
  · simp only [if_neg (Ne.symm q3)]; exact fun _ => hb
  · simp only [if_neg (Ne.symm q1), if_neg (Ne.symm q2), if_neg (Ne.symm qm)]; exact h.o3
end
end Go.Proofs.Ytckipfcjgmiacaa
