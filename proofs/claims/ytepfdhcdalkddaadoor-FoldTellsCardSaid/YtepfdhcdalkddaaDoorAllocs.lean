/-
  A region that draws its order, makes several variables of two cells and stores into each ('a, b, c := x, y, z'): which blocks they get is drawn, that they are apart is known. No function of the program is named.
-/
import Derived.Test.YtepfdhcdalkddaaDoorWays
import Derived.Test.YtepfdhcdalkddaaDoorGArgs
namespace Go.Proofs.YtepfdhcdalkddaaDoor
open Go Go.RowKit
set_option linter.unusedVariables false

/-- A variable: the slot of its pointer, the places of its alloc and of its store, its cells ahead of the store and behind it. -/
structure Mv where
  A : Nat
  iA : Nat
  iS : Nat
  z0 : Value
  z1 : Value
  s0 : Value
  s1 : Value
/-- vs: the variables; sm: the other operations: place, slot, value. -/
structure Allocs (W0 : World) (vs : List Mv) (sm : List (Nat × Nat × Value)) (D : Nat → Bool) (σ : Nat → Value) (W : World) : Prop where
  bel : Below W0.heap.size W0 W
  ord : ∀ x ∈ vs, D x.iS = true → D x.iA = true
  made : ∀ x ∈ vs, D x.iA = true → ∃ q, σ x.A = .pointer (some ⟨q, 0, none⟩) ∧ W0.heap.size ≤ q ∧ Duo W q (cond (D x.iS) x.s0 x.z0) (cond (D x.iS) x.s1 x.z1)
  apart : ∀ x ∈ vs, ∀ y ∈ vs, x.A ≠ y.A → D x.iA = true → D y.iA = true → σ x.A ≠ σ y.A
  sv : ∀ t ∈ sm, D t.1 = true → σ t.2.1 = t.2.2
theorem setD_same (i : Nat) (D : Nat → Bool) : setD i D i = true := if_pos rfl
theorem setD_ne {i k : Nat} (h : k ≠ i) (D : Nat → Bool) : setD i D k = D k := if_neg h
section
variable {W0 : World} {vs : List Mv} {sm : List (Nat × Nat × Value)} {D : Nat → Bool} {σ : Nat → Value} {W : World}
theorem Allocs.start (hb : Below W0.heap.size W0 W) (σ : Nat → Value) : Allocs W0 vs sm (fun _ => false) σ W :=
  ⟨hb, fun _ _ h => absurd h Bool.false_ne_true, fun _ _ h => absurd h Bool.false_ne_true, fun _ _ _ _ _ h => absurd h Bool.false_ne_true, fun _ _ h => absurd h Bool.false_ne_true⟩
/-- An operation whose value is known, by new memory alone. -/
theorem Allocs.next (h : Allocs W0 vs sm D σ W) {i d : Nat} {v : Value} {W' : World} (hb : Below W.heap.size W W')
    (h1 : ∀ x ∈ vs, x.iA ≠ i ∧ x.iS ≠ i ∧ x.A ≠ d) (h2 : ∀ t ∈ sm, (t.1 = i → t.2.1 = d ∧ t.2.2 = v) ∧ (t.1 ≠ i → t.2.1 ≠ d)) : Allocs W0 vs sm (setD i D) (updS (some d) v σ) W' := by
  refine ⟨bthen h.bel hb, fun x hx => ?_, fun x hx => ?_, fun x hx y hy => ?_, fun t ht => ?_⟩
  · obtain ⟨a1, a2, a3⟩ := h1 x hx
    rw [setD_ne a1, setD_ne a2]
    exact h.ord x hx
  · obtain ⟨a1, a2, a3⟩ := h1 x hx
    rw [setD_ne a1, setD_ne a2]
    simp only [updS, if_neg a3]
    intro hD
    obtain ⟨q, q1, q2, q3⟩ := h.made x hx hD
    exact ⟨q, q1, q2, q3.keep hb⟩
  · obtain ⟨a1, a2, a3⟩ := h1 x hx
    obtain ⟨b1, b2, b3⟩ := h1 y hy
    rw [setD_ne a1, setD_ne b1]
    simp only [updS, if_neg a3, if_neg b3]
    exact h.apart x hx y hy
  · obtain ⟨a1, a2⟩ := h2 t ht
    by_cases c : t.1 = i
    · obtain ⟨e1, e2⟩ := a1 c
      intro _
      simp only [updS, if_pos e1]
      exact e2.symm
    · rw [setD_ne c]
      simp only [updS, if_neg (a2 c)]
      exact h.sv t ht
/-- A new variable. -/
theorem Allocs.new (h : Allocs W0 vs sm D σ W) {x : Mv} {t : TypeId} (hx : x ∈ vs) (hd : D x.iA = false)
    (h1 : ∀ y ∈ vs, (y.A = x.A → y = x) ∧ (y.A ≠ x.A → y.iA ≠ x.iA) ∧ y.iS ≠ x.iA) (h2 : ∀ s ∈ sm, s.1 ≠ x.iA ∧ s.2.1 ≠ x.A) :
    Allocs W0 vs sm (setD x.iA D) (updS (some x.A) (.pointer (some ⟨W.heap.size, 0, none⟩)) σ) (W.alloc (.cells #[x.z0, x.z1] t)) := by
  have hb : Below W.heap.size W (W.alloc (.cells #[x.z0, x.z1] t)) := (Below.refl _ _).alloc (Nat.le_refl _) _
  have hs : D x.iS = false := by
    cases c : D x.iS with
    | false => rfl
    | true => rw [h.ord x hx c] at hd; cases hd
  have old : ∀ y ∈ vs, y.A ≠ x.A → D y.iA = true → σ y.A ≠ .pointer (some ⟨W.heap.size, 0, none⟩) := fun y hy c hD => by
    obtain ⟨q, q1, q2, q3⟩ := h.made y hy hD
    have := q3.lt
    rw [q1]
    intro e
    cases e
    omega
  refine ⟨bthen h.bel hb, fun y hy => ?_, fun y hy => ?_, fun y hy z hz hne => ?_, fun s hs' => ?_⟩
  · obtain ⟨a1, a2, a3⟩ := h1 y hy
    rw [setD_ne a3]
    intro c
    by_cases d : y.iA = x.iA
    · rw [d]; exact setD_same _ _
    · rw [setD_ne d]; exact h.ord y hy c
  · obtain ⟨a1, a2, a3⟩ := h1 y hy
    rw [setD_ne a3]
    simp only [updS]
    by_cases c : y.A = x.A
    · obtain rfl := a1 c
      intro _
      rw [if_pos rfl, hs]
      exact ⟨W.heap.size, rfl, h.bel.size, by simp [Duo, go_sem]⟩
    · rw [setD_ne (a2 c), if_neg c]
      intro hD
      obtain ⟨q, q1, q2, q3⟩ := h.made y hy hD
      exact ⟨q, q1, q2, q3.keep hb⟩
  · obtain ⟨a1, a2, a3⟩ := h1 y hy
    obtain ⟨b1, b2, b3⟩ := h1 z hz
    simp only [updS]
    by_cases c : y.A = x.A
    · have c' : z.A ≠ x.A := fun e => hne (c.trans e.symm)
      rw [if_pos c, if_neg c', setD_ne (b2 c')]
      intro _ hD
      exact (old z hz c' hD).symm
    · by_cases c' : z.A = x.A
      · rw [if_neg c, if_pos c', setD_ne (a2 c)]
        intro hD _
        exact old y hy c hD
      · rw [if_neg c, if_neg c', setD_ne (a2 c), setD_ne (b2 c')]
        exact h.apart y hy z hz hne
  · obtain ⟨a1, a2⟩ := h2 s hs'
    rw [setD_ne a1]
    simp only [updS, if_neg a2]
    exact h.sv s hs'
/-- A store into a variable. -/
theorem Allocs.store (h : Allocs W0 vs sm D σ W) {x : Mv} {q : Nat} (hx : x ∈ vs) (hA : D x.iA = true) (hq : σ x.A = .pointer (some ⟨q, 0, none⟩))
    (h1 : ∀ y ∈ vs, (y.A = x.A → y = x) ∧ (y.A ≠ x.A → y.iS ≠ x.iS) ∧ y.iA ≠ x.iS) (h2 : ∀ s ∈ sm, s.1 ≠ x.iS) (v : Value) :
    Allocs W0 vs sm (setD x.iS D) (updS none v σ) ((W.setCell ⟨q, 0, none⟩ x.s0).setCell ⟨q, 1, none⟩ x.s1) := by
  obtain ⟨q', q1, q2, q3⟩ := h.made x hx hA
  rw [hq] at q1
  cases q1
  refine ⟨(h.bel.setCell q2 _).setCell q2 _, fun y hy => ?_, fun y hy => ?_, fun y hy z hz hne => ?_, fun s hs' => ?_⟩
  · obtain ⟨a1, a2, a3⟩ := h1 y hy
    rw [setD_ne a3]
    intro c
    by_cases d : y.A = x.A
    · rw [a1 d]; exact hA
    · rw [setD_ne (a2 d)] at c; exact h.ord y hy c
  · obtain ⟨a1, a2, a3⟩ := h1 y hy
    rw [setD_ne a3]
    intro hD
    obtain ⟨p, p1, p2, p3⟩ := h.made y hy hD
    by_cases c : y.A = x.A
    · obtain rfl := a1 c
      rw [setD_same]
      rw [p1] at hq
      cases hq
      exact ⟨q, p1, p2, p3.set _ _⟩
    · rw [setD_ne (a2 c)]
      have hpq : q ≠ p := fun e => h.apart y hy x hx c hD hA (by rw [p1, hq, e])
      exact ⟨p, p1, p2, (p3.far hpq _ _).far hpq _ _⟩
  · obtain ⟨a1, a2, a3⟩ := h1 y hy
    obtain ⟨b1, b2, b3⟩ := h1 z hz
    rw [setD_ne a3, setD_ne b3]
    exact h.apart y hy z hz hne
  · rw [setD_ne (h2 s hs')]
    exact h.sv s hs'
end
end Go.Proofs.YtepfdhcdalkddaaDoor
