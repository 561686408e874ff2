/-
  Rows, and the rules that they keep: plain.
-/
import Derived.Test.YtjcgakmhpblanaaGAirM
import Derived.Test.YtjcgakmhpblanaaGEvalM
import Derived.Test.YtjcgakmhpblanaaEvalRef
namespace Go.Proofs.Ytjcgakmhpblanaa
open Go Go.RowKit
set_option linter.unusedVariables false

/-! ### The first of numbers -/
def fstB (p : Nat → Bool) : Nat → Option Nat
  | 0 => none
  | n + 1 => match fstB p n with
    | some k => some k
    | none => if p n then some n else none
theorem fstB_none {p : Nat → Bool} : ∀ {n : Nat}, fstB p n = none ↔ ∀ j, j < n → p j = false
  | 0 => ⟨fun _ j hj => by omega, fun _ => rfl⟩
  | n + 1 => by
    rw [fstB]
    cases c : fstB p n with
    | some m =>
      refine ⟨(fun h => by cases h), fun h => ?_⟩
      have : ∀ j, j < n → p j = false := fun j hj => h j (by omega)
      rw [fstB_none.2 this] at c
      cases c
    | none =>
      by_cases e : p n = true
      · simp only [if_pos e]
        exact ⟨(fun h => by cases h), fun h => by rw [h n (by omega)] at e; cases e⟩
      · simp only [if_neg e]
        refine ⟨fun _ j hj => ?_, fun _ => trivial⟩
        by_cases d : j = n
        · subst d; simpa using e
        · exact fstB_none.1 c j (by omega)
theorem fstB_some {p : Nat → Bool} : ∀ {n k : Nat}, fstB p n = some k → k < n ∧ p k = true ∧ ∀ j, j < k → p j = false
  | 0, k, h => by cases h
  | n + 1, k, h => by
    rw [fstB] at h
    cases c : fstB p n with
    | some m =>
      rw [c] at h
      cases h
      obtain ⟨h1, h2, h3⟩ := fstB_some c
      exact ⟨by omega, h2, h3⟩
    | none =>
      rw [c] at h
      by_cases e : p n = true
      · simp only [if_pos e] at h
        cases h
        exact ⟨by omega, e, fun j hj => fstB_none.1 c j hj⟩
      · simp only [if_neg e] at h
        cases h
theorem fstB_is {p : Nat → Bool} {n k : Nat} (h : k < n) (hp : p k = true) (hj : ∀ j, j < k → p j = false) : fstB p n = some k := by
  cases c : fstB p n with
  | none => have := fstB_none.1 c k h; rw [hp] at this; cases this
  | some j =>
    obtain ⟨g1, g2, g3⟩ := fstB_some c
    have : ¬ j < k := fun x => by have := hj j x; rw [g2] at this; cases this
    have : ¬ k < j := fun x => by have := g3 k x; rw [hp] at this; cases this
    rw [show j = k by omega]
/-! ### Rows -/
theorem take_one {l : List Int} {k : Nat} (h : k < l.length) : l.take (k + 1) = l.take k ++ [l.getD k 0] := by
  rw [List.take_add_one]
  simp [List.getD, h]
def rowN (rows : List (List Int)) (i : Nat) : List Int := rows.getD i []
def KeptR (r : List Int) : Prop := ∀ x ∈ r, x < 18446744069414584321
instance (r : List Int) : Decidable (KeptR r) := by unfold KeptR; infer_instance
/-- The operations of a step. -/
def AirP.stepL (A : AirP) (i : Nat) : List Opn := (parseB (A.steps.getD i noText)).1
def AirP.nextV (A : AirP) (row : List Int) (i : Nat) : F := evB numA (rowF row) (rowF row) (A.stepL i)
/-- The next row. -/
def AirP.nextRow (A : AirP) (row : List Int) : List Int := (List.range A.cols.toNat).map fun i => enc (A.nextV row i)
def AirP.rowAt (A : AirP) (first : List Int) : Nat → List Int
  | 0 => first
  | k + 1 => A.nextRow (A.rowAt first k)
def AirP.rowsUp (A : AirP) (first : List Int) (n : Nat) : List (List Int) := (List.range n).map (A.rowAt first)
def AirP.makes (A : AirP) (first : List Int) : Prop := A.check = 0 ∧ A.steps.length ≠ 0 ∧ (first.length : Int) = A.cols ∧ KeptR first
instance (A : AirP) (first : List Int) : Decidable (A.makes first) := by unfold AirP.makes; infer_instance
/-- All rows, or the error. -/
def AirP.make (A : AirP) (first : List Int) : List (List Int) × Int := if A.makes first then (A.rowsUp first A.size.toNat, 0) else ([], 1)
def AirP.shown (A : AirP) (rows : List (List Int)) : List Int := A.bounds.map fun b => (rowN rows b.2.toNat).getD b.1.toNat 0
def AirP.whole (A : AirP) (pub : List Int) (rows : List (List Int)) : Prop :=
  A.check = 0 ∧ (rows.length : Int) = A.size ∧ pub.length = A.bounds.length ∧ KeptR pub ∧ ∀ r ∈ rows, (r.length : Int) = A.cols ∧ KeptR r
instance (A : AirP) (pub : List Int) (rows : List (List Int)) : Decidable (A.whole pub rows) := by unfold AirP.whole; infer_instance
/-- A rule that is broken by a row and the next one. -/
def ruleBad (rows : List (List Int)) (i : Nat) (l : List Opn) : Bool := decide (i + 1 < rows.length) && decide (evB numA (rowF (rowN rows i)) (rowF (rowN rows (i + 1))) l ≠ 0)
/-- A place that isn't as it is public. -/
def placeBad (rows : List (List Int)) (i : Nat) (b : Int × Int) (x : Int) : Bool := decide (b.2 = (i : Int)) && decide ((rowN rows i).getD b.1.toNat 0 ≠ x)
def AirP.badB (A : AirP) (pub : List Int) (rows : List (List Int)) (i k : Nat) : Bool :=
  if k < A.all.1.length then ruleBad rows i (A.all.1.getD k []) else placeBad rows i (A.bound (k - A.all.1.length)) (pub.getD (k - A.all.1.length) 0)
def AirP.many (A : AirP) : Nat := A.all.1.length + A.bounds.length
def AirP.badIn (A : AirP) (pub : List Int) (rows : List (List Int)) (i : Nat) : Option Nat := fstB (A.badB pub rows i) A.many
/-- Where they break a rule: the first row, and there the first rule; and the error. -/
def AirP.told (A : AirP) (pub : List Int) (rows : List (List Int)) : (Int × Int) × Int :=
  if A.whole pub rows then (match fstB (fun i => (A.badIn pub rows i).isSome) rows.length with
    | some i => (((i : Int), (((A.badIn pub rows i).getD 0 : Nat) : Int)), 7)
    | none => ((0, 0), 0)) else ((0, 0), 1)
theorem AirP.badIn_none {A : AirP} {pub : List Int} {rows : List (List Int)} {i : Nat} : (A.badIn pub rows i).isSome = false ↔ ∀ k, k < A.many → A.badB pub rows i k = false := by
  unfold AirP.badIn
  rw [← fstB_none]
  cases fstB (A.badB pub rows i) A.many <;> simp
theorem AirP.told_no {A : AirP} {pub : List Int} {rows : List (List Int)} (h : ¬ A.whole pub rows) : A.told pub rows = ((0, 0), 1) := by unfold AirP.told; rw [if_neg h]
theorem AirP.told_ok {A : AirP} {pub : List Int} {rows : List (List Int)} (h : A.whole pub rows) (hb : ∀ i, i < rows.length → ∀ k, k < A.many → A.badB pub rows i k = false) : A.told pub rows = ((0, 0), 0) := by
  unfold AirP.told
  rw [if_pos h, fstB_none.2 (fun i hi => AirP.badIn_none.2 (hb i hi))]
theorem AirP.told_at {A : AirP} {pub : List Int} {rows : List (List Int)} {i k : Nat} (h : A.whole pub rows) (hi : i < rows.length) (hk : k < A.many) (hb : A.badB pub rows i k = true)
    (h1 : ∀ j, j < i → ∀ m, m < A.many → A.badB pub rows j m = false) (h2 : ∀ m, m < k → A.badB pub rows i m = false) : A.told pub rows = (((i : Int), (k : Int)), 7) := by
  have e : A.badIn pub rows i = some k := fstB_is hk hb h2
  unfold AirP.told
  rw [if_pos h, fstB_is (k := i) hi (by rw [e]; rfl) (fun j hj => AirP.badIn_none.2 (h1 j hj))]
  simp only [e, Option.getD_some]
theorem AirP.told_cases (A : AirP) (pub : List Int) (rows : List (List Int)) : (¬ A.whole pub rows ∧ A.told pub rows = ((0, 0), 1)) ∨ (A.whole pub rows ∧ A.told pub rows = ((0, 0), 0) ∧ ∀ i, i < rows.length → ∀ k, k < A.many → A.badB pub rows i k = false) ∨
    (A.whole pub rows ∧ ∃ i k, i < rows.length ∧ k < A.many ∧ A.badB pub rows i k = true ∧ (∀ j, j < i → ∀ m, m < A.many → A.badB pub rows j m = false) ∧ (∀ m, m < k → A.badB pub rows i m = false) ∧ A.told pub rows = (((i : Int), (k : Int)), 7)) := by
  by_cases h : A.whole pub rows
  · refine .inr ?_
    cases c : fstB (fun i => (A.badIn pub rows i).isSome) rows.length with
    | none =>
      have hb : ∀ i, i < rows.length → ∀ k, k < A.many → A.badB pub rows i k = false := fun i hi => AirP.badIn_none.1 (fstB_none.1 c i hi)
      exact .inl ⟨h, AirP.told_ok h hb, hb⟩
    | some i =>
      obtain ⟨h1, h2, h3⟩ := fstB_some c
      obtain ⟨k, hk⟩ := Option.isSome_iff_exists.1 h2
      obtain ⟨g1, g2, g3⟩ := fstB_some hk
      have hb := fun j hj => AirP.badIn_none.1 (h3 j hj)
      exact .inr ⟨h, i, k, h1, g1, g2, hb, g3, AirP.told_at h h1 g1 g2 hb g3⟩
  · exact .inl ⟨h, AirP.told_no h⟩
theorem AirP.bad_rule {A : AirP} {pub : List Int} {rows : List (List Int)} {i k : Nat} (h : k < A.all.1.length) : A.badB pub rows i k = ruleBad rows i (A.all.1.getD k []) := by unfold AirP.badB; rw [if_pos h]
theorem AirP.bad_place {A : AirP} {pub : List Int} {rows : List (List Int)} {i k : Nat} : A.badB pub rows i (A.all.1.length + k) = placeBad rows i (A.bound k) (pub.getD k 0) := by
  unfold AirP.badB
  rw [if_neg (by omega), Nat.add_sub_cancel_left]
/-! ### Rows that are made -/
theorem enc_kept (x : F) : 0 ≤ enc x ∧ enc x < 18446744069414584321 := ⟨enc_nonneg x, enc_lt x⟩
theorem AirP.nextRow_len (A : AirP) (row : List Int) : (A.nextRow row).length = A.cols.toNat := by simp [AirP.nextRow]
theorem AirP.nextRow_at (A : AirP) (row : List Int) {i : Nat} (h : (i : Int) < A.cols) : (A.nextRow row).getD i 0 = enc (A.nextV row i) := by
  have : i < A.cols.toNat := by omega
  simp [AirP.nextRow, List.getD, this]
theorem AirP.nextRow_kept (A : AirP) (row : List Int) : ∀ x ∈ A.nextRow row, 0 ≤ x ∧ x < 18446744069414584321 := by
  intro x hx
  obtain ⟨i, _, rfl⟩ := List.mem_map.1 hx
  exact enc_kept _
theorem AirP.rowsUp_len (A : AirP) (first : List Int) (n : Nat) : (A.rowsUp first n).length = n := by simp [AirP.rowsUp]
theorem AirP.rowsUp_at (A : AirP) (first : List Int) {n i : Nat} (h : i < n) : rowN (A.rowsUp first n) i = A.rowAt first i := by simp [rowN, AirP.rowsUp, List.getD, h]
theorem AirP.rowsUp_snoc (A : AirP) (first : List Int) (n : Nat) : A.rowsUp first (n + 1) = A.rowsUp first n ++ [A.rowAt first n] := by simp [AirP.rowsUp, List.range_succ]
theorem AirP.makes_len {A : AirP} (h : A.check = 0) : 1 ≤ A.cols ∧ A.cols ≤ 8 ∧ (A.cols.toNat : Int) = A.cols := by
  obtain ⟨_, h2, _⟩ := AirP.check_ok h
  exact ⟨h2.1, h2.2.1, by have := h2.1; omega⟩
theorem AirP.rowAt_len {A : AirP} {first : List Int} (h : A.makes first) (k : Nat) : ((A.rowAt first k).length : Int) = A.cols ∧ KeptR (A.rowAt first k) := by
  cases k with
  | zero => exact ⟨h.2.2.1, h.2.2.2⟩
  | succ k => exact ⟨by rw [AirP.rowAt, AirP.nextRow_len]; exact (AirP.makes_len h.1).2.2, fun x hx => (AirP.nextRow_kept A _ x hx).2⟩
theorem AirP.rowAt_U {A : AirP} {first : List Int} (h : ∀ x ∈ first, U x) (k : Nat) : ∀ x ∈ A.rowAt first k, U x := by
  cases k with
  | zero => exact h
  | succ k => exact fun x hx => by have := AirP.nextRow_kept A _ x hx; unfold U; omega
theorem AirP.make_ok {A : AirP} {first : List Int} (h : A.makes first) : A.make first = (A.rowsUp first A.size.toNat, 0) := by unfold AirP.make; rw [if_pos h]
theorem AirP.make_no {A : AirP} {first : List Int} (h : ¬ A.makes first) : A.make first = ([], 1) := by unfold AirP.make; rw [if_neg h]
/-- No operation looks at the next row: it may be any. -/
theorem noNext {cols : Int} {cur next next' : Nat → F} : ∀ {l : List Opn} {st : List Nat} {vs : List F}, Ran cols false l st → evL numA cur next l vs = evL numA cur next' l vs
  | [], st, vs, _ => rfl
  | o :: l, st, vs, h => by
    obtain ⟨h1, h2⟩ := h
    obtain ⟨_, h3, _⟩ := pushS_ok h1
    have e : ev1 numA cur next o vs = ev1 numA cur next' o vs := by
      have : o.1 ≠ 2 := fun c => h3 ⟨c, rfl⟩
      unfold ev1
      rw [if_neg this, if_neg this]
    rw [evL, evL, e]
    exact noNext h2
theorem evL_one {cols : Int} {nx : Bool} {cur next : Nat → F} {l : List Opn} {d : Nat} (h : checkB l cols nx = (d, 0)) (hp : ∀ o ∈ l, 0 ≤ o.2) (r : List F) : evL numA cur next l r = evB numA cur next l :: r := by
  obtain ⟨_, h1, _⟩ := checkB_ok h
  have := evL_under numA cur next (cols := cols) (nx := nx) r (l := l) (st := []) (wo := 0) (vs := []) h1 rfl
  rw [List.nil_append, evB_one numA cur next hp h] at this
  exact this
/-- What a step's rule leaves. -/
theorem step_ev {cols : Int} {cur next : Nat → F} {l : List Opn} {d i : Nat} (h : checkB l cols false = (d, 0)) (hp : ∀ o ∈ l, 0 ≤ o.2) : evB numA cur next (stepO i l) = next i - evB numA cur cur l := by
  have e : evB numA cur next l = evB numA cur cur l := by unfold evB; rw [noNext (next' := cur) (checkB_ran h)]
  unfold evB stepO
  rw [evL, evL_app, ev1_next numA cur next (o := (2, (i : Int))) rfl, evL_one h hp, evL, evL, e]
  rw [ev1_two numA cur next (o := (5, 0)) (by decide) (by decide)]
  rfl
theorem parse_pos {s : ByteArray} {l : List Opn} (h : parseB s = (l, 0)) : ∀ o ∈ l, 0 ≤ o.2 := fun o ho => by
  obtain ⟨_, h1, _⟩ := parse_back h
  exact (h1 o ho).2.1
theorem AirP.step_ok {A : AirP} (h : A.check = 0) {k : Nat} (hk : k < A.steps.length) : ∃ d, parseB (A.steps.getD k noText) = (A.stepL k, 0) ∧ checkB (A.stepL k) A.cols false = (d, 0) ∧ A.all.1.getD k [] = stepO k (A.stepL k) := by
  obtain ⟨_, _, h3, h4, _⟩ := AirP.check_ok h
  obtain ⟨l, d, p1, p2, p3, _⟩ := AirP.rule_ok (A := A) (by rw [h3]; exact h4) (i := k) (by unfold AirP.count; omega)
  have e1 : A.text k = A.steps.getD k noText := if_pos hk
  have e2 : A.form k l = stepO k l := if_pos hk
  have e3 : A.stepL k = l := by unfold AirP.stepL; rw [← e1, p1]
  rw [e1] at p1
  rw [show decide (¬ k < A.steps.length) = false from decide_eq_false (fun c => c hk)] at p2
  rw [e3]
  exact ⟨d, p1, p2, by rw [p3, e2]⟩
theorem fsub_self (x : F) : x - x = 0 := by grind
/-- Rows that are made keep their steps. -/
theorem AirP.step_kept {A : AirP} {first : List Int} (h : A.makes first) {n i k : Nat} (hk : k < A.steps.length) : ruleBad (A.rowsUp first n) i (A.all.1.getD k []) = false := by
  obtain ⟨d, p1, p2, p3⟩ := AirP.step_ok h.1 hk
  unfold ruleBad
  rw [p3]
  by_cases c : i + 1 < n
  · rw [AirP.rowsUp_at A first (i := i) (by omega), AirP.rowsUp_at A first (i := i + 1) c, step_ev p2 (parse_pos p1)]
    have hc : (k : Int) < A.cols := by
      obtain ⟨_, g, _⟩ := AirP.check_ok h.1
      have := g.2.2.1
      omega
    have e : rowF (A.rowAt first (i + 1)) k = A.nextV (A.rowAt first i) k := by
      unfold rowF
      rw [AirP.rowAt, AirP.nextRow_at A _ hc, toF_enc]
    rw [e]
    unfold AirP.nextV
    rw [fsub_self]
    simp
  · rw [AirP.rowsUp_len]
    simp [c]
theorem AirP.bound_in {A : AirP} (h : A.check = 0) {k : Nat} (hk : k < A.bounds.length) : 0 ≤ (A.bound k).1 ∧ (A.bound k).1 < A.cols ∧ 0 ≤ (A.bound k).2 ∧ (A.bound k).2 < A.size := by
  obtain ⟨_, _, _, _, h5⟩ := AirP.check_ok h
  exact (h5 k hk).1
theorem AirP.shown_at {A : AirP} {rows : List (List Int)} {k : Nat} (hk : k < A.bounds.length) : (A.shown rows).getD k 0 = (rowN rows (A.bound k).2.toNat).getD (A.bound k).1.toNat 0 := by
  simp [AirP.shown, AirP.bound, List.getD, hk]
theorem AirP.shown_len (A : AirP) (rows : List (List Int)) : (A.shown rows).length = A.bounds.length := by simp [AirP.shown]
/-- What is public of rows is so. -/
theorem AirP.place_kept {A : AirP} {rows : List (List Int)} {i k : Nat} (hk : k < A.bounds.length) : placeBad rows i (A.bound k) ((A.shown rows).getD k 0) = false := by
  unfold placeBad
  rw [AirP.shown_at hk]
  by_cases c : (A.bound k).2 = (i : Int)
  · rw [c]
    simp
  · simp [c]
theorem AirP.make_whole {A : AirP} {first : List Int} (h : A.makes first) : A.whole (A.shown (A.rowsUp first A.size.toNat)) (A.rowsUp first A.size.toNat) := by
  have hs := AirP.size_bd (AirP.check_ok h.1).1
  have hr : ∀ r ∈ A.rowsUp first A.size.toNat, (r.length : Int) = A.cols ∧ KeptR r := fun r hr => by
    obtain ⟨k, _, rfl⟩ := List.mem_map.1 hr
    exact AirP.rowAt_len h k
  refine ⟨h.1, by rw [AirP.rowsUp_len]; omega, AirP.shown_len _ _, fun x hx => ?_, hr⟩
  obtain ⟨b, hb, rfl⟩ := List.mem_map.1 hx
  obtain ⟨k, hk, rfl⟩ := List.mem_iff_getElem.1 hb
  have hb := AirP.bound_in h.1 hk
  have e : A.bound k = A.bounds[k] := by simp [AirP.bound, List.getD, hk]
  rw [e] at hb
  have hlt : A.bounds[k].2.toNat < A.size.toNat := by omega
  rw [AirP.rowsUp_at A first hlt]
  obtain ⟨h1, h2⟩ := AirP.rowAt_len h A.bounds[k].2.toNat
  have hc : A.bounds[k].1.toNat < (A.rowAt first A.bounds[k].2.toNat).length := by omega
  refine h2 _ ?_
  simp [List.getD, hc]
end Go.Proofs.Ytjcgakmhpblanaa
