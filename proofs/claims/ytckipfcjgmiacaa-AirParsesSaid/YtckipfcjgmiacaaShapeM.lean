/-
  Which operations may be: a stack of degrees: plain; what follows.
-/
import Derived.Test.YtckipfcjgmiacaaCodeM
namespace Go.Proofs.Ytckipfcjgmiacaa
open Go Go.RowKit
set_option linter.unusedVariables false

/-- One operation, on a stack (the top ahead): the error, the stack behind it. -/
def pushS (cols : Int) (nx : Bool) (o : Opn) (st : List Nat) : Int × List Nat :=
  if rightO o = false ∨ (o.1 = 2 ∧ nx = false) then (3, st)
  else if o.1 = 1 ∨ o.1 = 2 then (if cols ≤ o.2 then (3, st) else (0, 1 :: st))
  else if o.1 = 3 then (0, 0 :: st)
  else match st with
    | b :: a :: r => (0, (if o.1 = 6 then a + b else max a b) :: r)
    | _ => (4, st)
/-- With the stack's bound. -/
def stepS (cols : Int) (nx : Bool) (o : Opn) (st : List Nat) : Int × List Nat :=
  if (pushS cols nx o st).1 ≠ 0 then pushS cols nx o st else if 16 < (pushS cols nx o st).2.length then (4, (pushS cols nx o st).2) else pushS cols nx o st
def topS (st : List Nat) : Nat := st.headD 0
def runS (cols : Int) (nx : Bool) : List Opn → List Nat → Nat → Int × List Nat × Nat
  | [], st, wo => (0, st, wo)
  | o :: l, st, wo => if (stepS cols nx o st).1 ≠ 0 then ((stepS cols nx o st).1, st, wo) else runS cols nx l (stepS cols nx o st).2 (max wo (topS (stepS cols nx o st).2))
def endS (st : List Nat) (wo : Nat) : Nat × Int := if st.length ≠ 1 then (0, 4) else if 4 < wo then (0, 5) else (topS st, 0)
/-- What is told, from a stack on. -/
def tellS (cols : Int) (nx : Bool) (l : List Opn) (st : List Nat) (wo : Nat) : Nat × Int :=
  if (runS cols nx l st wo).1 ≠ 0 then (0, (runS cols nx l st wo).1) else endS (runS cols nx l st wo).2.1 (runS cols nx l st wo).2.2
def checkB (l : List Opn) (cols : Int) (nx : Bool) : Nat × Int := if 256 < l.length then (0, 6) else tellS cols nx l [] 0
theorem tellS_nil (cols : Int) (nx : Bool) (st : List Nat) (wo : Nat) : tellS cols nx [] st wo = endS st wo := by simp [tellS, runS]
theorem tellS_err {cols : Int} {nx : Bool} {o : Opn} {l : List Opn} {st : List Nat} {wo : Nat} (h : (stepS cols nx o st).1 ≠ 0) : tellS cols nx (o :: l) st wo = (0, (stepS cols nx o st).1) := by
  have e : runS cols nx (o :: l) st wo = ((stepS cols nx o st).1, st, wo) := by rw [runS, if_pos h]
  unfold tellS
  rw [e, if_pos h]
theorem tellS_step {cols : Int} {nx : Bool} {o : Opn} {l : List Opn} {st : List Nat} {wo : Nat} (h : (stepS cols nx o st).1 = 0) : tellS cols nx (o :: l) st wo = tellS cols nx l (stepS cols nx o st).2 (max wo (topS (stepS cols nx o st).2)) := by
  have e : runS cols nx (o :: l) st wo = runS cols nx l (stepS cols nx o st).2 (max wo (topS (stepS cols nx o st).2)) := by rw [runS, if_neg (by simpa using h)]
  unfold tellS
  rw [e]
/-! ### What a step does -/
theorem stepS_ok {cols : Int} {nx : Bool} {o : Opn} {st : List Nat} (h : (stepS cols nx o st).1 = 0) : (pushS cols nx o st).1 = 0 ∧ (pushS cols nx o st).2.length ≤ 16 ∧ stepS cols nx o st = pushS cols nx o st := by
  unfold stepS at h ⊢
  by_cases c : (pushS cols nx o st).1 ≠ 0
  · rw [if_pos c] at h; exact absurd h c
  · rw [if_neg c] at h ⊢
    by_cases d : 16 < (pushS cols nx o st).2.length
    · rw [if_pos d] at h; cases h
    · rw [if_neg d]; exact ⟨by simpa using c, by omega, rfl⟩
/-- How a step that is let goes: a column, a constant, an operation on two. -/
theorem pushS_ok {cols : Int} {nx : Bool} {o : Opn} {st : List Nat} (h : (pushS cols nx o st).1 = 0) :
    rightO o = true ∧ ¬ (o.1 = 2 ∧ nx = false) ∧ (((o.1 = 1 ∨ o.1 = 2) ∧ o.2 < cols ∧ (pushS cols nx o st).2 = 1 :: st) ∨ (o.1 = 3 ∧ (pushS cols nx o st).2 = 0 :: st) ∨
      ∃ a b r, ¬ (o.1 = 1 ∨ o.1 = 2) ∧ o.1 ≠ 3 ∧ st = b :: a :: r ∧ (pushS cols nx o st).2 = (if o.1 = 6 then a + b else max a b) :: r) := by
  unfold pushS at h ⊢
  by_cases c : rightO o = false ∨ (o.1 = 2 ∧ nx = false)
  · rw [if_pos c] at h; cases h
  · rw [if_neg c] at h ⊢
    simp only [not_or, Bool.not_eq_false] at c
    refine ⟨c.1, c.2, ?_⟩
    by_cases d : o.1 = 1 ∨ o.1 = 2
    · rw [if_pos d] at h ⊢
      by_cases e : cols ≤ o.2
      · rw [if_pos e] at h; cases h
      · rw [if_neg e]; exact .inl ⟨d, by omega, rfl⟩
    · rw [if_neg d] at h ⊢
      by_cases e : o.1 = 3
      · rw [if_pos e]; exact .inr (.inl ⟨e, rfl⟩)
      · rw [if_neg e] at h ⊢
        match st, h with
        | b :: a :: r, _ => exact .inr (.inr ⟨a, b, r, d, e, rfl, rfl⟩)
        | [_], h => cases h
        | [], h => cases h
/-! ### One operation, case by case -/
theorem push_bad {cols : Int} {nx : Bool} {o : Opn} {st : List Nat} (h : rightO o = false ∨ (o.1 = 2 ∧ nx = false)) : pushS cols nx o st = (3, st) := by unfold pushS; rw [if_pos h]
theorem push_far {cols : Int} {nx : Bool} {o : Opn} {st : List Nat} (h1 : rightO o = true) (h2 : ¬ (o.1 = 2 ∧ nx = false)) (d : o.1 = 1 ∨ o.1 = 2) (h : cols ≤ o.2) : pushS cols nx o st = (3, st) := by
  unfold pushS
  rw [if_neg (not_or.2 ⟨by simp [h1], h2⟩), if_pos d, if_pos h]
theorem push_col {cols : Int} {nx : Bool} {o : Opn} {st : List Nat} (h1 : rightO o = true) (h2 : ¬ (o.1 = 2 ∧ nx = false)) (d : o.1 = 1 ∨ o.1 = 2) (h : o.2 < cols) : pushS cols nx o st = (0, 1 :: st) := by
  unfold pushS
  rw [if_neg (not_or.2 ⟨by simp [h1], h2⟩), if_pos d, if_neg (by omega)]
theorem push_const {cols : Int} {nx : Bool} {o : Opn} {st : List Nat} (h1 : rightO o = true) (e : o.1 = 3) : pushS cols nx o st = (0, 0 :: st) := by
  unfold pushS
  rw [if_neg (not_or.2 ⟨by simp [h1], by omega⟩), if_neg (by omega), if_pos e]
theorem push_two {cols : Int} {nx : Bool} {o : Opn} {a b : Nat} {r : List Nat} (h1 : rightO o = true) (d : ¬ (o.1 = 1 ∨ o.1 = 2)) (e : o.1 ≠ 3) : pushS cols nx o (b :: a :: r) = (0, (if o.1 = 6 then a + b else max a b) :: r) := by
  unfold pushS
  rw [if_neg (not_or.2 ⟨by simp [h1], by omega⟩), if_neg d, if_neg e]
theorem push_few {cols : Int} {nx : Bool} {o : Opn} {st : List Nat} (h1 : rightO o = true) (d : ¬ (o.1 = 1 ∨ o.1 = 2)) (e : o.1 ≠ 3) (h : st.length < 2) : pushS cols nx o st = (4, st) := by
  unfold pushS
  rw [if_neg (not_or.2 ⟨by simp [h1], by omega⟩), if_neg d, if_neg e]
  match st, h with
  | [], _ => rfl
  | [_], _ => rfl
theorem tell_err {cols : Int} {nx : Bool} {o : Opn} {l : List Opn} {st st' : List Nat} {wo : Nat} {e : Int} (h : pushS cols nx o st = (e, st')) (he : e ≠ 0) : tellS cols nx (o :: l) st wo = (0, e) := by
  have hs : stepS cols nx o st = (e, st') := by unfold stepS; rw [h, if_pos he]
  have := tellS_err (l := l) (wo := wo) (show (stepS cols nx o st).1 ≠ 0 by rw [hs]; exact he)
  rw [this, hs]
theorem tell_high {cols : Int} {nx : Bool} {o : Opn} {l : List Opn} {st st' : List Nat} {wo : Nat} (h : pushS cols nx o st = (0, st')) (hd : 16 < st'.length) : tellS cols nx (o :: l) st wo = (0, 4) := by
  have hs : stepS cols nx o st = (4, st') := by unfold stepS; rw [h, if_neg (by simp), if_pos hd]
  have := tellS_err (l := l) (wo := wo) (show (stepS cols nx o st).1 ≠ 0 by rw [hs]; simp)
  rw [this, hs]
theorem tell_go {cols : Int} {nx : Bool} {o : Opn} {l : List Opn} {st st' : List Nat} {wo : Nat} (h : pushS cols nx o st = (0, st')) (hd : ¬ 16 < st'.length) : tellS cols nx (o :: l) st wo = tellS cols nx l st' (max wo (topS st')) := by
  have hs : stepS cols nx o st = (0, st') := by unfold stepS; rw [h, if_neg (by simp), if_neg hd]
  have := tellS_step (l := l) (wo := wo) (show (stepS cols nx o st).1 = 0 by rw [hs])
  rw [this, hs]
/-- With more columns, and the next row, too, it is the same. -/
theorem pushS_more {cols cols' : Int} {nx : Bool} {o : Opn} {st : List Nat} (hc : cols ≤ cols') (h : (pushS cols nx o st).1 = 0) : pushS cols' true o st = pushS cols nx o st := by
  obtain ⟨h1, h2, ⟨d, h4, _⟩ | ⟨e, _⟩ | ⟨a, b, r, d, e, rfl, _⟩⟩ := pushS_ok h
  · rw [push_col h1 (by simp) d (by omega), push_col h1 h2 d h4]
  · rw [push_const h1 e, push_const h1 e]
  · rw [push_two h1 d e, push_two h1 d e]
theorem stepS_more {cols cols' : Int} {nx : Bool} {o : Opn} {st : List Nat} (hc : cols ≤ cols') (h : (stepS cols nx o st).1 = 0) : stepS cols' true o st = stepS cols nx o st := by
  obtain ⟨h1, h2, h3⟩ := stepS_ok h
  unfold stepS
  rw [pushS_more hc h1]
theorem runS_more {cols cols' : Int} {nx : Bool} (hc : cols ≤ cols') : ∀ {l : List Opn} {st : List Nat} {wo : Nat}, (runS cols nx l st wo).1 = 0 → runS cols' true l st wo = runS cols nx l st wo
  | [], _, _, _ => rfl
  | o :: l, st, wo, h => by
    rw [runS] at h
    by_cases c : (stepS cols nx o st).1 ≠ 0
    · rw [if_pos c] at h; exact absurd h c
    · rw [if_neg c] at h
      have c0 : (stepS cols nx o st).1 = 0 := by simpa using c
      rw [runS, runS, stepS_more hc c0, if_neg c, if_neg c]
      exact runS_more hc h
/-- Bounds: what is put, and how many there are. -/
theorem pushS_sum {cols : Int} {nx : Bool} {o : Opn} {st : List Nat} (h : (pushS cols nx o st).1 = 0) : (pushS cols nx o st).2.sum ≤ st.sum + 1 ∧ 1 ≤ (pushS cols nx o st).2.length ∧ ((pushS cols nx o st).2.length + 1 = st.length ∨ (pushS cols nx o st).2.length = st.length + 1) := by
  obtain ⟨_, _, ⟨_, _, e⟩ | ⟨_, e⟩ | ⟨a, b, r, _, _, rfl, e⟩⟩ := pushS_ok h
  · rw [e]; simp; omega
  · rw [e]; simp
  · rw [e]
    split <;> simp <;> omega
theorem runS_ok {cols : Int} {nx : Bool} : ∀ {l : List Opn} {st : List Nat} {wo : Nat}, (runS cols nx l st wo).1 = 0 →
    ∃ k, (runS cols nx l st wo).2.1.length + 2 * k = st.length + l.length ∧ wo ≤ (runS cols nx l st wo).2.2 ∧ (l ≠ [] → topS (runS cols nx l st wo).2.1 ≤ (runS cols nx l st wo).2.2)
  | [], st, wo, _ => ⟨0, by simp [runS], Nat.le_refl _, fun h => absurd rfl h⟩
  | o :: l, st, wo, h => by
    rw [runS] at h
    by_cases c : (stepS cols nx o st).1 ≠ 0
    · rw [if_pos c] at h; exact absurd h c
    · rw [if_neg c] at h
      have c0 : (stepS cols nx o st).1 = 0 := by simpa using c
      obtain ⟨h1, h2, h3⟩ := stepS_ok c0
      obtain ⟨k, e1, e2, e3⟩ := runS_ok h
      obtain ⟨_, _, hl⟩ := pushS_sum h1
      rw [runS, if_neg c]
      rw [h3] at e1 e2 e3 ⊢
      refine ⟨if (pushS cols nx o st).2.length + 1 = st.length then k + 1 else k, ?_, by omega, fun _ => ?_⟩
      · split
        · simp only [List.length_cons]; omega
        · simp only [List.length_cons]; omega
      · by_cases hl : l = []
        · subst hl; simp only [runS]; omega
        · exact e3 hl
theorem checkB_ok {l : List Opn} {cols : Int} {nx : Bool} {d : Nat} (h : checkB l cols nx = (d, 0)) : l.length ≤ 256 ∧ (runS cols nx l [] 0).1 = 0 ∧ (runS cols nx l [] 0).2.1 = [d] ∧ (runS cols nx l [] 0).2.2 ≤ 4 ∧ d ≤ 4 ∧ l.length % 2 = 1 := by
  unfold checkB at h
  by_cases c : 256 < l.length
  · rw [if_pos c] at h; cases h
  · rw [if_neg c] at h
    unfold tellS at h
    by_cases e : (runS cols nx l [] 0).1 ≠ 0
    · rw [if_pos e] at h
      exact absurd (Prod.mk.inj h).2 e
    · rw [if_neg e] at h
      have e0 : (runS cols nx l [] 0).1 = 0 := by simpa using e
      obtain ⟨k, h1, h2, h3⟩ := runS_ok e0
      unfold endS at h
      by_cases f : (runS cols nx l [] 0).2.1.length ≠ 1
      · rw [if_pos f] at h; cases h
      · rw [if_neg f] at h
        by_cases g : 4 < (runS cols nx l [] 0).2.2
        · rw [if_pos g] at h; cases h
        · rw [if_neg g] at h
          obtain ⟨x, hx⟩ : ∃ x, (runS cols nx l [] 0).2.1 = [x] := List.length_eq_one_iff.1 (by simpa using f)
          have ht : topS (runS cols nx l [] 0).2.1 = d := (Prod.mk.inj h).1
          rw [hx] at ht h1 h3
          have ht' : x = d := ht
          subst ht'
          have hl : l ≠ [] := by
            rintro rfl
            simp at h1
          have := h3 hl
          simp at h1
          refine ⟨by omega, e0, hx, by omega, ?_, by omega⟩
          show x ≤ 4
          have : topS [x] = x := rfl
          omega
theorem checkB_zero {l : List Opn} {cols : Int} {nx : Bool} {d : Nat} {e : Int} (h : checkB l cols nx = (d, e)) (he : e ≠ 0) : d = 0 := by
  unfold checkB at h
  split at h
  · exact (Prod.mk.inj h).1.symm
  · unfold tellS at h
    split at h
    · exact (Prod.mk.inj h).1.symm
    · unfold endS at h
      split at h
      · exact (Prod.mk.inj h).1.symm
      · split at h
        · exact (Prod.mk.inj h).1.symm
        · exact absurd (Prod.mk.inj h).2.symm he
theorem checkB_more {l : List Opn} {cols cols' : Int} {nx : Bool} {d : Nat} (hc : cols ≤ cols') (h : checkB l cols nx = (d, 0)) : checkB l cols' true = (d, 0) := by
  obtain ⟨h1, h2, h3, h4, _⟩ := checkB_ok h
  unfold checkB tellS
  rw [if_neg (by omega), runS_more hc h2, if_neg (by simpa using h2), h3]
  unfold endS
  rw [if_neg (by simp), if_neg (by omega)]
  rfl
/-! ### Two, one behind the other -/
theorem runS_app {cols : Int} {nx : Bool} : ∀ {l m : List Opn} {st : List Nat} {wo : Nat}, (runS cols nx l st wo).1 = 0 → runS cols nx (l ++ m) st wo = runS cols nx m (runS cols nx l st wo).2.1 (runS cols nx l st wo).2.2
  | [], m, st, wo, _ => rfl
  | o :: l, m, st, wo, h => by
    rw [runS] at h
    by_cases c : (stepS cols nx o st).1 ≠ 0
    · rw [if_pos c] at h; exact absurd h c
    · rw [if_neg c] at h
      rw [List.cons_append, runS, runS, if_neg c, if_neg c]
      exact runS_app h
theorem pushS_under {cols : Int} {nx : Bool} {o : Opn} {st : List Nat} (r : List Nat) (h : (pushS cols nx o st).1 = 0) : pushS cols nx o (st ++ r) = (0, (pushS cols nx o st).2 ++ r) := by
  obtain ⟨h1, h2, ⟨d, h4, _⟩ | ⟨e, _⟩ | ⟨a, b, r', d, e, rfl, _⟩⟩ := pushS_ok h
  · rw [push_col h1 h2 d h4, push_col h1 h2 d h4]; rfl
  · rw [push_const h1 e, push_const h1 e]; rfl
  · rw [push_two h1 d e]
    exact push_two (r := r' ++ r) h1 d e
/-- On another stack: it is too high, or the same on top. -/
theorem runS_under {cols : Int} {nx : Bool} (r : List Nat) : ∀ {l : List Opn} {st : List Nat} {wo : Nat} (wo' : Nat), (runS cols nx l st wo).1 = 0 →
    (runS cols nx l (st ++ r) (max wo' wo)).1 = 4 ∨ runS cols nx l (st ++ r) (max wo' wo) = (0, (runS cols nx l st wo).2.1 ++ r, max wo' (runS cols nx l st wo).2.2)
  | [], st, wo, wo', _ => .inr rfl
  | o :: l, st, wo, wo', h => by
    rw [runS] at h
    by_cases c : (stepS cols nx o st).1 ≠ 0
    · rw [if_pos c] at h; exact absurd h c
    · rw [if_neg c] at h
      have c0 : (stepS cols nx o st).1 = 0 := by simpa using c
      obtain ⟨h1, h2, h3⟩ := stepS_ok c0
      have hu := pushS_under r h1
      obtain ⟨_, hp, _⟩ := pushS_sum h1
      rw [h3] at h
      by_cases hd : 16 < ((pushS cols nx o st).2 ++ r).length
      · refine .inl ?_
        have hs : stepS cols nx o (st ++ r) = (4, (pushS cols nx o st).2 ++ r) := by
          unfold stepS
          rw [hu, if_neg (by simp), if_pos hd]
        rw [runS, hs, if_pos (by simp)]
      · have hs : stepS cols nx o (st ++ r) = (0, (pushS cols nx o st).2 ++ r) := by
          unfold stepS
          rw [hu, if_neg (by simp), if_neg hd]
        have ht : topS ((pushS cols nx o st).2 ++ r) = topS (pushS cols nx o st).2 := by
          cases hq : (pushS cols nx o st).2 with
          | nil => rw [hq] at hp; simp at hp
          | cons x y => rfl
        have e1 : runS cols nx (o :: l) (st ++ r) (max wo' wo) = runS cols nx l ((pushS cols nx o st).2 ++ r) (max wo' (max wo (topS (pushS cols nx o st).2))) := by
          rw [runS, hs, if_neg (by simp), ht, Nat.max_assoc]
        have e2 : runS cols nx (o :: l) st wo = runS cols nx l (pushS cols nx o st).2 (max wo (topS (pushS cols nx o st).2)) := by rw [runS, if_neg c, h3]
        rw [e1, e2]
        exact runS_under r wo' h
theorem runS_stop {cols : Int} {nx : Bool} {e : Int} : ∀ {l m : List Opn} {st : List Nat} {wo : Nat}, (runS cols nx l st wo).1 = e → e ≠ 0 → (runS cols nx (l ++ m) st wo).1 = e
  | [], m, st, wo, h, he => absurd h.symm he
  | o :: l, m, st, wo, h, he => by
    rw [runS] at h
    by_cases c : (stepS cols nx o st).1 ≠ 0
    · rw [if_pos c] at h
      rw [List.cons_append, runS, if_pos c]
      exact h
    · rw [if_neg c] at h
      rw [List.cons_append, runS, if_neg c]
      exact runS_stop h he
/-- Two that may be, one behind the other, and an operation on both. -/
theorem checkB_joins {l m : List Opn} {cols : Int} {nx : Bool} {a b : Nat} {k : Int} (hl : l.length ≤ 100) (hm : m.length ≤ 100) (h1 : checkB l cols nx = (a, 0)) (h2 : checkB m cols nx = (b, 0)) (hk : k = 4 ∨ k = 5 ∨ k = 6) :
    (checkB (l ++ m ++ [(k, 0)]) cols nx).2 = 4 ∨ checkB (l ++ m ++ [(k, 0)]) cols nx = if 4 < (if k = 6 then a + b else max a b) then (0, 5) else (if k = 6 then a + b else max a b, 0) := by
  obtain ⟨_, p1, p2, p3, _⟩ := checkB_ok h1
  obtain ⟨_, q1, q2, q3, _⟩ := checkB_ok h2
  have hlen : ¬ 256 < (l ++ m ++ [(k, 0)]).length := by simp; omega
  have e0 : runS cols nx (l ++ m ++ [(k, 0)]) [] 0 = runS cols nx (m ++ [(k, 0)]) [a] (runS cols nx l [] 0).2.2 := by rw [List.append_assoc, runS_app p1, p2]
  have hr : rightO (k, 0) = true := by rcases hk with rfl | rfl | rfl <;> rfl
  have hps : pushS cols nx (k, 0) [b, a] = (0, [if k = 6 then a + b else max a b]) := by
    unfold pushS
    rw [if_neg (by simp [hr]; omega), if_neg (by show ¬ (k = 1 ∨ k = 2); omega), if_neg (by show ¬ k = 3; omega)]
  have hst : stepS cols nx (k, 0) [b, a] = (0, [if k = 6 then a + b else max a b]) := by
    unfold stepS
    rw [hps, if_neg (by simp), if_neg (by simp)]
  rcases runS_under [a] (runS cols nx l [] 0).2.2 q1 with hf | hf
  · refine .inl ?_
    have h4 : (runS cols nx (m ++ [(k, 0)]) [a] (runS cols nx l [] 0).2.2).1 = 4 := by
      simp only [List.nil_append, Nat.max_zero] at hf
      exact runS_stop hf (by decide)
    unfold checkB
    rw [if_neg hlen]
    unfold tellS
    rw [e0, if_pos (by rw [h4]; decide), h4]
  · refine .inr ?_
    simp only [List.nil_append, Nat.max_zero] at hf
    have h0 : (runS cols nx m [a] (runS cols nx l [] 0).2.2).1 = 0 := by rw [hf]
    have e1 : runS cols nx (m ++ [(k, 0)]) [a] (runS cols nx l [] 0).2.2 = (0, [if k = 6 then a + b else max a b], max (max (runS cols nx l [] 0).2.2 (runS cols nx m [] 0).2.2) (if k = 6 then a + b else max a b)) := by
      rw [runS_app h0, hf, q2]
      show runS cols nx [(k, 0)] [b, a] _ = _
      rw [runS, hst, if_neg (by simp)]
      rfl
    unfold checkB
    rw [if_neg hlen]
    unfold tellS
    rw [e0, e1, if_neg (by simp)]
    unfold endS
    rw [if_neg (by simp)]
    by_cases hw : 4 < (if k = 6 then a + b else max a b)
    · rw [if_pos hw, if_pos (by show 4 < max _ _; omega)]
    · rw [if_neg hw, if_neg (by show ¬ 4 < max _ _; omega)]
      rfl
end Go.Proofs.Ytckipfcjgmiacaa
