/-
  What can be run, however high the stack gets: plain (a step's rule has two operations more than what layer 16 checks).
-/
import Derived.Test.YtlgfnlkblehlbaaEvalM
namespace Go.Proofs.Ytlgfnlkblehlbaa
open Go Go.RowKit
set_option linter.unusedVariables false

def Ran (cols : Int) (nx : Bool) : List Opn → List Nat → Prop
  | [], st => st.length = 1
  | o :: l, st => (pushS cols nx o st).1 = 0 ∧ Ran cols nx l (pushS cols nx o st).2
def EvOk (l : List Opn) (cols : Int) : Prop := Ran cols true l [] ∧ l.length ≤ 300
theorem ran_step {cols : Int} {nx : Bool} {o : Opn} {l : List Opn} {st : List Nat} (h : Ran cols nx (o :: l) st) : ∃ st', pushS cols nx o st = (0, st') ∧ st'.length ≤ st.length + 1 ∧ Ran cols nx l st' ∧ rightO o = true := by
  obtain ⟨h1, h2⟩ := h
  have hl := (pushS_sum h1).2.2
  exact ⟨(pushS cols nx o st).2, Prod.ext h1 rfl, by omega, h2, (pushS_ok h1).1⟩
theorem ran_run {cols : Int} {nx : Bool} {m : List Opn} (r : List Nat) : ∀ {l : List Opn} {st : List Nat} {wo : Nat}, (runS cols nx l st wo).1 = 0 → Ran cols nx m ((runS cols nx l st wo).2.1 ++ r) → Ran cols nx (l ++ m) (st ++ r)
  | [], st, wo, _, h => h
  | o :: l, st, wo, h, hm => by
    rw [runS] at h hm
    by_cases c : (stepS cols nx o st).1 ≠ 0
    · rw [if_pos c] at h; exact absurd h c
    · rw [if_neg c] at h hm
      obtain ⟨h1, h2, h3⟩ := stepS_ok (show (stepS cols nx o st).1 = 0 by simpa using c)
      rw [h3] at h hm
      have hu := pushS_under r h1
      rw [List.cons_append, Ran, hu]
      exact ⟨rfl, ran_run r h hm⟩
theorem ran_more {cols cols' : Int} {nx : Bool} (hc : cols ≤ cols') : ∀ {l : List Opn} {st : List Nat}, Ran cols nx l st → Ran cols' true l st
  | [], st, h => h
  | o :: l, st, h => by
    obtain ⟨h1, h2⟩ := h
    rw [Ran, pushS_more hc h1]
    exact ⟨h1, ran_more hc h2⟩
theorem checkB_ran {l : List Opn} {cols : Int} {nx : Bool} {d : Nat} (h : checkB l cols nx = (d, 0)) : Ran cols nx l [] := by
  obtain ⟨_, h2, h3, _⟩ := checkB_ok h
  have := ran_run (m := []) [] h2 (by rw [h3]; rfl)
  simpa using this
theorem checkB_evok {l : List Opn} {cols : Int} {nx : Bool} {d : Nat} (h : checkB l cols nx = (d, 0)) : EvOk l cols := ⟨ran_more (Int.le_refl _) (checkB_ran h), by have := (checkB_ok h).1; omega⟩
section
variable {R S : Type}
/-- What is kept by columns, constants and operations is kept by all. -/
theorem ran_rel {A : Alg R} {B : Alg S} {cur next : Nat → R} {cur' next' : Nat → S} {cols : Int} {nx : Bool} (Rel : R → S → Prop)
    (hcur : ∀ i : Nat, (i : Int) < cols → Rel (cur i) (cur' i)) (hnext : ∀ i : Nat, (i : Int) < cols → Rel (next i) (next' i)) (hcst : ∀ n : Int, Rel (A.cst n) (B.cst n))
    (hadd : ∀ a a' b b', Rel a a' → Rel b b' → Rel (A.add a b) (B.add a' b')) (hsub : ∀ a a' b b', Rel a a' → Rel b b' → Rel (A.sub a b) (B.sub a' b')) (hmul : ∀ a a' b b', Rel a a' → Rel b b' → Rel (A.mul a b) (B.mul a' b')) :
    ∀ {l : List Opn} {st : List Nat} {vs : List R} {us : List S}, (∀ o ∈ l, 0 ≤ o.2) → Ran cols nx l st → RL (fun _ => Rel) st vs us → ∃ d, RL (fun _ => Rel) [d] (evL A cur next l vs) (evL B cur' next' l us)
  | [], st, vs, us, _, hr, h => by
    obtain ⟨d, rfl⟩ := List.length_eq_one_iff.1 hr
    exact ⟨d, h⟩
  | o :: l, st, vs, us, hp, hr, h => by
    obtain ⟨h1, hr'⟩ := hr
    have ho := hp o List.mem_cons_self
    have step : RL (fun _ => Rel) (pushS cols nx o st).2 (ev1 A cur next o vs) (ev1 B cur' next' o us) := by
      obtain ⟨_, _, ⟨d, h4, e⟩ | ⟨d, e⟩ | ⟨x, y, r, d, d3, hst, e⟩⟩ := pushS_ok h1
      · rw [e]
        have hlt : ((o.2.toNat : Nat) : Int) < cols := by omega
        rcases d with d | d
        · rw [ev1_cur A _ _ d, ev1_cur B _ _ d]; exact ⟨hcur _ hlt, h⟩
        · rw [ev1_next A _ _ d, ev1_next B _ _ d]; exact ⟨hnext _ hlt, h⟩
      · rw [e, ev1_cst A _ _ d, ev1_cst B _ _ d]; exact ⟨hcst _, h⟩
      · subst hst
        match vs, us, h with
        | b :: a :: r1, b' :: a' :: r2, h =>
          obtain ⟨q1, q2, q3⟩ := h
          rw [e, ev1_two A _ _ d d3, ev1_two B _ _ d d3]
          refine ⟨?_, q3⟩
          unfold op2
          by_cases k4 : o.1 = 4
          · rw [if_pos k4, if_pos k4]; exact hadd _ _ _ _ q2 q1
          · rw [if_neg k4, if_neg k4]
            by_cases k5 : o.1 = 5
            · rw [if_pos k5, if_pos k5]; exact hsub _ _ _ _ q2 q1
            · rw [if_neg k5, if_neg k5]; exact hmul _ _ _ _ q2 q1
        | [_], [], h => exact h.elim
        | [_], [_], h => exact h.2.elim
        | [_], _ :: _ :: _, h => exact h.2.elim
    exact ran_rel (l := l) Rel hcur hnext hcst hadd hsub hmul (fun o' ho' => hp o' (List.mem_cons_of_mem _ ho')) hr' step
theorem ran_both {A : Alg R} {B : Alg S} {cur next : Nat → R} {cur' next' : Nat → S} {cols : Int} {nx : Bool} (Rel : R → S → Prop)
    (hcur : ∀ i : Nat, (i : Int) < cols → Rel (cur i) (cur' i)) (hnext : ∀ i : Nat, (i : Int) < cols → Rel (next i) (next' i)) (hcst : ∀ n : Int, Rel (A.cst n) (B.cst n))
    (hadd : ∀ a a' b b', Rel a a' → Rel b b' → Rel (A.add a b) (B.add a' b')) (hsub : ∀ a a' b b', Rel a a' → Rel b b' → Rel (A.sub a b) (B.sub a' b')) (hmul : ∀ a a' b b', Rel a a' → Rel b b' → Rel (A.mul a b) (B.mul a' b'))
    {l : List Opn} (hp : ∀ o ∈ l, 0 ≤ o.2) (h : Ran cols nx l []) : evL A cur next l [] = [evB A cur next l] ∧ evL B cur' next' l [] = [evB B cur' next' l] ∧ Rel (evB A cur next l) (evB B cur' next' l) := by
  obtain ⟨d, this⟩ := ran_rel (A := A) (B := B) Rel hcur hnext hcst hadd hsub hmul (vs := []) (us := []) hp h trivial
  unfold evB
  match evL A cur next l [], evL B cur' next' l [], this with
  | [a], [b], h => exact ⟨rfl, rfl, h.1⟩
  | [_], [], h => exact h.elim
  | _ :: _ :: _, [], h => exact h.elim
  | _ :: _ :: _, [_], h => exact h.2.elim
  | _ :: _ :: _, _ :: _ :: _, h => exact h.2.elim
theorem ran_one (A : Alg R) (cur next : Nat → R) {cols : Int} {nx : Bool} {l : List Opn} (hp : ∀ o ∈ l, 0 ≤ o.2) (h : Ran cols nx l []) : evL A cur next l [] = [evB A cur next l] :=
  (ran_both (A := A) (B := A) (cur := cur) (next := next) (cur' := cur) (next' := next) (fun _ _ => True) (fun _ _ => trivial) (fun _ _ => trivial) (fun _ => trivial) (fun _ _ _ _ _ _ => trivial) (fun _ _ _ _ _ _ => trivial) (fun _ _ _ _ _ _ => trivial) hp h).1
end
end Go.Proofs.Ytlgfnlkblehlbaa
