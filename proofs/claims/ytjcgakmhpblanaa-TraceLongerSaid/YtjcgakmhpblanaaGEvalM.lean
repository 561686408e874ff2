/-
  EvalM: What operations leave: plain; what follows.
  Ran: What can be run, however high the stack gets: plain (a step's rule has two operations more than what layer 16 checks).
-/
import Derived.Test.YtjcgakmhpblanaaGShape
import Derived.Test.YtjcgakmhpblanaaPolyM
namespace Go.Proofs.Ytjcgakmhpblanaa
open Go Go.RowKit
set_option linter.unusedVariables false

/-- Where sums, differences, products and constants are. -/
structure Alg (R : Type) where
  add : R → R → R
  sub : R → R → R
  mul : R → R → R
  cst : Int → R
def numA : Alg F := ⟨fun a b => a + b, fun a b => a - b, fun a b => a * b, toF⟩
def pairA : Alg F2 := ⟨fun a b => a + b, fun a b => a - b, fun a b => a * b, fun n => lift (toF n)⟩
def op2 {R : Type} (A : Alg R) (k : Int) (a b : R) : R := if k = 4 then A.add a b else if k = 5 then A.sub a b else A.mul a b
/-- One operation, on a stack (the top ahead). -/
def ev1 {R : Type} (A : Alg R) (cur next : Nat → R) (o : Opn) (st : List R) : List R :=
  if o.1 = 1 then cur o.2.toNat :: st else if o.1 = 2 then next o.2.toNat :: st else if o.1 = 3 then A.cst o.2 :: st
  else match st with
    | b :: a :: r => op2 A o.1 a b :: r
    | _ => st
def evL {R : Type} (A : Alg R) (cur next : Nat → R) : List Opn → List R → List R
  | [], st => st
  | o :: l, st => evL A cur next l (ev1 A cur next o st)
/-- What is left. -/
def evB {R : Type} (A : Alg R) (cur next : Nat → R) (l : List Opn) : R := (evL A cur next l []).headD (A.cst 0)
section
variable {R S : Type}
theorem ev1_cur (A : Alg R) (cur next : Nat → R) {o : Opn} (h : o.1 = 1) (st : List R) : ev1 A cur next o st = cur o.2.toNat :: st := by unfold ev1; rw [if_pos h]
theorem ev1_next (A : Alg R) (cur next : Nat → R) {o : Opn} (h : o.1 = 2) (st : List R) : ev1 A cur next o st = next o.2.toNat :: st := by unfold ev1; rw [if_neg (by omega), if_pos h]
theorem ev1_cst (A : Alg R) (cur next : Nat → R) {o : Opn} (h : o.1 = 3) (st : List R) : ev1 A cur next o st = A.cst o.2 :: st := by unfold ev1; rw [if_neg (by omega), if_neg (by omega), if_pos h]
theorem ev1_two (A : Alg R) (cur next : Nat → R) {o : Opn} (h : ¬ (o.1 = 1 ∨ o.1 = 2)) (h3 : o.1 ≠ 3) (a b : R) (r : List R) : ev1 A cur next o (b :: a :: r) = op2 A o.1 a b :: r := by
  unfold ev1; rw [if_neg (fun c => h (.inl c)), if_neg (fun c => h (.inr c)), if_neg h3]
theorem evL_app (A : Alg R) (cur next : Nat → R) : ∀ (l m : List Opn) (st : List R), evL A cur next (l ++ m) st = evL A cur next m (evL A cur next l st)
  | [], m, st => rfl
  | o :: l, m, st => evL_app A cur next l m _
/-- Stacks of degrees and of values, side by side. -/
def RL (Rel : Nat → R → S → Prop) : List Nat → List R → List S → Prop
  | [], [], [] => True
  | d :: ds, a :: xs, b :: ys => Rel d a b ∧ RL Rel ds xs ys
  | _, _, _ => False
/-- What is kept by columns, constants and operations is kept by all. -/
theorem ev_rel {A : Alg R} {B : Alg S} {cur next : Nat → R} {cur' next' : Nat → S} {cols : Int} {nx : Bool} (Rel : Nat → R → S → Prop)
    (hcur : ∀ i : Nat, (i : Int) < cols → Rel 1 (cur i) (cur' i)) (hnext : ∀ i : Nat, (i : Int) < cols → Rel 1 (next i) (next' i)) (hcst : ∀ n : Int, Rel 0 (A.cst n) (B.cst n))
    (hadd : ∀ d e a a' b b', Rel d a a' → Rel e b b' → Rel (max d e) (A.add a b) (B.add a' b')) (hsub : ∀ d e a a' b b', Rel d a a' → Rel e b b' → Rel (max d e) (A.sub a b) (B.sub a' b')) (hmul : ∀ d e a a' b b', Rel d a a' → Rel e b b' → Rel (d + e) (A.mul a b) (B.mul a' b')) :
    ∀ {l : List Opn} {st : List Nat} {wo : Nat} {vs : List R} {us : List S}, (∀ o ∈ l, 0 ≤ o.2) → (runS cols nx l st wo).1 = 0 → RL Rel st vs us → RL Rel (runS cols nx l st wo).2.1 (evL A cur next l vs) (evL B cur' next' l us)
  | [], _, _, _, _, _, _, h => h
  | o :: l, st, wo, vs, us, hp, hr, h => by
    rw [runS] at hr ⊢
    by_cases c : (stepS cols nx o st).1 ≠ 0
    · rw [if_pos c] at hr; exact absurd hr c
    · rw [if_neg c] at hr ⊢
      have c0 : (stepS cols nx o st).1 = 0 := by simpa using c
      obtain ⟨h1, _, h3⟩ := stepS_ok c0
      have ho := hp o List.mem_cons_self
      have step : RL Rel (stepS cols nx o st).2 (ev1 A cur next o vs) (ev1 B cur' next' o us) := by
        rw [h3]
        obtain ⟨_, _, ⟨d, h4, e⟩ | ⟨d, e⟩ | ⟨x, y, r, d, d3, hst, e⟩⟩ := pushS_ok h1
        · rw [e]
          have hlt : ((o.2.toNat : Nat) : Int) < cols := by omega
          rcases d with d | d
          · rw [ev1_cur A _ _ d, ev1_cur B _ _ d]; exact ⟨hcur _ hlt, h⟩
          · rw [ev1_next A _ _ d, ev1_next B _ _ d]; exact ⟨hnext _ hlt, h⟩
        · rw [e, ev1_cst A _ _ d, ev1_cst B _ _ d]; exact ⟨hcst _, h⟩
        · subst hst
          match vs, us, h with
          | b :: a :: r1, b' :: a' :: r2, h =>
            obtain ⟨q1, q2, q3⟩ := h
            rw [e, ev1_two A _ _ d d3, ev1_two B _ _ d d3]
            refine ⟨?_, q3⟩
            unfold op2
            have hk := right_kind (pushS_ok h1).1
            by_cases k6 : o.1 = 6
            · rw [if_pos k6, if_neg (by omega), if_neg (by omega), if_neg (by omega), if_neg (by omega)]; exact hmul _ _ _ _ _ _ q2 q1
            · rw [if_neg k6]
              by_cases k4 : o.1 = 4
              · rw [if_pos k4, if_pos k4]; exact hadd _ _ _ _ _ _ q2 q1
              · rw [if_neg k4, if_neg k4, if_pos (by omega), if_pos (by omega)]; exact hsub _ _ _ _ _ _ q2 q1
          | [_], [], h => exact h.elim
          | [_], [_], h => exact h.2.elim
          | [_], _ :: _ :: _, h => exact h.2.elim
      exact ev_rel Rel hcur hnext hcst hadd hsub hmul (fun o' ho' => hp o' (List.mem_cons_of_mem _ ho')) hr step
/-- Of what may be one value is left; what is kept is kept of it. -/
theorem evB_rel {A : Alg R} {B : Alg S} {cur next : Nat → R} {cur' next' : Nat → S} {cols : Int} {nx : Bool} (Rel : Nat → R → S → Prop)
    (hcur : ∀ i : Nat, (i : Int) < cols → Rel 1 (cur i) (cur' i)) (hnext : ∀ i : Nat, (i : Int) < cols → Rel 1 (next i) (next' i)) (hcst : ∀ n : Int, Rel 0 (A.cst n) (B.cst n))
    (hadd : ∀ d e a a' b b', Rel d a a' → Rel e b b' → Rel (max d e) (A.add a b) (B.add a' b')) (hsub : ∀ d e a a' b b', Rel d a a' → Rel e b b' → Rel (max d e) (A.sub a b) (B.sub a' b')) (hmul : ∀ d e a a' b b', Rel d a a' → Rel e b b' → Rel (d + e) (A.mul a b) (B.mul a' b'))
    {l : List Opn} {d : Nat} (hp : ∀ o ∈ l, 0 ≤ o.2) (h : checkB l cols nx = (d, 0)) : evL A cur next l [] = [evB A cur next l] ∧ evL B cur' next' l [] = [evB B cur' next' l] ∧ Rel d (evB A cur next l) (evB B cur' next' l) := by
  obtain ⟨_, h1, h2, _⟩ := checkB_ok h
  have := ev_rel (A := A) (B := B) Rel hcur hnext hcst hadd hsub hmul (vs := []) (us := []) hp h1 trivial
  rw [h2] at this
  unfold evB
  match evL A cur next l [], evL B cur' next' l [], this with
  | [a], [b], h => exact ⟨rfl, rfl, h.1⟩
  | [_], [], h => exact h.elim
  | _ :: _ :: _, [], h => exact h.elim
  | _ :: _ :: _, [_], h => exact h.2.elim
  | _ :: _ :: _, _ :: _ :: _, h => exact h.2.elim
/-- One value is left. -/
theorem evB_one (A : Alg R) (cur next : Nat → R) {cols : Int} {nx : Bool} {l : List Opn} {d : Nat} (hp : ∀ o ∈ l, 0 ≤ o.2) (h : checkB l cols nx = (d, 0)) : evL A cur next l [] = [evB A cur next l] :=
  (evB_rel (A := A) (B := A) (cur := cur) (next := next) (cur' := cur) (next' := next) (fun _ _ _ => True) (fun _ _ => trivial) (fun _ _ => trivial) (fun _ => trivial) (fun _ _ _ _ _ _ _ _ => trivial) (fun _ _ _ _ _ _ _ _ => trivial) (fun _ _ _ _ _ _ _ _ => trivial) hp h).1
/-- By a map that goes over sums, differences, products. -/
theorem evB_map {A : Alg R} {B : Alg S} (φ : R → S) (hc : ∀ n, φ (A.cst n) = B.cst n) (ha : ∀ a b, φ (A.add a b) = B.add (φ a) (φ b)) (hs : ∀ a b, φ (A.sub a b) = B.sub (φ a) (φ b)) (hm : ∀ a b, φ (A.mul a b) = B.mul (φ a) (φ b))
    (cur next : Nat → R) {cur' next' : Nat → S} {cols : Int} {nx : Bool} {l : List Opn} {d : Nat} (h1 : ∀ i : Nat, (i : Int) < cols → cur' i = φ (cur i)) (h2 : ∀ i : Nat, (i : Int) < cols → next' i = φ (next i)) (hp : ∀ o ∈ l, 0 ≤ o.2) (h : checkB l cols nx = (d, 0)) :
    evB B cur' next' l = φ (evB A cur next l) :=
  (evB_rel (A := A) (B := B) (fun _ a b => b = φ a) h1 h2 (fun n => (hc n).symm) (fun _ _ a a' b b' e1 e2 => by rw [e1, e2, ha]) (fun _ _ a a' b b' e1 e2 => by rw [e1, e2, hs]) (fun _ _ a a' b b' e1 e2 => by rw [e1, e2, hm]) hp h).2.2
theorem evL_under (A : Alg R) (cur next : Nat → R) {cols : Int} {nx : Bool} (r : List R) : ∀ {l : List Opn} {st : List Nat} {wo : Nat} {vs : List R}, (runS cols nx l st wo).1 = 0 → vs.length = st.length → evL A cur next l (vs ++ r) = evL A cur next l vs ++ r
  | [], _, _, _, _, _ => rfl
  | o :: l, st, wo, vs, hr, hl => by
    rw [runS] at hr
    by_cases c : (stepS cols nx o st).1 ≠ 0
    · rw [if_pos c] at hr; exact absurd hr c
    · rw [if_neg c] at hr
      have c0 : (stepS cols nx o st).1 = 0 := by simpa using c
      obtain ⟨h1, _, h3⟩ := stepS_ok c0
      have both : ev1 A cur next o (vs ++ r) = ev1 A cur next o vs ++ r ∧ (ev1 A cur next o vs).length = (stepS cols nx o st).2.length := by
        rw [h3]
        obtain ⟨_, _, ⟨d, h4, e⟩ | ⟨d, e⟩ | ⟨x, y, r', d, d3, hst, e⟩⟩ := pushS_ok h1
        · rw [e]
          rcases d with d | d
          · rw [ev1_cur A _ _ d, ev1_cur A _ _ d]; exact ⟨rfl, by simp [hl]⟩
          · rw [ev1_next A _ _ d, ev1_next A _ _ d]; exact ⟨rfl, by simp [hl]⟩
        · rw [e, ev1_cst A _ _ d, ev1_cst A _ _ d]; exact ⟨rfl, by simp [hl]⟩
        · subst hst
          match vs, hl with
          | b :: a :: vs', hl =>
            rw [e, ev1_two A _ _ d d3]
            exact ⟨ev1_two A cur next d d3 a b (vs' ++ r), by simpa using hl⟩
      rw [evL, evL, both.1]
      exact evL_under A cur next r hr both.2
/-- Two, one behind the other, and an operation on both. -/
theorem evB_joins (A : Alg R) (cur next : Nat → R) {cols : Int} {nx : Bool} {l m : List Opn} {a b : Nat} {k : Int} (hl : ∀ o ∈ l, 0 ≤ o.2) (hm : ∀ o ∈ m, 0 ≤ o.2) (h1 : checkB l cols nx = (a, 0)) (h2 : checkB m cols nx = (b, 0)) (hk : 4 ≤ k) :
    evB A cur next (l ++ m ++ [(k, 0)]) = op2 A k (evB A cur next l) (evB A cur next m) := by
  have e : evL A cur next (l ++ m ++ [(k, 0)]) [] = [op2 A k (evB A cur next l) (evB A cur next m)] := by
    rw [evL_app, evL_app, evB_one A cur next hl h1]
    have := evL_under A cur next [evB A cur next l] (vs := []) (checkB_ok h2).2.1 rfl
    rw [List.nil_append] at this
    rw [this, evB_one A cur next hm h2]
    exact ev1_two A cur next (by show ¬ (k = 1 ∨ k = 2); omega) (by show k ≠ 3; omega) _ _ []
  show List.headD (evL A cur next (l ++ m ++ [(k, 0)]) []) (A.cst 0) = _
  rw [e]
  rfl
end
/-! ### Lifted, turned, constant -/
theorem elift_sub (a b : F) : lift (a - b) = lift a - lift b := F2.eq rfl (by simp only [lift, F2.sub_b]; grind)
theorem turn_sub (x y : F2) : turn (x - y) = turn x - turn y := F2.eq rfl (by simp only [turn, F2.sub_b]; grind)
theorem turn_lift (a : F) : turn (lift a) = lift a := F2.eq rfl (by simp only [turn, lift]; grind)
theorem evB_lift (cur next : Nat → F) {cur' next' : Nat → F2} {cols : Int} {nx : Bool} {l : List Opn} {d : Nat} (h1 : ∀ i : Nat, (i : Int) < cols → cur' i = lift (cur i)) (h2 : ∀ i : Nat, (i : Int) < cols → next' i = lift (next i)) (hp : ∀ o ∈ l, 0 ≤ o.2) (h : checkB l cols nx = (d, 0)) :
    evB pairA cur' next' l = lift (evB numA cur next l) := evB_map lift (fun _ => rfl) lift_add elift_sub lift_mul cur next h1 h2 hp h
theorem evB_turn (cur next : Nat → F2) {cur' next' : Nat → F2} {cols : Int} {nx : Bool} {l : List Opn} {d : Nat} (h1 : ∀ i : Nat, (i : Int) < cols → cur' i = turn (cur i)) (h2 : ∀ i : Nat, (i : Int) < cols → next' i = turn (next i)) (hp : ∀ o ∈ l, 0 ≤ o.2) (h : checkB l cols nx = (d, 0)) :
    evB pairA cur' next' l = turn (evB pairA cur next l) := evB_map turn (fun _ => turn_lift _) turn_add turn_sub turn_mul cur next h1 h2 hp h
theorem evB_const {R : Type} (A : Alg R) (cur next cur' next' : Nat → R) {cols : Int} {nx : Bool} {l : List Opn} (hp : ∀ o ∈ l, 0 ≤ o.2) (h : checkB l cols nx = (0, 0)) : evB A cur next l = evB A cur' next' l :=
  (evB_rel (A := A) (B := A) (fun d a b => d = 0 → a = b) (fun _ _ h => by omega) (fun _ _ h => by omega) (fun _ _ => rfl) (fun d e a a' b b' e1 e2 h => by rw [e1 (by omega), e2 (by omega)]) (fun d e a a' b b' e1 e2 h => by rw [e1 (by omega), e2 (by omega)]) (fun d e a a' b b' e1 e2 h => by rw [e1 (by omega), e2 (by omega)]) hp h).2.2 rfl
/-! ### Along a line -/
def lineA : Alg (F2 → F2) := ⟨fun f g x => f x + g x, fun f g x => f x - g x, fun f g x => f x * g x, fun n _ => lift (toF n)⟩
def IsPoly (d : Nat) (f : F2 → F2) : Prop := ∃ c, Upto (d + 1) c ∧ ∀ x, f x = qe (d + 1) c x
theorem qe_sub (n : Nat) (c d : Nat → F2) (x : F2) : qe n (fun i => c i - d i) x = qe n c x - qe n d x := by
  rw [show (fun i => c i - d i) = fun i => c i + (fun j => -d j) i from funext fun i => F2.sub_eq _ _, qe_add, qe_neg, F2.sub_eq]
def lin2 (a b : F2) (i : Nat) : F2 := if i = 0 then a else if i = 1 then b else 0
theorem line_poly (a b : F2) : IsPoly 1 (fun x => a + x * b) := by
  refine ⟨lin2 a b, fun i hi => by unfold lin2; rw [if_neg (by omega), if_neg (by omega)], fun x => ?_⟩
  have e0 : lin2 a b 0 = a := rfl
  have e1 : lin2 a b 1 = b := rfl
  unfold qe
  simp only [sq]
  rw [F2.zero_add, e0, e1, qpow_zero, F2.mul_one, qpow_one, F2.mul_comm b x]
def cst1 (a : F2) (i : Nat) : F2 := if i = 0 then a else 0
theorem cst_poly (a : F2) : IsPoly 0 (fun _ => a) := by
  refine ⟨cst1 a, fun i hi => by unfold cst1; rw [if_neg (by omega)], fun x => ?_⟩
  have e0 : cst1 a 0 = a := rfl
  unfold qe
  simp only [sq]
  rw [F2.zero_add, e0, qpow_zero, F2.mul_one]
theorem evB_lines (r0 r1 r2 r3 : Nat → F2) {cols : Int} {nx : Bool} {l : List Opn} {d : Nat} (hp : ∀ o ∈ l, 0 ≤ o.2) (h : checkB l cols nx = (d, 0)) : ∃ c, Upto (d + 1) c ∧ ∀ x, evB pairA (fun i => r0 i + x * r1 i) (fun i => r2 i + x * r3 i) l = qe (d + 1) c x := by
  have key := evB_rel (A := lineA) (B := lineA) (cur := fun i x => r0 i + x * r1 i) (next := fun i x => r2 i + x * r3 i) (cur' := fun i x => r0 i + x * r1 i) (next' := fun i x => r2 i + x * r3 i) (fun d f _ => IsPoly d f) (fun i _ => line_poly _ _) (fun i _ => line_poly _ _)
    (fun n => cst_poly _)
    (fun d e f _ g _ ⟨c, hc, h1⟩ ⟨c', hc', h2⟩ => ⟨fun i => c i + c' i, fun i hi => (by show c i + c' i = 0; rw [hc i (by omega), hc' i (by omega), F2.zero_add]), fun x => by
      show f x + g x = _
      rw [qe_add, h1 x, h2 x, qe_more x (show d + 1 ≤ max d e + 1 by omega) hc, qe_more x (show e + 1 ≤ max d e + 1 by omega) hc']⟩)
    (fun d e f _ g _ ⟨c, hc, h1⟩ ⟨c', hc', h2⟩ => ⟨fun i => c i - c' i, fun i hi => (by show c i - c' i = 0; rw [hc i (by omega), hc' i (by omega), sub_self']), fun x => by
      show f x - g x = _
      rw [qe_sub, h1 x, h2 x, qe_more x (show d + 1 ≤ max d e + 1 by omega) hc, qe_more x (show e + 1 ≤ max d e + 1 by omega) hc']⟩)
    (fun d e f _ g _ ⟨c, hc, h1⟩ ⟨c', hc', h2⟩ => ⟨cv c c', (cv_upto hc hc').more (by omega), fun x => by
      show f x * g x = _
      rw [h1 x, h2 x, ← cv_eval (d + 1) c hc (e + 1) c' hc' (d + e + 1) x (by omega)]⟩)
    hp h
  obtain ⟨c, hc, hx⟩ := key.2.2
  refine ⟨c, hc, fun x => ?_⟩
  rw [← hx x]
  exact evB_map (A := lineA) (B := pairA) (fun f => f x) (fun _ => rfl) (fun _ _ => rfl) (fun _ _ => rfl) (fun _ _ => rfl) (fun i x => r0 i + x * r1 i) (fun i x => r2 i + x * r3 i) (fun _ _ => rfl) (fun _ _ => rfl) hp h
end Go.Proofs.Ytjcgakmhpblanaa
namespace Go.Proofs.Ytjcgakmhpblanaa
open Go Go.RowKit
set_option linter.unusedVariables false

def Ran (cols : Int) (nx : Bool) : List Opn → List Nat → Prop
  | [], st => st.length = 1
  | o :: l, st => (pushS cols nx o st).1 = 0 ∧ Ran cols nx l (pushS cols nx o st).2
def EvOk (l : List Opn) (cols : Int) : Prop := Ran cols true l [] ∧ l.length ≤ 300
theorem ran_step {cols : Int} {nx : Bool} {o : Opn} {l : List Opn} {st : List Nat} (h : Ran cols nx (o :: l) st) : ∃ st', pushS cols nx o st = (0, st') ∧ st'.length ≤ st.length + 1 ∧ Ran cols nx l st' ∧ rightO o = true := by
  obtain ⟨h1, h2⟩ := h
  have hl := (pushS_sum h1).2.2
  exact ⟨(pushS cols nx o st).2, Prod.ext h1 rfl, by omega, h2, (pushS_ok h1).1⟩
theorem ran_run {cols : Int} {nx : Bool} {m : List Opn} (r : List Nat) : ∀ {l : List Opn} {st : List Nat} {wo : Nat}, (runS cols nx l st wo).1 = 0 → Ran cols nx m ((runS cols nx l st wo).2.1 ++ r) → Ran cols nx (l ++ m) (st ++ r)
  | [], st, wo, _, h => h
  | o :: l, st, wo, h, hm => by
    rw [runS] at h hm
    by_cases c : (stepS cols nx o st).1 ≠ 0
    · rw [if_pos c] at h; exact absurd h c
    · rw [if_neg c] at h hm
      obtain ⟨h1, h2, h3⟩ := stepS_ok (show (stepS cols nx o st).1 = 0 by simpa using c)
      rw [h3] at h hm
      have hu := pushS_under r h1
      rw [List.cons_append, Ran, hu]
      exact ⟨rfl, ran_run r h hm⟩
theorem ran_more {cols cols' : Int} {nx : Bool} (hc : cols ≤ cols') : ∀ {l : List Opn} {st : List Nat}, Ran cols nx l st → Ran cols' true l st
  | [], st, h => h
  | o :: l, st, h => by
    obtain ⟨h1, h2⟩ := h
    rw [Ran, pushS_more hc h1]
    exact ⟨h1, ran_more hc h2⟩
theorem checkB_ran {l : List Opn} {cols : Int} {nx : Bool} {d : Nat} (h : checkB l cols nx = (d, 0)) : Ran cols nx l [] := by
  obtain ⟨_, h2, h3, _⟩ := checkB_ok h
  have := ran_run (m := []) [] h2 (by rw [h3]; rfl)
  simpa using this
theorem checkB_evok {l : List Opn} {cols : Int} {nx : Bool} {d : Nat} (h : checkB l cols nx = (d, 0)) : EvOk l cols := ⟨ran_more (Int.le_refl _) (checkB_ran h), by have := (checkB_ok h).1; omega⟩
section
variable {R S : Type}
/-- What is kept by columns, constants and operations is kept by all. -/
theorem ran_rel {A : Alg R} {B : Alg S} {cur next : Nat → R} {cur' next' : Nat → S} {cols : Int} {nx : Bool} (Rel : R → S → Prop)
    (hcur : ∀ i : Nat, (i : Int) < cols → Rel (cur i) (cur' i)) (hnext : ∀ i : Nat, (i : Int) < cols → Rel (next i) (next' i)) (hcst : ∀ n : Int, Rel (A.cst n) (B.cst n))
    (hadd : ∀ a a' b b', Rel a a' → Rel b b' → Rel (A.add a b) (B.add a' b')) (hsub : ∀ a a' b b', Rel a a' → Rel b b' → Rel (A.sub a b) (B.sub a' b')) (hmul : ∀ a a' b b', Rel a a' → Rel b b' → Rel (A.mul a b) (B.mul a' b')) :
    ∀ {l : List Opn} {st : List Nat} {vs : List R} {us : List S}, (∀ o ∈ l, 0 ≤ o.2) → Ran cols nx l st → RL (fun _ => Rel) st vs us → ∃ d, RL (fun _ => Rel) [d] (evL A cur next l vs) (evL B cur' next' l us)
  | [], st, vs, us, _, hr, h => by
    obtain ⟨d, rfl⟩ := List.length_eq_one_iff.1 hr
    exact ⟨d, h⟩
  | o :: l, st, vs, us, hp, hr, h => by
    obtain ⟨h1, hr'⟩ := hr
    have ho := hp o List.mem_cons_self
    have step : RL (fun _ => Rel) (pushS cols nx o st).2 (ev1 A cur next o vs) (ev1 B cur' next' o us) := by
      obtain ⟨_, _, ⟨d, h4, e⟩ | ⟨d, e⟩ | ⟨x, y, r, d, d3, hst, e⟩⟩ := pushS_ok h1
      · rw [e]
        have hlt : ((o.2.toNat : Nat) : Int) < cols := by omega
        rcases d with d | d
        · rw [ev1_cur A _ _ d, ev1_cur B _ _ d]; exact ⟨hcur _ hlt, h⟩
        · rw [ev1_next A _ _ d, ev1_next B _ _ d]; exact ⟨hnext _ hlt, h⟩
      · rw [e, ev1_cst A _ _ d, ev1_cst B _ _ d]; exact ⟨hcst _, h⟩
      · subst hst
        match vs, us, h with
        | b :: a :: r1, b' :: a' :: r2, h =>
          obtain ⟨q1, q2, q3⟩ := h
          rw [e, ev1_two A _ _ d d3, ev1_two B _ _ d d3]
          refine ⟨?_, q3⟩
          unfold op2
          by_cases k4 : o.1 = 4
          · rw [if_pos k4, if_pos k4]; exact hadd _ _ _ _ q2 q1
          · rw [if_neg k4, if_neg k4]
            by_cases k5 : o.1 = 5
            · rw [if_pos k5, if_pos k5]; exact hsub _ _ _ _ q2 q1
            · rw [if_neg k5, if_neg k5]; exact hmul _ _ _ _ q2 q1
        | [_], [], h => exact h.elim
        | [_], [_], h => exact h.2.elim
        | [_], _ :: _ :: _, h => exact h.2.elim
    exact ran_rel (l := l) Rel hcur hnext hcst hadd hsub hmul (fun o' ho' => hp o' (List.mem_cons_of_mem _ ho')) hr' step
theorem ran_both {A : Alg R} {B : Alg S} {cur next : Nat → R} {cur' next' : Nat → S} {cols : Int} {nx : Bool} (Rel : R → S → Prop)
    (hcur : ∀ i : Nat, (i : Int) < cols → Rel (cur i) (cur' i)) (hnext : ∀ i : Nat, (i : Int) < cols → Rel (next i) (next' i)) (hcst : ∀ n : Int, Rel (A.cst n) (B.cst n))
    (hadd : ∀ a a' b b', Rel a a' → Rel b b' → Rel (A.add a b) (B.add a' b')) (hsub : ∀ a a' b b', Rel a a' → Rel b b' → Rel (A.sub a b) (B.sub a' b')) (hmul : ∀ a a' b b', Rel a a' → Rel b b' → Rel (A.mul a b) (B.mul a' b'))
    {l : List Opn} (hp : ∀ o ∈ l, 0 ≤ o.2) (h : Ran cols nx l []) : evL A cur next l [] = [evB A cur next l] ∧ evL B cur' next' l [] = [evB B cur' next' l] ∧ Rel (evB A cur next l) (evB B cur' next' l) := by
  obtain ⟨d, this⟩ := ran_rel (A := A) (B := B) Rel hcur hnext hcst hadd hsub hmul (vs := []) (us := []) hp h trivial
  unfold evB
  match evL A cur next l [], evL B cur' next' l [], this with
  | [a], [b], h => exact ⟨rfl, rfl, h.1⟩
  | [_], [], h => exact h.elim
  | _ :: _ :: _, [], h => exact h.elim
  | _ :: _ :: _, [_], h => exact h.2.elim
  | _ :: _ :: _, _ :: _ :: _, h => exact h.2.elim
theorem ran_one (A : Alg R) (cur next : Nat → R) {cols : Int} {nx : Bool} {l : List Opn} (hp : ∀ o ∈ l, 0 ≤ o.2) (h : Ran cols nx l []) : evL A cur next l [] = [evB A cur next l] :=
  (ran_both (A := A) (B := A) (cur := cur) (next := next) (cur' := cur) (next' := next) (fun _ _ => True) (fun _ _ => trivial) (fun _ _ => trivial) (fun _ => trivial) (fun _ _ _ _ _ _ => trivial) (fun _ _ _ _ _ _ => trivial) (fun _ _ _ _ _ _ => trivial) hp h).1
end
end Go.Proofs.Ytjcgakmhpblanaa
