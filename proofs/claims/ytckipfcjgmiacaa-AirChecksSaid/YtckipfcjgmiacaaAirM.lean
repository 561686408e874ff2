/-
  What rows must keep: plain.
-/
import Derived.Test.YtckipfcjgmiacaaShapeM
import Derived.Test.YtckipfcjgmiacaaCodeBack
namespace Go.Proofs.Ytckipfcjgmiacaa
open Go Go.RowKit
set_option linter.unusedVariables false

abbrev noText : ByteArray := ⟨#[]⟩
structure AirP where
  cols : Int
  log : Int
  steps : List ByteArray
  rules : List ByteArray
  bounds : List (Int × Int)
def airZ : AirP := ⟨0, 0, [], [], []⟩
abbrev Told := List Opn × Int
/-- A text's operations, if they may be of so many columns. -/
def ruleB (s : ByteArray) (cols : Int) (nx : Bool) : Told :=
  if (parseB s).2 ≠ 0 then ([], (parseB s).2) else if (checkB (parseB s).1 cols nx).2 ≠ 0 then ([], (checkB (parseB s).1 cols nx).2) else ((parseB s).1, 0)
theorem ruleB_parse {s : ByteArray} {cols : Int} {nx : Bool} {l : List Opn} {e : Int} (h : parseB s = (l, e)) (he : e ≠ 0) : ruleB s cols nx = ([], e) := by unfold ruleB; rw [h, if_pos he]
theorem ruleB_check {s : ByteArray} {cols : Int} {nx : Bool} {l : List Opn} {d : Nat} {e : Int} (h : parseB s = (l, 0)) (hc : checkB l cols nx = (d, e)) (he : e ≠ 0) : ruleB s cols nx = ([], e) := by unfold ruleB; rw [h, if_neg (by simp)]; simp only; rw [hc, if_pos he]
theorem ruleB_ok {s : ByteArray} {cols : Int} {nx : Bool} {l : List Opn} {d : Nat} (h : parseB s = (l, 0)) (hc : checkB l cols nx = (d, 0)) : ruleB s cols nx = (l, 0) := by unfold ruleB; rw [h, if_neg (by simp)]; simp only; rw [hc, if_neg (by simp)]
theorem ruleB_inv {s : ByteArray} {cols : Int} {nx : Bool} (h : (ruleB s cols nx).2 = 0) : ∃ l d, parseB s = (l, 0) ∧ checkB l cols nx = (d, 0) ∧ ruleB s cols nx = (l, 0) := by
  by_cases c : (parseB s).2 = 0
  · have hp : parseB s = ((parseB s).1, 0) := Prod.ext rfl c
    by_cases d : (checkB (parseB s).1 cols nx).2 = 0
    · have hc : checkB (parseB s).1 cols nx = ((checkB (parseB s).1 cols nx).1, 0) := Prod.ext rfl d
      exact ⟨_, _, hp, hc, ruleB_ok hp hc⟩
    · have hc : checkB (parseB s).1 cols nx = ((checkB (parseB s).1 cols nx).1, (checkB (parseB s).1 cols nx).2) := rfl
      rw [ruleB_check hp hc d] at h
      exact absurd h d
  · have hp : parseB s = ((parseB s).1, (parseB s).2) := rfl
    rw [ruleB_parse hp c] at h
    exact absurd h c
def stepO (i : Nat) (l : List Opn) : List Opn := (2, (i : Int)) :: (l ++ [(5, 0)])
def AirP.text (A : AirP) (i : Nat) : ByteArray := if i < A.steps.length then A.steps.getD i noText else A.rules.getD (i - A.steps.length) noText
def AirP.form (A : AirP) (i : Nat) (l : List Opn) : List Opn := if i < A.steps.length then stepO i l else l
/-- The i-th of all rules. -/
def AirP.one (A : AirP) (i : Nat) : Told := ruleB (A.text i) A.cols (decide (¬ i < A.steps.length))
def AirP.upto (A : AirP) : Nat → List (List Opn) × Int
  | 0 => ([], 0)
  | k + 1 => if (A.upto k).2 ≠ 0 then ([], (A.upto k).2) else if (A.one k).2 ≠ 0 then ([], (A.one k).2) else ((A.upto k).1 ++ [A.form k (A.one k).1], 0)
def AirP.count (A : AirP) : Nat := A.steps.length + A.rules.length
def AirP.fits (A : AirP) : Prop := 1 ≤ A.cols ∧ A.cols ≤ 8 ∧ (A.steps.length = 0 ∨ (A.steps.length : Int) = A.cols) ∧ A.rules.length ≤ 16
instance (A : AirP) : Decidable A.fits := by unfold AirP.fits; infer_instance
/-- All its rules, or the error. -/
def AirP.all (A : AirP) : List (List Opn) × Int := if A.fits then A.upto A.count else ([], 1)
theorem AirP.upto_go {A : AirP} {k : Nat} {ls : List (List Opn)} {l : List Opn} (h : A.upto k = (ls, 0)) (h1 : A.one k = (l, 0)) : A.upto (k + 1) = (ls ++ [A.form k l], 0) := by
  rw [AirP.upto, h, h1, if_neg (by simp), if_neg (by simp)]
theorem AirP.upto_err {A : AirP} {k : Nat} {ls : List (List Opn)} {l : List Opn} {e : Int} (h : A.upto k = (ls, 0)) (h1 : A.one k = (l, e)) (he : e ≠ 0) : A.upto (k + 1) = ([], e) := by
  rw [AirP.upto, h, h1, if_neg (by simp), if_pos he]
theorem AirP.upto_stop {A : AirP} {k : Nat} {e : Int} (h : A.upto k = ([], e)) (he : e ≠ 0) : ∀ {n : Nat}, k ≤ n → A.upto n = ([], e) := by
  intro n hn
  obtain ⟨m, rfl⟩ : ∃ m, n = k + m := ⟨n - k, by omega⟩
  clear hn
  induction m with
  | zero => exact h
  | succ m ih => rw [Nat.add_succ, AirP.upto, ih, if_pos he]
theorem AirP.upto_nil {A : AirP} : ∀ {k : Nat}, (A.upto k).2 ≠ 0 → (A.upto k).1 = []
  | 0, h => absurd rfl h
  | k + 1, h => by
    rw [AirP.upto] at h ⊢
    split
    · rfl
    · next c =>
      rw [if_neg c] at h
      split
      · rfl
      · next d => rw [if_neg d] at h; exact absurd rfl h
theorem AirP.upto_len {A : AirP} : ∀ {k : Nat}, (A.upto k).2 = 0 → (A.upto k).1.length = k ∧ ∀ i, i < k → (A.one i).2 = 0 ∧ (A.upto k).1.getD i [] = A.form i (A.one i).1
  | 0, h => ⟨rfl, fun i hi => by omega⟩
  | k + 1, h => by
    rw [AirP.upto] at h ⊢
    by_cases c : (A.upto k).2 ≠ 0
    · rw [if_pos c] at h; exact absurd h c
    · rw [if_neg c] at h ⊢
      obtain ⟨h1, h2⟩ := AirP.upto_len (k := k) (by simpa using c)
      by_cases d : (A.one k).2 ≠ 0
      · rw [if_pos d] at h; exact absurd h d
      · rw [if_neg d]
        refine ⟨by simp [h1], fun i hi => ?_⟩
        by_cases e : i = k
        · subst e
          exact ⟨by simpa using d, by simp [List.getD, h1]⟩
        · obtain ⟨h3, h4⟩ := h2 i (by omega)
          refine ⟨h3, ?_⟩
          rw [← h4]
          simp only [List.getD]
          rw [List.getElem?_append_left (by omega)]
theorem AirP.all_stop {A : AirP} {k : Nat} {e : Int} (hf : A.fits) (h : A.upto k = ([], e)) (he : e ≠ 0) (hk : k ≤ A.count) : A.all = ([], e) := by unfold AirP.all; rw [if_pos hf, A.upto_stop h he hk]
theorem AirP.all_nil {A : AirP} (h : A.all.2 ≠ 0) : A.all.1 = [] := by
  unfold AirP.all at h ⊢
  split
  · next c => rw [if_pos c] at h; exact AirP.upto_nil h
  · rfl
theorem AirP.all_ok {A : AirP} (h : A.all.2 = 0) : A.fits ∧ A.all = A.upto A.count := by
  unfold AirP.all at h ⊢
  by_cases c : A.fits
  · exact ⟨c, by rw [if_pos c]⟩
  · rw [if_neg c] at h; cases h
/-! ### May it be? -/
def AirP.bound (A : AirP) (i : Nat) : Int × Int := A.bounds.getD i (0, 0)
def AirP.size (A : AirP) : Int := ((2 ^ A.log.toNat : Nat) : Int)
def AirP.okAt (A : AirP) (i : Nat) : Prop := (0 ≤ (A.bound i).1 ∧ (A.bound i).1 < A.cols ∧ 0 ≤ (A.bound i).2 ∧ (A.bound i).2 < A.size) ∧ ∀ k, k < i → A.bound k ≠ A.bound i
instance (A : AirP) (i : Nat) : Decidable (A.okAt i) := by unfold AirP.okAt; infer_instance
def AirP.places (A : AirP) : Prop := ∀ i, i < A.bounds.length → A.okAt i
instance (A : AirP) : Decidable A.places := by unfold AirP.places; infer_instance
def AirP.near (A : AirP) : Prop := 0 ≤ A.log ∧ A.log ≤ 10 ∧ A.bounds.length ≤ 16
instance (A : AirP) : Decidable A.near := by unfold AirP.near; infer_instance
def AirP.check (A : AirP) : Int := if A.near then (if A.all.2 ≠ 0 then A.all.2 else if A.places then 0 else 1) else 1
theorem AirP.check_ok {A : AirP} (h : A.check = 0) : A.near ∧ A.fits ∧ A.all = A.upto A.count ∧ (A.upto A.count).2 = 0 ∧ A.places := by
  unfold AirP.check at h
  by_cases c : A.near
  · rw [if_pos c] at h
    by_cases d : A.all.2 ≠ 0
    · rw [if_pos d] at h; exact absurd h d
    · rw [if_neg d] at h
      have d0 : A.all.2 = 0 := by simpa using d
      obtain ⟨h1, h2⟩ := AirP.all_ok d0
      by_cases e : A.places
      · exact ⟨c, h1, h2, by rw [← h2]; exact d0, e⟩
      · rw [if_neg e] at h; cases h
  · rw [if_neg c] at h; cases h
theorem AirP.check_is {A : AirP} (h1 : A.near) (h2 : A.all.2 = 0) (h3 : A.places) : A.check = 0 := by unfold AirP.check; rw [if_pos h1, if_neg (by simp [h2]), if_pos h3]
theorem AirP.check_far {A : AirP} (h : ¬ A.near) : A.check = 1 := by unfold AirP.check; rw [if_neg h]
theorem AirP.check_rules {A : AirP} (h1 : A.near) {e : Int} (h2 : A.all.2 = e) (he : e ≠ 0) : A.check = e := by unfold AirP.check; rw [if_pos h1, if_pos (by rw [h2]; exact he), h2]
theorem AirP.check_places {A : AirP} (h1 : A.near) (h2 : A.all.2 = 0) (h3 : ¬ A.places) : A.check = 1 := by unfold AirP.check; rw [if_pos h1, if_neg (by simp [h2]), if_neg h3]
theorem AirP.size_bd {A : AirP} (h : A.near) : 1 ≤ A.size ∧ A.size ≤ 1024 := by
  have h1 : 2 ^ A.log.toNat ≤ 2 ^ 10 := Nat.pow_le_pow_right (by decide) (by have := h.2.1; omega)
  have h0 : 0 < 2 ^ A.log.toNat := Nat.pow_pos (by decide)
  unfold AirP.size
  simp only [show (2 : Nat) ^ 10 = 1024 by decide] at h1
  omega
/-! ### Its degree -/
def degPush (o : Opn) (st : List Nat) : List Nat := if o.1 = 1 ∨ o.1 = 2 then 1 :: st else if o.1 = 3 then 0 :: st else match st with
  | b :: a :: r => (if o.1 = 6 then a + b else max a b) :: r
  | _ => st
def degS (l : List Opn) (st : List Nat) : List Nat := l.foldl (fun st o => degPush o st) st
def degO (l : List Opn) : Nat := topS (degS l [])
def degMax (ls : List (List Opn)) : Nat := ls.foldl (fun n l => max n (degO l)) 1
def AirP.degree (A : AirP) : Nat := degMax A.all.1
def AirP.parts (A : AirP) : Nat := max 1 (A.degree - 1)
theorem degS_cons (o : Opn) (l : List Opn) (st : List Nat) : degS (o :: l) st = degS l (degPush o st) := rfl
theorem degS_app (l m : List Opn) (st : List Nat) : degS (l ++ m) st = degS m (degS l st) := by unfold degS; rw [List.foldl_append]
theorem degMax_snoc (ls : List (List Opn)) (l : List Opn) : degMax (ls ++ [l]) = max (degMax ls) (degO l) := by unfold degMax; rw [List.foldl_append]; rfl
theorem degPush_under {cols : Int} {nx : Bool} {o : Opn} {st : List Nat} (r : List Nat) (h : (pushS cols nx o st).1 = 0) : degPush o (st ++ r) = (pushS cols nx o st).2 ++ r := by
  obtain ⟨h1, h2, ⟨d, h4, e⟩ | ⟨d, e⟩ | ⟨a, b, r', d, d', rfl, e⟩⟩ := pushS_ok h
  · rw [e]; unfold degPush; rw [if_pos d]; rfl
  · rw [e]; unfold degPush; rw [if_neg (by omega), if_pos d]; rfl
  · rw [e]; unfold degPush; rw [if_neg d, if_neg d']; rfl
theorem degS_under {cols : Int} {nx : Bool} (r : List Nat) : ∀ {l : List Opn} {st : List Nat} {wo : Nat}, (runS cols nx l st wo).1 = 0 → degS l (st ++ r) = (runS cols nx l st wo).2.1 ++ r
  | [], st, wo, _ => rfl
  | o :: l, st, wo, h => by
    rw [runS] at h
    by_cases c : (stepS cols nx o st).1 ≠ 0
    · rw [if_pos c] at h; exact absurd h c
    · rw [if_neg c] at h
      obtain ⟨h1, h2, h3⟩ := stepS_ok (show (stepS cols nx o st).1 = 0 by simpa using c)
      rw [runS, if_neg c, degS_cons, degPush_under r h1]
      rw [h3] at h ⊢
      exact degS_under r h
theorem checkB_deg {l : List Opn} {cols : Int} {nx : Bool} {d : Nat} (h : checkB l cols nx = (d, 0)) (r : List Nat) : degS l r = d :: r := by
  obtain ⟨_, h2, h3, _⟩ := checkB_ok h
  have := degS_under r h2
  rw [h3] at this
  exact this
theorem checkB_degO {l : List Opn} {cols : Int} {nx : Bool} {d : Nat} (h : checkB l cols nx = (d, 0)) : degO l = d := by unfold degO; rw [checkB_deg h []]; rfl
theorem step_deg {l : List Opn} {cols : Int} {nx : Bool} {d : Nat} (i : Nat) (h : checkB l cols nx = (d, 0)) : degS (stepO i l) [] = [max 1 d] := by
  unfold stepO
  rw [degS_cons, show degPush (2, (i : Int)) [] = [1] from rfl, degS_app, checkB_deg h [1]]
  rfl
/-! Heights: no operation lacks what it takes. -/
def Fine : List Opn → Nat → Prop
  | [], h => h = 1
  | o :: l, h => if o.1 = 1 ∨ o.1 = 2 ∨ o.1 = 3 then Fine l (h + 1) else 2 ≤ h ∧ Fine l (h - 1)
theorem fine_run {cols : Int} {nx : Bool} {m : List Opn} (k : Nat) : ∀ {l : List Opn} {st : List Nat} {wo : Nat}, (runS cols nx l st wo).1 = 0 → Fine m ((runS cols nx l st wo).2.1.length + k) → Fine (l ++ m) (st.length + k)
  | [], st, wo, _, hm => hm
  | o :: l, st, wo, h, hm => by
    rw [runS] at h hm
    by_cases c : (stepS cols nx o st).1 ≠ 0
    · rw [if_pos c] at h; exact absurd h c
    · rw [if_neg c] at h hm
      obtain ⟨h1, h2, h3⟩ := stepS_ok (show (stepS cols nx o st).1 = 0 by simpa using c)
      rw [h3] at h hm
      have ih := fine_run k h hm
      rw [List.cons_append, Fine]
      obtain ⟨_, _, ⟨d, _, e⟩ | ⟨d, e⟩ | ⟨a, b, r, d, d', rfl, e⟩⟩ := pushS_ok h1
      · rw [if_pos (by omega)]
        rw [e] at ih
        simpa [Nat.add_right_comm] using ih
      · rw [if_pos (by omega)]
        rw [e] at ih
        simpa [Nat.add_right_comm] using ih
      · rw [if_neg (by omega)]
        rw [e] at ih
        refine ⟨by simp only [List.length_cons]; omega, ?_⟩
        have e2 : (b :: a :: r).length + k - 1 = r.length + 1 + k := by simp only [List.length_cons]; omega
        rw [e2]
        simpa using ih
theorem checkB_fine {l : List Opn} {cols : Int} {nx : Bool} {d : Nat} (h : checkB l cols nx = (d, 0)) : Fine l 0 := by
  obtain ⟨_, h2, h3, _⟩ := checkB_ok h
  have := fine_run (m := []) 0 h2 (by rw [h3]; rfl)
  simpa using this
theorem step_fine {l : List Opn} {cols : Int} {nx : Bool} {d : Nat} (i : Nat) (h : checkB l cols nx = (d, 0)) : Fine (stepO i l) 0 := by
  obtain ⟨_, h2, h3, _⟩ := checkB_ok h
  have := fine_run (m := [(5, 0)]) 1 h2 (by rw [h3]; exact ⟨by simp, rfl⟩)
  unfold stepO
  rw [Fine, if_pos (by simp)]
  simpa using this
/-- Each of all rules, of one that may be. -/
theorem AirP.rule_ok {A : AirP} (h : A.all.2 = 0) {i : Nat} (hi : i < A.count) : ∃ l d, parseB (A.text i) = (l, 0) ∧ checkB l A.cols (decide (¬ i < A.steps.length)) = (d, 0) ∧ A.all.1.getD i [] = A.form i l ∧ degS (A.form i l) [] = [if i < A.steps.length then max 1 d else d] ∧ Fine (A.form i l) 0 ∧ l.length ≤ 256 := by
  obtain ⟨_, h2⟩ := AirP.all_ok h
  rw [h2] at h ⊢
  obtain ⟨_, h3⟩ := AirP.upto_len h
  obtain ⟨h4, h5⟩ := h3 i hi
  obtain ⟨l, d, p1, p2, p3⟩ := ruleB_inv h4
  have e : (A.one i).1 = l := congrArg Prod.fst p3
  rw [e] at h5
  refine ⟨l, d, p1, p2, h5, ?_, ?_, (checkB_ok p2).1⟩
  · unfold AirP.form
    split
    · exact step_deg i p2
    · exact checkB_deg p2 []
  · unfold AirP.form
    split
    · exact step_fine i p2
    · exact checkB_fine p2
theorem AirP.all_len {A : AirP} (h : A.all.2 = 0) : A.all.1.length = A.count := by
  obtain ⟨_, h2⟩ := AirP.all_ok h
  rw [h2] at h ⊢
  exact (AirP.upto_len h).1
/-! ### Its bytes -/
section
variable {α : Type}
def textB (t : ByteArray) : ByteArray := eightB t.size ++ t
def placeB (b : Int × Int) : ByteArray := rowB [b.1, b.2]
def AirP.head (A : AirP) : List Int := [A.cols, A.log, A.steps.length, A.rules.length, A.bounds.length]
def addB (f : α → ByteArray) (s : ByteArray) (l : List α) : ByteArray := l.foldl (fun s t => s ++ f t) s
def AirP.print (A : AirP) : ByteArray := addB placeB (addB textB (addB textB (rowB A.head) A.steps) A.rules) A.bounds
abbrev Rest := ByteArray × Bool
def numR (m : Int) (r : Rest) : Int × Rest := if r.2 = true ∨ r.1.size < 8 ∨ m < numB r.1 0 then (0, (r.1, true)) else (numB r.1 0, (r.1.extract 8 r.1.size, false))
def textR (m : Int) (r : Rest) : ByteArray × Rest := if (numR m r).2.2 = true ∨ ((numR m r).2.1.size : Int) < (numR m r).1 then (noText, ((numR m r).2.1, true)) else ((numR m r).2.1.extract 0 (numR m r).1.toNat, ((numR m r).2.1.extract (numR m r).1.toNat (numR m r).2.1.size, false))
def placeR (r : Rest) : (Int × Int) × Rest := (((numR 8 r).1, (numR 1024 (numR 8 r).2).1), (numR 1024 (numR 8 r).2).2)
def manyR (f : Rest → α × Rest) (r : Rest) : Nat → List α × Rest
  | 0 => ([], r)
  | k + 1 => ((manyR f r k).1 ++ [(f (manyR f r k).2).1], (f (manyR f r k).2).2)
theorem manyR_len (f : Rest → α × Rest) (r : Rest) : ∀ k, (manyR f r k).1.length = k
  | 0 => rfl
  | k + 1 => by rw [manyR, List.length_append, manyR_len f r k]; rfl
end
structure Heads where
  c : Int
  l : Int
  s : Int
  r : Int
  b : Int
def headR (r : Rest) : Heads × Rest :=
  (⟨(numR 8 r).1, (numR 10 (numR 8 r).2).1, (numR 8 (numR 10 (numR 8 r).2).2).1, (numR 16 (numR 8 (numR 10 (numR 8 r).2).2).2).1, (numR 16 (numR 16 (numR 8 (numR 10 (numR 8 r).2).2).2).2).1⟩, (numR 16 (numR 16 (numR 8 (numR 10 (numR 8 r).2).2).2).2).2)
/-- What is read of the bytes, whatever they are. -/
def readA (s : ByteArray) : AirP × Rest :=
  (⟨(headR (s, false)).1.c, (headR (s, false)).1.l, (manyR (textR 4096) (headR (s, false)).2 (headR (s, false)).1.s.toNat).1, (manyR (textR 4096) (manyR (textR 4096) (headR (s, false)).2 (headR (s, false)).1.s.toNat).2 (headR (s, false)).1.r.toNat).1,
     (manyR placeR (manyR (textR 4096) (manyR (textR 4096) (headR (s, false)).2 (headR (s, false)).1.s.toNat).2 (headR (s, false)).1.r.toNat).2 (headR (s, false)).1.b.toNat).1⟩,
   (manyR placeR (manyR (textR 4096) (manyR (textR 4096) (headR (s, false)).2 (headR (s, false)).1.s.toNat).2 (headR (s, false)).1.r.toNat).2 (headR (s, false)).1.b.toNat).2)
def parseA (s : ByteArray) : AirP × Int := if (readA s).2.2 = true ∨ (readA s).2.1.size ≠ 0 then (airZ, 2) else if (readA s).1.check ≠ 0 then (airZ, (readA s).1.check) else ((readA s).1, 0)
end Go.Proofs.Ytckipfcjgmiacaa
