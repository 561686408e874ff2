/-
  AirM: What rows must keep: plain.
  AirBack: What rows must keep, and its bytes: there and back.
  AirW: What rows must keep, in memory; what is asked of the program's calls of layer 18.
  AirRef: What the document's Size and Rules of layer 18 come to. (Written by gen_airref.py.)
  AirRefC: What the document's Check of layer 18 comes to.
  AirRefD: What the document's Degree and Parts of layer 18 come to. (Written by gen_airdeg.py.)
  AirRefP: What the document's Parts, text and Print of layer 18 come to. (Written by gen_airprint.py.)
-/
import Derived.Test.YtjcgakmhpblanaaGShape
import Derived.Test.YtjcgakmhpblanaaGCode
import Derived.Test.YtjcgakmhpblanaaSpongeM
import Derived.Test.YtjcgakmhpblanaaGRow
import Derived.Deep.Onto
import Derived.BigQuiet
import Derived.Test.YtjcgakmhpblanaaGNum
import Derived.Test.YtjcgakmhpblanaaGOct
namespace Go.Proofs.Ytjcgakmhpblanaa
open Go Go.RowKit
set_option linter.unusedVariables false

abbrev noText : ByteArray := ⟨#[]⟩
structure AirP where
  cols : Int
  log : Int
  steps : List ByteArray
  rules : List ByteArray
  bounds : List (Int × Int)
def airZ : AirP := ⟨0, 0, [], [], []⟩
abbrev Told := List Opn × Int
/-- A text's operations, if they may be of so many columns. -/
def ruleB (s : ByteArray) (cols : Int) (nx : Bool) : Told :=
  if (parseB s).2 ≠ 0 then ([], (parseB s).2) else if (checkB (parseB s).1 cols nx).2 ≠ 0 then ([], (checkB (parseB s).1 cols nx).2) else ((parseB s).1, 0)
theorem ruleB_parse {s : ByteArray} {cols : Int} {nx : Bool} {l : List Opn} {e : Int} (h : parseB s = (l, e)) (he : e ≠ 0) : ruleB s cols nx = ([], e) := by unfold ruleB; rw [h, if_pos he]
theorem ruleB_check {s : ByteArray} {cols : Int} {nx : Bool} {l : List Opn} {d : Nat} {e : Int} (h : parseB s = (l, 0)) (hc : checkB l cols nx = (d, e)) (he : e ≠ 0) : ruleB s cols nx = ([], e) := by unfold ruleB; rw [h, if_neg (by simp)]; simp only; rw [hc, if_pos he]
theorem ruleB_ok {s : ByteArray} {cols : Int} {nx : Bool} {l : List Opn} {d : Nat} (h : parseB s = (l, 0)) (hc : checkB l cols nx = (d, 0)) : ruleB s cols nx = (l, 0) := by unfold ruleB; rw [h, if_neg (by simp)]; simp only; rw [hc, if_neg (by simp)]
theorem ruleB_inv {s : ByteArray} {cols : Int} {nx : Bool} (h : (ruleB s cols nx).2 = 0) : ∃ l d, parseB s = (l, 0) ∧ checkB l cols nx = (d, 0) ∧ ruleB s cols nx = (l, 0) := by
  by_cases c : (parseB s).2 = 0
  · have hp : parseB s = ((parseB s).1, 0) := Prod.ext rfl c
    by_cases d : (checkB (parseB s).1 cols nx).2 = 0
    · have hc : checkB (parseB s).1 cols nx = ((checkB (parseB s).1 cols nx).1, 0) := Prod.ext rfl d
      exact ⟨_, _, hp, hc, ruleB_ok hp hc⟩
    · have hc : checkB (parseB s).1 cols nx = ((checkB (parseB s).1 cols nx).1, (checkB (parseB s).1 cols nx).2) := rfl
      rw [ruleB_check hp hc d] at h
      exact absurd h d
  · have hp : parseB s = ((parseB s).1, (parseB s).2) := rfl
    rw [ruleB_parse hp c] at h
    exact absurd h c
def stepO (i : Nat) (l : List Opn) : List Opn := (2, (i : Int)) :: (l ++ [(5, 0)])
def AirP.text (A : AirP) (i : Nat) : ByteArray := if i < A.steps.length then A.steps.getD i noText else A.rules.getD (i - A.steps.length) noText
def AirP.form (A : AirP) (i : Nat) (l : List Opn) : List Opn := if i < A.steps.length then stepO i l else l
/-- The i-th of all rules. -/
def AirP.one (A : AirP) (i : Nat) : Told := ruleB (A.text i) A.cols (decide (¬ i < A.steps.length))
def AirP.upto (A : AirP) : Nat → List (List Opn) × Int
  | 0 => ([], 0)
  | k + 1 => if (A.upto k).2 ≠ 0 then ([], (A.upto k).2) else if (A.one k).2 ≠ 0 then ([], (A.one k).2) else ((A.upto k).1 ++ [A.form k (A.one k).1], 0)
def AirP.count (A : AirP) : Nat := A.steps.length + A.rules.length
def AirP.fits (A : AirP) : Prop := 1 ≤ A.cols ∧ A.cols ≤ 8 ∧ (A.steps.length = 0 ∨ (A.steps.length : Int) = A.cols) ∧ A.rules.length ≤ 16
instance (A : AirP) : Decidable A.fits := by unfold AirP.fits; infer_instance
/-- All its rules, or the error. -/
def AirP.all (A : AirP) : List (List Opn) × Int := if A.fits then A.upto A.count else ([], 1)
theorem AirP.upto_go {A : AirP} {k : Nat} {ls : List (List Opn)} {l : List Opn} (h : A.upto k = (ls, 0)) (h1 : A.one k = (l, 0)) : A.upto (k + 1) = (ls ++ [A.form k l], 0) := by
  rw [AirP.upto, h, h1, if_neg (by simp), if_neg (by simp)]
theorem AirP.upto_err {A : AirP} {k : Nat} {ls : List (List Opn)} {l : List Opn} {e : Int} (h : A.upto k = (ls, 0)) (h1 : A.one k = (l, e)) (he : e ≠ 0) : A.upto (k + 1) = ([], e) := by
  rw [AirP.upto, h, h1, if_neg (by simp), if_pos he]
theorem AirP.upto_stop {A : AirP} {k : Nat} {e : Int} (h : A.upto k = ([], e)) (he : e ≠ 0) : ∀ {n : Nat}, k ≤ n → A.upto n = ([], e) := by
  intro n hn
  obtain ⟨m, rfl⟩ : ∃ m, n = k + m := ⟨n - k, by omega⟩
  clear hn
  induction m with
  | zero => exact h
  | succ m ih => rw [Nat.add_succ, AirP.upto, ih, if_pos he]
theorem AirP.upto_nil {A : AirP} : ∀ {k : Nat}, (A.upto k).2 ≠ 0 → (A.upto k).1 = []
  | 0, h => absurd rfl h
  | k + 1, h => by
    rw [AirP.upto] at h ⊢
    split
    · rfl
    · next c =>
      rw [if_neg c] at h
      split
      · rfl
      · next d => rw [if_neg d] at h; exact absurd rfl h
theorem AirP.upto_len {A : AirP} : ∀ {k : Nat}, (A.upto k).2 = 0 → (A.upto k).1.length = k ∧ ∀ i, i < k → (A.one i).2 = 0 ∧ (A.upto k).1.getD i [] = A.form i (A.one i).1
  | 0, h => ⟨rfl, fun i hi => by omega⟩
  | k + 1, h => by
    rw [AirP.upto] at h ⊢
    by_cases c : (A.upto k).2 ≠ 0
    · rw [if_pos c] at h; exact absurd h c
    · rw [if_neg c] at h ⊢
      obtain ⟨h1, h2⟩ := AirP.upto_len (k := k) (by simpa using c)
      by_cases d : (A.one k).2 ≠ 0
      · rw [if_pos d] at h; exact absurd h d
      · rw [if_neg d]
        refine ⟨by simp [h1], fun i hi => ?_⟩
        by_cases e : i = k
        · subst e
          exact ⟨by simpa using d, by simp [List.getD, h1]⟩
        · obtain ⟨h3, h4⟩ := h2 i (by omega)
          refine ⟨h3, ?_⟩
          rw [← h4]
          simp only [List.getD]
          rw [List.getElem?_append_left (by omega)]
theorem AirP.all_stop {A : AirP} {k : Nat} {e : Int} (hf : A.fits) (h : A.upto k = ([], e)) (he : e ≠ 0) (hk : k ≤ A.count) : A.all = ([], e) := by unfold AirP.all; rw [if_pos hf, A.upto_stop h he hk]
theorem AirP.all_nil {A : AirP} (h : A.all.2 ≠ 0) : A.all.1 = [] := by
  unfold AirP.all at h ⊢
  split
  · next c => rw [if_pos c] at h; exact AirP.upto_nil h
  · rfl
theorem AirP.all_ok {A : AirP} (h : A.all.2 = 0) : A.fits ∧ A.all = A.upto A.count := by
  unfold AirP.all at h ⊢
  by_cases c : A.fits
  · exact ⟨c, by rw [if_pos c]⟩
  · rw [if_neg c] at h; cases h
/-! ### May it be? -/
def AirP.bound (A : AirP) (i : Nat) : Int × Int := A.bounds.getD i (0, 0)
def AirP.size (A : AirP) : Int := ((2 ^ A.log.toNat : Nat) : Int)
def AirP.okAt (A : AirP) (i : Nat) : Prop := (0 ≤ (A.bound i).1 ∧ (A.bound i).1 < A.cols ∧ 0 ≤ (A.bound i).2 ∧ (A.bound i).2 < A.size) ∧ ∀ k, k < i → A.bound k ≠ A.bound i
instance (A : AirP) (i : Nat) : Decidable (A.okAt i) := by unfold AirP.okAt; infer_instance
def AirP.places (A : AirP) : Prop := ∀ i, i < A.bounds.length → A.okAt i
instance (A : AirP) : Decidable A.places := by unfold AirP.places; infer_instance
def AirP.near (A : AirP) : Prop := 0 ≤ A.log ∧ A.log ≤ 10 ∧ A.bounds.length ≤ 16
instance (A : AirP) : Decidable A.near := by unfold AirP.near; infer_instance
def AirP.check (A : AirP) : Int := if A.near then (if A.all.2 ≠ 0 then A.all.2 else if A.places then 0 else 1) else 1
theorem AirP.check_ok {A : AirP} (h : A.check = 0) : A.near ∧ A.fits ∧ A.all = A.upto A.count ∧ (A.upto A.count).2 = 0 ∧ A.places := by
  unfold AirP.check at h
  by_cases c : A.near
  · rw [if_pos c] at h
    by_cases d : A.all.2 ≠ 0
    · rw [if_pos d] at h; exact absurd h d
    · rw [if_neg d] at h
      have d0 : A.all.2 = 0 := by simpa using d
      obtain ⟨h1, h2⟩ := AirP.all_ok d0
      by_cases e : A.places
      · exact ⟨c, h1, h2, by rw [← h2]; exact d0, e⟩
      · rw [if_neg e] at h; cases h
  · rw [if_neg c] at h; cases h
theorem AirP.check_is {A : AirP} (h1 : A.near) (h2 : A.all.2 = 0) (h3 : A.places) : A.check = 0 := by unfold AirP.check; rw [if_pos h1, if_neg (by simp [h2]), if_pos h3]
theorem AirP.check_far {A : AirP} (h : ¬ A.near) : A.check = 1 := by unfold AirP.check; rw [if_neg h]
theorem AirP.check_rules {A : AirP} (h1 : A.near) {e : Int} (h2 : A.all.2 = e) (he : e ≠ 0) : A.check = e := by unfold AirP.check; rw [if_pos h1, if_pos (by rw [h2]; exact he), h2]
theorem AirP.check_places {A : AirP} (h1 : A.near) (h2 : A.all.2 = 0) (h3 : ¬ A.places) : A.check = 1 := by unfold AirP.check; rw [if_pos h1, if_neg (by simp [h2]), if_neg h3]
theorem AirP.size_bd {A : AirP} (h : A.near) : 1 ≤ A.size ∧ A.size ≤ 1024 := by
  have h1 : 2 ^ A.log.toNat ≤ 2 ^ 10 := Nat.pow_le_pow_right (by decide) (by have := h.2.1; omega)
  have h0 : 0 < 2 ^ A.log.toNat := Nat.pow_pos (by decide)
  unfold AirP.size
  simp only [show (2 : Nat) ^ 10 = 1024 by decide] at h1
  omega
/-! ### Its degree -/
def degPush (o : Opn) (st : List Nat) : List Nat := if o.1 = 1 ∨ o.1 = 2 then 1 :: st else if o.1 = 3 then 0 :: st else match st with
  | b :: a :: r => (if o.1 = 6 then a + b else max a b) :: r
  | _ => st
def degS (l : List Opn) (st : List Nat) : List Nat := l.foldl (fun st o => degPush o st) st
def degO (l : List Opn) : Nat := topS (degS l [])
def degMax (ls : List (List Opn)) : Nat := ls.foldl (fun n l => max n (degO l)) 1
def AirP.degree (A : AirP) : Nat := degMax A.all.1
def AirP.parts (A : AirP) : Nat := max 1 (A.degree - 1)
theorem degS_cons (o : Opn) (l : List Opn) (st : List Nat) : degS (o :: l) st = degS l (degPush o st) := rfl
theorem degS_app (l m : List Opn) (st : List Nat) : degS (l ++ m) st = degS m (degS l st) := by unfold degS; rw [List.foldl_append]
theorem degMax_snoc (ls : List (List Opn)) (l : List Opn) : degMax (ls ++ [l]) = max (degMax ls) (degO l) := by unfold degMax; rw [List.foldl_append]; rfl
theorem degPush_under {cols : Int} {nx : Bool} {o : Opn} {st : List Nat} (r : List Nat) (h : (pushS cols nx o st).1 = 0) : degPush o (st ++ r) = (pushS cols nx o st).2 ++ r := by
  obtain ⟨h1, h2, ⟨d, h4, e⟩ | ⟨d, e⟩ | ⟨a, b, r', d, d', rfl, e⟩⟩ := pushS_ok h
  · rw [e]; unfold degPush; rw [if_pos d]; rfl
  · rw [e]; unfold degPush; rw [if_neg (by omega), if_pos d]; rfl
  · rw [e]; unfold degPush; rw [if_neg d, if_neg d']; rfl
theorem degS_under {cols : Int} {nx : Bool} (r : List Nat) : ∀ {l : List Opn} {st : List Nat} {wo : Nat}, (runS cols nx l st wo).1 = 0 → degS l (st ++ r) = (runS cols nx l st wo).2.1 ++ r
  | [], st, wo, _ => rfl
  | o :: l, st, wo, h => by
    rw [runS] at h
    by_cases c : (stepS cols nx o st).1 ≠ 0
    · rw [if_pos c] at h; exact absurd h c
    · rw [if_neg c] at h
      obtain ⟨h1, h2, h3⟩ := stepS_ok (show (stepS cols nx o st).1 = 0 by simpa using c)
      rw [runS, if_neg c, degS_cons, degPush_under r h1]
      rw [h3] at h ⊢
      exact degS_under r h
theorem checkB_deg {l : List Opn} {cols : Int} {nx : Bool} {d : Nat} (h : checkB l cols nx = (d, 0)) (r : List Nat) : degS l r = d :: r := by
  obtain ⟨_, h2, h3, _⟩ := checkB_ok h
  have := degS_under r h2
  rw [h3] at this
  exact this
theorem checkB_degO {l : List Opn} {cols : Int} {nx : Bool} {d : Nat} (h : checkB l cols nx = (d, 0)) : degO l = d := by unfold degO; rw [checkB_deg h []]; rfl
theorem step_deg {l : List Opn} {cols : Int} {nx : Bool} {d : Nat} (i : Nat) (h : checkB l cols nx = (d, 0)) : degS (stepO i l) [] = [max 1 d] := by
  unfold stepO
  rw [degS_cons, show degPush (2, (i : Int)) [] = [1] from rfl, degS_app, checkB_deg h [1]]
  rfl
/-! Heights: no operation lacks what it takes. -/
def Fine : List Opn → Nat → Prop
  | [], h => h = 1
  | o :: l, h => if o.1 = 1 ∨ o.1 = 2 ∨ o.1 = 3 then Fine l (h + 1) else 2 ≤ h ∧ Fine l (h - 1)
theorem fine_run {cols : Int} {nx : Bool} {m : List Opn} (k : Nat) : ∀ {l : List Opn} {st : List Nat} {wo : Nat}, (runS cols nx l st wo).1 = 0 → Fine m ((runS cols nx l st wo).2.1.length + k) → Fine (l ++ m) (st.length + k)
  | [], st, wo, _, hm => hm
  | o :: l, st, wo, h, hm => by
    rw [runS] at h hm
    by_cases c : (stepS cols nx o st).1 ≠ 0
    · rw [if_pos c] at h; exact absurd h c
    · rw [if_neg c] at h hm
      obtain ⟨h1, h2, h3⟩ := stepS_ok (show (stepS cols nx o st).1 = 0 by simpa using c)
      rw [h3] at h hm
      have ih := fine_run k h hm
      rw [List.cons_append, Fine]
      obtain ⟨_, _, ⟨d, _, e⟩ | ⟨d, e⟩ | ⟨a, b, r, d, d', rfl, e⟩⟩ := pushS_ok h1
      · rw [if_pos (by omega)]
        rw [e] at ih
        simpa [Nat.add_right_comm] using ih
      · rw [if_pos (by omega)]
        rw [e] at ih
        simpa [Nat.add_right_comm] using ih
      · rw [if_neg (by omega)]
        rw [e] at ih
        refine ⟨by simp only [List.length_cons]; omega, ?_⟩
        have e2 : (b :: a :: r).length + k - 1 = r.length + 1 + k := by simp only [List.length_cons]; omega
        rw [e2]
        simpa using ih
theorem checkB_fine {l : List Opn} {cols : Int} {nx : Bool} {d : Nat} (h : checkB l cols nx = (d, 0)) : Fine l 0 := by
  obtain ⟨_, h2, h3, _⟩ := checkB_ok h
  have := fine_run (m := []) 0 h2 (by rw [h3]; rfl)
  simpa using this
theorem step_fine {l : List Opn} {cols : Int} {nx : Bool} {d : Nat} (i : Nat) (h : checkB l cols nx = (d, 0)) : Fine (stepO i l) 0 := by
  obtain ⟨_, h2, h3, _⟩ := checkB_ok h
  have := fine_run (m := [(5, 0)]) 1 h2 (by rw [h3]; exact ⟨by simp, rfl⟩)
  unfold stepO
  rw [Fine, if_pos (by simp)]
  simpa using this
/-- Each of all rules, of one that may be. -/
theorem AirP.rule_ok {A : AirP} (h : A.all.2 = 0) {i : Nat} (hi : i < A.count) : ∃ l d, parseB (A.text i) = (l, 0) ∧ checkB l A.cols (decide (¬ i < A.steps.length)) = (d, 0) ∧ A.all.1.getD i [] = A.form i l ∧ degS (A.form i l) [] = [if i < A.steps.length then max 1 d else d] ∧ Fine (A.form i l) 0 ∧ l.length ≤ 256 := by
  obtain ⟨_, h2⟩ := AirP.all_ok h
  rw [h2] at h ⊢
  obtain ⟨_, h3⟩ := AirP.upto_len h
  obtain ⟨h4, h5⟩ := h3 i hi
  obtain ⟨l, d, p1, p2, p3⟩ := ruleB_inv h4
  have e : (A.one i).1 = l := congrArg Prod.fst p3
  rw [e] at h5
  refine ⟨l, d, p1, p2, h5, ?_, ?_, (checkB_ok p2).1⟩
  · unfold AirP.form
    split
    · exact step_deg i p2
    · exact checkB_deg p2 []
  · unfold AirP.form
    split
    · exact step_fine i p2
    · exact checkB_fine p2
theorem AirP.all_len {A : AirP} (h : A.all.2 = 0) : A.all.1.length = A.count := by
  obtain ⟨_, h2⟩ := AirP.all_ok h
  rw [h2] at h ⊢
  exact (AirP.upto_len h).1
/-! ### Its bytes -/
section
variable {α : Type}
def textB (t : ByteArray) : ByteArray := eightB t.size ++ t
def placeB (b : Int × Int) : ByteArray := rowB [b.1, b.2]
def AirP.head (A : AirP) : List Int := [A.cols, A.log, A.steps.length, A.rules.length, A.bounds.length]
def addB (f : α → ByteArray) (s : ByteArray) (l : List α) : ByteArray := l.foldl (fun s t => s ++ f t) s
def AirP.print (A : AirP) : ByteArray := addB placeB (addB textB (addB textB (rowB A.head) A.steps) A.rules) A.bounds
abbrev Rest := ByteArray × Bool
def numR (m : Int) (r : Rest) : Int × Rest := if r.2 = true ∨ r.1.size < 8 ∨ m < numB r.1 0 then (0, (r.1, true)) else (numB r.1 0, (r.1.extract 8 r.1.size, false))
def textR (m : Int) (r : Rest) : ByteArray × Rest := if (numR m r).2.2 = true ∨ ((numR m r).2.1.size : Int) < (numR m r).1 then (noText, ((numR m r).2.1, true)) else ((numR m r).2.1.extract 0 (numR m r).1.toNat, ((numR m r).2.1.extract (numR m r).1.toNat (numR m r).2.1.size, false))
def placeR (r : Rest) : (Int × Int) × Rest := (((numR 8 r).1, (numR 1024 (numR 8 r).2).1), (numR 1024 (numR 8 r).2).2)
def manyR (f : Rest → α × Rest) (r : Rest) : Nat → List α × Rest
  | 0 => ([], r)
  | k + 1 => ((manyR f r k).1 ++ [(f (manyR f r k).2).1], (f (manyR f r k).2).2)
theorem manyR_len (f : Rest → α × Rest) (r : Rest) : ∀ k, (manyR f r k).1.length = k
  | 0 => rfl
  | k + 1 => by rw [manyR, List.length_append, manyR_len f r k]; rfl
end
structure Heads where
  c : Int
  l : Int
  s : Int
  r : Int
  b : Int
def headR (r : Rest) : Heads × Rest :=
  (⟨(numR 8 r).1, (numR 10 (numR 8 r).2).1, (numR 8 (numR 10 (numR 8 r).2).2).1, (numR 16 (numR 8 (numR 10 (numR 8 r).2).2).2).1, (numR 16 (numR 16 (numR 8 (numR 10 (numR 8 r).2).2).2).2).1⟩, (numR 16 (numR 16 (numR 8 (numR 10 (numR 8 r).2).2).2).2).2)
/-- What is read of the bytes, whatever they are. -/
def readA (s : ByteArray) : AirP × Rest :=
  (⟨(headR (s, false)).1.c, (headR (s, false)).1.l, (manyR (textR 4096) (headR (s, false)).2 (headR (s, false)).1.s.toNat).1, (manyR (textR 4096) (manyR (textR 4096) (headR (s, false)).2 (headR (s, false)).1.s.toNat).2 (headR (s, false)).1.r.toNat).1,
     (manyR placeR (manyR (textR 4096) (manyR (textR 4096) (headR (s, false)).2 (headR (s, false)).1.s.toNat).2 (headR (s, false)).1.r.toNat).2 (headR (s, false)).1.b.toNat).1⟩,
   (manyR placeR (manyR (textR 4096) (manyR (textR 4096) (headR (s, false)).2 (headR (s, false)).1.s.toNat).2 (headR (s, false)).1.r.toNat).2 (headR (s, false)).1.b.toNat).2)
def parseA (s : ByteArray) : AirP × Int := if (readA s).2.2 = true ∨ (readA s).2.1.size ≠ 0 then (airZ, 2) else if (readA s).1.check ≠ 0 then (airZ, (readA s).1.check) else ((readA s).1, 0)
end Go.Proofs.Ytjcgakmhpblanaa
namespace Go.Proofs.Ytjcgakmhpblanaa
open Go Go.RowKit
set_option linter.unusedVariables false

theorem extract_right (a b : ByteArray) : (a ++ b).extract a.size (a ++ b).size = b := by
  refine byt_ext _ _ (by rw [ByteArray.size_extract, ByteArray.size_append]; omega) fun j hj => ?_
  rw [ByteArray.size_extract, ByteArray.size_append] at hj
  rw [byt_extract _ _ _ _ (Nat.le_refl _) (by rw [ByteArray.size_append]; omega), byt_append, if_neg (by omega)]
  congr 1
  omega
theorem extract_left (a b : ByteArray) : (a ++ b).extract 0 a.size = a := by
  refine byt_ext _ _ (by rw [ByteArray.size_extract, ByteArray.size_append]; omega) fun j hj => ?_
  rw [ByteArray.size_extract, ByteArray.size_append] at hj
  rw [byt_extract _ _ _ _ (by rw [ByteArray.size_append]; omega) (by omega), byt_append, if_pos (by omega), Nat.zero_add]
theorem extract_both (s : ByteArray) (k : Nat) (h : k ≤ s.size) : s.extract 0 k ++ s.extract k s.size = s := by
  refine byt_ext _ _ (by rw [ByteArray.size_append, ByteArray.size_extract, ByteArray.size_extract]; omega) fun j hj => ?_
  rw [ByteArray.size_append, ByteArray.size_extract, ByteArray.size_extract] at hj
  rw [byt_append, ByteArray.size_extract]
  by_cases c : j < k
  · rw [if_pos (by omega), byt_extract _ _ _ _ (by omega) (by omega), Nat.zero_add]
  · rw [if_neg (by omega), byt_extract _ _ _ _ (Nat.le_refl _) (by omega)]
    congr 1
    omega
theorem no_append (s : ByteArray) : noText ++ s = s := by
  refine byt_ext _ _ (by rw [ByteArray.size_append]; show 0 + s.size = s.size; omega) fun j hj => ?_
  rw [byt_append, if_neg (by show ¬ j < 0; omega)]
  rfl
theorem append_no (s : ByteArray) : s ++ noText = s := by
  refine byt_ext _ _ (by rw [ByteArray.size_append]; show s.size + 0 = s.size; omega) fun j hj => ?_
  rw [ByteArray.size_append] at hj
  rw [byt_append, if_pos (by have : noText.size = 0 := rfl; omega)]
theorem app3 (a b c : ByteArray) : a ++ b ++ c = a ++ (b ++ c) := by
  refine byt_ext _ _ (by simp only [ByteArray.size_append]; omega) fun j hj => ?_
  simp only [byt_append, ByteArray.size_append]
  by_cases c1 : j < a.size
  · rw [if_pos (by omega), if_pos c1, if_pos c1]
  · by_cases c2 : j < a.size + b.size
    · rw [if_pos c2, if_neg c1, if_neg c1, if_pos (by omega)]
    · rw [if_neg c2, if_neg c1, if_neg (by omega), Nat.sub_sub]
theorem arowB_one (n : Int) : rowB [n] = eightB n := by
  show noText ++ eightB n = _
  exact no_append _
theorem rowB_cons (n : Int) (l : List Int) : rowB (n :: l) = eightB n ++ rowB l := by rw [← arowB_one, rowB_append]; rfl
theorem num_head (n : Int) (s : ByteArray) (hn : U n) : numB (eightB n ++ s) 0 = n := by
  have h := numP_oct n hn
  rw [← h]
  unfold numB
  refine numP_ext fun j hj => ?_
  show byt _ (0 + j) = _
  rw [Nat.zero_add, byt_append, if_pos (by rw [eightB_size]; exact hj), byt_eight _ _ hj]
  rw [h]
theorem num_eight (s : ByteArray) (h : 8 ≤ s.size) : eightB (numB s 0) = s.extract 0 8 := by
  refine byt_ext _ _ (by rw [eightB_size, ByteArray.size_extract]; omega) fun j hj => ?_
  rw [eightB_size] at hj
  rw [byt_eight _ _ hj, byt_extract _ _ _ _ h (by omega)]
  unfold numB
  exact oct_numP (fun j => byt_bd s (0 + j)) j hj
/-! ### There -/
theorem numR_yes {n m : Int} (s : ByteArray) (h0 : 0 ≤ n) (h1 : n ≤ m) (hm : m < 18446744073709551616) : numR m (eightB n ++ s, false) = (n, (s, false)) := by
  have hu : U n := by unfold U; omega
  have e := num_head n s hu
  unfold numR
  simp only [e]
  rw [if_neg (by
    rintro (h | h | h)
    · cases h
    · rw [ByteArray.size_append, eightB_size] at h; omega
    · omega)]
  have := extract_right (eightB n) s
  rw [eightB_size] at this
  rw [this]
theorem textR_yes {t : ByteArray} {m : Int} (s : ByteArray) (h : (t.size : Int) ≤ m) (hm : m < 18446744073709551616) : textR m (textB t ++ s, false) = (t, (s, false)) := by
  unfold textR textB
  rw [app3, numR_yes (t ++ s) (by omega) h hm]
  simp only
  rw [if_neg (by
    rintro (h | h)
    · cases h
    · rw [ByteArray.size_append] at h; omega)]
  rw [Int.toNat_natCast, extract_left, extract_right]
theorem placeR_yes {b : Int × Int} (s : ByteArray) (h1 : 0 ≤ b.1 ∧ b.1 ≤ 8) (h2 : 0 ≤ b.2 ∧ b.2 ≤ 1024) : placeR (placeB b ++ s, false) = (b, (s, false)) := by
  unfold placeR placeB
  rw [rowB_cons, arowB_one, app3, numR_yes _ h1.1 h1.2 (by decide)]
  simp only
  rw [numR_yes _ h2.1 h2.2 (by decide)]
section
variable {α : Type}
def joinB (f : α → ByteArray) (l : List α) : ByteArray := addB f noText l
theorem addB_snoc (f : α → ByteArray) (s : ByteArray) (l : List α) (x : α) : addB f s (l ++ [x]) = addB f s l ++ f x := by unfold addB; rw [List.foldl_append]; rfl
theorem joinB_snoc (f : α → ByteArray) (l : List α) (x : α) : joinB f (l ++ [x]) = joinB f l ++ f x := addB_snoc f noText l x
theorem snoc_ind {p : List α → Prop} (h0 : p []) (h1 : ∀ l x, p l → p (l ++ [x])) : ∀ l, p l := by
  intro l
  have : ∀ n (l : List α), l.length = n → p l := by
    intro n
    induction n with
    | zero => intro l hl; rw [List.length_eq_zero_iff.mp hl]; exact h0
    | succ n ih =>
      intro l hl
      rcases List.eq_nil_or_concat l with rfl | ⟨l', x, rfl⟩
      · exact h0
      · rw [List.concat_eq_append] at hl ⊢
        refine h1 l' x (ih l' ?_)
        simpa using hl
  exact this _ l rfl
theorem addB_join (f : α → ByteArray) (s : ByteArray) : ∀ l : List α, addB f s l = s ++ joinB f l := by
  refine snoc_ind ?_ ?_
  · show s = s ++ noText
    rw [append_no]
  · intro l x ih
    rw [addB_snoc, joinB_snoc, ih, app3]
theorem manyR_yes {f : Rest → α × Rest} {g : α → ByteArray} : ∀ (l : List α), (∀ x ∈ l, ∀ s, f (g x ++ s, false) = (x, (s, false))) → ∀ s, manyR f (joinB g l ++ s, false) l.length = (l, (s, false)) := by
  refine snoc_ind ?_ ?_
  · intro _ s
    show (([] : List α), (noText ++ s, false)) = _
    rw [no_append]
  · intro l x ih h s
    rw [List.length_append, show l.length + [x].length = l.length + 1 from rfl, manyR, joinB_snoc, app3, ih (fun y hy => h y (by simp [hy]))]
    simp only
    rw [h x (by simp)]
end
theorem opN_most (o : Opn) : (opN o).length ≤ 9 := by
  rw [opN_len]
  split
  · omega
  · split <;> omega
theorem codeN_most (l : List Opn) : (codeN l).length ≤ 9 * l.length := by
  induction l with
  | nil => simp [codeN]
  | cons o l ih =>
    have := opN_most o
    simp only [codeN, List.flatMap_cons, List.length_append, List.length_cons] at *
    omega
theorem parse_size {s : ByteArray} {l : List Opn} (h : parseB s = (l, 0)) : s.size ≤ 2304 := by
  obtain ⟨h1, _, h2⟩ := parse_back h
  rw [← h1, codeB_size]
  have := codeN_most l
  omega
theorem AirP.text_size {A : AirP} (h : A.all.2 = 0) : (∀ t ∈ A.steps, t.size ≤ 2304) ∧ (∀ t ∈ A.rules, t.size ≤ 2304) := by
  refine ⟨fun t ht => ?_, fun t ht => ?_⟩
  · obtain ⟨i, hi, rfl⟩ := List.getElem_of_mem ht
    obtain ⟨l, d, h1, _⟩ := AirP.rule_ok h (i := i) (by unfold AirP.count; omega)
    unfold AirP.text at h1
    rw [if_pos hi] at h1
    have := parse_size h1
    simpa [List.getD, hi] using this
  · obtain ⟨i, hi, rfl⟩ := List.getElem_of_mem ht
    obtain ⟨l, d, h1, _⟩ := AirP.rule_ok h (i := A.steps.length + i) (by unfold AirP.count; omega)
    unfold AirP.text at h1
    rw [if_neg (by omega), show A.steps.length + i - A.steps.length = i by omega] at h1
    have := parse_size h1
    simpa [List.getD, hi] using this
theorem AirP.place_bd {A : AirP} (h : A.check = 0) : ∀ b ∈ A.bounds, (0 ≤ b.1 ∧ b.1 ≤ 8) ∧ 0 ≤ b.2 ∧ b.2 ≤ 1024 := by
  obtain ⟨h1, h2, _, _, h3⟩ := AirP.check_ok h
  intro b hb
  obtain ⟨i, hi, rfl⟩ := List.getElem_of_mem hb
  obtain ⟨⟨g1, g2, g3, g4⟩, _⟩ := h3 i hi
  have e : A.bound i = A.bounds[i] := by unfold AirP.bound; simp [List.getD, hi]
  rw [e] at g1 g2 g3 g4
  have := AirP.size_bd h1
  have := h2.2.1
  omega
theorem AirP.print_join (A : AirP) : A.print = eightB A.cols ++ (eightB A.log ++ (eightB A.steps.length ++ (eightB A.rules.length ++ (eightB A.bounds.length ++ (joinB textB A.steps ++ (joinB textB A.rules ++ (joinB placeB A.bounds ++ noText))))))) := by
  unfold AirP.print AirP.head
  rw [addB_join, addB_join, addB_join, rowB_cons, rowB_cons, rowB_cons, rowB_cons, arowB_one, append_no]
  simp only [app3]
theorem readA_print {A : AirP} (h : A.check = 0) : readA A.print = (A, (noText, false)) := by
  obtain ⟨h1, h2, h3, h4, _⟩ := AirP.check_ok h
  have h5 : A.all.2 = 0 := by rw [h3]; exact h4
  obtain ⟨t1, t2⟩ := AirP.text_size h5
  have hp := AirP.place_bd h
  obtain ⟨c0, c1, c2, c3⟩ := h2
  obtain ⟨l0, l1, l2⟩ := h1
  have hs : (A.steps.length : Int) ≤ 8 := by omega
  have e : headR (A.print, false) = (⟨A.cols, A.log, A.steps.length, A.rules.length, A.bounds.length⟩, (joinB textB A.steps ++ (joinB textB A.rules ++ (joinB placeB A.bounds ++ noText)), false)) := by
    rw [AirP.print_join]
    unfold headR
    rw [numR_yes _ (by omega) c1 (by decide)]
    simp only
    rw [numR_yes _ l0 l1 (by decide)]
    simp only
    rw [numR_yes _ (by omega) hs (by decide)]
    simp only
    rw [numR_yes _ (by omega) (by omega) (by decide)]
    simp only
    rw [numR_yes _ (by omega) (by omega) (by decide)]
  unfold readA
  rw [e]
  simp only [Int.toNat_natCast]
  rw [manyR_yes A.steps (fun t ht s => textR_yes s (by have := t1 t ht; omega) (by decide))]
  simp only
  rw [manyR_yes A.rules (fun t ht s => textR_yes s (by have := t2 t ht; omega) (by decide))]
  simp only
  rw [manyR_yes A.bounds (fun b hb s => placeR_yes s (hp b hb).1 (hp b hb).2)]
theorem parse_of_print {A : AirP} (h : A.check = 0) : parseA A.print = (A, 0) := by
  unfold parseA
  rw [readA_print h]
  simp only
  rw [if_neg (by
    rintro (h | h)
    · cases h
    · exact h rfl), if_neg (by simp [h])]
/-! ### Back -/
theorem numR_back {m : Int} {r : Rest} (h : (numR m r).2.2 = false) : r.2 = false ∧ r.1 = eightB (numR m r).1 ++ (numR m r).2.1 ∧ 0 ≤ (numR m r).1 ∧ (numR m r).1 ≤ m := by
  unfold numR at h ⊢
  by_cases c : r.2 = true ∨ r.1.size < 8 ∨ m < numB r.1 0
  · rw [if_pos c] at h; cases h
  · rw [if_neg c]
    simp only [not_or] at c
    obtain ⟨c1, c2, c3⟩ := c
    refine ⟨by simpa using c1, ?_, (numB_U _ _).1, by show numB r.1 0 ≤ m; omega⟩
    show r.1 = eightB (numB r.1 0) ++ r.1.extract 8 r.1.size
    rw [num_eight _ (by omega), extract_both _ _ (by omega)]
theorem textR_back {m : Int} {r : Rest} (h : (textR m r).2.2 = false) : r.2 = false ∧ r.1 = textB (textR m r).1 ++ (textR m r).2.1 ∧ ((textR m r).1.size : Int) ≤ m := by
  unfold textR at h ⊢
  by_cases c : (numR m r).2.2 = true ∨ ((numR m r).2.1.size : Int) < (numR m r).1
  · rw [if_pos c] at h; cases h
  · rw [if_neg c]
    simp only [not_or] at c
    obtain ⟨c1, c2⟩ := c
    obtain ⟨h1, h2, h3, h4⟩ := numR_back (m := m) (r := r) (by simpa using c1)
    generalize numR m r = q at *
    obtain ⟨n, s, b⟩ := q
    simp only at *
    have hz : (s.extract 0 n.toNat).size = n.toNat := by rw [ByteArray.size_extract]; omega
    refine ⟨h1, ?_, by rw [hz]; omega⟩
    unfold textB
    rw [app3, extract_both _ _ (by omega), hz, Int.toNat_of_nonneg h3]
    exact h2
theorem placeR_back {r : Rest} (h : (placeR r).2.2 = false) : r.2 = false ∧ r.1 = placeB (placeR r).1 ++ (placeR r).2.1 ∧ True := by
  unfold placeR at h ⊢
  obtain ⟨h1, h2, _, _⟩ := numR_back h
  obtain ⟨g1, g2, _, _⟩ := numR_back h1
  refine ⟨g1, ?_, trivial⟩
  unfold placeB
  rw [rowB_cons, arowB_one, app3]
  simp only
  rw [← h2]
  exact g2
section
variable {α : Type}
theorem manyR_back {f : Rest → α × Rest} {g : α → ByteArray} {p : α → Prop} (hf : ∀ r, (f r).2.2 = false → r.2 = false ∧ r.1 = g (f r).1 ++ (f r).2.1 ∧ p (f r).1) (r : Rest) : ∀ k, (manyR f r k).2.2 = false → r.2 = false ∧ r.1 = joinB g (manyR f r k).1 ++ (manyR f r k).2.1 ∧ ∀ x ∈ (manyR f r k).1, p x
  | 0, h => ⟨h, by show r.1 = noText ++ r.1; rw [no_append], fun x hx => by cases hx⟩
  | k + 1, h => by
    rw [manyR] at h ⊢
    obtain ⟨h1, h2, h3⟩ := hf _ h
    obtain ⟨g1, g2, g3⟩ := manyR_back hf r k h1
    refine ⟨g1, ?_, fun x hx => ?_⟩
    · rw [joinB_snoc, app3]
      simp only
      rw [← h2]
      exact g2
    · rcases List.mem_append.1 hx with hx | hx
      · exact g3 x hx
      · obtain rfl : x = _ := by simpa using hx
        exact h3
end
theorem headR_back {r : Rest} (h : (headR r).2.2 = false) : r.2 = false ∧ r.1 = eightB (headR r).1.c ++ (eightB (headR r).1.l ++ (eightB (headR r).1.s ++ (eightB (headR r).1.r ++ (eightB (headR r).1.b ++ (headR r).2.1)))) ∧ (0 ≤ (headR r).1.c ∧ (headR r).1.c ≤ 8) ∧ (0 ≤ (headR r).1.l ∧ (headR r).1.l ≤ 10) ∧ (0 ≤ (headR r).1.s ∧ (headR r).1.s ≤ 8) ∧ (0 ≤ (headR r).1.r ∧ (headR r).1.r ≤ 16) ∧ (0 ≤ (headR r).1.b ∧ (headR r).1.b ≤ 16) := by
  unfold headR at h ⊢
  obtain ⟨a1, a2, a3⟩ := numR_back h
  obtain ⟨b1, b2, b3⟩ := numR_back a1
  obtain ⟨c1, c2, c3⟩ := numR_back b1
  obtain ⟨d1, d2, d3⟩ := numR_back c1
  obtain ⟨e1, e2, e3⟩ := numR_back d1
  refine ⟨e1, ?_, e3, d3, c3, b3, a3⟩
  simp only
  rw [← a2, ← b2, ← c2, ← d2]
  exact e2
theorem readA_back {s : ByteArray} (h1 : (readA s).2.2 = false) (h2 : (readA s).2.1.size = 0) : (readA s).1.print = s := by
  unfold readA at h1 h2 ⊢
  simp only at h1 h2 ⊢
  obtain ⟨a1, a2, _⟩ := manyR_back (p := fun _ => True) (fun r h => placeR_back h) _ _ h1
  obtain ⟨b1, b2, _⟩ := manyR_back (p := fun t => (t.size : Int) ≤ 4096) (fun r h => textR_back h) _ _ a1
  obtain ⟨c1, c2, _⟩ := manyR_back (p := fun t => (t.size : Int) ≤ 4096) (fun r h => textR_back h) _ _ b1
  obtain ⟨d1, d2, d3, d4, d5, d6, d7⟩ := headR_back c1
  have hz : ∀ q : ByteArray, q.size = 0 → q = noText := fun q hq => byt_ext _ _ hq fun j hj => by omega
  rw [AirP.print_join]
  simp only [manyR_len, Int.toNat_of_nonneg d5.1, Int.toNat_of_nonneg d6.1, Int.toNat_of_nonneg d7.1]
  rw [← hz _ h2, ← a2, ← b2, ← c2]
  exact d2.symm
theorem print_of_parse {s : ByteArray} {A : AirP} (h : parseA s = (A, 0)) : A.print = s ∧ A.check = 0 := by
  unfold parseA at h
  by_cases c : (readA s).2.2 = true ∨ (readA s).2.1.size ≠ 0
  · rw [if_pos c] at h; cases h
  · rw [if_neg c] at h
    by_cases d : (readA s).1.check ≠ 0
    · rw [if_pos d] at h; exact absurd (Prod.mk.inj h).2 d
    · rw [if_neg d] at h
      have e : (readA s).1 = A := (Prod.mk.inj h).1
      simp only [not_or] at c
      rw [← e]
      exact ⟨readA_back (by simpa using c.1) (by simpa using c.2), by simpa using d⟩
end Go.Proofs.Ytjcgakmhpblanaa
namespace Go.Proofs.Ytjcgakmhpblanaa
open Go Go.RowKit
set_option linter.unusedVariables false

/-- A slice of pairs of integers. -/
def BoundA (w : World) (a : Option Addr) (len : Nat) (zs : List (Int × Int)) : Prop :=
  zs.length = len ∧ len ≤ maxLen ∧ ∀ k, k < len → ∃ b off : Nat, a = some ⟨b, off, none⟩ ∧ w.cell? ⟨b, off + k * 2, none⟩ = some (.int .i64 (zs.getD k (0, 0)).1) ∧ w.cell? ⟨b, off + k * 2 + 1, none⟩ = some (.int .i64 (zs.getD k (0, 0)).2)
theorem BoundA.keep {w w' : World} {a : Option Addr} {len : Nat} {zs : List (Int × Int)} (h : BoundA w a len zs) (hb : Below w.heap.size w w') : BoundA w' a len zs :=
  ⟨h.1, h.2.1, fun k hk => by obtain ⟨b, off, e, c0, c1⟩ := h.2.2 k hk; exact ⟨b, off, e, bkeep hb c0, bkeep hb c1⟩⟩
theorem BoundA.far {W : World} {a : Option Addr} {n g o : Nat} {v : Value} {zs : List (Int × Int)} (h : BoundA W a n zs) (ha : ∀ x, a = some x → g ≠ x.block) : BoundA (W.setCell ⟨g, o, none⟩ v) a n zs :=
  ⟨h.1, h.2.1, fun k hk => by
    obtain ⟨b, off, e, c0, c1⟩ := h.2.2 k hk
    exact ⟨b, off, e, (World.cell?_setCell_far _ _ _ _ (ha _ e)).trans c0, (World.cell?_setCell_far _ _ _ _ (ha _ e)).trans c1⟩⟩
/-- Where the lists of one lie. -/
structure AirAt where
  sa : Option Addr
  sc : Nat
  ra : Option Addr
  rc : Nat
  ba : Option Addr
  bc : Nat
abbrev AirP.cell (A : AirP) (p : AirAt) : List Value := [.int .i64 A.cols, .int .i64 A.log, .slice p.sa A.steps.length p.sc, .slice p.ra A.rules.length p.rc, .slice p.ba A.bounds.length p.bc]
abbrev AirP.val (A : AirP) (p : AirAt) : Value := .agg #[.int .i64 A.cols, .int .i64 A.log, .slice p.sa A.steps.length p.sc, .slice p.ra A.rules.length p.rc, .slice p.ba A.bounds.length p.bc]
def AirA (W : World) (A : AirP) (p : AirAt) : Prop := StrA W p.sa A.steps.length (tx A.steps) ∧ StrA W p.ra A.rules.length (tx A.rules) ∧ BoundA W p.ba A.bounds.length A.bounds ∧ A.bounds.length ≤ p.bc
theorem AirA.keep {W W' : World} {A : AirP} {p : AirAt} (h : AirA W A p) (hb : Below W.heap.size W W') : AirA W' A p := ⟨h.1.keep hb, h.2.1.keep hb, h.2.2.1.keep hb, h.2.2.2⟩
/-- As it may come: its numbers. -/
structure OkAir (A : AirP) : Prop where
  cols : -9223372036854775808 ≤ A.cols ∧ A.cols ≤ 9223372036854775807
  log : -9223372036854775808 ≤ A.log ∧ A.log ≤ 9223372036854775807
  steps : ∀ t ∈ A.steps, t.size ≤ 9223372036854775807
  rules : ∀ t ∈ A.rules, t.size ≤ 9223372036854775807
  bounds : ∀ b ∈ A.bounds, (-9223372036854775808 ≤ b.1 ∧ b.1 ≤ 9223372036854775807) ∧ (-9223372036854775808 ≤ b.2 ∧ b.2 ≤ 9223372036854775807)
/-- Its lists are short. -/
def FewAir (A : AirP) : Prop := A.steps.length ≤ 40 ∧ A.rules.length ≤ 40 ∧ A.bounds.length ≤ 40
/-- Lists of operations. -/
def OpsA (W : World) (a : Option Addr) (n : Nat) (ls : List (List Opn)) : Prop :=
  ls.length = n ∧ n ≤ maxLen ∧ ∀ k, k < n → ∃ b off : Nat, a = some ⟨b, off, none⟩ ∧ ∃ (ak : Option Addr) (ck : Nat), W.cell? ⟨b, off + k, none⟩ = some (.slice ak (ls.getD k []).length ck) ∧ OpA W ak (ls.getD k []).length (ls.getD k []) ∧ (ak = none → ck = 0)
theorem OpsA.keep {W W' : World} {a : Option Addr} {n : Nat} {ls : List (List Opn)} (h : OpsA W a n ls) (hb : Below W.heap.size W W') : OpsA W' a n ls :=
  ⟨h.1, h.2.1, fun k hk => by
    obtain ⟨b, off, e, ak, ck, hc, ho, hn⟩ := h.2.2 k hk
    exact ⟨b, off, e, ak, ck, bkeep hb hc, ho.keep hb, hn⟩⟩
def RulesPost (W : World) (ls : List (List Opn)) (r : Int) (e : Ending) (w' : World) : Prop :=
  Below W.heap.size W w' ∧ ∃ (a : Option Addr) (cap : Nat), e = .returned (.tuple #[.slice a ls.length cap, .int .i64 r]) ∧ OpsA w' a ls.length ls ∧ (a = none → cap = 0)
def AirPost (W : World) (A : AirP) (r : Int) (e : Ending) (w' : World) : Prop :=
  Below W.heap.size W w' ∧ ∃ p : AirAt, e = .returned (.tuple #[A.val p, .int .i64 r]) ∧ AirA w' A p
end Go.Proofs.Ytjcgakmhpblanaa
namespace Go.Proofs.Ytjcgakmhpblanaa
open Go Go.RowKit
set_option linter.unusedVariables false

theorem infoOpS : (Try.prog.info? 48).map (fun i => (i.zero, i.size, i.bytes)) = some (some (.slice none 0 0), 1, 24) := by kernel_rfl
/-- One in a variable. -/
def AirC (W : World) (g : Nat) (A : AirP) (p : AirAt) : Prop := W.cell? ⟨g, 0, none⟩ = some (.int .i64 A.cols) ∧ W.cell? ⟨g, 1, none⟩ = some (.int .i64 A.log) ∧ W.cell? ⟨g, 2, none⟩ = some (.slice p.sa A.steps.length p.sc) ∧ W.cell? ⟨g, 3, none⟩ = some (.slice p.ra A.rules.length p.rc) ∧ W.cell? ⟨g, 4, none⟩ = some (.slice p.ba A.bounds.length p.bc)
theorem AirC.keep {W W' : World} {g : Nat} {A : AirP} {p : AirAt} (h : AirC W g A p) (hb : Below W.heap.size W W') : AirC W' g A p := ⟨bkeep hb h.1, bkeep hb h.2.1, bkeep hb h.2.2.1, bkeep hb h.2.2.2.1, bkeep hb h.2.2.2.2⟩
theorem AirC.new (W : World) (A : AirP) (p : AirAt) (t : TypeId) : AirC (W.alloc (.cells #[.int .i64 A.cols, .int .i64 A.log, .slice p.sa A.steps.length p.sc, .slice p.ra A.rules.length p.rc, .slice p.ba A.bounds.length p.bc] t)) W.heap.size A p := by simp [AirC, go_sem]
theorem wrapi_62 {k : Nat} (hk : k ≤ 62) : IntKind.i64.wrap (2 ^ k) = ((2 ^ k : Nat) : Int) := by
  have : ∀ k, k ≤ 62 → IntKind.i64.wrap (2 ^ k) = ((2 ^ k : Nat) : Int) := by decide +kernel
  exact this k hk
theorem rasize_any (c l : Int) (sa : Option Addr) (sn sc : Nat) (ra : Option Addr) (rn rc : Nat) (ba : Option Addr) (bn bc : Nat) (w : World) (hl : 0 ≤ l ∧ l ≤ 62) :
    Calls Try.prog 30 #[.agg #[.int .i64 c, .int .i64 l, .slice sa sn sc, .slice ra rn rc, .slice ba bn bc]] w fun e w' => e = .returned (.int .i64 ((2 ^ l.toNat : Nat) : Int)) ∧ Below w.heap.size w w' := by
  obtain ⟨K, rfl⟩ := Int.eq_ofNat_of_zero_le hl.1
  have e1 := wrapi_62 (k := K) (by omega)
  have e2 : IntKind.u64.wrap (K : Int) = (K : Int) := by rw [IntKind.wrap_u64]; omega
  rw [Int.toNat_natCast]
  have hb := (Below.refl w.heap.size w).alloc (Nat.le_refl _)
  generalize ((2 ^ K : Nat) : Int) = M at *
  go_enter Try.func30, Try.ntmps30
  go_wp2
  go_ret
  exact ⟨rfl, hb _⟩
theorem rasize_is (A : AirP) (p : AirAt) (w : World) (hn : A.near) : Calls Try.prog 30 #[A.val p] w fun e w' => e = .returned (.int .i64 A.size) ∧ Below w.heap.size w w' :=
  rasize_any _ _ _ _ _ _ _ _ _ _ _ w ⟨hn.1, by have := hn.2.1; omega⟩
/-! ### All rules -/
def valsV (rs : Nat → Value) (k : Nat) : List Value := (List.range k).map rs
theorem valsV_len (rs : Nat → Value) (k : Nat) : (valsV rs k).length = k := by simp [valsV]
theorem valsV_snoc (rs : Nat → Value) (v : Value) (k : Nat) : valsV rs k ++ [v] = valsV (fun j => if j = k then v else rs j) (k + 1) := by
  simp only [valsV, List.range_succ, List.map_append, List.map_cons, List.map_nil, if_true]
  congr 1
  refine List.map_congr_left fun j hj => ?_
  rw [if_neg (by have := List.mem_range.1 hj; omega)]
theorem valsV_at (rs : Nat → Value) {k j : Nat} (h : j < k) : (valsV rs k).getD j undef = rs j := by simp [valsV, List.getD, h]
/-- Rules under way, in rows of their own. -/
def RulesUp (w W : World) (v : Value) (ks : List (List Opn)) : Prop :=
  ∃ rs : Nat → Value, MadeG 48 w W v (valsV rs ks.length) ∧ ∀ j, j < ks.length → W.ownsRow w.heap.size 66 2 (rs j) (ks.getD j []).length (flatO (ks.getD j []))
theorem RulesUp.start {w W : World} (h : Below w.heap.size w W) : RulesUp w W (.slice none 0 0) [] := ⟨fun _ => undef, MadeG.nil h, fun j hj => absurd hj (by simp)⟩
theorem RulesUp.keep {w W W' : World} {v : Value} {ks : List (List Opn)} (h : RulesUp w W v ks) (hb : Below W.heap.size W W') : RulesUp w W' v ks := by
  obtain ⟨rs, h1, h2⟩ := h
  exact ⟨rs, h1.keep hb, fun j hj => own_keep (h2 j hj) hb⟩
theorem RulesUp.below {w W : World} {v : Value} {ks : List (List Opn)} (h : RulesUp w W v ks) : Below w.heap.size w W := by
  obtain ⟨rs, h1, h2⟩ := h
  exact h1.2
/-- One more. -/
theorem RulesUp.more {w W W' : World} {v v' u : Value} {ks : List (List Opn)} {l : List Opn} {rs : Nat → Value} (h1 : MadeG 48 w W v (valsV rs ks.length)) (h2 : ∀ j, j < ks.length → W.ownsRow w.heap.size 66 2 (rs j) (ks.getD j []).length (flatO (ks.getD j [])))
    (hu : W.ownsRow w.heap.size 66 2 u l.length (flatO l)) (hg : W.grownBy W' v.ownBlock) (h1' : MadeG 48 w W' v' (valsV rs ks.length ++ [u])) : RulesUp w W' v' (ks ++ [l]) := by
  refine ⟨fun j => if j = ks.length then u else rs j, by rw [List.length_append, show ks.length + [l].length = ks.length + 1 from rfl, ← valsV_snoc]; exact h1', fun j hj => ?_⟩
  by_cases e : j = ks.length
  · subst e
    have e2 : (ks ++ [l]).getD ks.length [] = l := by simp [List.getD]
    have e3 : (fun j => if j = ks.length then u else rs j) ks.length = u := if_pos rfl
    rw [e2, e3]
    exact hu.kept hg (own_unlike hu h1.1 (by decide))
  · have hj' : j < ks.length := by rw [List.length_append] at hj; simp at hj; omega
    have e2 : (ks ++ [l]).getD j [] = ks.getD j [] := by simp only [List.getD]; rw [List.getElem?_append_left hj']
    have e3 : (fun j => if j = ks.length then u else rs j) j = rs j := if_neg e
    rw [e2, e3]
    exact (h2 j hj').kept hg (own_unlike (h2 j hj') h1.1 (by decide))
/-- What they read as. -/
theorem RulesUp.told {w W : World} {v : Value} {ks : List (List Opn)} (h : RulesUp w W v ks) : ∃ a c, v = .slice a ks.length c ∧ OpsA W a ks.length ks ∧ (a = none → c = 0) := by
  obtain ⟨rs, h1, h2⟩ := h
  obtain ⟨a, c, e1, e2, e3, e4, e5⟩ := h1.row
  rw [valsV_len] at e1 e2 e4 e5
  refine ⟨a, c, e1, ⟨rfl, by omega, fun k hk => ?_⟩, fun h => (e4 h).2⟩
  obtain ⟨b, off, e, hc⟩ := e5 k hk
  rw [valsV_at rs hk] at hc
  obtain ⟨ak, ck, hv, ho, hn⟩ := own_oprow (h2 k hk)
  exact ⟨b, off, e, ak, ck, by rw [hc, hv], ho, hn⟩
theorem opsA_nil (W : World) : OpsA W none 0 [] := ⟨rfl, by unfold maxLen; omega, fun k hk => by omega⟩
theorem flatO_cons (o : Opn) (l : List Opn) : flatO (o :: l) = .int .i64 o.1 :: .int .u64 o.2 :: flatO l := by simp [flatO]
theorem flatO_app (l m : List Opn) : flatO (l ++ m) = flatO l ++ flatO m := by simp [flatO]
theorem parse_okO {s : ByteArray} {l : List Opn} (h : parseB s = (l, 0)) : (∀ o ∈ l, OkO o) ∧ l.length ≤ 256 := by
  obtain ⟨_, h1, h2⟩ := parse_back h
  refine ⟨fun o ho => ?_, h2⟩
  obtain ⟨r, u⟩ := h1 o ho
  have := right_kind r
  exact ⟨by omega, u⟩
theorem AirP.text_step {A : AirP} {k : Nat} (h : k < A.steps.length) : A.text k = tx A.steps k := if_pos h
theorem AirP.text_rule {A : AirP} {k : Nat} (h : ¬ k < A.steps.length) : A.text k = tx A.rules (k - A.steps.length) := if_neg h
theorem tx_mem {l : List ByteArray} {k : Nat} (h : k < l.length) : tx l k ∈ l := by
  unfold tx
  simp [List.getD, h]
theorem AirP.one_parse {A : AirP} {k : Nat} {l : List Opn} {e : Int} (h : parseB (A.text k) = (l, e)) (he : e ≠ 0) : A.one k = ([], e) := ruleB_parse h he
theorem AirP.one_check {A : AirP} {k : Nat} {l : List Opn} {d : Nat} {e : Int} {nx : Bool} (hn : decide (¬ k < A.steps.length) = nx) (h : parseB (A.text k) = (l, 0)) (hc : checkB l A.cols nx = (d, e)) (he : e ≠ 0) : A.one k = ([], e) := by subst hn; exact ruleB_check h hc he
theorem AirP.one_ok {A : AirP} {k : Nat} {l : List Opn} {d : Nat} {nx : Bool} (hn : decide (¬ k < A.steps.length) = nx) (h : parseB (A.text k) = (l, 0)) (hc : checkB l A.cols nx = (d, 0)) : A.one k = (l, 0) := by subst hn; exact ruleB_ok h hc
theorem AirP.all_ok2 {A : AirP} (h : A.fits) : A.all = A.upto A.count := by unfold AirP.all; rw [if_pos h]
def RulesRel (w0 : World) (A : AirP) (o i : Value) (W : World) : Prop :=
  ∃ (k : Nat) (ks : List (List Opn)), k ≤ A.count ∧ ks.length = k ∧ i = .int .i64 k ∧ RulesUp w0 W o ks ∧ A.upto k = (ks, 0)
theorem rarules_no (A : AirP) (p : AirAt) (ls : List (List Opn)) (r : Int) (w : World) (hA : AirA w A p) (hk : OkAir A) (hf : FewAir A) (hfit : ¬ A.fits) (hr : A.all = (ls, r)) : Calls Try.prog 20 #[A.val p] w (RulesPost w ls r) := by
  have hno : A.all = ([], 1) := by unfold AirP.all; rw [if_neg hfit]
  have hb0 := fun o => (Below.refl w.heap.size w).alloc (Nat.le_refl _) o
  have hl1 := hf.1; have hl2 := hf.2.1
  by_cases h1 : A.cols < 1
  · obtain ⟨rfl, rfl⟩ := Prod.mk.inj (hno.symm.trans hr)
    clear hA hk hf hr hno
    go_enter Try.func20, Try.ntmps20
    go_wp2
    exact bodyPost_ret (v := .tuple #[.slice none 0 0, .int .i64 1]) (by simp [results, Try.results20, go_sem]) rfl ⟨hb0 _, none, 0, rfl, opsA_nil _, fun _ => rfl⟩
  by_cases h2 : 8 < A.cols
  · obtain ⟨rfl, rfl⟩ := Prod.mk.inj (hno.symm.trans hr)
    clear hA hk hf hr hno
    go_enter Try.func20, Try.ntmps20
    go_wp2
    exact bodyPost_ret (v := .tuple #[.slice none 0 0, .int .i64 1]) (by simp [results, Try.results20, go_sem]) rfl ⟨hb0 _, none, 0, rfl, opsA_nil _, fun _ => rfl⟩
  by_cases h3 : (A.steps.length : Int) = 0
  · by_cases h4 : (16 : Int) < (A.rules.length : Int)
    · obtain ⟨rfl, rfl⟩ := Prod.mk.inj (hno.symm.trans hr)
      clear hA hk hf hr hno
      go_enter Try.func20, Try.ntmps20
      go_wp2
      exact bodyPost_ret (v := .tuple #[.slice none 0 0, .int .i64 1]) (by simp [results, Try.results20, go_sem]) rfl ⟨hb0 _, none, 0, rfl, opsA_nil _, fun _ => rfl⟩
    · exact absurd ⟨by omega, by omega, .inl (by omega), by omega⟩ hfit
  by_cases h5 : (A.steps.length : Int) = A.cols
  · by_cases h4 : (16 : Int) < (A.rules.length : Int)
    · obtain ⟨rfl, rfl⟩ := Prod.mk.inj (hno.symm.trans hr)
      clear hA hk hf hr hno
      go_enter Try.func20, Try.ntmps20
      go_wp2
      exact bodyPost_ret (v := .tuple #[.slice none 0 0, .int .i64 1]) (by simp [results, Try.results20, go_sem]) rfl ⟨hb0 _, none, 0, rfl, opsA_nil _, fun _ => rfl⟩
    · exact absurd ⟨by omega, by omega, .inr h5, by omega⟩ hfit
  obtain ⟨rfl, rfl⟩ := Prod.mk.inj (hno.symm.trans hr)
  have h3b : ((A.steps.length : Int) != 0) = true := by simpa using h3
  have h5b : ((A.steps.length : Int) != A.cols) = true := by simpa using h5
  clear hA hk hf hr hno
  go_enter Try.func20, Try.ntmps20
  go_wp2
  exact bodyPost_ret (v := .tuple #[.slice none 0 0, .int .i64 1]) (by simp [results, Try.results20, go_sem]) rfl ⟨hb0 _, none, 0, rfl, opsA_nil _, fun _ => rfl⟩
theorem own_mono' {W : World} {B B' : Nat} {e : TypeId} {size n : Nat} {v : Value} {xs : List Value} (h : W.ownsRow B' e size v n xs) (hb : B ≤ B') : W.ownsRow B e size v n xs := h.mono hb
theorem lit_two (W : World) (o : Obj) : ((W.alloc o).alloc (.cells #[] 66)).ownsRow (W.heap.size + 1) 66 2 (.slice (some ⟨W.heap.size + 1, 0, none⟩) 0 0) 0 [] := by
  have h := World.ownsRow_lit (e := 66) (size := 2) (W.alloc o) #[] 0 (Nat.le_refl _) (by unfold maxLen; omega) rfl
  rw [show (W.alloc o).heap.size = W.heap.size + 1 by simp] at h
  exact h
theorem lit_below (W : World) (o o' : Obj) : Below (W.heap.size + 1) (W.alloc o) ((W.alloc o).alloc o') := (Below.refl _ _).alloc (by simp) _
theorem lit_one (W : World) (k : Int) : (W.alloc (.cells #[.int .i64 2, .int .u64 k] 66)).ownsRow W.heap.size 66 2 (.slice (some ⟨W.heap.size, 0, none⟩) 1 1) 1 [.int .i64 2, .int .u64 k] :=
  World.ownsRow_lit (e := 66) (size := 2) W #[.int .i64 2, .int .u64 k] 1 (Nat.le_refl _) (by unfold maxLen; omega) rfl
theorem below_sz {W W1 : World} {o : Obj} (h : Below (W.heap.size + 1) (W.alloc o) W1) : Below (W.alloc o).heap.size (W.alloc o) W1 := by
  rw [show (W.alloc o).heap.size = W.heap.size + 1 by simp]; exact h
theorem below_lit {W W1 : World} {o : Obj} (h : Below (W.heap.size + 1) (W.alloc o) W1) : Below W.heap.size W W1 := bthen ((Below.refl _ _).alloc (Nat.le_refl _) o) (below_sz h)
theorem below_two {W W1 : World} {o : Obj} (h : Below (W.alloc o).heap.size (W.alloc o) W1) : Below W.heap.size W W1 := bthen ((Below.refl _ _).alloc (Nat.le_refl _) o) h
theorem step_row {W : World} {B : Nat} {a : Option Addr} {c : Nat} {m : List Opn} (h : W.ownsRow B 66 2 (.slice a (m.length + 1) c) (m.length + 1) (flatO m ++ [.int .i64 5, .int .u64 0])) : OpA W a (m ++ [(5, 0)]).length (m ++ [(5, 0)]) ∧ (a = none → c = 0) := by
  have e : flatO (m ++ [(5, 0)]) = flatO m ++ [.int .i64 5, .int .u64 0] := by rw [flatO_app]; rfl
  obtain ⟨a', c', hv, ho, hn⟩ := own_oprow (l := m ++ [(5, 0)]) (by rw [e, List.length_append]; exact h)
  simp only [Value.slice.injEq] at hv
  obtain ⟨rfl, _, rfl⟩ := hv
  exact ⟨ho, hn⟩
theorem step_nil {W : World} {B : Nat} {a : Option Addr} {c : Nat} {m : List Opn} (h : W.ownsRow B 66 2 (.slice a (m.length + 1) c) (m.length + 1) (flatO m ++ [.int .i64 5, .int .u64 0])) : a = none → c = 0 := (step_row h).2
theorem step_nil0 {W : World} {B : Nat} {a : Option Addr} {c : Nat} {m : List Opn} (h : W.ownsRow B 66 2 (.slice a (m.length + 1) c) (m.length + 1) (flatO m ++ [.int .i64 5, .int .u64 0])) : a = none → m.length + 1 = 0 := fun e => by
  have := opA_nil0 (step_row h).1 e
  simp at this
theorem step_cells {W : World} {B : Nat} {a : Option Addr} {c : Nat} {m : List Opn} (h : W.ownsRow B 66 2 (.slice a (m.length + 1) c) (m.length + 1) (flatO m ++ [.int .i64 5, .int .u64 0])) : ∀ ad, a = some ad → ∀ j u, (flatO (m ++ [(5, 0)]))[j]? = some u → W.cell? (ad.add j) = some u := opA_cells (step_row h).1
set_option maxRecDepth 100000 in
set_option maxHeartbeats 8000000 in
theorem rarules_is (A : AirP) (p : AirAt) (ls : List (List Opn)) (r : Int) (w : World) (hA : AirA w A p) (hk : OkAir A) (hf : FewAir A) (hr : A.all = (ls, r)) : Calls Try.prog 20 #[A.val p] w (RulesPost w ls r) := by
  by_cases hfit : A.fits
  case neg => exact rarules_no A p ls r w hA hk hf hfit hr
  obtain ⟨i0, hi, hz0, hz1, hz2⟩ := info_parts infoOp
  obtain ⟨i1, ki, kz0, kz1, kz2⟩ := info_parts infoOpS
  have HFIT := Lib.hid hfit; have HR := Lib.hid hr
  obtain ⟨g1, g2, g3, g4⟩ := hfit
  have hg1 : ¬ A.cols < 1 := by omega
  have hg2 : ¬ 8 < A.cols := by omega
  have hg4 : ¬ (16 : Int) < (A.rules.length : Int) := by omega
  have hsl : A.steps.length ≤ 8 := by omega
  have hsum : IntKind.i64.wrap ((A.steps.length : Int) + (A.rules.length : Int)) = (A.count : Int) := by rw [IntWalk.i64_in _ (by omega)]; unfold AirP.count; omega
  have hsum' : wrap64 ((A.steps.length : Int) + (A.rules.length : Int)) = (A.count : Int) := by rw [IntWalk.wrap64_in _ (by omega)]; unfold AirP.count; omega
  have hcl : A.count ≤ 24 := by unfold AirP.count; omega
  have HCNT : Hid (A.count = A.steps.length + A.rules.length) := Lib.hid rfl
  have hA0' := Lib.hid hA
  clear hr hA
  go_enter Try.func20, Try.ntmps20
  go_upto_region 1 with fail
  refine wp_gen (fun W => Below w.heap.size w W ∧ AirC W w.heap.size A p) ⟨(Below.refl _ _).alloc (Nat.le_refl _) _, AirC.new _ _ _ _⟩ ?_
  obtain ⟨g, hg⟩ : ∃ g, w.heap.size = g := ⟨_, rfl⟩
  rintro w0 ⟨hB0, hC0⟩
  rw [hg] at hC0
  simp only [hg]
  have hA0 := hA0'.out.keep hB0
  have HB0 := Lib.hid hB0
  have HC0 := Lib.hid hC0; have HA0 := Lib.hid hA0
  clear hB0 hg hA0'
  obtain ⟨x0, x1, x2, x3, x4⟩ := hC0
  have hgd : (A.steps.length : Int) = 0 ∨ (¬ (A.steps.length : Int) = 0 ∧ (A.steps.length : Int) = A.cols) := by omega
  rcases hgd with hns | ⟨hns, hnc⟩
  · go_upto_region 5 with fail
    clear hns g1 g2 g3 g4 hg1 hg2 hg4 x0 x1 x2 x3 x4
    go_loopw [4, 5] (RulesRel w0 A) (fun _ i _ => A.count - (intOf i).toNat)
    case atStart => exact ⟨0, [], Nat.zero_le _, rfl, rfl, RulesUp.start (Below.refl _ _), rfl⟩
    case round =>
      obtain ⟨k, ks, hk2, hlen, rfl, hU, hup⟩ := hrel
      have HU := Lib.hid hU; have HUP := Lib.hid hup; have HLN := Lib.hid hlen
      obtain ⟨x0, x1, x2, x3, x4⟩ := HC0.out.keep hU.below
      have hC0 := HC0.out
      clear hU hup hlen
      rename_i u4 _
      by_cases hlt : k < A.count
      · have hltI : (k : Int) < (A.count : Int) := by omega
        have hk0 : (0 : Int) ≤ (k : Int) := by omega
        by_cases hst : k < A.steps.length
        · have hstI : (k : Int) < (A.steps.length : Int) := by omega
          have hnx : decide (¬ k < A.steps.length) = false := decide_eq_false (by simpa using hst)
          have hform : A.form k = stepO k := funext fun l => if_pos hst
          have hT := hk.steps _ (tx_mem hst)
          rw [← AirP.text_step hst] at hT
          obtain ⟨b, off, hpa, cs⟩ := ((hA0.keep HU.out.below).1).2 k hst
          rw [← AirP.text_step hst] at cs
          rw [hpa] at x2
          clear hpa
          obtain ⟨m, e, hp⟩ : ∃ m e, parseB (A.text k) = (m, e) := ⟨_, _, rfl⟩
          have kp := fun W => rcparse_own (A.text k) m e W hT hp
          have HT2 := Lib.hid hp
          have HP := HT2
          generalize hTT : A.text k = T at cs kp
          clear hTT
          have HCO := Lib.hid (hC0.keep HU.out.below)
          clear hp hT
          go_upto_region 13 with (go_at_call 31; (with_reducible refine (kp _).mono ?_); rintro E w1 ⟨hb, v1, rfl, ho1⟩)
          by_cases he : e = 0
          · subst he
            obtain ⟨a1, c1, rfl, hO1, hN1⟩ := own_oprow ho1
            have hm := parse_okO HT2.out
            have hm256 := hm.2
            have HU1 := Lib.hid (HU.out.keep hb)
            have HO1 := Lib.hid hO1; have HN1 := Lib.hid hN1; have HR1 := Lib.hid ho1; have HB1 := Lib.hid hb
            obtain ⟨d, e2, hz⟩ : ∃ d e2, checkB m A.cols false = (d, e2) := ⟨_, _, rfl⟩
            have kc := fun W h => rscheck_is a1 c1 m A.cols false d e2 W h hm.1 hk.cols hz
            have HZ := Lib.hid hz
            have y0 := (HCO.out.keep hb).1
            clear ho1 hO1 hN1 hm hz hb x0 x1 x2 x3 x4 cs HCO
            go_upto_region 16 with (go_at_call 35; (with_reducible refine (kc _ HO1.out).mono ?_); rintro E w2 ⟨rfl, hb⟩)
            have HU2 := Lib.hid (HU1.out.keep hb); have HR2 := Lib.hid (own_keep (own_mono' HR1.out HU.out.below.size) hb)
            have hO2 := HO1.out.keep hb
            clear hb HU1 HR1 HB1 HO1 kc y0
            by_cases he2 : e2 = 0
            · subst he2
              have HS := Lib.hid (AirP.upto_go HUP.out (AirP.one_ok hnx HT2.out HZ.out))
              rw [hform] at HS
              have HO1 := Lib.hid hO2
              obtain ⟨Wc, hWc⟩ : ∃ W, w2 = W := ⟨_, rfl⟩
              rw [hWc] at HU2 HR2 HO1
              simp only [hWc]
              clear hWc hO2 HZ HU kp
              have hwk : IntKind.u64.wrap (k : Int) = (k : Int) := by rw [IntKind.wrap_u64]; omega
              clear HP HT2
              go_upto_region 20 with (first
                | (at_builtin; refine wpList_append3 rfl _ _ 48 rfl (Wc.heap.size + 1) 66 i0 (.agg #[.int .i64 0, .int .u64 0]) 2 16 Try.underlying48 hi hz0 hz1 hz2 rfl (by decide) _ 0 [] rfl (lit_two Wc (.cells #[.int .i64 2, .int .u64 (k : Int)] 66)) a1 m.length c1 (flatO m) rfl (flatO_len2 m) HN1.out (opA_nil0 HO1.out) (fun ad e => opA_cells (HO1.out.keep (bthen ((Below.refl _ _).alloc (Nat.le_refl _) _) ((Below.refl _ _).alloc (Nat.le_refl _) _))) ad e) (flatO_one m) (by unfold maxLen; omega) (by omega) (by simp) ?_; rintro v3 w3 q1 q2 _; rw [Nat.zero_add, List.nil_append] at q1; obtain ⟨a3, c3, rfl⟩ := own_form q1; have HBX := Lib.hid (own_row_below (lit_two Wc (.cells #[.int .i64 2, .int .u64 (k : Int)] 66)) (lit_below Wc (.cells #[.int .i64 2, .int .u64 (k : Int)] 66) _) q2 (Nat.le_refl _) (by simp)); have HR3 := Lib.hid q1; clear q1 q2)
                | (at_builtin; refine wpList_append_own _ rfl _ _ 48 rfl (Wc.heap.size + 1) 66 i0 (.agg #[.int .i64 0, .int .u64 0]) 2 16 Try.underlying48 hi hz0 hz1 hz2 rfl (by decide) _ _ _ rfl (HR3.out.alloc _) ⟨w3.heap.size, 0, none⟩ 1 1 [.int .i64 5, .int .u64 0] rfl rfl (two_src (by simp [go_sem]) (by simp [go_sem])) (by intro u hu; simp at hu; rcases hu with rfl | rfl <;> rfl) (by unfold maxLen; omega) (by omega) (by have := HBX.out.size; simp at this ⊢; omega) ?_; rintro v4 w4 q1 q2 _; obtain ⟨a4, c4, rfl⟩ := own_form q1; have HBY := Lib.hid (own_row_below (HR3.out.alloc _) (HBX.out.alloc (by have := HBX.out.size; simp at this ⊢; omega) _) q2 (Nat.le_refl _) (by have := HBX.out.size; simp at this ⊢; omega)); have HR4 := Lib.hid q1; clear q1 q2 HR3)
                | (at_builtin; refine wpList_append3 rfl _ _ 48 rfl Wc.heap.size 66 i0 (.agg #[.int .i64 0, .int .u64 0]) 2 16 Try.underlying48 hi hz0 hz1 hz2 rfl (by decide) _ 1 [.int .i64 2, .int .u64 (k : Int)] rfl (own_keep (lit_one Wc (k : Int)) (below_sz HBY.out)) a4 (m.length + 1) c4 (flatO (m ++ [(5, 0)])) rfl (by rw [flatO_len2]; simp) (step_nil HR4.out) (fun h => absurd (step_nil0 HR4.out h) (by omega)) (fun ad e => step_cells HR4.out ad e) (flatO_one _) (by unfold maxLen; omega) (by omega) (below_lit HBY.out).size ?_; rintro v5 w5 q1 q2 _; have HBZ := Lib.hid (own_row_below (own_keep (lit_one Wc (k : Int)) (below_sz HBY.out)) (below_lit HBY.out) q2 (Nat.le_refl _) (below_lit HBY.out).size); have HR5 := Lib.hid q1; clear q1 q2))
              have hLL : (stepO k m).length = 1 + (m.length + 1) := by unfold stepO; simp; omega
              have HL : Hid (w5.ownsRow w0.heap.size 66 2 v5 (stepO k m).length (flatO (stepO k m))) := Lib.hid (by
                rw [hLL]
                exact own_mono' (by unfold stepO; rw [flatO_cons]; exact HR5.out) HU2.out.below.size)
              refine wp_gen (fun W => RulesUp w0 W u4 ks ∧ W.ownsRow w0.heap.size 66 2 v5 (stepO k m).length (flatO (stepO k m))) ⟨HU2.out.keep HBZ.out, HL.out⟩ ?_
              have hLm : (stepO k m).length ≤ 300 := by omega
              clear HL HR5 HBZ HR4 HBY HBX hLL HU2 HR2 HO1 HN1 hwk
              generalize stepO k m = L at *
              rintro W6 ⟨hu, hl⟩
              obtain ⟨aL, cL, rfl⟩ := own_form hl
              obtain ⟨rs, hm1, hm2⟩ := hu
              have hlen := HLN.out
              have hown := hm1.1
              rw [valsV_len] at hown
              have HM1 := Lib.hid hm1; have HM2 := Lib.hid hm2; have HL := Lib.hid hl; have HOWN := Lib.hid hown
              have hsz0 := hm1.2.size
              clear hm1 hm2 hl
              go_upto_region 6 with (at_builtin; refine wpList_append_own _ rfl _ _ 43 rfl w0.heap.size 48 i1 (.slice none 0 0) 1 24 Try.underlying43 ki kz0 kz1 kz2 rfl (by decide) _ _ _ rfl (hown.alloc _) ⟨W6.heap.size, 0, none⟩ 1 1 [.slice aL L.length cL] rfl rfl (one_src (by simp [go_sem])) (by intro u hu; simp at hu; subst hu; rfl) (by unfold maxLen; omega) (by omega) (by simp; omega) ?_)
              intro v7 w7 q1 q2 _
              have hal : Below W6.heap.size W6 (W6.alloc (.cells #[.slice aL L.length cL] 48)) := (Below.refl _ _).alloc (Nat.le_refl _) _
              have HUP2 := Lib.hid (RulesUp.more (HM1.out.keep hal) (fun j hj => own_keep (HM2.out j hj) hal) (own_keep HL.out hal) q2 (MadeG.grow (HM1.out.keep hal) (by rw [valsV_len, HLN.out]; exact q1) q2))
              clear q1 q2 hal hown HM1 HM2 HL HOWN
              go_wp2
              go_roundw
              case rel => exact ⟨k + 1, ks ++ [L], by omega, by rw [List.length_append]; show ks.length + 1 = k + 1; omega, by go_num, HUP2.out, HS.out⟩
              case measure => simp [intOf]; omega
            · have hD := (AirP.all_stop HFIT.out (AirP.upto_err HUP.out (AirP.one_check hnx HT2.out HZ.out he2) he2) he2 (show k + 1 ≤ A.count by omega)).symm.trans HR.out
              obtain ⟨rfl, rfl⟩ := Prod.mk.inj hD
              have HBE := Lib.hid (bthen HB0.out HU2.out.below)
              clear hD HR HUP HU HU2 HR2 hO2 HT2 HZ HP kp
              go_wp2_with fail
              exact bodyPost_ret (v := .tuple #[.slice none 0 0, .int .i64 e2]) (by simp [results, Try.results20, go_sem]) rfl ⟨HBE.out, none, 0, rfl, opsA_nil _, fun _ => rfl⟩
          · have hD := (AirP.all_stop HFIT.out (AirP.upto_err HUP.out (AirP.one_parse HT2.out he) he) he (show k + 1 ≤ A.count by omega)).symm.trans HR.out
            obtain ⟨rfl, rfl⟩ := Prod.mk.inj hD
            have HBE := Lib.hid (bthen HB0.out (bthen HU.out.below hb))
            clear hD HR HUP HU HT2 HP ho1 hb kp HCO
            go_wp2_with fail
            exact bodyPost_ret (v := .tuple #[.slice none 0 0, .int .i64 e]) (by simp [results, Try.results20, go_sem]) rfl ⟨HBE.out, none, 0, rfl, opsA_nil _, fun _ => rfl⟩
        · have hstI : ¬ (k : Int) < (A.steps.length : Int) := by omega
          have hnx : decide (¬ k < A.steps.length) = true := decide_eq_true hst
          have hform : A.form k = id := funext fun l => if_neg hst
          have hrl : k - A.steps.length < A.rules.length := by have := hlt; unfold AirP.count at this; omega
          have hT := hk.rules _ (tx_mem hrl)
          rw [← AirP.text_rule hst] at hT
          obtain ⟨b, off, hpa, cs⟩ := ((hA0.keep HU.out.below).2.1).2 (k - A.steps.length) hrl
          rw [← AirP.text_rule hst] at cs
          rw [hpa] at x3
          clear hpa
          obtain ⟨J, hJ⟩ : ∃ J, k - A.steps.length = J := ⟨_, rfl⟩
          rw [hJ] at cs hrl
          have hwJ : IntKind.i64.wrap ((k : Int) - (A.steps.length : Int)) = (J : Int) := by rw [IntWalk.i64_in _ (by omega)]; omega
          have hwJ' : wrap64 ((k : Int) - (A.steps.length : Int)) = (J : Int) := by rw [IntWalk.wrap64_in _ (by omega)]; omega
          have hJ0 : (0 : Int) ≤ (J : Int) := by omega
          have hJl : (J : Int) < (A.rules.length : Int) := by omega
          obtain ⟨m, e, hp⟩ : ∃ m e, parseB (A.text k) = (m, e) := ⟨_, _, rfl⟩
          have kp := fun W => rcparse_own (A.text k) m e W hT hp
          have HT2 := Lib.hid hp
          have HP := HT2
          generalize hTT : A.text k = T at cs kp
          clear hTT
          have HCO := Lib.hid (hC0.keep HU.out.below)
          clear hp hT
          go_upto_region 13 with (go_at_call 31; (with_reducible refine (kp _).mono ?_); rintro E w1 ⟨hb, v1, rfl, ho1⟩)
          by_cases he : e = 0
          · subst he
            obtain ⟨a1, c1, rfl, hO1, hN1⟩ := own_oprow ho1
            have hm := parse_okO HT2.out
            have hm256 := hm.2
            have HU1 := Lib.hid (HU.out.keep hb)
            have HO1 := Lib.hid hO1; have HN1 := Lib.hid hN1; have HR1 := Lib.hid ho1; have HB1 := Lib.hid hb
            obtain ⟨d, e2, hz⟩ : ∃ d e2, checkB m A.cols true = (d, e2) := ⟨_, _, rfl⟩
            have kc := fun W h => rscheck_is a1 c1 m A.cols true d e2 W h hm.1 hk.cols hz
            have HZ := Lib.hid hz
            have y0 := (HCO.out.keep hb).1
            clear ho1 hO1 hN1 hm hz hb x0 x1 x2 x3 x4 cs HCO
            go_upto_region 16 with (go_at_call 35; (with_reducible refine (kc _ HO1.out).mono ?_); rintro E w2 ⟨rfl, hb⟩)
            have HU2 := Lib.hid (HU1.out.keep hb); have HR2 := Lib.hid (own_keep (own_mono' HR1.out HU.out.below.size) hb)
            have hO2 := HO1.out.keep hb
            clear hb HU1 HR1 HB1 HO1 kc y0
            by_cases he2 : e2 = 0
            · subst he2
              have HS := Lib.hid (AirP.upto_go HUP.out (AirP.one_ok hnx HT2.out HZ.out))
              rw [hform] at HS
              have HO1 := Lib.hid hO2
              obtain ⟨Wc, hWc⟩ : ∃ W, w2 = W := ⟨_, rfl⟩
              rw [hWc] at HU2 HR2 HO1
              simp only [hWc]
              clear hWc hO2 HZ HU kp
              clear HP HT2
              go_upto_region 20 with fail
              refine wp_gen (fun W => RulesUp w0 W u4 ks ∧ W.ownsRow w0.heap.size 66 2 (.slice a1 m.length c1) m.length (flatO m)) ⟨HU2.out, HR2.out⟩ ?_
              have hLm : m.length ≤ 300 := by omega
              obtain ⟨v5, hv5⟩ : ∃ v, Value.slice a1 m.length c1 = v := ⟨_, rfl⟩
              rw [hv5]
              simp only [id] at HS
              clear HU2 HR2 HO1 HN1 hv5
              generalize m = L at *
              rintro W6 ⟨hu, hl⟩
              obtain ⟨aL, cL, rfl⟩ := own_form hl
              obtain ⟨rs, hm1, hm2⟩ := hu
              have hlen := HLN.out
              have hown := hm1.1
              rw [valsV_len] at hown
              have HM1 := Lib.hid hm1; have HM2 := Lib.hid hm2; have HL := Lib.hid hl; have HOWN := Lib.hid hown
              have hsz0 := hm1.2.size
              clear hm1 hm2 hl
              go_upto_region 6 with (at_builtin; refine wpList_append_own _ rfl _ _ 43 rfl w0.heap.size 48 i1 (.slice none 0 0) 1 24 Try.underlying43 ki kz0 kz1 kz2 rfl (by decide) _ _ _ rfl (hown.alloc _) ⟨W6.heap.size, 0, none⟩ 1 1 [.slice aL L.length cL] rfl rfl (one_src (by simp [go_sem])) (by intro u hu; simp at hu; subst hu; rfl) (by unfold maxLen; omega) (by omega) (by simp; omega) ?_)
              intro v7 w7 q1 q2 _
              have hal : Below W6.heap.size W6 (W6.alloc (.cells #[.slice aL L.length cL] 48)) := (Below.refl _ _).alloc (Nat.le_refl _) _
              have HUP2 := Lib.hid (RulesUp.more (HM1.out.keep hal) (fun j hj => own_keep (HM2.out j hj) hal) (own_keep HL.out hal) q2 (MadeG.grow (HM1.out.keep hal) (by rw [valsV_len, HLN.out]; exact q1) q2))
              clear q1 q2 hal hown HM1 HM2 HL HOWN
              go_wp2
              go_roundw
              case rel => exact ⟨k + 1, ks ++ [L], by omega, by rw [List.length_append]; show ks.length + 1 = k + 1; omega, by go_num, HUP2.out, HS.out⟩
              case measure => simp [intOf]; omega
            · have hD := (AirP.all_stop HFIT.out (AirP.upto_err HUP.out (AirP.one_check hnx HT2.out HZ.out he2) he2) he2 (show k + 1 ≤ A.count by omega)).symm.trans HR.out
              obtain ⟨rfl, rfl⟩ := Prod.mk.inj hD
              have HBE := Lib.hid (bthen HB0.out HU2.out.below)
              clear hD HR HUP HU HU2 HR2 hO2 HT2 HZ HP kp
              go_wp2_with fail
              exact bodyPost_ret (v := .tuple #[.slice none 0 0, .int .i64 e2]) (by simp [results, Try.results20, go_sem]) rfl ⟨HBE.out, none, 0, rfl, opsA_nil _, fun _ => rfl⟩
          · have hD := (AirP.all_stop HFIT.out (AirP.upto_err HUP.out (AirP.one_parse HT2.out he) he) he (show k + 1 ≤ A.count by omega)).symm.trans HR.out
            obtain ⟨rfl, rfl⟩ := Prod.mk.inj hD
            have HBE := Lib.hid (bthen HB0.out (bthen HU.out.below hb))
            clear hD HR HUP HU HT2 HP ho1 hb kp HCO
            go_wp2_with fail
            exact bodyPost_ret (v := .tuple #[.slice none 0 0, .int .i64 e]) (by simp [results, Try.results20, go_sem]) rfl ⟨HBE.out, none, 0, rfl, opsA_nil _, fun _ => rfl⟩
      · obtain rfl : k = A.count := by omega
        have hD := (AirP.all_ok2 HFIT.out).symm.trans HR.out
        rw [HUP.out] at hD
        obtain ⟨rfl, rfl⟩ := Prod.mk.inj hD
        obtain ⟨a4, c4, rfl, hT4, hN4⟩ := HU.out.told
        have HBE := Lib.hid (bthen HB0.out HU.out.below)
        have HT4 := Lib.hid hT4; have HN4 := Lib.hid hN4
        clear hD HR HUP HU hT4 hN4
        go_wp2_with fail
        exact bodyPost_ret (v := .tuple #[.slice a4 ks.length c4, .int .i64 0]) (by simp [results, Try.results20, go_sem]) rfl ⟨HBE.out, a4, c4, rfl, HT4.out, HN4.out⟩
  · go_upto_region 5 with fail
    clear hns hnc g1 g2 g3 g4 hg1 hg2 hg4 x0 x1 x2 x3 x4
    go_loopw [4, 5] (RulesRel w0 A) (fun _ i _ => A.count - (intOf i).toNat)
    case atStart => exact ⟨0, [], Nat.zero_le _, rfl, rfl, RulesUp.start (Below.refl _ _), rfl⟩
    case round =>
      obtain ⟨k, ks, hk2, hlen, rfl, hU, hup⟩ := hrel
      have HU := Lib.hid hU; have HUP := Lib.hid hup; have HLN := Lib.hid hlen
      obtain ⟨x0, x1, x2, x3, x4⟩ := HC0.out.keep hU.below
      have hC0 := HC0.out
      clear hU hup hlen
      rename_i u4 _
      by_cases hlt : k < A.count
      · have hltI : (k : Int) < (A.count : Int) := by omega
        have hk0 : (0 : Int) ≤ (k : Int) := by omega
        by_cases hst : k < A.steps.length
        · have hstI : (k : Int) < (A.steps.length : Int) := by omega
          have hnx : decide (¬ k < A.steps.length) = false := decide_eq_false (by simpa using hst)
          have hform : A.form k = stepO k := funext fun l => if_pos hst
          have hT := hk.steps _ (tx_mem hst)
          rw [← AirP.text_step hst] at hT
          obtain ⟨b, off, hpa, cs⟩ := ((hA0.keep HU.out.below).1).2 k hst
          rw [← AirP.text_step hst] at cs
          rw [hpa] at x2
          clear hpa
          obtain ⟨m, e, hp⟩ : ∃ m e, parseB (A.text k) = (m, e) := ⟨_, _, rfl⟩
          have kp := fun W => rcparse_own (A.text k) m e W hT hp
          have HT2 := Lib.hid hp
          have HP := HT2
          generalize hTT : A.text k = T at cs kp
          clear hTT
          have HCO := Lib.hid (hC0.keep HU.out.below)
          clear hp hT
          go_upto_region 13 with (go_at_call 31; (with_reducible refine (kp _).mono ?_); rintro E w1 ⟨hb, v1, rfl, ho1⟩)
          by_cases he : e = 0
          · subst he
            obtain ⟨a1, c1, rfl, hO1, hN1⟩ := own_oprow ho1
            have hm := parse_okO HT2.out
            have hm256 := hm.2
            have HU1 := Lib.hid (HU.out.keep hb)
            have HO1 := Lib.hid hO1; have HN1 := Lib.hid hN1; have HR1 := Lib.hid ho1; have HB1 := Lib.hid hb
            obtain ⟨d, e2, hz⟩ : ∃ d e2, checkB m A.cols false = (d, e2) := ⟨_, _, rfl⟩
            have kc := fun W h => rscheck_is a1 c1 m A.cols false d e2 W h hm.1 hk.cols hz
            have HZ := Lib.hid hz
            have y0 := (HCO.out.keep hb).1
            clear ho1 hO1 hN1 hm hz hb x0 x1 x2 x3 x4 cs HCO
            go_upto_region 16 with (go_at_call 35; (with_reducible refine (kc _ HO1.out).mono ?_); rintro E w2 ⟨rfl, hb⟩)
            have HU2 := Lib.hid (HU1.out.keep hb); have HR2 := Lib.hid (own_keep (own_mono' HR1.out HU.out.below.size) hb)
            have hO2 := HO1.out.keep hb
            clear hb HU1 HR1 HB1 HO1 kc y0
            by_cases he2 : e2 = 0
            · subst he2
              have HS := Lib.hid (AirP.upto_go HUP.out (AirP.one_ok hnx HT2.out HZ.out))
              rw [hform] at HS
              have HO1 := Lib.hid hO2
              obtain ⟨Wc, hWc⟩ : ∃ W, w2 = W := ⟨_, rfl⟩
              rw [hWc] at HU2 HR2 HO1
              simp only [hWc]
              clear hWc hO2 HZ HU kp
              have hwk : IntKind.u64.wrap (k : Int) = (k : Int) := by rw [IntKind.wrap_u64]; omega
              clear HP HT2
              go_upto_region 20 with (first
                | (at_builtin; refine wpList_append3 rfl _ _ 48 rfl (Wc.heap.size + 1) 66 i0 (.agg #[.int .i64 0, .int .u64 0]) 2 16 Try.underlying48 hi hz0 hz1 hz2 rfl (by decide) _ 0 [] rfl (lit_two Wc (.cells #[.int .i64 2, .int .u64 (k : Int)] 66)) a1 m.length c1 (flatO m) rfl (flatO_len2 m) HN1.out (opA_nil0 HO1.out) (fun ad e => opA_cells (HO1.out.keep (bthen ((Below.refl _ _).alloc (Nat.le_refl _) _) ((Below.refl _ _).alloc (Nat.le_refl _) _))) ad e) (flatO_one m) (by unfold maxLen; omega) (by omega) (by simp) ?_; rintro v3 w3 q1 q2 _; rw [Nat.zero_add, List.nil_append] at q1; obtain ⟨a3, c3, rfl⟩ := own_form q1; have HBX := Lib.hid (own_row_below (lit_two Wc (.cells #[.int .i64 2, .int .u64 (k : Int)] 66)) (lit_below Wc (.cells #[.int .i64 2, .int .u64 (k : Int)] 66) _) q2 (Nat.le_refl _) (by simp)); have HR3 := Lib.hid q1; clear q1 q2)
                | (at_builtin; refine wpList_append_own _ rfl _ _ 48 rfl (Wc.heap.size + 1) 66 i0 (.agg #[.int .i64 0, .int .u64 0]) 2 16 Try.underlying48 hi hz0 hz1 hz2 rfl (by decide) _ _ _ rfl (HR3.out.alloc _) ⟨w3.heap.size, 0, none⟩ 1 1 [.int .i64 5, .int .u64 0] rfl rfl (two_src (by simp [go_sem]) (by simp [go_sem])) (by intro u hu; simp at hu; rcases hu with rfl | rfl <;> rfl) (by unfold maxLen; omega) (by omega) (by have := HBX.out.size; simp at this ⊢; omega) ?_; rintro v4 w4 q1 q2 _; obtain ⟨a4, c4, rfl⟩ := own_form q1; have HBY := Lib.hid (own_row_below (HR3.out.alloc _) (HBX.out.alloc (by have := HBX.out.size; simp at this ⊢; omega) _) q2 (Nat.le_refl _) (by have := HBX.out.size; simp at this ⊢; omega)); have HR4 := Lib.hid q1; clear q1 q2 HR3)
                | (at_builtin; refine wpList_append3 rfl _ _ 48 rfl Wc.heap.size 66 i0 (.agg #[.int .i64 0, .int .u64 0]) 2 16 Try.underlying48 hi hz0 hz1 hz2 rfl (by decide) _ 1 [.int .i64 2, .int .u64 (k : Int)] rfl (own_keep (lit_one Wc (k : Int)) (below_sz HBY.out)) a4 (m.length + 1) c4 (flatO (m ++ [(5, 0)])) rfl (by rw [flatO_len2]; simp) (step_nil HR4.out) (fun h => absurd (step_nil0 HR4.out h) (by omega)) (fun ad e => step_cells HR4.out ad e) (flatO_one _) (by unfold maxLen; omega) (by omega) (below_lit HBY.out).size ?_; rintro v5 w5 q1 q2 _; have HBZ := Lib.hid (own_row_below (own_keep (lit_one Wc (k : Int)) (below_sz HBY.out)) (below_lit HBY.out) q2 (Nat.le_refl _) (below_lit HBY.out).size); have HR5 := Lib.hid q1; clear q1 q2))
              have hLL : (stepO k m).length = 1 + (m.length + 1) := by unfold stepO; simp; omega
              have HL : Hid (w5.ownsRow w0.heap.size 66 2 v5 (stepO k m).length (flatO (stepO k m))) := Lib.hid (by
                rw [hLL]
                exact own_mono' (by unfold stepO; rw [flatO_cons]; exact HR5.out) HU2.out.below.size)
              refine wp_gen (fun W => RulesUp w0 W u4 ks ∧ W.ownsRow w0.heap.size 66 2 v5 (stepO k m).length (flatO (stepO k m))) ⟨HU2.out.keep HBZ.out, HL.out⟩ ?_
              have hLm : (stepO k m).length ≤ 300 := by omega
              clear HL HR5 HBZ HR4 HBY HBX hLL HU2 HR2 HO1 HN1 hwk
              generalize stepO k m = L at *
              rintro W6 ⟨hu, hl⟩
              obtain ⟨aL, cL, rfl⟩ := own_form hl
              obtain ⟨rs, hm1, hm2⟩ := hu
              have hlen := HLN.out
              have hown := hm1.1
              rw [valsV_len] at hown
              have HM1 := Lib.hid hm1; have HM2 := Lib.hid hm2; have HL := Lib.hid hl; have HOWN := Lib.hid hown
              have hsz0 := hm1.2.size
              clear hm1 hm2 hl
              go_upto_region 6 with (at_builtin; refine wpList_append_own _ rfl _ _ 43 rfl w0.heap.size 48 i1 (.slice none 0 0) 1 24 Try.underlying43 ki kz0 kz1 kz2 rfl (by decide) _ _ _ rfl (hown.alloc _) ⟨W6.heap.size, 0, none⟩ 1 1 [.slice aL L.length cL] rfl rfl (one_src (by simp [go_sem])) (by intro u hu; simp at hu; subst hu; rfl) (by unfold maxLen; omega) (by omega) (by simp; omega) ?_)
              intro v7 w7 q1 q2 _
              have hal : Below W6.heap.size W6 (W6.alloc (.cells #[.slice aL L.length cL] 48)) := (Below.refl _ _).alloc (Nat.le_refl _) _
              have HUP2 := Lib.hid (RulesUp.more (HM1.out.keep hal) (fun j hj => own_keep (HM2.out j hj) hal) (own_keep HL.out hal) q2 (MadeG.grow (HM1.out.keep hal) (by rw [valsV_len, HLN.out]; exact q1) q2))
              clear q1 q2 hal hown HM1 HM2 HL HOWN
              go_wp2
              go_roundw
              case rel => exact ⟨k + 1, ks ++ [L], by omega, by rw [List.length_append]; show ks.length + 1 = k + 1; omega, by go_num, HUP2.out, HS.out⟩
              case measure => simp [intOf]; omega
            · have hD := (AirP.all_stop HFIT.out (AirP.upto_err HUP.out (AirP.one_check hnx HT2.out HZ.out he2) he2) he2 (show k + 1 ≤ A.count by omega)).symm.trans HR.out
              obtain ⟨rfl, rfl⟩ := Prod.mk.inj hD
              have HBE := Lib.hid (bthen HB0.out HU2.out.below)
              clear hD HR HUP HU HU2 HR2 hO2 HT2 HZ HP kp
              go_wp2_with fail
              exact bodyPost_ret (v := .tuple #[.slice none 0 0, .int .i64 e2]) (by simp [results, Try.results20, go_sem]) rfl ⟨HBE.out, none, 0, rfl, opsA_nil _, fun _ => rfl⟩
          · have hD := (AirP.all_stop HFIT.out (AirP.upto_err HUP.out (AirP.one_parse HT2.out he) he) he (show k + 1 ≤ A.count by omega)).symm.trans HR.out
            obtain ⟨rfl, rfl⟩ := Prod.mk.inj hD
            have HBE := Lib.hid (bthen HB0.out (bthen HU.out.below hb))
            clear hD HR HUP HU HT2 HP ho1 hb kp HCO
            go_wp2_with fail
            exact bodyPost_ret (v := .tuple #[.slice none 0 0, .int .i64 e]) (by simp [results, Try.results20, go_sem]) rfl ⟨HBE.out, none, 0, rfl, opsA_nil _, fun _ => rfl⟩
        · have hstI : ¬ (k : Int) < (A.steps.length : Int) := by omega
          have hnx : decide (¬ k < A.steps.length) = true := decide_eq_true hst
          have hform : A.form k = id := funext fun l => if_neg hst
          have hrl : k - A.steps.length < A.rules.length := by have := hlt; unfold AirP.count at this; omega
          have hT := hk.rules _ (tx_mem hrl)
          rw [← AirP.text_rule hst] at hT
          obtain ⟨b, off, hpa, cs⟩ := ((hA0.keep HU.out.below).2.1).2 (k - A.steps.length) hrl
          rw [← AirP.text_rule hst] at cs
          rw [hpa] at x3
          clear hpa
          obtain ⟨J, hJ⟩ : ∃ J, k - A.steps.length = J := ⟨_, rfl⟩
          rw [hJ] at cs hrl
          have hwJ : IntKind.i64.wrap ((k : Int) - (A.steps.length : Int)) = (J : Int) := by rw [IntWalk.i64_in _ (by omega)]; omega
          have hwJ' : wrap64 ((k : Int) - (A.steps.length : Int)) = (J : Int) := by rw [IntWalk.wrap64_in _ (by omega)]; omega
          have hJ0 : (0 : Int) ≤ (J : Int) := by omega
          have hJl : (J : Int) < (A.rules.length : Int) := by omega
          obtain ⟨m, e, hp⟩ : ∃ m e, parseB (A.text k) = (m, e) := ⟨_, _, rfl⟩
          have kp := fun W => rcparse_own (A.text k) m e W hT hp
          have HT2 := Lib.hid hp
          have HP := HT2
          generalize hTT : A.text k = T at cs kp
          clear hTT
          have HCO := Lib.hid (hC0.keep HU.out.below)
          clear hp hT
          go_upto_region 13 with (go_at_call 31; (with_reducible refine (kp _).mono ?_); rintro E w1 ⟨hb, v1, rfl, ho1⟩)
          by_cases he : e = 0
          · subst he
            obtain ⟨a1, c1, rfl, hO1, hN1⟩ := own_oprow ho1
            have hm := parse_okO HT2.out
            have hm256 := hm.2
            have HU1 := Lib.hid (HU.out.keep hb)
            have HO1 := Lib.hid hO1; have HN1 := Lib.hid hN1; have HR1 := Lib.hid ho1; have HB1 := Lib.hid hb
            obtain ⟨d, e2, hz⟩ : ∃ d e2, checkB m A.cols true = (d, e2) := ⟨_, _, rfl⟩
            have kc := fun W h => rscheck_is a1 c1 m A.cols true d e2 W h hm.1 hk.cols hz
            have HZ := Lib.hid hz
            have y0 := (HCO.out.keep hb).1
            clear ho1 hO1 hN1 hm hz hb x0 x1 x2 x3 x4 cs HCO
            go_upto_region 16 with (go_at_call 35; (with_reducible refine (kc _ HO1.out).mono ?_); rintro E w2 ⟨rfl, hb⟩)
            have HU2 := Lib.hid (HU1.out.keep hb); have HR2 := Lib.hid (own_keep (own_mono' HR1.out HU.out.below.size) hb)
            have hO2 := HO1.out.keep hb
            clear hb HU1 HR1 HB1 HO1 kc y0
            by_cases he2 : e2 = 0
            · subst he2
              have HS := Lib.hid (AirP.upto_go HUP.out (AirP.one_ok hnx HT2.out HZ.out))
              rw [hform] at HS
              have HO1 := Lib.hid hO2
              obtain ⟨Wc, hWc⟩ : ∃ W, w2 = W := ⟨_, rfl⟩
              rw [hWc] at HU2 HR2 HO1
              simp only [hWc]
              clear hWc hO2 HZ HU kp
              clear HP HT2
              go_upto_region 20 with fail
              refine wp_gen (fun W => RulesUp w0 W u4 ks ∧ W.ownsRow w0.heap.size 66 2 (.slice a1 m.length c1) m.length (flatO m)) ⟨HU2.out, HR2.out⟩ ?_
              have hLm : m.length ≤ 300 := by omega
              obtain ⟨v5, hv5⟩ : ∃ v, Value.slice a1 m.length c1 = v := ⟨_, rfl⟩
              rw [hv5]
              simp only [id] at HS
              clear HU2 HR2 HO1 HN1 hv5
              generalize m = L at *
              rintro W6 ⟨hu, hl⟩
              obtain ⟨aL, cL, rfl⟩ := own_form hl
              obtain ⟨rs, hm1, hm2⟩ := hu
              have hlen := HLN.out
              have hown := hm1.1
              rw [valsV_len] at hown
              have HM1 := Lib.hid hm1; have HM2 := Lib.hid hm2; have HL := Lib.hid hl; have HOWN := Lib.hid hown
              have hsz0 := hm1.2.size
              clear hm1 hm2 hl
              go_upto_region 6 with (at_builtin; refine wpList_append_own _ rfl _ _ 43 rfl w0.heap.size 48 i1 (.slice none 0 0) 1 24 Try.underlying43 ki kz0 kz1 kz2 rfl (by decide) _ _ _ rfl (hown.alloc _) ⟨W6.heap.size, 0, none⟩ 1 1 [.slice aL L.length cL] rfl rfl (one_src (by simp [go_sem])) (by intro u hu; simp at hu; subst hu; rfl) (by unfold maxLen; omega) (by omega) (by simp; omega) ?_)
              intro v7 w7 q1 q2 _
              have hal : Below W6.heap.size W6 (W6.alloc (.cells #[.slice aL L.length cL] 48)) := (Below.refl _ _).alloc (Nat.le_refl _) _
              have HUP2 := Lib.hid (RulesUp.more (HM1.out.keep hal) (fun j hj => own_keep (HM2.out j hj) hal) (own_keep HL.out hal) q2 (MadeG.grow (HM1.out.keep hal) (by rw [valsV_len, HLN.out]; exact q1) q2))
              clear q1 q2 hal hown HM1 HM2 HL HOWN
              go_wp2
              go_roundw
              case rel => exact ⟨k + 1, ks ++ [L], by omega, by rw [List.length_append]; show ks.length + 1 = k + 1; omega, by go_num, HUP2.out, HS.out⟩
              case measure => simp [intOf]; omega
            · have hD := (AirP.all_stop HFIT.out (AirP.upto_err HUP.out (AirP.one_check hnx HT2.out HZ.out he2) he2) he2 (show k + 1 ≤ A.count by omega)).symm.trans HR.out
              obtain ⟨rfl, rfl⟩ := Prod.mk.inj hD
              have HBE := Lib.hid (bthen HB0.out HU2.out.below)
              clear hD HR HUP HU HU2 HR2 hO2 HT2 HZ HP kp
              go_wp2_with fail
              exact bodyPost_ret (v := .tuple #[.slice none 0 0, .int .i64 e2]) (by simp [results, Try.results20, go_sem]) rfl ⟨HBE.out, none, 0, rfl, opsA_nil _, fun _ => rfl⟩
          · have hD := (AirP.all_stop HFIT.out (AirP.upto_err HUP.out (AirP.one_parse HT2.out he) he) he (show k + 1 ≤ A.count by omega)).symm.trans HR.out
            obtain ⟨rfl, rfl⟩ := Prod.mk.inj hD
            have HBE := Lib.hid (bthen HB0.out (bthen HU.out.below hb))
            clear hD HR HUP HU HT2 HP ho1 hb kp HCO
            go_wp2_with fail
            exact bodyPost_ret (v := .tuple #[.slice none 0 0, .int .i64 e]) (by simp [results, Try.results20, go_sem]) rfl ⟨HBE.out, none, 0, rfl, opsA_nil _, fun _ => rfl⟩
      · obtain rfl : k = A.count := by omega
        have hD := (AirP.all_ok2 HFIT.out).symm.trans HR.out
        rw [HUP.out] at hD
        obtain ⟨rfl, rfl⟩ := Prod.mk.inj hD
        obtain ⟨a4, c4, rfl, hT4, hN4⟩ := HU.out.told
        have HBE := Lib.hid (bthen HB0.out HU.out.below)
        have HT4 := Lib.hid hT4; have HN4 := Lib.hid hN4
        clear hD HR HUP HU hT4 hN4
        go_wp2_with fail
        exact bodyPost_ret (v := .tuple #[.slice a4 ks.length c4, .int .i64 0]) (by simp [results, Try.results20, go_sem]) rfl ⟨HBE.out, a4, c4, rfl, HT4.out, HN4.out⟩
end Go.Proofs.Ytjcgakmhpblanaa
namespace Go.Proofs.Ytjcgakmhpblanaa
open Go Go.RowKit
set_option linter.unusedVariables false

/-- Whether it may be: what stands in a boxed variable is kept. -/
theorem BoundA.at {w : World} {a : Option Addr} {len : Nat} {zs : List (Int × Int)} (h : BoundA w a len zs) {k : Nat} (hk : k < len) : ∃ b off : Nat, a = some ⟨b, off, none⟩ ∧ w.cell? ⟨b, off + k * 2, none⟩ = some (.int .i64 (zs.getD k (0, 0)).1) ∧ w.cell? ⟨b, off + k * 2 + 1, none⟩ = some (.int .i64 (zs.getD k (0, 0)).2) := h.2.2 k hk
theorem racheck_far (A : AirP) (p : AirAt) (w : World) (hf : FewAir A) (hn : ¬ A.near) : Calls Try.prog 29 #[A.val p] w fun e w' => e = .returned (.int .i64 1) ∧ Below w.heap.size w w' := by
  have hb0 := fun o => (Below.refl w.heap.size w).alloc (Nat.le_refl _) o
  by_cases h1 : A.log < 0
  · clear hn hf
    go_enter Try.func29, Try.ntmps29
    go_wp2
    go_ret
    exact ⟨rfl, hb0 _⟩
  by_cases h2 : 10 < A.log
  · clear hn hf
    go_enter Try.func29, Try.ntmps29
    go_wp2
    go_ret
    exact ⟨rfl, hb0 _⟩
  have h3 : (16 : Int) < (A.bounds.length : Int) := by
    refine Int.not_le.1 fun h => hn ⟨by omega, by omega, by omega⟩
  clear hn hf
  go_enter Try.func29, Try.ntmps29
  go_wp2
  go_ret
  exact ⟨rfl, hb0 _⟩
def CheckRel (w0 : World) (A : AirP) (i : Value) (W : World) : Prop := ∃ k : Nat, k ≤ A.bounds.length ∧ i = .int .i64 k ∧ Below w0.heap.size w0 W ∧ ∀ j, j < k → A.okAt j
def CheckIn (w1 : World) (A : AirP) (k : Nat) (i : Value) (W : World) : Prop := ∃ j : Nat, j ≤ k ∧ i = .int .i64 j ∧ Below w1.heap.size w1 W ∧ ∀ i, i < j → A.bound i ≠ A.bound k
theorem AirP.not_places {A : AirP} {k : Nat} (hk : k < A.bounds.length) (h : ¬ A.okAt k) : ¬ A.places := fun hp => h (hp k hk)
set_option maxRecDepth 100000 in
set_option maxHeartbeats 8000000 in
theorem racheck_is (A : AirP) (p : AirAt) (r : Int) (w : World) (hA : AirA w A p) (hk : OkAir A) (hf : FewAir A) (hr : A.check = r) : Calls Try.prog 29 #[A.val p] w fun e w' => e = .returned (.int .i64 r) ∧ Below w.heap.size w w' := by
  by_cases hnear : A.near
  case neg =>
    rw [AirP.check_far hnear] at hr
    subst hr
    exact racheck_far A p w hf hnear
  have HN := Lib.hid hnear; have HR := Lib.hid hr
  obtain ⟨g1, g2, g3⟩ := hnear
  have hb16 : A.bounds.length ≤ 16 := g3
  have hg1 : ¬ A.log < 0 := by omega
  have hg2 : ¬ 10 < A.log := by omega
  have hg3 : ¬ (16 : Int) < (A.bounds.length : Int) := by omega
  have hA0' := Lib.hid hA
  obtain ⟨ls, e, hall⟩ : ∃ ls e, A.all = (ls, e) := ⟨_, _, rfl⟩
  have HALL := Lib.hid hall
  have kr := fun W (h : AirA W A p) => rarules_is A p ls e W h hk hf hall
  unfold RulesPost at kr
  have ks := fun W => rasize_is A p W HN.out
  clear hr hA hall
  go_enter Try.func29, Try.ntmps29
  go_upto_region 3 with fail
  refine wp_gen (fun W => Below w.heap.size w W ∧ AirC W w.heap.size A p) ⟨(Below.refl _ _).alloc (Nat.le_refl _) _, AirC.new _ _ _ _⟩ ?_
  obtain ⟨g, hg⟩ : ∃ g, w.heap.size = g := ⟨_, rfl⟩
  rintro w0 ⟨hB0, hC0⟩
  rw [hg] at hC0
  simp only [hg]
  have HA0 := Lib.hid (hA0'.out.keep hB0)
  have HB0 := Lib.hid hB0
  have HC0 := Lib.hid hC0
  clear hB0 hg hA0' g1 g2 g3 hg1 hg2 hg3
  obtain ⟨x0, x1, x2, x3, x4⟩ := hC0
  go_upto_region 4 with (go_at_call 20; (with_reducible refine (kr _ HA0.out).mono ?_); rintro E w1 ⟨hb, al, cl, rfl, _, _⟩)
  have HB1 := Lib.hid (bthen HB0.out hb)
  have HC1 := Lib.hid (HC0.out.keep hb); have HA1 := Lib.hid (HA0.out.keep hb)
  clear hb x0 x1 x2 x3 x4 kr HC0 HA0 HB0
  by_cases he : e = 0
  · subst he
    have HOK := Lib.hid (show A.all.2 = 0 by rw [HALL.out])
    go_upto_region 7 with fail
    go_loopw [5] (CheckRel w1 A) (fun i _ => A.bounds.length - (intOf i).toNat)
    case atStart => exact ⟨0, Nat.zero_le _, rfl, Below.refl _ _, fun j hj => by omega⟩
    case round =>
      obtain ⟨k, hk2, rfl, hB, hpl⟩ := hrel
      have HB := Lib.hid hB; have HPL := Lib.hid hpl
      obtain ⟨x0, x1, x2, x3, x4⟩ := HC1.out.keep hB
      have HX := Lib.hid (HC1.out.keep hB)
      clear hB hpl
      by_cases hlt : k < A.bounds.length
      · have hltI : (k : Int) < (A.bounds.length : Int) := by omega
        have hk0 : (0 : Int) ≤ (k : Int) := by omega
        obtain ⟨b, off, hpa, c0, c1⟩ := (HA1.out.keep HB.out).2.2.1.at hlt
        have HBA := Lib.hid (HA1.out.keep HB.out).2.2.1
        have hbk : A.bounds.getD k (0, 0) = A.bound k := rfl
        rw [hbk] at c0 c1
        rw [hpa] at x4 HBA
        have HPA := Lib.hid hpa
        clear hbk hpa
        have HOA : Hid (∀ c r, A.bound k = (c, r) → (¬ (0 ≤ c ∧ c < A.cols ∧ 0 ≤ r ∧ r < A.size) → ¬ A.okAt k)) := Lib.hid fun c r h q hq => q (by have := hq.1; rw [h] at this; exact this)
        have HOB : Hid (∀ c r, A.bound k = (c, r) → (0 ≤ c ∧ c < A.cols ∧ 0 ≤ r ∧ r < A.size) → (∀ i, i < k → A.bound i ≠ A.bound k) → A.okAt k) := Lib.hid fun c r h q hq => ⟨by rw [h]; exact q, hq⟩
        obtain ⟨c, hcc⟩ : ∃ c, (A.bound k).1 = c := ⟨_, rfl⟩
        obtain ⟨rr, hrr⟩ : ∃ r, (A.bound k).2 = r := ⟨_, rfl⟩
        have HCR := Lib.hid (show A.bound k = (c, rr) by rw [← hcc, ← hrr])
        rw [hcc] at c0; rw [hrr] at c1
        clear hcc hrr
        replace HOA := Lib.hid (HOA.out _ _ HCR.out)
        replace HOB := Lib.hid (HOB.out _ _ HCR.out)
        have c0' := c0; have c1' := c1
        go_upto_region 10 with fail
        refine wp_gen (fun W => Below wr.heap.size wr W ∧ W.cell? ⟨wr.heap.size, 0, none⟩ = some (.int .i64 c) ∧ W.cell? ⟨wr.heap.size, 1, none⟩ = some (.int .i64 rr)) ⟨(Below.refl _ _).alloc (Nat.le_refl _) _, by simp [go_sem], by simp [go_sem]⟩ ?_
        obtain ⟨gb, hgb⟩ : ∃ g, wr.heap.size = g := ⟨_, rfl⟩
        rintro w2 ⟨hb2, d0, d1⟩
        rw [hgb] at d0 d1
        simp only [hgb]
        have HB2 := Lib.hid (bthen HB.out hb2)
        have HX2 := Lib.hid (HX.out.keep hb2)
        have HBA2 := Lib.hid (HBA.out.keep hb2)
        clear hb2 hgb x0 x1 x2 x3 x4 c0 c1 c0' c1' HBA HB
        obtain ⟨x0, x1, x2, x3, x4⟩ := HX2.out
        by_cases q1 : c < 0
        · have hD := (AirP.check_places HN.out HOK.out (AirP.not_places hlt (HOA.out (by omega)))).symm.trans HR.out
          subst hD
          clear HR HPL HX HOA HOB
          replace x0 := fun q : Regrown => cell_regrown x0 q.d q.os
          replace x1 := fun q : Regrown => cell_regrown x1 q.d q.os
          replace x2 := fun q : Regrown => cell_regrown x2 q.d q.os
          replace x3 := fun q : Regrown => cell_regrown x3 q.d q.os
          replace x4 := fun q : Regrown => cell_regrown x4 q.d q.os
          replace d0 := fun q : Regrown => cell_regrown d0 q.d q.os
          replace d1 := fun q : Regrown => cell_regrown d1 q.d q.os
          refine wp_region_quiet_below (by kernel_rfl) (by kernel_rfl) ?_
          repeat (first | go_big_quiet_step ((go_at_call 30; with_reducible exact Calls.regrown_of (ks _))) | quiet_step (fail))
          refine wpQuiet_nil ?_
          rintro _ ⟨pq, rfl⟩
          have hbq := below_regrown w2 pq.d pq.os
          have HBE := Lib.hid (bthen HB1.out (bthen HB2.out hbq))
          clear x0 x1 x2 x3 x4 d0 d1 HX2
          go_wp2_with fail
          go_ret
          exact ⟨rfl, HBE.out⟩
        by_cases q2 : A.cols ≤ c
        · have hD := (AirP.check_places HN.out HOK.out (AirP.not_places hlt (HOA.out (by omega)))).symm.trans HR.out
          subst hD
          clear HR HPL HX HOA HOB
          replace x0 := fun q : Regrown => cell_regrown x0 q.d q.os
          replace x1 := fun q : Regrown => cell_regrown x1 q.d q.os
          replace x2 := fun q : Regrown => cell_regrown x2 q.d q.os
          replace x3 := fun q : Regrown => cell_regrown x3 q.d q.os
          replace x4 := fun q : Regrown => cell_regrown x4 q.d q.os
          replace d0 := fun q : Regrown => cell_regrown d0 q.d q.os
          replace d1 := fun q : Regrown => cell_regrown d1 q.d q.os
          refine wp_region_quiet_below (by kernel_rfl) (by kernel_rfl) ?_
          repeat (first | go_big_quiet_step ((go_at_call 30; with_reducible exact Calls.regrown_of (ks _))) | quiet_step (fail))
          refine wpQuiet_nil ?_
          rintro _ ⟨pq, rfl⟩
          have hbq := below_regrown w2 pq.d pq.os
          have HBE := Lib.hid (bthen HB1.out (bthen HB2.out hbq))
          clear x0 x1 x2 x3 x4 d0 d1 HX2
          go_wp2_with fail
          go_ret
          exact ⟨rfl, HBE.out⟩
        by_cases q3 : rr < 0
        · have hD := (AirP.check_places HN.out HOK.out (AirP.not_places hlt (HOA.out (by omega)))).symm.trans HR.out
          subst hD
          clear HR HPL HX HOA HOB
          replace x0 := fun q : Regrown => cell_regrown x0 q.d q.os
          replace x1 := fun q : Regrown => cell_regrown x1 q.d q.os
          replace x2 := fun q : Regrown => cell_regrown x2 q.d q.os
          replace x3 := fun q : Regrown => cell_regrown x3 q.d q.os
          replace x4 := fun q : Regrown => cell_regrown x4 q.d q.os
          replace d0 := fun q : Regrown => cell_regrown d0 q.d q.os
          replace d1 := fun q : Regrown => cell_regrown d1 q.d q.os
          refine wp_region_quiet_below (by kernel_rfl) (by kernel_rfl) ?_
          repeat (first | go_big_quiet_step ((go_at_call 30; with_reducible exact Calls.regrown_of (ks _))) | quiet_step (fail))
          refine wpQuiet_nil ?_
          rintro _ ⟨pq, rfl⟩
          have hbq := below_regrown w2 pq.d pq.os
          have HBE := Lib.hid (bthen HB1.out (bthen HB2.out hbq))
          clear x0 x1 x2 x3 x4 d0 d1 HX2
          go_wp2_with fail
          go_ret
          exact ⟨rfl, HBE.out⟩
        by_cases q4 : A.size ≤ rr
        · have hD := (AirP.check_places HN.out HOK.out (AirP.not_places hlt (HOA.out (by omega)))).symm.trans HR.out
          subst hD
          clear HR HPL HX HOA HOB
          replace x0 := fun q : Regrown => cell_regrown x0 q.d q.os
          replace x1 := fun q : Regrown => cell_regrown x1 q.d q.os
          replace x2 := fun q : Regrown => cell_regrown x2 q.d q.os
          replace x3 := fun q : Regrown => cell_regrown x3 q.d q.os
          replace x4 := fun q : Regrown => cell_regrown x4 q.d q.os
          replace d0 := fun q : Regrown => cell_regrown d0 q.d q.os
          replace d1 := fun q : Regrown => cell_regrown d1 q.d q.os
          refine wp_region_quiet_below (by kernel_rfl) (by kernel_rfl) ?_
          repeat (first | go_big_quiet_step ((go_at_call 30; with_reducible exact Calls.regrown_of (ks _))) | quiet_step (fail))
          refine wpQuiet_nil ?_
          rintro _ ⟨pq, rfl⟩
          have hbq := below_regrown w2 pq.d pq.os
          have HBE := Lib.hid (bthen HB1.out (bthen HB2.out hbq))
          clear x0 x1 x2 x3 x4 d0 d1 HX2
          go_wp2_with fail
          go_ret
          exact ⟨rfl, HBE.out⟩
        replace HOB := Lib.hid (HOB.out ⟨by omega, by omega, by omega, by omega⟩)
        clear HOA
        replace x0 := fun q : Regrown => cell_regrown x0 q.d q.os
        replace x1 := fun q : Regrown => cell_regrown x1 q.d q.os
        replace x2 := fun q : Regrown => cell_regrown x2 q.d q.os
        replace x3 := fun q : Regrown => cell_regrown x3 q.d q.os
        replace x4 := fun q : Regrown => cell_regrown x4 q.d q.os
        replace d0 := fun q : Regrown => cell_regrown d0 q.d q.os
        replace d1 := fun q : Regrown => cell_regrown d1 q.d q.os
        refine wp_region_quiet_below (by kernel_rfl) (by kernel_rfl) ?_
        repeat (first | go_big_quiet_step ((go_at_call 30; with_reducible exact Calls.regrown_of (ks _))) | quiet_step (fail))
        refine wpQuiet_nil ?_
        rintro _ ⟨pq, rfl⟩
        have hbq := below_regrown w2 pq.d pq.os
        have HB3 := Lib.hid (bthen HB2.out hbq)
        clear x0 x1 x2 x3 x4 q1 q2 q3 q4
        go_upto_region 12 with fail
        refine wp_gen (fun W => Below w2.heap.size w2 W ∧ W.cell? ⟨gb, 0, none⟩ = some (.int .i64 c) ∧ W.cell? ⟨gb, 1, none⟩ = some (.int .i64 rr)) ⟨hbq, d0 pq, d1 pq⟩ ?_
        clear d0 d1 hbq HB3
        rintro w3 ⟨hb3, d0, d1⟩
        have HB3 := Lib.hid (bthen HB2.out hb3)
        have HX3 := Lib.hid (HX2.out.keep hb3); have HBA3 := Lib.hid (HBA2.out.keep hb3)
        have HD0 := Lib.hid (And.intro d0 d1)
        clear hb3 d0 d1 HX2 HX HB2 HBA2 pq
        go_upto_region 13 with fail
        go_loopw [7] (CheckIn w3 A k) (fun i _ => k - (intOf i).toNat)
        case atStart => exact ⟨0, Nat.zero_le _, rfl, Below.refl _ _, fun j hj => by omega⟩
        case round =>
          obtain ⟨j, hj, rfl, hB, hne⟩ := hrel
          have HNE := Lib.hid hne; have HBI := Lib.hid hB
          clear hne
          by_cases hlt2 : j < k
          · have hlt2I : (j : Int) < (k : Int) := by omega
            have hj0 : (0 : Int) ≤ (j : Int) := by omega
            have hjl : (j : Int) < (A.bounds.length : Int) := by omega
            obtain ⟨x0, x1, x2, x3, x4⟩ := HX3.out.keep hB
            rw [HPA.out] at x4
            have d0 := bkeep hB HD0.out.1; have d1 := bkeep hB HD0.out.2
            obtain ⟨b', off', hpe, cj0, cj1⟩ := (HBA3.out.keep hB).at (k := j) (by omega)
            cases hpe
            have hbj : A.bounds.getD j (0, 0) = A.bound j := rfl
            rw [hbj] at cj0 cj1
            obtain ⟨cj, hcj⟩ : ∃ c, A.bound j = c := ⟨_, rfl⟩
            have HCJ := Lib.hid hcj
            rw [hcj] at cj0 cj1
            obtain ⟨x, y⟩ := cj
            dsimp only at cj0 cj1
            clear hbj hB x0 x1 x2 x3 hcj
            by_cases ex : x = c
            · by_cases ey : y = rr
              · subst ex ey
                have hD := (AirP.check_places HN.out HOK.out (AirP.not_places hlt fun q => q.2 j hlt2 (HCJ.out.trans HCR.out.symm))).symm.trans HR.out
                subst hD
                have HBE := Lib.hid (bthen HB1.out (bthen HB3.out HBI.out))
                clear HR HPL HOB HNE HX3 HBA3
                go_upto_region 15 with fail
                go_quiet (fail)
                go_wp2_with fail
                go_ret
                exact ⟨rfl, by first | exact HBE.out | exact HBE.out.drew | exact below_drewN HBE.out _⟩
              · subst ex
                have HNE2 := Lib.hid (show ∀ i, i < j + 1 → A.bound i ≠ A.bound k from fun i hi => by
                  by_cases e : i = j
                  · subst e; rw [HCJ.out, HCR.out]; exact fun h => ey (Prod.mk.inj h).2
                  · exact HNE.out i (by omega))
                clear HNE
                go_upto_region 15 with fail
                go_quiet (fail)
                go_wp2_with fail
                go_roundw
                case rel => exact ⟨j + 1, by omega, by go_num, below_drewN HBI.out _, HNE2.out⟩
                case measure => simp [intOf]; omega
            · have HNE2 := Lib.hid (show ∀ i, i < j + 1 → A.bound i ≠ A.bound k from fun i hi => by
                by_cases e : i = j
                · subst e; rw [HCJ.out, HCR.out]; exact fun h => ex (Prod.mk.inj h).1
                · exact HNE.out i (by omega))
              clear HNE
              go_upto_region 15 with fail
              go_quiet (fail)
              go_wp2_with fail
              go_roundw
              case rel => exact ⟨j + 1, by omega, by go_num, below_drewN HBI.out _, HNE2.out⟩
              case measure => simp [intOf]; omega
          · obtain rfl : j = k := by omega
            have HPL2 := Lib.hid (show ∀ i, i < j + 1 → A.okAt i from fun i hi => by
              by_cases e : i = j
              · subst e; exact HOB.out HNE.out
              · exact HPL.out i (by omega))
            clear HNE HPL HOB HX3 HBA3 HD0
            have HBN := Lib.hid (bthen HB3.out hB)
            clear hB
            go_wp2_with fail
            go_roundw
            case rel => exact ⟨j + 1, by omega, by go_num, HBN.out, HPL2.out⟩
            case measure => simp [intOf]; omega
      · obtain rfl : k = A.bounds.length := by omega
        have hD := (AirP.check_is HN.out HOK.out (fun j hj => HPL.out j hj)).symm.trans HR.out
        subst hD
        have HBE := Lib.hid (bthen HB1.out HB.out)
        clear HR HPL HX
        go_wp2_with fail
        go_ret
        exact ⟨rfl, HBE.out⟩
  · have hD := (AirP.check_rules HN.out (show A.all.2 = e by rw [HALL.out]) he).symm.trans HR.out
    subst hD
    clear HR HALL
    go_wp2_with fail
    go_ret
    exact ⟨rfl, HB1.out⟩
end Go.Proofs.Ytjcgakmhpblanaa
namespace Go.Proofs.Ytjcgakmhpblanaa
open Go Go.RowKit
set_option linter.unusedVariables false

theorem infoIntA : (Try.prog.info? 3).map (fun i => (i.zero, i.size, i.bytes)) = some (some (.int .i64 0), 1, 8) := by kernel_rfl
theorem degMax_take (ls : List (List Opn)) (k : Nat) (h : k < ls.length) : degMax (ls.take (k + 1)) = max (degMax (ls.take k)) (degO (ls.getD k [])) := by
  rw [List.take_succ_eq_append_getElem h, degMax_snoc]
  congr 2
  simp [List.getD, h]
theorem fine_two {o : Opn} {l : List Opn} {h : Nat} (h1 : ¬ o.1 = 1) (h2 : ¬ o.1 = 2) (h3 : ¬ o.1 = 3) (hf : Fine (o :: l) h) : 2 ≤ h ∧ Fine l (h - 1) := by rw [Fine, if_neg (by omega)] at hf; exact hf
theorem fine_one {o : Opn} {l : List Opn} {h : Nat} (h1 : o.1 = 1 ∨ o.1 = 2 ∨ o.1 = 3) (hf : Fine (o :: l) h) : Fine l (h + 1) := by rw [Fine, if_pos h1] at hf; exact hf
theorem sum_two {x y s j : Nat} (h : y + (x + s) ≤ j) : x + y + s ≤ j + 1 := by omega
theorem sum_max {x y s j : Nat} (h : y + (x + s) ≤ j) : max x y + s ≤ j + 1 := by omega
theorem len_two {n j : Nat} (h : n + 1 + 1 ≤ j) : n + 1 ≤ j + 1 := by omega
def DegRel (w0 : World) (ls : List (List Opn)) (n i : Value) (W : World) : Prop := ∃ k : Nat, k ≤ ls.length ∧ n = .int .i64 ((degMax (ls.take k) : Nat) : Int) ∧ i = .int .i64 k ∧ Below w0.heap.size w0 W ∧ degMax (ls.take k) ≤ 4
def DegIn (w1 : World) (l : List Opn) (d : Nat) (v i : Value) (W : World) : Prop :=
  ∃ (j : Nat) (st : List Nat), j ≤ l.length ∧ i = .int .i64 j ∧ Below w1.heap.size w1 W ∧ W.ownsRow w1.heap.size 3 1 v st.length (stkV stN st) ∧ st.length ≤ j ∧ st.sum ≤ j ∧ degS (l.drop j) st = [d] ∧ Fine (l.drop j) st.length
def DegVal71 (gs m M1 M2 cs' : Nat) (vx vy vz : Value) (k : Nat) : Value :=
  match k with
  | 71 => .slice (some ⟨gs, 0, none⟩) M2 cs'
  | 72 => .int .i64 (M2 : Int)
  | 73 => .int .i64 (m : Int)
  | 74 => .slice (some ⟨gs, 0, none⟩) m cs'
  | 75 => .slice (some ⟨gs, 0, none⟩) M2 cs'
  | 76 => .int .i64 (M2 : Int)
  | 77 => .int .i64 (m : Int)
  | 78 => .pointer (some ⟨gs, m, none⟩)
  | 79 => vx
  | 80 => .slice (some ⟨gs, 0, none⟩) M2 cs'
  | 81 => .int .i64 (M2 : Int)
  | 82 => .int .i64 (M1 : Int)
  | 83 => .pointer (some ⟨gs, M1, none⟩)
  | 84 => vy
  | _ => vz
def DegVal41 (gs m M1 M2 cs' : Nat) (vx vy vz : Value) (k : Nat) : Value :=
  match k with
  | 41 => .slice (some ⟨gs, 0, none⟩) M2 cs'
  | 42 => .int .i64 (M2 : Int)
  | 43 => .int .i64 (m : Int)
  | 44 => .slice (some ⟨gs, 0, none⟩) m cs'
  | 45 => .slice (some ⟨gs, 0, none⟩) M2 cs'
  | 46 => .int .i64 (M2 : Int)
  | 47 => .int .i64 (m : Int)
  | 48 => .pointer (some ⟨gs, m, none⟩)
  | 49 => vx
  | 50 => .slice (some ⟨gs, 0, none⟩) M2 cs'
  | 51 => .int .i64 (M2 : Int)
  | 52 => .int .i64 (M1 : Int)
  | 53 => .pointer (some ⟨gs, M1, none⟩)
  | 54 => vy
  | _ => vz
theorem AirP.deg_ok {A : AirP} (h : A.all.2 = 0) {i : Nat} (hi : i < A.count) : ∃ d, d ≤ 4 ∧ degS (A.all.1.getD i []) [] = [d] ∧ Fine (A.all.1.getD i []) 0 ∧ (A.all.1.getD i []).length ≤ 258 := by
  obtain ⟨l, d, h1, h2, h3, h4, h5, h6⟩ := AirP.rule_ok h hi
  have := (checkB_ok h2).2.2.2.2.1
  refine ⟨_, ?_, by rw [h3]; exact h4, by rw [h3]; exact h5, ?_⟩
  · split <;> omega
  · rw [h3]
    unfold AirP.form
    split
    · unfold stepO; simp; omega
    · omega
end Go.Proofs.Ytjcgakmhpblanaa
namespace Go.Proofs.Ytjcgakmhpblanaa
open Go Go.RowKit
set_option linter.unusedVariables false

theorem degMax_pos : ∀ (ls : List (List Opn)), 1 ≤ degMax ls := by
  have : ∀ (ls : List (List Opn)) (n : Nat), n ≤ ls.foldl (fun n l => max n (degO l)) n := by
    intro ls
    induction ls with
    | nil => intro n; exact Nat.le_refl _
    | cons l ls ih => intro n; have := ih (max n (degO l)); simp only [List.foldl_cons]; omega
  exact fun ls => this ls 1
theorem degMax_le {m : Nat} (hm : 1 ≤ m) : ∀ (ls : List (List Opn)), (∀ l ∈ ls, degO l ≤ m) → degMax ls ≤ m := by
  have : ∀ (ls : List (List Opn)) (n : Nat), n ≤ m → (∀ l ∈ ls, degO l ≤ m) → ls.foldl (fun n l => max n (degO l)) n ≤ m := by
    intro ls
    induction ls with
    | nil => intro n hn _; exact hn
    | cons l ls ih => intro n hn h; simp only [List.foldl_cons]; exact ih _ (by have := h l (by simp); omega) (fun x hx => h x (by simp [hx]))
  exact fun ls h => this ls 1 hm h
theorem AirP.degree_bd {A : AirP} (h : A.all.2 = 0) : 1 ≤ A.degree ∧ A.degree ≤ 4 := by
  refine ⟨degMax_pos _, degMax_le (by decide) _ fun l hl => ?_⟩
  obtain ⟨i, hi, rfl⟩ := List.getElem_of_mem hl
  obtain ⟨d, hd, h1, _⟩ := AirP.deg_ok h (i := i) (by rw [← AirP.all_len h]; exact hi)
  have e : A.all.1.getD i [] = A.all.1[i] := by simp [List.getD, hi]
  rw [e] at h1
  unfold degO
  rw [h1]
  exact hd
/-! ### Its bytes -/
section
variable {α : Type}
theorem addB_take (f : α → ByteArray) (s : ByteArray) (l : List α) (k : Nat) (d : α) (h : k < l.length) : addB f s (l.take (k + 1)) = addB f s (l.take k) ++ f (l.getD k d) := by
  rw [List.take_succ_eq_append_getElem h, addB_snoc]
  congr 2
  simp [List.getD, h]
theorem addB_size (f : α → ByteArray) (m : Nat) (s : ByteArray) : ∀ (l : List α), (∀ x ∈ l, (f x).size ≤ m) → (addB f s l).size ≤ s.size + m * l.length := by
  refine snoc_ind (fun _ => by show s.size ≤ _; omega) fun l x ih h => ?_
  rw [addB_snoc, ByteArray.size_append, List.length_append]
  have h1 := ih fun y hy => h y (by simp [hy])
  have h2 := h x (by simp)
  show _ ≤ s.size + m * (l.length + 1)
  rw [Nat.mul_succ]
  omega
end
theorem row_lit2 (W : World) (x y : Int) (t : TypeId) : RowA (W.alloc (.cells #[.int .u64 x, .int .u64 y] t)) (some ⟨W.heap.size, 0, none⟩) 2 [x, y] := by
  refine ⟨rfl, by unfold maxLen; omega, fun k hk => ⟨W.heap.size, 0, rfl, ?_⟩⟩
  have : k = 0 ∨ k = 1 := by omega
  rcases this with rfl | rfl <;> simp [go_sem]
theorem row_lit5 (W : World) (a b c d e : Int) (t : TypeId) : RowA (W.alloc (.cells #[.int .u64 a, .int .u64 b, .int .u64 c, .int .u64 d, .int .u64 e] t)) (some ⟨W.heap.size, 0, none⟩) 5 [a, b, c, d, e] := by
  refine ⟨rfl, by unfold maxLen; omega, fun k hk => ⟨W.heap.size, 0, rfl, ?_⟩⟩
  have : k = 0 ∨ k = 1 ∨ k = 2 ∨ k = 3 ∨ k = 4 := by omega
  rcases this with rfl | rfl | rfl | rfl | rfl <;> simp [go_sem]
theorem textB_size (t : ByteArray) : (textB t).size = 8 + t.size := by unfold textB; rw [ByteArray.size_append, eightB_size]
theorem placeB_size (b : Int × Int) : (placeB b).size = 16 := by unfold placeB; rw [rowB_size]; rfl
def TextRel18 (w0 : World) (S0 : ByteArray) (l : List ByteArray) (s i : Value) (W : World) : Prop := ∃ k : Nat, k ≤ l.length ∧ s = .string (addB textB S0 (l.take k)) ∧ i = .int .i64 k ∧ Below w0.heap.size w0 W
def PlaceRel18 (w0 : World) (S0 : ByteArray) (l : List (Int × Int)) (s i : Value) (W : World) : Prop := ∃ k : Nat, k ≤ l.length ∧ s = .string (addB placeB S0 (l.take k)) ∧ i = .int .i64 k ∧ Below w0.heap.size w0 W
def PrintR18 (g b o : Nat) (k x y : Int) (vb : Value) (s r : ByteArray) (sl : Nat) (v : Value) (W : World) : Prop :=
  match sl with
  | 64 => v = .string s
  | 65 => v = .pointer (some ⟨g, 4, none⟩)
  | 66 => v = vb
  | 67 => v = .int .i64 k
  | 68 => v = .pointer (some ⟨b, o, none⟩)
  | 69 => v = .pointer (some ⟨b, o, none⟩)
  | 70 => v = .int .i64 x
  | 71 => v = .int .u64 x
  | 72 => v = .pointer (some ⟨g, 4, none⟩)
  | 73 => v = vb
  | 74 => v = .int .i64 k
  | 75 => v = .pointer (some ⟨b, o, none⟩)
  | 76 => v = .pointer (some ⟨b, o + 1, none⟩)
  | 77 => v = .int .i64 y
  | 78 => v = .int .u64 y
  | 80 => v = .string r
  | 81 => v = .string (s ++ r)
  | _ => ∃ q : Nat, v = .slice (some ⟨q, 0, none⟩) 2 2 ∧ RowA W (some ⟨q, 0, none⟩) 2 [x, y]
theorem PrintR18.keep {g b o : Nat} {k x y : Int} {vb : Value} {s r : ByteArray} {sl : Nat} {v : Value} {W W' : World} (h : PrintR18 g b o k x y vb s r sl v W) (hb : Below W.heap.size W W') : PrintR18 g b o k x y vb s r sl v W' := by
  unfold PrintR18 at h ⊢
  split at h <;> first | exact h | (obtain ⟨q, h1, h2⟩ := h; exact ⟨q, h1, h2.keep hb⟩)
end Go.Proofs.Ytjcgakmhpblanaa
