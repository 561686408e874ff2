/-
  Exact counting over all places. Plain.
-/
import Derived.Test.YthfkfgjhgicfeaaGreatDoorCountP
import Derived.Test.YthfkfgjhgicfeaaGreatDoorJudgeH
import Derived.Test.YthfkfgjhgicfeaaGreatDoorGRows
namespace Go.Proofs.YthfkfgjhgicfeaaGreatDoor
open Go Go.RowKit
set_option linter.unusedVariables false
set_option linter.unusedSimpArgs false

/-! ### What is opened -/
def opnL : List QL → Nat → List Quad
  | [], _ => []
  | w :: r, at' => if w.length / 2 = 0 then [] else twoAt w (at' % (w.length / 2)) (w.length / 2) :: opnL r (at' % (w.length / 2))
def opnV (words : List QL) (pl : Int) : List Quad := if pl < 0 then [] else opnL words pl.toNat
/-- The first one's, and the others'. -/
def opnF (words : List QL) (pl : Int) : Quad := (opnV words pl).getD 0 zeroQ
def opnR (words : List QL) (pl : Int) : List Quad := (opnV words pl).drop 1
def acceptsV (k bl fo : Int) (bys : QL) (words : List QL) (fin : QL) : Nat :=
  many (fun i => judgeB k bl fo bys (i : Int) (opnF words (i : Int)) (opnR words (i : Int)) fin) (2 ^ (k + bl - 1).toNat)
/-- The words that a word is folded to, but for the last one. -/
def wordsV (l ys : QL) : List QL := if (chainV l ys).2 = true then (if 1 < (chainV l ys).1.length then (chainV l ys).1.take ((chainV l ys).1.length - 1) else (chainV l ys).1) else []
/-! ### Polynomials at places -/
def ptV (m f : Int) (i : Nat) : F2 := lift (pointF m f (i : Int))
/-- At how many places (pairs of places) c is as a word says. -/
def agreeN (x v : Nat → F2) (c : F2 → F2) (n : Nat) : Nat := many (fun i => decide (c (x i) = v i)) n
def agreeT (x v : Nat → F2) (c : F2 → F2) (h : Nat) : Nat := many (fun i => decide (c (x i) = v i) && decide (c (x (i + h)) = v (i + h))) h
def agreeC (word : QL) (f : Int) (c : F2 → F2) (two : Bool) : Nat :=
  if 0 ≤ lg word.length then (if two = true then agreeT (ptV (lg word.length) f) (qAt word) c (word.length / 2) else agreeN (ptV (lg word.length) f) (qAt word) c word.length) else 0
def agreeV (word : QL) (f : Int) (line : List F2) (two : Bool) : Nat := agreeC word f (atP line) two
/-- Through some places. -/
def picks (x : Nat → F2) (I : List Nat) : List F2 := I.map x
def oneB (word : QL) (f : Int) (two : Bool) (I : List Nat) : Nat :=
  if thrB (picks (ptV (lg word.length) f) I) (picks (qAt word) I) = true then agreeV word f (thrL (picks (ptV (lg word.length) f) I) (picks (qAt word) I)) two else 0
def bestOk (n : Nat) (dim : Int) : Prop := 1 ≤ lg n ∧ lg n ≤ 4 ∧ 0 ≤ dim ∧ dim ≤ n
instance (n : Nat) (dim : Int) : Decidable (bestOk n dim) := by unfold bestOk; exact inferInstance
def bestV (word : QL) (f dim : Int) (two : Bool) : Nat :=
  if bestOk word.length dim then (subs dim.toNat word.length).foldl (fun b I => max b (oneB word f two I)) 0 else 0
/-! ### Bad pairs -/
/-- By what, is it known, is there none: behind one more place, where the halves miss what the first ones say by c and d. -/
def stepV (st : F2 × Bool × Bool) (cd : F2 × F2) : F2 × Bool × Bool :=
  if cd.2 = 0 then (if cd.1 = 0 then st else (st.1, st.2.1, true)) else (-cd.1 * qinv cd.2, true, st.2.2 || (st.2.1 && decide (st.1 ≠ -cd.1 * qinv cd.2)))
def missV (x E O : Nat → F2) (e o : List F2) (k : Nat) : F2 × F2 := (E k - atP e (x k), O k - atP o (x k))
def setV (x E O : Nat → F2) (d : Nat) (I : List Nat) : F2 × Bool × Bool :=
  ((I.drop d).map (missV x E O (thrL (picks x (I.take d)) (picks E (I.take d))) (thrL (picks x (I.take d)) (picks O (I.take d))))).foldl stepV (0, false, false)
def badGo (g : List Nat → F2 × Bool × Bool) : List (List Nat) → List F2 → List F2 × Bool
  | [], out => (out, false)
  | I :: r, out => if (g I).2.2 = true then badGo g r out else if (g I).2.1 = false then ([], true) else badGo g r (if (g I).1 ∈ out then out else out ++ [(g I).1])
def evenV (word : QL) (f : Int) (i : Nat) : F2 := qAt (wordV word 0 f).1 i
def oddV (word : QL) (f : Int) (i : Nat) : F2 := qAt (wordV word 1 f).1 i - qAt (wordV word 0 f).1 i
def badOk (n : Nat) (dim places : Int) : Prop := 2 ≤ lg n ∧ lg n ≤ 4 ∧ 0 ≤ dim ∧ dim < places ∧ places ≤ ((n / 2 : Nat) : Int)
instance (n : Nat) (dim places : Int) : Decidable (badOk n dim places) := by unfold badOk; exact inferInstance
def badV (word : QL) (f dim places : Int) : List F2 × Bool :=
  if badOk word.length dim places then badGo (setV (ptV (lg word.length - 1) (f + 1)) (evenV word f) (oddV word f) dim.toNat) (subs places.toNat (word.length / 2)) [] else ([], false)
/-! ### What holds of the best one -/
theorem max_ge {α : Type} (g : α → Nat) : ∀ (l : List α) (b : Nat), b ≤ l.foldl (fun b I => max b (g I)) b ∧ ∀ I ∈ l, g I ≤ l.foldl (fun b I => max b (g I)) b
  | [], b => ⟨Nat.le_refl _, fun I h => by cases h⟩
  | J :: r, b => by
    obtain ⟨h1, h2⟩ := max_ge g r (max b (g J))
    rw [List.foldl_cons]
    refine ⟨by omega, fun I hI => ?_⟩
    rcases List.mem_cons.1 hI with rfl | hI
    · omega
    · exact h2 I hI
theorem max_is {α : Type} (g : α → Nat) : ∀ (l : List α) (b : Nat), l.foldl (fun b I => max b (g I)) b = b ∨ ∃ I ∈ l, l.foldl (fun b I => max b (g I)) b = g I
  | [], b => Or.inl rfl
  | J :: r, b => by
    rw [List.foldl_cons]
    rcases max_is g r (max b (g J)) with h | ⟨I, hI, h⟩
    · by_cases c : g J ≤ b
      · left; rw [h]; omega
      · right; exact ⟨J, List.mem_cons_self .., by rw [h]; omega⟩
    · exact Or.inr ⟨I, List.mem_cons_of_mem _ hI, h⟩
theorem picks_len (x : Nat → F2) (I : List Nat) : (picks x I).length = I.length := by simp [picks]
theorem picks_at (x : Nat → F2) {I : List Nat} {i : Nat} (h : i < I.length) : cq (picks x I) i = x (I.getD i 0) := by simp [picks, cq, List.getD, h]
theorem picks_apart {N s : Nat} {x : Nat → F2} (hx : ApartTo' N x) {I : List Nat} (hI : I ∈ subs s N) : Apart (picks x I) := fun i j hi hj => by
  have hl := subs_len hI
  rw [picks_len] at hi
  rw [picks_at x hi, picks_at x (show j < I.length by omega)]
  exact apart_sub hx hI i j (by omega) hj
theorem mem_getD {I : List Nat} {k : Nat} (h : k ∈ I) : ∃ i, i < I.length ∧ I.getD i 0 = k := by
  obtain ⟨i, hi, e⟩ := List.mem_iff_getElem.1 h
  exact ⟨i, hi, by simp [List.getD, hi, e]⟩
/-- The one through some places. -/
theorem through_is {N s : Nat} {x v : Nat → F2} (hx : ApartTo' N x) {I : List Nat} (hI : I ∈ subs s N) :
    thrB (picks x I) (picks v I) = true ∧ Upto s (cq (thrL (picks x I) (picks v I))) ∧ (∀ z, atP (thrL (picks x I) (picks v I)) z = qe s (cq (thrL (picks x I) (picks v I))) z) ∧ ∀ k ∈ I, atP (thrL (picks x I) (picks v I)) (x k) = v k := by
  have hA := picks_apart hx hI
  have hl : (picks x I).length = (picks v I).length := by rw [picks_len, picks_len]
  have hs := subs_len hI
  have hn := hA.len hl
  rw [picks_len, hs] at hn
  have hu : Upto s (cq (thrL (picks x I) (picks v I))) := (cq_upto _).more hn
  refine ⟨hA.yes hl, hu, fun z => (qe_more z hn (cq_upto _)).symm, fun k hk => ?_⟩
  obtain ⟨i, hi, rfl⟩ := mem_getD hk
  have := hA.at hl i (by rw [picks_len]; exact hi)
  rwa [picks_at x hi, picks_at v hi] at this
/-- .. is the only one. -/
theorem through_only {N s : Nat} {x v : Nat → F2} (hx : ApartTo' N x) {I : List Nat} (hI : I ∈ subs s N) {c : Nat → F2} (hc : Upto s c) (h : ∀ k ∈ I, qe s c (x k) = v k) (z : F2) :
    atP (thrL (picks x I) (picks v I)) z = qe s c z := by
  obtain ⟨_, hu, hz, hk⟩ := through_is (v := v) hx hI
  rw [hz]
  have hl := subs_len hI
  exact qe_congr fun i _ => through_one hu hc (fun i => x (I.getD i 0)) (apart_sub hx hI) (fun i hi => by
    have hm : I.getD i 0 ∈ I := getD_mem (by omega)
    rw [← hz, hk _ hm, h _ hm]) i
theorem agreeC_congr {word : QL} {f : Int} {c d : F2 → F2} (h : ∀ z, c z = d z) (two : Bool) : agreeC word f c two = agreeC word f d two := by rw [show c = d from funext h]
theorem best_ge {word : QL} {f dim : Int} {two : Bool} (hb : bestOk word.length dim) (hx : ApartTo' word.length (ptV (lg word.length) f)) {c : Nat → F2} (hc : Upto dim.toNat c)
    (hs : dim.toNat ≤ agreeN (ptV (lg word.length) f) (qAt word) (qe dim.toNat c) word.length) : agreeC word f (qe dim.toNat c) two ≤ bestV word f dim two := by
  obtain ⟨I, hI, h2⟩ := subs_of hs
  have h3 := through_only hx hI hc (v := qAt word) (fun k hk => of_decide_eq_true (h2 k hk))
  have h4 := (max_ge (oneB word f two) (subs dim.toNat word.length) 0).2 I hI
  unfold bestV
  rw [if_pos hb]
  refine Nat.le_trans (Nat.le_of_eq ?_) h4
  unfold oneB agreeV
  rw [if_pos (through_is hx hI).1]
  exact agreeC_congr (fun z => (h3 z).symm) two
theorem best_is {word : QL} {f dim : Int} {two : Bool} (hx : bestOk word.length dim → ApartTo' word.length (ptV (lg word.length) f)) (h0 : 0 < bestV word f dim two) :
    ∃ c, Upto dim.toNat c ∧ bestV word f dim two = agreeC word f (qe dim.toNat c) two := by
  unfold bestV at h0 ⊢
  by_cases hb : bestOk word.length dim
  · rw [if_pos hb] at h0 ⊢
    rcases max_is (oneB word f two) (subs dim.toNat word.length) 0 with h | ⟨I, hI, h⟩
    · omega
    · rw [h]
      obtain ⟨h1, hu, hz, _⟩ := through_is (v := qAt word) (hx hb) hI
      refine ⟨_, hu, ?_⟩
      unfold oneB agreeV
      rw [if_pos h1]
      exact agreeC_congr hz two
  · rw [if_neg hb] at h0; omega
/-! ### What holds of a set -/
def SetInv (st : F2 × Bool × Bool) (l : List (F2 × F2)) : Prop :=
  (st.2.2 = true → ¬ ∃ y : F2, ∀ p ∈ l, p.1 + y * p.2 = 0) ∧
  (st.2.2 = false → (st.2.1 = false → ∀ p ∈ l, p.1 = 0 ∧ p.2 = 0) ∧ (st.2.1 = true → (∀ p ∈ l, p.1 + st.1 * p.2 = 0) ∧ ∃ p ∈ l, p.2 ≠ 0)) ∧
  (st.2.1 = true → ∃ p ∈ l, p.2 ≠ 0 ∧ p.1 + st.1 * p.2 = 0) ∧ (st.2.1 = false → ∀ p ∈ l, p.2 = 0)
theorem want_is {c d : F2} (hd : d ≠ 0) : c + (-c * qinv d) * d = 0 := by
  rw [F2.mul_assoc, F2.mul_comm (qinv d), mul_qinv d hd, F2.mul_one, F2.add_neg]
theorem want_one {c d y : F2} (hd : d ≠ 0) (h : c + y * d = 0) : y = -c * qinv d := by
  have h1 := want_is (c := c) hd
  have h2 : d * y = d * (-c * qinv d) := by
    rw [F2.mul_comm d, F2.mul_comm d]
    have := congrArg (fun t => -c + t) (h.trans h1.symm)
    simpa only [neg_add_cancel'] using this
  exact F2.cancel hd h2
theorem setInv_step {st : F2 × Bool × Bool} {l : List (F2 × F2)} (h : SetInv st l) (p : F2 × F2) : SetInv (stepV st p) (l ++ [p]) := by
  obtain ⟨by', known, none'⟩ := st
  obtain ⟨h1, h2, h3, h4⟩ := h
  simp only at h1 h2 h3 h4
  unfold stepV
  have hm : ∀ {Q : F2 × F2 → Prop}, (∀ q ∈ l ++ [p], Q q) ↔ (∀ q ∈ l, Q q) ∧ Q p := fun {Q} => by
    constructor
    · exact fun h => ⟨fun q hq => h q (List.mem_append_left _ hq), h p (List.mem_append_right _ (List.mem_singleton.2 rfl))⟩
    · rintro ⟨ha, hb⟩ q hq
      rcases List.mem_append.1 hq with hq | hq
      · exact ha q hq
      · rw [List.mem_singleton.1 hq]; exact hb
  have hl : ∀ {Q : F2 × F2 → Prop}, (∃ q ∈ l, Q q) → ∃ q ∈ l ++ [p], Q q := fun ⟨q, hq, h⟩ => ⟨q, List.mem_append_left _ hq, h⟩
  have hp : ∀ {Q : F2 × F2 → Prop}, Q p → ∃ q ∈ l ++ [p], Q q := fun h => ⟨p, List.mem_append_right _ (List.mem_singleton.2 rfl), h⟩
  by_cases hd : p.2 = 0
  · rw [if_pos hd]
    by_cases hc : p.1 = 0
    · rw [if_pos hc]
      have h0 : ∀ y : F2, p.1 + y * p.2 = 0 := fun y => by rw [hd, hc, F2.mul_zero, F2.add_zero]
      refine ⟨fun e => ?_, fun e => ⟨fun k => ?_, fun k => ?_⟩, fun k => ?_, fun k => ?_⟩
      · rintro ⟨y, hy⟩
        exact h1 e ⟨y, (hm.1 hy).1⟩
      · exact hm.2 ⟨(h2 e).1 k, hc, hd⟩
      · exact ⟨hm.2 ⟨((h2 e).2 k).1, h0 _⟩, hl ((h2 e).2 k).2⟩
      · exact hl (h3 k)
      · exact hm.2 ⟨h4 k, hd⟩
    · rw [if_neg hc]
      refine ⟨fun _ => ?_, fun e => (by cases e), fun k => hl (h3 k), fun k => hm.2 ⟨h4 k, hd⟩⟩
      rintro ⟨y, hy⟩
      have := (hm.1 hy).2
      rw [hd, F2.mul_zero, F2.add_zero] at this
      exact hc this
  · rw [if_neg hd]
    have hw := want_is (c := p.1) hd
    generalize hW : -p.1 * qinv p.2 = W at *
    refine ⟨fun e => ?_, fun e => ⟨fun k => by simp at k, fun _ => ?_⟩, fun _ => hp ⟨hd, hw⟩, fun k => by simp at k⟩
    · rintro ⟨y, hy⟩
      obtain ⟨ha, hb⟩ := hm.1 hy
      have hyW : y = W := by rw [← hW]; exact want_one hd hb
      simp only [Bool.or_eq_true, Bool.and_eq_true, decide_eq_true_eq] at e
      rcases e with e | ⟨e, hne⟩
      · exact h1 e ⟨y, ha⟩
      · obtain ⟨q, hq, hq2, hq0⟩ := h3 e
        refine hne ?_
        rw [want_one hq2 hq0, ← want_one hq2 (ha q hq), hyW]
    · simp only [Bool.or_eq_false_iff] at e
      obtain ⟨e1, e2⟩ := e
      refine ⟨hm.2 ⟨?_, hw⟩, hp hd⟩
      cases known
      · intro q hq
        obtain ⟨z1, z2⟩ := (h2 e1).1 rfl q hq
        rw [z1, z2, F2.mul_zero, F2.add_zero]
      · have : by' = W := by
          simp only [Bool.true_and, decide_eq_false_iff_not, Classical.not_not] at e2
          exact e2
        rw [← this]
        exact ((h2 e1).2 rfl).1
theorem setInv_fold : ∀ (r l : List (F2 × F2)) (st : F2 × Bool × Bool), SetInv st l → SetInv (r.foldl stepV st) (l ++ r)
  | [], l, st, h => by rw [List.append_nil]; exact h
  | p :: r, l, st, h => by
    rw [List.foldl_cons, show l ++ p :: r = (l ++ [p]) ++ r by simp]
    exact setInv_fold r _ _ (setInv_step h p)
theorem setInv_all (r : List (F2 × F2)) : SetInv (r.foldl stepV (0, false, false)) r := by
  have := setInv_fold r [] (0, false, false) ⟨fun e => (by cases e), fun _ => ⟨fun _ p hp => (by cases hp), fun e => (by cases e)⟩, fun e => (by cases e), fun _ p hp => (by cases hp)⟩
  rwa [List.nil_append] at this
/-! ### What holds of all sets -/
theorem badGo_all (g : List Nat → F2 × Bool × Bool) : ∀ (L : List (List Nat)) (out : List F2), (badGo g L out).2 = true ↔ ∃ I ∈ L, (g I).2.2 = false ∧ (g I).2.1 = false
  | [], out => ⟨fun h => (by cases h), fun ⟨I, hI, _⟩ => (by cases hI)⟩
  | J :: r, out => by
    rw [badGo]
    by_cases h1 : (g J).2.2 = true
    · rw [if_pos h1, badGo_all g r out]
      refine ⟨fun ⟨I, hI, h⟩ => ⟨I, List.mem_cons_of_mem _ hI, h⟩, fun ⟨I, hI, h⟩ => ?_⟩
      rcases List.mem_cons.1 hI with rfl | hI
      · rw [h1] at h; cases h.1
      · exact ⟨I, hI, h⟩
    · rw [if_neg h1]
      by_cases h2 : (g J).2.1 = false
      · rw [if_pos h2]
        exact ⟨fun _ => ⟨J, List.mem_cons_self .., by simpa using h1, h2⟩, fun _ => rfl⟩
      · rw [if_neg h2, badGo_all g r _]
        refine ⟨fun ⟨I, hI, h⟩ => ⟨I, List.mem_cons_of_mem _ hI, h⟩, fun ⟨I, hI, h⟩ => ?_⟩
        rcases List.mem_cons.1 hI with rfl | hI
        · exact absurd h.2 h2
        · exact ⟨I, hI, h⟩
theorem badGo_nil (g : List Nat → F2 × Bool × Bool) : ∀ (L : List (List Nat)) (out : List F2), (badGo g L out).2 = true → (badGo g L out).1 = []
  | [], out, h => by cases h
  | J :: r, out, h => by
    rw [badGo] at h ⊢
    by_cases h1 : (g J).2.2 = true
    · rw [if_pos h1] at h ⊢; exact badGo_nil g r _ h
    · rw [if_neg h1] at h ⊢
      by_cases h2 : (g J).2.1 = false
      · rw [if_pos h2]
      · rw [if_neg h2] at h ⊢; exact badGo_nil g r _ h
theorem badGo_mem (g : List Nat → F2 × Bool × Bool) : ∀ (L : List (List Nat)) (out : List F2), (badGo g L out).2 = false → ∀ y, y ∈ (badGo g L out).1 ↔ y ∈ out ∨ ∃ I ∈ L, g I = (y, true, false)
  | [], out, _, y => ⟨Or.inl, fun h => h.elim id fun ⟨I, hI, _⟩ => by cases hI⟩
  | J :: r, out, h, y => by
    rw [badGo] at h ⊢
    by_cases h1 : (g J).2.2 = true
    · rw [if_pos h1] at h ⊢
      rw [badGo_mem g r out h y]
      refine or_congr Iff.rfl ⟨fun ⟨I, hI, h⟩ => ⟨I, List.mem_cons_of_mem _ hI, h⟩, fun ⟨I, hI, h⟩ => ?_⟩
      rcases List.mem_cons.1 hI with rfl | hI
      · rw [h] at h1; cases h1
      · exact ⟨I, hI, h⟩
    · rw [if_neg h1] at h ⊢
      by_cases h2 : (g J).2.1 = false
      · rw [if_pos h2] at h; cases h
      · rw [if_neg h2] at h ⊢
        rw [badGo_mem g r _ h y]
        have e : g J = ((g J).1, true, false) := Prod.ext rfl (Prod.ext (by simpa using h2) (by simpa using h1))
        have hin : (y ∈ (if (g J).1 ∈ out then out else out ++ [(g J).1])) ↔ y ∈ out ∨ y = (g J).1 := by
          split
          · next c => exact ⟨Or.inl, fun h => h.elim id fun h => h ▸ c⟩
          · rw [List.mem_append, List.mem_singleton]
        rw [hin]
        constructor
        · rintro ((h | h) | ⟨I, hI, h⟩)
          · exact Or.inl h
          · exact Or.inr ⟨J, List.mem_cons_self .., by rw [h]; exact e⟩
          · exact Or.inr ⟨I, List.mem_cons_of_mem _ hI, h⟩
        · rintro (h | ⟨I, hI, hg⟩)
          · exact Or.inl (Or.inl h)
          · rcases List.mem_cons.1 hI with rfl | hI
            · exact Or.inl (Or.inr (congrArg Prod.fst hg).symm)
            · exact Or.inr ⟨I, hI, hg⟩
theorem badGo_nodup (g : List Nat → F2 × Bool × Bool) : ∀ (L : List (List Nat)) (out : List F2), out.Nodup → (badGo g L out).1.Nodup
  | [], out, h => h
  | J :: r, out, h => by
    rw [badGo]
    split
    · exact badGo_nodup g r out h
    · split
      · exact List.nodup_nil
      · refine badGo_nodup g r _ ?_
        split
        · exact h
        · next c =>
          refine List.nodup_append.2 ⟨h, by simp, fun a ha b hb => ?_⟩
          rw [List.mem_singleton.1 hb]
          exact fun e => c (e ▸ ha)
end Go.Proofs.YthfkfgjhgicfeaaGreatDoor
