/-
  How many places are so; sets of places; few pairs are bad. Plain.
-/
import Derived.Test.YthfkfgjhgicfeaaGreatDoorGPolyR
namespace Go.Proofs.YthfkfgjhgicfeaaGreatDoor
set_option linter.unusedVariables false
set_option linter.unusedSimpArgs false

/-! ### How many are so -/
def many (p : Nat → Bool) : Nat → Nat
  | 0 => 0
  | n + 1 => many p n + (if p n = true then 1 else 0)
theorem many_yes {p : Nat → Bool} {n : Nat} (h : p n = true) : many p (n + 1) = many p n + 1 := by rw [many, if_pos h]
theorem many_no {p : Nat → Bool} {n : Nat} (h : ¬ p n = true) : many p (n + 1) = many p n := by rw [many, if_neg h, Nat.add_zero]
theorem many_le (p : Nat → Bool) : ∀ n, many p n ≤ n
  | 0 => Nat.le_refl _
  | n + 1 => by
    have := many_le p n
    rw [many]
    split <;> omega
theorem many_mono {p q : Nat → Bool} : ∀ {n : Nat}, (∀ i, i < n → p i = true → q i = true) → many p n ≤ many q n
  | 0, _ => Nat.le_refl _
  | n + 1, h => by
    have h1 := many_mono (n := n) fun i hi => h i (by omega)
    by_cases c : p n = true
    · rw [many_yes c, many_yes (h n (by omega) c)]; omega
    · rw [many_no c, many]; split <;> omega
theorem many_congr {p q : Nat → Bool} : ∀ {n : Nat}, (∀ i, i < n → p i = q i) → many p n = many q n
  | 0, _ => rfl
  | n + 1, h => by rw [many, many, many_congr (n := n) fun i hi => h i (by omega), h n (by omega)]
theorem many_grow (p : Nat → Bool) {n m : Nat} (h : n ≤ m) : many p n ≤ many p m := by
  induction m with
  | zero => rw [show n = 0 by omega]; exact Nat.le_refl _
  | succ m ih =>
    by_cases c : n = m + 1
    · subst c; exact Nat.le_refl _
    · have := ih (by omega); rw [many]; omega
theorem many_all {p : Nat → Bool} : ∀ {n : Nat}, (∀ i, i < n → p i = true) → many p n = n
  | 0, _ => rfl
  | n + 1, h => by rw [many_yes (h n (by omega)), many_all fun i hi => h i (by omega)]
theorem many_none {p : Nat → Bool} : ∀ {n : Nat}, (∀ i, i < n → ¬ p i = true) → many p n = 0
  | 0, _ => rfl
  | n + 1, h => by rw [many_no (h n (by omega)), many_none fun i hi => h i (by omega)]
/-- Both at once. -/
theorem many_both (p q : Nat → Bool) : ∀ n, many p n + many q n ≤ n + many (fun i => p i && q i) n
  | 0 => Nat.le_refl _
  | n + 1 => by
    have h1 := many_both p q n
    by_cases c : p n = true
    · by_cases d : q n = true
      · rw [many_yes c, many_yes d, many_yes (p := fun i => p i && q i) (by simp [c, d])]; omega
      · rw [many_yes c, many_no d]; have := many_grow (fun i => p i && q i) (show n ≤ n + 1 by omega); omega
    · rw [many_no c]
      have := many_grow (fun i => p i && q i) (show n ≤ n + 1 by omega)
      have h2 : many q (n + 1) ≤ many q n + 1 := by rw [many]; split <;> omega
      omega
theorem many_more {p q : Nat → Bool} {n : Nat} (h : many q n < many p n) : ∃ i, i < n ∧ p i = true ∧ ¬ q i = true := by
  refine Classical.byContradiction fun c => ?_
  have := many_mono (p := p) (q := q) (n := n) fun i hi hp => Classical.byContradiction fun d => c ⟨i, hi, hp, d⟩
  omega
/-! ### Sets of places -/
/-- All sets of so many numbers below n, each from the least one on. -/
def subs : Nat → Nat → List (List Nat)
  | 0, _ => [[]]
  | s + 1, n => ((List.range (n - s)).map fun d => (subs s (s + d)).map fun l => l ++ [s + d]).flatten
theorem subs_zero (n : Nat) : subs 0 n = [[]] := by cases n <;> rfl
theorem mem_subs_succ {s n : Nat} {I : List Nat} : I ∈ subs (s + 1) n ↔ ∃ J last, I = J ++ [last] ∧ s ≤ last ∧ last < n ∧ J ∈ subs s last := by
  rw [subs]
  simp only [List.mem_flatten, List.mem_map, List.mem_range]
  constructor
  · rintro ⟨_, ⟨d, hd, rfl⟩, h⟩
    obtain ⟨J, hJ, rfl⟩ := List.mem_map.1 h
    exact ⟨J, s + d, rfl, by omega, by omega, hJ⟩
  · rintro ⟨J, last, rfl, h1, h2, h3⟩
    refine ⟨_, ⟨last - s, by omega, rfl⟩, List.mem_map.2 ⟨J, by rwa [show s + (last - s) = last by omega], by rw [show s + (last - s) = last by omega]⟩⟩
theorem subs_len : ∀ {s n : Nat} {I : List Nat}, I ∈ subs s n → I.length = s
  | 0, n, I, h => by rw [subs_zero] at h; rw [List.mem_singleton.1 h]; rfl
  | s + 1, n, I, h => by
    obtain ⟨J, last, rfl, _, _, hJ⟩ := mem_subs_succ.1 h
    rw [List.length_append, subs_len hJ]; rfl
theorem subs_lt : ∀ {s n : Nat} {I : List Nat}, I ∈ subs s n → ∀ i ∈ I, i < n
  | 0, n, I, h => by rw [subs_zero] at h; rw [List.mem_singleton.1 h]; intro i hi; cases hi
  | s + 1, n, I, h => by
    obtain ⟨J, last, rfl, _, hl, hJ⟩ := mem_subs_succ.1 h
    intro i hi
    rcases List.mem_append.1 hi with hi | hi
    · have := subs_lt hJ i hi; omega
    · rw [List.mem_singleton.1 hi]; exact hl
theorem subs_grow : ∀ {s n m : Nat} {I : List Nat}, I ∈ subs s n → n ≤ m → I ∈ subs s m
  | 0, n, m, I, h, _ => by rw [subs_zero] at h ⊢; exact h
  | s + 1, n, m, I, h, hm => by
    obtain ⟨J, last, rfl, h1, h2, hJ⟩ := mem_subs_succ.1 h
    exact mem_subs_succ.2 ⟨J, last, rfl, h1, by omega, hJ⟩
theorem getD_last (J : List Nat) (a : Nat) : (J ++ [a]).getD J.length 0 = a := by simp [List.getD]
theorem getD_front (J : List Nat) (a : Nat) {i : Nat} (h : i < J.length) : (J ++ [a]).getD i 0 = J.getD i 0 := by simp [List.getD, List.getElem?_append_left h]
theorem getD_mem {I : List Nat} {i : Nat} (h : i < I.length) : I.getD i 0 ∈ I := by
  rw [show I.getD i 0 = I[i] by simp [List.getD, h]]
  exact List.getElem_mem h
theorem subs_up : ∀ {s n : Nat} {I : List Nat}, I ∈ subs s n → ∀ i j, i < s → j < i → I.getD j 0 < I.getD i 0
  | 0, _, _, _, i, _, hi, _ => by omega
  | s + 1, n, I, h, i, j, hi, hj => by
    obtain ⟨J, last, rfl, _, _, hJ⟩ := mem_subs_succ.1 h
    have hl := subs_len hJ
    by_cases c : i = s
    · rw [c, ← hl, getD_last, getD_front J last (by omega)]
      exact subs_lt hJ _ (getD_mem (by omega))
    · rw [getD_front J last (by omega), getD_front J last (by omega)]
      exact subs_up hJ i j (by omega) hj
/-- A set of places that are so. -/
theorem subs_many {p : Nat → Bool} : ∀ {s n : Nat} {I : List Nat}, I ∈ subs s n → (∀ i ∈ I, p i = true) → s ≤ many p n
  | 0, n, I, _, _ => Nat.zero_le _
  | s + 1, n, I, h, hp => by
    obtain ⟨J, last, rfl, _, hl, hJ⟩ := mem_subs_succ.1 h
    have h1 := subs_many hJ fun i hi => hp i (List.mem_append_left _ hi)
    have h2 : p last = true := hp last (List.mem_append_right _ (List.mem_singleton.2 rfl))
    have h3 := many_grow p (show last + 1 ≤ n from hl)
    rw [many_yes h2] at h3
    omega
/-- Where so many are so, there is such a set. -/
theorem subs_of {p : Nat → Bool} : ∀ {s n : Nat}, s ≤ many p n → ∃ I ∈ subs s n, ∀ i ∈ I, p i = true
  | 0, n, _ => ⟨[], by rw [subs_zero]; exact List.mem_singleton.2 rfl, fun i hi => by cases hi⟩
  | s + 1, 0, h => by rw [many] at h; omega
  | s + 1, n + 1, h => by
    by_cases c : s + 1 ≤ many p n
    · obtain ⟨I, hI, h2⟩ := subs_of c
      exact ⟨I, subs_grow hI (by omega), h2⟩
    · by_cases d : p n = true
      · rw [many_yes d] at h
        obtain ⟨J, hJ, h2⟩ := subs_of (p := p) (s := s) (n := n) (by omega)
        have h3 := many_le p n
        refine ⟨J ++ [n], mem_subs_succ.2 ⟨J, n, rfl, by omega, by omega, hJ⟩, fun i hi => ?_⟩
        rcases List.mem_append.1 hi with hi | hi
        · exact h2 i hi
        · rw [List.mem_singleton.1 hi]; exact d
      · rw [many_no d] at h; omega
theorem subs_take : ∀ {s n : Nat} {I : List Nat} (t : Nat), I ∈ subs s n → t ≤ s → I.take t ∈ subs t n
  | 0, n, I, t, h, ht => by
    obtain rfl : t = 0 := by omega
    rw [subs_zero, List.take_zero]; exact List.mem_singleton.2 rfl
  | s + 1, n, I, t, h, ht => by
    by_cases c : t = s + 1
    · rw [c, List.take_of_length_le (by rw [subs_len h]; exact Nat.le_refl _)]; exact h
    · obtain ⟨J, last, rfl, _, hl, hJ⟩ := mem_subs_succ.1 h
      rw [List.take_append_of_le_length (by rw [subs_len hJ]; omega)]
      exact subs_grow (subs_take t hJ (by omega)) (by omega)
/-! ### Polynomials at places -/
abbrev ApartTo' (N : Nat) (x : Nat → F2) : Prop := ∀ i j, i < N → j < i → x i ≠ x j
theorem apart_sub {N s : Nat} {x : Nat → F2} (hx : ApartTo' N x) {I : List Nat} (hI : I ∈ subs s N) : ∀ i j, i < s → j < i → x (I.getD i 0) ≠ x (I.getD j 0) := fun i j hi hj =>
  hx _ _ (subs_lt hI _ (getD_mem (by rw [subs_len hI]; exact hi))) (subs_up hI i j hi hj)
/-- Two of d coefficients that are alike at d places are one. -/
theorem close_one {N d : Nat} {x : Nat → F2} (hx : ApartTo' N x) {a b : Nat → F2} (ha : Upto d a) (hb : Upto d b) (h : d ≤ many (fun i => decide (qe d a (x i) = qe d b (x i))) N) (i : Nat) : a i = b i := by
  obtain ⟨I, hI, h2⟩ := subs_of h
  refine through_one ha hb (fun i => x (I.getD i 0)) (apart_sub hx hI) (fun k hk => ?_) i
  exact of_decide_eq_true (h2 _ (getD_mem (by rw [subs_len hI]; exact hk)))
theorem qe_lin (n : Nat) (a b : Nat → F2) (y x : F2) : qe n (fun i => a i + y * b i) x = qe n a x + y * qe n b x := by
  rw [qe_add n a (fun i => y * b i), ← qe_scale n y b x]
  exact congrArg _ (qe_congr fun i _ => F2.mul_comm _ _)
theorem upto_lin {n : Nat} {a b : Nat → F2} (ha : Upto n a) (hb : Upto n b) (y : F2) : Upto n fun i => a i + y * b i := fun i hi => by
  show a i + y * b i = 0
  rw [ha i hi, hb i hi, F2.mul_zero, F2.add_zero]
theorem qe_sub (n : Nat) (a b : Nat → F2) (x : F2) : qe n (fun i => a i - b i) x = qe n a x - qe n b x := by
  rw [show (fun i => a i - b i) = fun i => a i + (fun j => -b j) i from funext fun i => F2.sub_eq _ _, qe_add, qe_neg, F2.sub_eq]
/-! ### Few are bad -/
theorem inj_le {α : Type} [DecidableEq α] : ∀ (N : Nat) (l : List α) (R : α → Nat → Prop), l.Nodup → (∀ y ∈ l, ∃ i, i < N ∧ R y i) → (∀ y z i, R y i → R z i → y = z) → l.length ≤ N
  | 0, l, R, _, h, _ => by
    cases l with
    | nil => exact Nat.le_refl _
    | cons y r => obtain ⟨i, hi, _⟩ := h y (List.mem_cons_self ..); omega
  | N + 1, l, R, hn, h, hR => by
    by_cases c : ∃ y ∈ l, R y N
    · obtain ⟨y, hy, hyN⟩ := c
      have h1 := inj_le N (l.erase y) R (hn.erase y) (fun z hz => by
        obtain ⟨i, hi, hzi⟩ := h z (List.mem_of_mem_erase hz)
        refine ⟨i, Nat.lt_of_le_of_ne (by omega) fun e => ?_, hzi⟩
        subst e
        have := hR z y i hzi hyN
        subst this
        exact (hn.not_mem_erase) hz) hR
      rw [List.length_erase_of_mem hy] at h1
      omega
    · have h1 := inj_le N l R hn (fun z hz => by
        obtain ⟨i, hi, hzi⟩ := h z hz
        refine ⟨i, Nat.lt_of_le_of_ne (by omega) fun e => ?_, hzi⟩
        subst e
        exact c ⟨z, hz, hzi⟩) hR
      omega
theorem alg_line (E O y1 y2 : F2) : (E + y1 * O) - (E + y2 * O) = (y1 - y2) * O := F2.eq (by simp only [F2.sub_a, F2.sub_b, F2.add_a, F2.add_b, F2.mul_a, F2.mul_b]; grind) (by simp only [F2.sub_a, F2.sub_b, F2.add_a, F2.add_b, F2.mul_a, F2.mul_b]; grind)
theorem alg_two (E O a b y z : F2) (h1 : E + y * O = a + y * b) (h2 : E + z * O = a + z * b) : (y - z) * (O - b) = 0 := by
  have e : (y - z) * (O - b) = ((E + y * O) - (a + y * b)) - ((E + z * O) - (a + z * b)) := F2.eq (by simp only [F2.sub_a, F2.sub_b, F2.add_a, F2.add_b, F2.mul_a, F2.mul_b]; grind) (by simp only [F2.sub_a, F2.sub_b, F2.add_a, F2.add_b, F2.mul_a, F2.mul_b]; grind)
  rw [e, h1, h2, sub_self', sub_self', sub_self']
theorem few_bad {N d s : Nat} {E O x : Nat → F2} (hx : ApartTo' N x) (hs : 3 * (N - s) < N - d) (hsN : s ≤ N) (hN : 1 ≤ N) (l : List F2) (hl : l.Nodup)
    (hc : ∀ y ∈ l, ∃ c, Upto d c ∧ s ≤ many (fun i => decide (qe d c (x i) = E i + y * O i)) N)
    (hno : ¬ ∃ a b, Upto d a ∧ Upto d b ∧ s ≤ many (fun i => decide (qe d a (x i) = E i ∧ qe d b (x i) = O i)) N) : l.length ≤ N := by
  match l, hl, hc with
  | [], _, _ => exact Nat.zero_le _
  | [_], _, _ => exact hN
  | y1 :: y2 :: r, hl, hc =>
    have hne : y1 - y2 ≠ 0 := fun h => by
      have := sub_eq_zero' h
      subst this
      exact (List.nodup_cons.1 hl).1 (List.mem_cons_self ..)
    obtain ⟨c1, u1, k1⟩ := hc y1 (List.mem_cons_self ..)
    obtain ⟨c2, u2, k2⟩ := hc y2 (List.mem_cons_of_mem _ (List.mem_cons_self ..))
    obtain ⟨q, hq⟩ : ∃ q, (y1 - y2) * q = 1 := ⟨_, mul_qinv _ hne⟩
    let b : Nat → F2 := fun i => (c1 i - c2 i) * q
    let a : Nat → F2 := fun i => c1 i + (-y1) * b i
    have ub : Upto d b := fun i hi => by show (c1 i - c2 i) * q = 0; rw [u1 i hi, u2 i hi, sub_self', F2.zero_mul]
    have ua : Upto d a := upto_lin u1 ub (-y1)
    have eb : ∀ z, qe d b z = (qe d c1 z - qe d c2 z) * q := fun z => by
      show qe d (fun i => (c1 i - c2 i) * q) z = _
      rw [qe_scale, qe_sub, F2.mul_comm]
    have ea : ∀ z, qe d a z = qe d c1 z + (-y1) * qe d b z := fun z => qe_lin d c1 b (-y1) z
    -- where both agree, both halves are told
    have hT : ∀ i, qe d c1 (x i) = E i + y1 * O i → qe d c2 (x i) = E i + y2 * O i → qe d a (x i) = E i ∧ qe d b (x i) = O i := fun i h1 h2 => by
      have hO : qe d b (x i) = O i := by
        rw [eb, h1, h2, alg_line, F2.mul_comm (y1 - y2), F2.mul_assoc, hq, F2.mul_one]
      refine ⟨?_, hO⟩
      rw [ea, hO, h1, F2.add_assoc, F2.neg_mul, F2.add_neg, F2.add_zero]
    have kT := many_both (fun i => decide (qe d c1 (x i) = E i + y1 * O i)) (fun i => decide (qe d c2 (x i) = E i + y2 * O i)) N
    have kT2 : many (fun i => decide (qe d c1 (x i) = E i + y1 * O i) && decide (qe d c2 (x i) = E i + y2 * O i)) N ≤ many (fun i => decide (qe d a (x i) = E i ∧ qe d b (x i) = O i)) N := many_mono fun i _ h => by
      rw [Bool.and_eq_true] at h
      exact decide_eq_true (hT i (of_decide_eq_true h.1) (of_decide_eq_true h.2))
    have hT3 : ¬ s ≤ many (fun i => decide (qe d a (x i) = E i ∧ qe d b (x i) = O i)) N := fun h => hno ⟨a, b, ua, ub, h⟩
    refine inj_le N _ (fun y i => E i + y * O i = qe d a (x i) + y * qe d b (x i) ∧ ¬ (qe d a (x i) = E i ∧ qe d b (x i) = O i)) hl (fun y hy => ?_) (fun y z i h1 h2 => ?_)
    · obtain ⟨c, u, k⟩ := hc y hy
      -- it is what both halves tell
      have hcc : ∀ i, c i = a i + y * b i := close_one hx u (upto_lin ua ub y) (by
        have k3 := many_both (fun i => decide (qe d c (x i) = E i + y * O i)) (fun i => decide (qe d a (x i) = E i ∧ qe d b (x i) = O i)) N
        have k4 : many (fun i => decide (qe d c (x i) = E i + y * O i) && decide (qe d a (x i) = E i ∧ qe d b (x i) = O i)) N ≤ many (fun i => decide (qe d c (x i) = qe d (fun j => a j + y * b j) (x i))) N := many_mono fun i _ h => by
          rw [Bool.and_eq_true] at h
          obtain ⟨e1, e2⟩ := of_decide_eq_true h.2
          refine decide_eq_true ?_
          rw [of_decide_eq_true h.1, qe_lin, e1, e2]
        omega)
      obtain ⟨i, hi, h1, h2⟩ := many_more (p := fun i => decide (qe d c (x i) = E i + y * O i)) (q := fun i => decide (qe d a (x i) = E i ∧ qe d b (x i) = O i)) (n := N) (by omega)
      refine ⟨i, hi, ?_, fun h => h2 (decide_eq_true h)⟩
      rw [← of_decide_eq_true h1, ← qe_lin]
      exact qe_congr fun j _ => hcc j
    · rcases F2.mul_eq_zero (alg_two _ _ _ _ _ _ h1.1 h2.1) with h | h
      · exact sub_eq_zero' h
      · exfalso
        have hO := sub_eq_zero' h
        refine h1.2 ⟨?_, hO.symm⟩
        have h3 := h1.1
        rw [hO] at h3
        have := congrArg (fun t => t - y * qe d b (x i)) h3
        simp only [F2.add_sub] at this
        exact this.symm
end Go.Proofs.YthfkfgjhgicfeaaGreatDoor
