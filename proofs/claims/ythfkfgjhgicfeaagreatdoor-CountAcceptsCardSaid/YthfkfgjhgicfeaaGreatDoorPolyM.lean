/-
  Polynomials of pairs as coefficients c 0, c 1 ..: what they come to, products, quotients by X - x, how many coefficients stand, the one through points. Plain mathematics (no Go in sight).
-/
import Derived.Test.YthfkfgjhgicfeaaGreatDoorGNum
namespace Go.Proofs.YthfkfgjhgicfeaaGreatDoor
set_option linter.unusedVariables false

instance : Std.Associative (α := F2) (· + ·) := ⟨F2.add_assoc⟩
instance : Std.Commutative (α := F2) (· + ·) := ⟨F2.add_comm⟩
instance : Std.Associative (α := F2) (· * ·) := ⟨F2.mul_assoc⟩
instance : Std.Commutative (α := F2) (· * ·) := ⟨F2.mul_comm⟩

/-- The sum of the first n. -/
def sq : Nat → (Nat → F2) → F2
  | 0, _ => 0
  | n + 1, f => sq n f + f n
theorem sq_succ (n : Nat) (f : Nat → F2) : sq (n + 1) f = sq n f + f n := rfl
theorem sq_congr {f g : Nat → F2} : ∀ {n : Nat}, (∀ i, i < n → f i = g i) → sq n f = sq n g
  | 0, _ => rfl
  | n + 1, h => by rw [sq_succ, sq_succ, sq_congr (fun i hi => h i (by omega)), h n (by omega)]
theorem sq_add (f g : Nat → F2) : ∀ n : Nat, sq n (fun i => f i + g i) = sq n f + sq n g
  | 0 => (F2.add_zero 0).symm
  | n + 1 => by rw [sq_succ, sq_succ, sq_succ, sq_add f g n]; ac_rfl
theorem sq_mul (a : F2) (f : Nat → F2) : ∀ n : Nat, sq n (fun i => a * f i) = a * sq n f
  | 0 => (F2.mul_zero a).symm
  | n + 1 => by rw [sq_succ, sq_succ, sq_mul a f n, F2.mul_add]
theorem sq_zero : ∀ n : Nat, sq n (fun _ => 0) = 0
  | 0 => rfl
  | n + 1 => by rw [sq_succ, sq_zero n, F2.add_zero]
theorem sq_none {f : Nat → F2} {n : Nat} (h : ∀ i, i < n → f i = 0) : sq n f = 0 := by rw [sq_congr h, sq_zero]
theorem sq_one {f : Nat → F2} {k : Nat} : ∀ {n : Nat}, k < n → (∀ i, i < n → i ≠ k → f i = 0) → sq n f = f k
  | n + 1, hk, h => by
    rw [sq_succ]
    by_cases e : k = n
    · subst e; rw [sq_none (fun i hi => h i (by omega) (by omega)), F2.zero_add]
    · rw [sq_one (n := n) (by omega) (fun i hi hik => h i (by omega) hik), h n (by omega) (fun e' => e e'.symm), F2.add_zero]
theorem sq_first (f : Nat → F2) : ∀ n : Nat, sq (n + 1) f = f 0 + sq n (fun i => f (i + 1))
  | 0 => by simp only [sq]; rw [F2.zero_add, F2.add_zero]
  | n + 1 => by rw [sq_succ, sq_first f n, sq_succ, F2.add_assoc]
theorem sq_more {f : Nat → F2} {n : Nat} : ∀ {m : Nat}, n ≤ m → (∀ i, n ≤ i → i < m → f i = 0) → sq m f = sq n f
  | 0, h, _ => by rw [show n = 0 by omega]
  | m + 1, h, hz => by
    by_cases e : n = m + 1
    · rw [e]
    · rw [sq_succ, sq_more (n := n) (m := m) (by omega) (fun i h1 h2 => hz i h1 (by omega)), hz m (by omega) (by omega), F2.add_zero]
/-! What they come to. -/
/-- n coefficients at x. -/
def qe (n : Nat) (c : Nat → F2) (x : F2) : F2 := sq n (fun i => c i * qpow x i)
theorem qe_congr {n : Nat} {c d : Nat → F2} {x : F2} (h : ∀ i, i < n → c i = d i) : qe n c x = qe n d x := sq_congr fun i hi => by rw [h i hi]
theorem qe_more {n m : Nat} {c : Nat → F2} (x : F2) (h : n ≤ m) (hz : ∀ i, n ≤ i → c i = 0) : qe m c x = qe n c x := sq_more h fun i h1 _ => by rw [hz i h1, F2.zero_mul]
theorem qe_add (n : Nat) (c d : Nat → F2) (x : F2) : qe n (fun i => c i + d i) x = qe n c x + qe n d x := by
  unfold qe; rw [← sq_add]; exact sq_congr fun i _ => by rw [F2.add_mul]
theorem qe_scale (n : Nat) (a : F2) (c : Nat → F2) (x : F2) : qe n (fun i => c i * a) x = a * qe n c x := by
  unfold qe; rw [← sq_mul]; exact sq_congr fun i _ => by dsimp only; ac_rfl
theorem qe_none {n : Nat} {c : Nat → F2} (x : F2) (h : ∀ i, i < n → c i = 0) : qe n c x = 0 := sq_none fun i hi => by rw [h i hi, F2.zero_mul]
theorem qe_first (n : Nat) (c : Nat → F2) (x : F2) : qe (n + 1) c x = c 0 + x * qe n (fun i => c (i + 1)) x := by
  unfold qe
  rw [sq_first, ← sq_mul, qpow_zero, F2.mul_one]
  congr 1
  exact sq_congr fun i _ => by dsimp only; rw [qpow_succ]; ac_rfl
/-- Zero from n on. -/
def Upto (n : Nat) (c : Nat → F2) : Prop := ∀ i, n ≤ i → c i = 0
theorem Upto.more {n m : Nat} {c : Nat → F2} (h : Upto n c) (hm : n ≤ m) : Upto m c := fun i hi => h i (by omega)

/-! Products. -/
def cv (a b : Nat → F2) (k : Nat) : F2 := sq (k + 1) (fun j => a j * b (k - j))
theorem cv_zero (a b : Nat → F2) : cv a b 0 = a 0 * b 0 := by unfold cv; simp only [sq]; rw [F2.zero_add]
theorem cv_succ (a b : Nat → F2) (k : Nat) : cv a b (k + 1) = a 0 * b (k + 1) + cv (fun i => a (i + 1)) b k := by
  unfold cv
  rw [sq_first]
  congr 1
  exact sq_congr fun i hi => by rw [show k + 1 - (i + 1) = k - i by omega]
theorem cv_none {a : Nat → F2} (h : ∀ i, a i = 0) (b : Nat → F2) (k : Nat) : cv a b k = 0 := sq_none fun i _ => by rw [h i, F2.zero_mul]
theorem cv_congr {a b c d : Nat → F2} (h : ∀ i, a i = c i) (h' : ∀ i, b i = d i) (k : Nat) : cv a b k = cv c d k := sq_congr fun i _ => by rw [h, h']
theorem cv_eval : ∀ (n : Nat) (a : Nat → F2), Upto n a → ∀ (m : Nat) (b : Nat → F2), Upto m b → ∀ (N : Nat) (x : F2), n + m ≤ N + 1 → qe N (cv a b) x = qe n a x * qe m b x
  | 0, a, ha, m, b, hb, N, x, h => by
    rw [qe_none x (fun i _ => cv_none (fun j => ha j (Nat.zero_le _)) b i)]
    show 0 = 0 * _
    rw [F2.zero_mul]
  | n + 1, a, ha, m, b, hb, 0, x, h => by
    obtain rfl : m = 0 := by omega
    show 0 = _ * 0
    rw [F2.mul_zero]
  | n + 1, a, ha, m, b, hb, N + 1, x, h => by
    have ih := cv_eval n (fun i => a (i + 1)) (fun i hi => ha (i + 1) (by omega)) m b hb N x (by omega)
    have e : qe (N + 1) b x = qe m b x := qe_more x (by omega) hb
    rw [qe_first, cv_zero, qe_congr (d := fun i => b (i + 1) * a 0 + cv (fun i => a (i + 1)) b i) (fun i _ => by rw [cv_succ, F2.mul_comm (a 0)]), qe_add, qe_scale, ih, qe_first n a x, F2.add_mul, ← e, qe_first N b x]
    simp only [F2.mul_add]
    ac_rfl
theorem cv_upto {n m : Nat} {a b : Nat → F2} (ha : Upto n a) (hb : Upto m b) : Upto (n + m - 1) (cv a b) := fun k hk => sq_none fun j hj => by
  by_cases c : n ≤ j
  · rw [ha j c, F2.zero_mul]
  · rw [hb (k - j) (by omega), F2.mul_zero]
theorem cv_top {p q : Nat} {a b : Nat → F2} (ha : Upto (p + 1) a) (hb : Upto (q + 1) b) : cv a b (p + q) = a p * b q := by
  unfold cv
  rw [sq_one (k := p) (by omega) (fun j hj hjp => ?_), show p + q - p = q by omega]
  by_cases c : p < j
  · rw [ha j (by omega), F2.zero_mul]
  · rw [hb (p + q - j) (by omega), F2.mul_zero]

/-! How many coefficients stand. -/
def tn (c : Nat → F2) : Nat → Nat
  | 0 => 0
  | n + 1 => if c n = 0 then tn c n else n + 1
theorem tn_le (c : Nat → F2) : ∀ n, tn c n ≤ n
  | 0 => Nat.le_refl _
  | n + 1 => by
    have := tn_le c n
    unfold tn; split <;> omega
theorem tn_out (c : Nat → F2) : ∀ n i, tn c n ≤ i → i < n → c i = 0
  | n + 1, i, h, hi => by
    unfold tn at h
    split at h
    · by_cases e : i = n
      · subst e; assumption
      · exact tn_out c n i h (by omega)
    · omega
theorem tn_upto {n : Nat} {c : Nat → F2} (h : Upto n c) : Upto (tn c n) c := fun i hi => by
  by_cases c : i < n
  · exact tn_out _ n i hi c
  · exact h i (by omega)
theorem tn_top {c : Nat → F2} {m : Nat} : ∀ {n : Nat}, tn c n = m + 1 → c m ≠ 0
  | n + 1, h => by
    unfold tn at h
    split at h
    · exact tn_top (n := n) h
    · obtain rfl : n = m := by omega
      assumption
theorem tn_same {c d : Nat → F2} {n m : Nat} (hc : Upto n c) (hd : Upto m d) (h : ∀ i, c i = d i) : tn c n = tn d m := by
  refine Nat.le_antisymm (Nat.le_of_not_lt fun hlt => ?_) (Nat.le_of_not_lt fun hlt => ?_)
  · obtain ⟨k, hk⟩ : ∃ k, tn c n = k + 1 := ⟨tn c n - 1, by omega⟩
    exact tn_top hk (by rw [h]; exact tn_upto hd k (by omega))
  · obtain ⟨k, hk⟩ : ∃ k, tn d m = k + 1 := ⟨tn d m - 1, by omega⟩
    exact tn_top hk (by rw [← h]; exact tn_upto hc k (by omega))
theorem tn_is {c : Nat → F2} {n k : Nat} (hc : Upto n c) (h : Upto (k + 1) c) (h0 : c k ≠ 0) : tn c n = k + 1 := by
  have h1 : k < tn c n := Nat.lt_of_not_le fun hle => h0 (tn_upto hc k hle)
  refine Nat.le_antisymm (Nat.le_of_not_lt fun hlt => ?_) h1
  obtain ⟨m, hm⟩ : ∃ m, tn c n = m + 1 := ⟨tn c n - 1, by omega⟩
  exact tn_top hm (h m (by omega))
theorem tn_nil {c : Nat → F2} {n : Nat} (h : ∀ i, c i = 0) : tn c n = 0 := by
  have := tn_same (c := c) (d := fun _ => 0) (n := n) (m := 0) (fun i _ => h i) (fun _ _ => rfl) h
  exact this
/-- The coefficients that stand, as a list. -/
def pl (n : Nat) (c : Nat → F2) : List F2 := (List.range (tn c n)).map c
theorem pl_len (n : Nat) (c : Nat → F2) : (pl n c).length = tn c n := by simp [pl]
theorem pl_at {n : Nat} {c : Nat → F2} (h : Upto n c) (i : Nat) : (pl n c).getD i 0 = c i := by
  by_cases hi : i < tn c n
  · simp [pl, List.getD, hi]
  · rw [tn_upto h i (by omega)]
    simp [pl, List.getD, hi]
theorem pl_same {c d : Nat → F2} {n m : Nat} (hc : Upto n c) (hd : Upto m d) (h : ∀ i, c i = d i) : pl n c = pl m d := by
  unfold pl
  rw [tn_same hc hd h]
  exact List.map_congr_left fun i _ => h i
/-- A list's coefficients. -/
def cq (l : List F2) (i : Nat) : F2 := l.getD i 0
theorem cq_upto (l : List F2) : Upto l.length (cq l) := fun i hi => by unfold cq; rw [List.getD, List.getElem?_eq_none hi]; rfl
theorem cq_pl {n : Nat} {c : Nat → F2} (h : Upto n c) (i : Nat) : cq (pl n c) i = c i := pl_at h i
theorem qe_pl {n : Nat} {c : Nat → F2} (h : Upto n c) (x : F2) : qe (pl n c).length (cq (pl n c)) x = qe n c x := by
  rw [pl_len, qe_congr (fun i _ => cq_pl h i), ← qe_more x (tn_le c n) (tn_upto h)]
theorem tn_pl {n : Nat} {c : Nat → F2} (h : Upto n c) : tn (cq (pl n c)) (pl n c).length = tn c n := tn_same (cq_upto _) h (cq_pl h)
/-- Degrees of products. -/
theorem tn_cv {a b : Nat → F2} {n m : Nat} (ha : Upto n a) (hb : Upto m b) : tn (cv a b) (n + m - 1) = if tn a n = 0 ∨ tn b m = 0 then 0 else tn a n + tn b m - 1 := by
  have ha' := tn_upto ha
  have hb' := tn_upto hb
  by_cases h : tn a n = 0 ∨ tn b m = 0
  · rw [if_pos h]
    rcases h with h | h
    · exact tn_nil fun i => cv_none (fun j => ha' j (by omega)) b i
    · exact tn_nil fun i => sq_none fun j _ => by rw [hb' _ (by omega), F2.mul_zero]
  · rw [if_neg h]
    obtain ⟨p, hp⟩ : ∃ p, tn a n = p + 1 := ⟨tn a n - 1, by omega⟩
    obtain ⟨q, hq⟩ : ∃ q, tn b m = q + 1 := ⟨tn b m - 1, by omega⟩
    rw [hp] at ha'
    rw [hq] at hb'
    rw [hp, hq, show p + 1 + (q + 1) - 1 = p + q + 1 by omega]
    refine tn_is (cv_upto ha hb) ?_ ?_
    · have := cv_upto ha' hb'
      rw [show p + 1 + (q + 1) - 1 = p + q + 1 by omega] at this
      exact this
    · rw [cv_top ha' hb']; exact F2.mul_ne_zero (tn_top hp) (tn_top hq)

/-! Quotients by X - x. -/
/-- From the j-th coefficient on, the highest one first. -/
def hq (n : Nat) (c : Nat → F2) (x : F2) (j : Nat) : F2 := qe (n - j) (fun i => c (j + i)) x
theorem hq_end (n : Nat) (c : Nat → F2) (x : F2) (j : Nat) (h : n ≤ j) : hq n c x j = 0 := by unfold hq; rw [show n - j = 0 by omega]; rfl
theorem hq_step (n : Nat) (c : Nat → F2) (x : F2) (j : Nat) (h : j < n) : hq n c x j = hq n c x (j + 1) * x + c j := by
  unfold hq
  rw [show n - j = (n - (j + 1)) + 1 by omega, qe_first, Nat.add_zero, F2.add_comm, F2.mul_comm x]
  congr 2
  exact qe_congr fun i _ => by rw [show j + (i + 1) = j + 1 + i by omega]
theorem hq_zero (n : Nat) (c : Nat → F2) (x : F2) : hq n c x 0 = qe n c x := by unfold hq; rw [Nat.sub_zero]; exact qe_congr fun i _ => by rw [Nat.zero_add]
/-- X - x. -/
def lin (x : F2) (i : Nat) : F2 := if i = 0 then -x else if i = 1 then 1 else 0
theorem lin_upto (x : F2) : Upto 2 (lin x) := fun i hi => by unfold lin; rw [if_neg (by omega), if_neg (by omega)]
theorem lin_eval (x y : F2) : qe 2 (lin x) y = y - x := by
  unfold qe lin
  simp only [sq]
  rw [if_pos trivial, if_neg (by omega), if_pos trivial, qpow_zero, qpow_one, F2.mul_one, F2.one_mul, F2.zero_add, F2.sub_eq, F2.add_comm]
theorem cv_lin_zero (c : Nat → F2) (x : F2) : cv c (lin x) 0 = c 0 * -x := by rw [cv_zero]; rfl
theorem cv_lin_succ (c : Nat → F2) (x : F2) (k : Nat) : cv c (lin x) (k + 1) = c (k + 1) * -x + c k := by
  unfold cv
  rw [sq_succ, sq_succ, sq_none (fun i hi => by rw [lin_upto x _ (by omega), F2.mul_zero]), F2.zero_add, show k + 1 - k = 1 by omega, Nat.sub_self]
  show c k * 1 + c (k + 1) * -x = _
  rw [F2.mul_one, F2.add_comm]
theorem mul_neg' (a x : F2) : a * -x = -(a * x) := by rw [F2.mul_comm, F2.neg_mul, F2.mul_comm]
theorem neg_add_cancel' (a b : F2) : -a + (a + b) = b := by rw [← F2.add_assoc, F2.add_comm (-a), F2.add_neg, F2.zero_add]
/-- The quotient. -/
def dq (n : Nat) (c : Nat → F2) (x : F2) (i : Nat) : F2 := hq n c x (i + 1)
theorem dq_upto (n : Nat) (c : Nat → F2) (x : F2) : Upto (n - 1) (dq n c x) := fun i hi => hq_end n c x (i + 1) (by omega)
theorem euclid {n : Nat} {c : Nat → F2} (hc : Upto n c) (x : F2) (i : Nat) : cv (dq n c x) (lin x) i + (if i = 0 then qe n c x else 0) = c i := by
  cases i with
  | zero =>
    rw [if_pos rfl, cv_lin_zero, mul_neg', ← hq_zero]
    show -(hq n c x 1 * x) + hq n c x 0 = c 0
    by_cases h : 0 < n
    · rw [hq_step n c x 0 h, neg_add_cancel']
    · rw [hq_end n c x 1 (by omega), hq_end n c x 0 (by omega), hc 0 (by omega), F2.zero_mul, F2.add_comm, F2.add_neg]
  | succ i =>
    rw [if_neg (by omega), F2.add_zero, cv_lin_succ, mul_neg']
    show -(hq n c x (i + 1 + 1) * x) + hq n c x (i + 1) = c (i + 1)
    by_cases h : i + 1 < n
    · rw [hq_step n c x (i + 1) h, neg_add_cancel']
    · rw [hq_end n c x (i + 1 + 1) (by omega), hq_end n c x (i + 1) (by omega), hc (i + 1) (by omega), F2.zero_mul, F2.add_comm, F2.add_neg]
theorem euclid_eval {n : Nat} {c : Nat → F2} (hc : Upto n c) (x y : F2) : qe n c y = qe (n - 1) (dq n c x) y * (y - x) + qe n c x := by
  rcases Nat.eq_zero_or_pos n with rfl | h0
  · show (0 : F2) = 0 * _ + 0
    rw [F2.zero_mul, F2.add_zero]
  · rw [← lin_eval, ← cv_eval (n - 1) _ (dq_upto n c x) 2 _ (lin_upto x) n y (by omega), qe_congr (d := fun i => cv (dq n c x) (lin x) i + (if i = 0 then qe n c x else 0)) (fun i _ => (euclid hc x i).symm), qe_add]
    congr 1
    obtain ⟨m, rfl⟩ : ∃ m, n = m + 1 := ⟨n - 1, by omega⟩
    rw [qe_first m, qe_none (c := fun i => if i + 1 = 0 then qe (m + 1) c x else 0) _ (fun i _ => if_neg (by omega)), F2.mul_zero, F2.add_zero, if_pos rfl]
theorem sub_eq_zero' {x y : F2} (h : x - y = 0) : x = y := by
  have : x - y + y = y := by rw [h, F2.zero_add]
  rw [← this, F2.sub_eq, F2.add_assoc, F2.add_comm (-y), F2.add_neg, F2.add_zero]
theorem sub_self' (x : F2) : x - x = 0 := by rw [F2.sub_eq, F2.add_neg]
/-- What comes to 0 at as many points as it has coefficients is 0. -/
theorem few_roots : ∀ (n : Nat) (c : Nat → F2), Upto n c → ∀ (x : Nat → F2), (∀ i j, i < n → j < i → x i ≠ x j) → (∀ i, i < n → qe n c (x i) = 0) → ∀ i, c i = 0
  | 0, c, hc, x, hx, h, i => hc i (Nat.zero_le _)
  | n + 1, c, hc, x, hx, h, i => by
    have hq0 : ∀ i, dq (n + 1) c (x n) i = 0 := by
      refine few_roots n (dq (n + 1) c (x n)) (dq_upto (n + 1) c (x n)) x (fun i j hi hj => hx i j (by omega) hj) fun i hi => ?_
      have e := euclid_eval hc (x n) (x i)
      rw [h i (by omega), h n (by omega), F2.add_zero] at e
      rcases F2.mul_eq_zero e.symm with h1 | h1
      · exact h1
      · exact absurd (sub_eq_zero' h1).symm (hx n i (by omega) hi)
    have e := euclid hc (x n) i
    rw [cv_none hq0, h n (by omega)] at e
    rw [← e]
    split <;> exact F2.add_zero 0
theorem neg_zero' : (-0 : F2) = 0 := by rw [← F2.zero_add (-0), F2.add_neg]
theorem qe_neg (n : Nat) (c : Nat → F2) (x : F2) : qe n (fun i => -c i) x = -qe n c x := by
  have : qe n (fun i => -c i) x = qe n (fun i => c i * -1) x := qe_congr fun i _ => by rw [mul_neg', F2.mul_one]
  rw [this, qe_scale, F2.neg_mul, F2.one_mul]
/-- Two that agree at as many points are one. -/
theorem through_one {n : Nat} {c d : Nat → F2} (hc : Upto n c) (hd : Upto n d) (x : Nat → F2) (hx : ∀ i j, i < n → j < i → x i ≠ x j) (h : ∀ i, i < n → qe n c (x i) = qe n d (x i)) (i : Nat) : c i = d i := by
  have := few_roots n (fun i => c i + -d i) (fun i hi => by dsimp only; rw [hc i hi, hd i hi, neg_zero', F2.add_zero]) x hx (fun i hi => by rw [qe_add, qe_neg, h i hi, F2.add_neg]) i
  exact sub_eq_zero' (by rw [F2.sub_eq]; exact this)

/-! Products of X less each of some. -/
def one2 (i : Nat) : F2 := if i = 0 then 1 else 0
theorem one2_upto : Upto 1 one2 := fun i hi => if_neg (by omega)
theorem one2_eval (x : F2) : qe 1 one2 x = 1 := by unfold qe; simp only [sq]; rw [F2.zero_add, qpow_zero, F2.mul_one]; rfl
/-- .. of the first k, but the one at s. -/
def pp (s : Nat) (x : Nat → F2) : Nat → Nat → F2
  | 0 => one2
  | k + 1 => if k = s then pp s x k else cv (pp s x k) (lin (x k))
def ps (s : Nat) (x : Nat → F2) (y : F2) : Nat → F2
  | 0 => 1
  | k + 1 => if k = s then ps s x y k else ps s x y k * (y - x k)
/-- How many coefficients. -/
def pn (s k : Nat) : Nat := if s < k then k else k + 1
theorem pp_upto (s : Nat) (x : Nat → F2) : ∀ k, Upto (pn s k) (pp s x k)
  | 0 => one2_upto
  | k + 1 => by
    have ih := pp_upto s x k
    unfold pp
    by_cases c : k = s
    · rw [if_pos c]
      exact ih.more (by unfold pn; split <;> split <;> omega)
    · rw [if_neg c]
      exact (cv_upto ih (lin_upto (x k))).more (by unfold pn; split <;> split <;> omega)
theorem pp_eval (s : Nat) (x : Nat → F2) (y : F2) : ∀ k, qe (pn s k) (pp s x k) y = ps s x y k
  | 0 => one2_eval y
  | k + 1 => by
    have ih := pp_eval s x y k
    have hu := pp_upto s x k
    show qe _ (if k = s then pp s x k else cv (pp s x k) (lin (x k))) y = if k = s then ps s x y k else ps s x y k * (y - x k)
    by_cases c : k = s
    · rw [if_pos c, if_pos c, ← ih]
      have e : pn s (k + 1) = pn s k := by unfold pn; rw [if_pos (by omega), if_neg (by omega)]
      rw [e]
    · rw [if_neg c, if_neg c, ← ih, ← lin_eval]
      exact cv_eval _ _ hu 2 _ (lin_upto _) _ y (by unfold pn; split <;> split <;> omega)
theorem ps_zero (s : Nat) (x : Nat → F2) (y : F2) : ∀ k, ps s x y k = 0 ↔ ∃ i, i < k ∧ i ≠ s ∧ y = x i
  | 0 => ⟨fun h => absurd h F2.one_ne_zero, fun ⟨i, h, _⟩ => by omega⟩
  | k + 1 => by
    have ih := ps_zero s x y k
    unfold ps
    by_cases c : k = s
    · rw [if_pos c, ih]
      exact ⟨fun ⟨i, h1, h2, h3⟩ => ⟨i, by omega, h2, h3⟩, fun ⟨i, h1, h2, h3⟩ => ⟨i, by omega, h2, h3⟩⟩
    · rw [if_neg c]
      constructor
      · intro h
        rcases F2.mul_eq_zero h with h | h
        · obtain ⟨i, h1, h2, h3⟩ := ih.1 h
          exact ⟨i, by omega, h2, h3⟩
        · exact ⟨k, by omega, c, sub_eq_zero' h⟩
      · rintro ⟨i, h1, h2, h3⟩
        by_cases e : i = k
        · subst e; rw [h3, sub_self', F2.mul_zero]
        · rw [ih.2 ⟨i, by omega, h2, h3⟩, F2.zero_mul]

/-! The one through points. -/
/-- The first k of its sum. -/
def lgr (n : Nat) (x y : Nat → F2) (k i : Nat) : F2 := sq k (fun s => pp s x n i * (qinv (ps s x (x s) n) * y s))
theorem lgr_upto (n : Nat) (x y : Nat → F2) (k : Nat) (hk : k ≤ n) : Upto n (lgr n x y k) := fun i hi => sq_none fun s hs => by
  rw [pp_upto s x n i (by unfold pn; rw [if_pos (by omega)]; exact hi), F2.zero_mul]
theorem qe_sq (N : Nat) (f : Nat → Nat → F2) (z : F2) : ∀ k, qe N (fun i => sq k (fun s => f s i)) z = sq k (fun s => qe N (f s) z)
  | 0 => qe_none z fun _ _ => rfl
  | k + 1 => by rw [sq_succ, ← qe_sq N f z k, ← qe_add]; rfl
theorem lgr_eval (n : Nat) (x y : Nat → F2) (hx : ∀ i j, i < n → j < i → x i ≠ x j) (m : Nat) (hm : m < n) : qe n (lgr n x y n) (x m) = y m := by
  have hd : ∀ i j, i < n → j < n → i ≠ j → x i ≠ x j := by
    intro i j hi hj hij
    rcases Nat.lt_or_gt_of_ne hij with h | h
    · exact fun e => hx j i hj h e.symm
    · exact hx i j hi h
  unfold lgr
  rw [qe_sq, sq_one hm (fun s hs hsm => ?_)]
  · rw [qe_scale]
    have e : qe n (pp m x n) (x m) = ps m x (x m) n := by
      have := pp_eval m x (x m) n
      unfold pn at this
      rw [if_pos hm] at this
      exact this
    have hne : ps m x (x m) n ≠ 0 := fun h0 => by
      obtain ⟨i, h1, h2, h3⟩ := (ps_zero m x (x m) n).1 h0
      exact hd m i hm h1 (fun e => h2 e.symm) h3
    have h1 := mul_qinv _ hne
    rw [e]
    generalize ps m x (x m) n = p at *
    calc qinv p * y m * p = (p * qinv p) * y m := by ac_rfl
      _ = y m := by rw [h1, F2.one_mul]
  · rw [qe_scale]
    have e : qe n (pp s x n) (x m) = ps s x (x m) n := by
      have := pp_eval s x (x m) n
      unfold pn at this
      rw [if_pos hs] at this
      exact this
    rw [e, (ps_zero s x (x m) n).2 ⟨m, hm, fun e => hsm e.symm, rfl⟩, F2.mul_zero]
end Go.Proofs.YthfkfgjhgicfeaaGreatDoor
