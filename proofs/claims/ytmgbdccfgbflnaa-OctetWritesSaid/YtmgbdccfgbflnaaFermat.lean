/-
  Each number of the field but 0 is a power of 7; so its power to P - 1 is 1, and its power to P - 2 gives 1 with it. (No table of primes: by 7's order, and by counting.)
-/
import Derived.Test.YtmgbdccfgbflnaaFld
namespace Go.Proofs.Ytmgbdccfgbflnaa
set_option linter.unusedVariables false

/-- What is one to one on the numbers below n, into them, meets each of them. -/
theorem inj_surj : ∀ (n : Nat) (f : Nat → Nat), (∀ i, i < n → f i < n) → (∀ i j, i < n → j < n → f i = f j → i = j) → ∀ y, y < n → ∃ i, i < n ∧ f i = y := by
  intro n
  induction n with
  | zero => intro f _ _ y hy; omega
  | succ n ih =>
    intro f hf hinj y hy
    have hg := ih (fun i => if f i = n then f n else f i)
      (by
        intro i hi
        have h1 := hf i (by omega)
        have h2 := hf n (by omega)
        by_cases h : f i = n
        · have : f n ≠ n := fun h' => by have := hinj i n (by omega) (by omega) (by omega); omega
          simp only [h, if_true]; omega
        · simp only [h, if_false]; omega)
      (by
        intro i j hi hj h
        by_cases h1 : f i = n <;> by_cases h2 : f j = n
        · exact hinj i j (by omega) (by omega) (by omega)
        · simp only [h1, h2, if_true, if_false] at h
          have := hinj n j (by omega) (by omega) h; omega
        · simp only [h1, h2, if_true, if_false] at h
          have := hinj i n (by omega) (by omega) h; omega
        · simp only [h1, h2, if_false] at h
          exact hinj i j (by omega) (by omega) h)
    by_cases e1 : y = f n
    · exact ⟨n, by omega, e1.symm⟩
    · by_cases e2 : y = n
      · have hv : f n < n := by have := hf n (by omega); omega
        obtain ⟨i, hi, h⟩ := hg (f n) hv
        by_cases h1 : f i = n
        · exact ⟨i, by omega, by omega⟩
        · simp only [h1, if_false] at h
          have := hinj i n (by omega) (by omega) h; omega
      · obtain ⟨i, hi, h⟩ := hg y (by omega)
        by_cases h1 : f i = n
        · simp only [h1, if_true] at h; omega
        · simp only [h1, if_false] at h
          exact ⟨i, by omega, h⟩

/-- No divisor up to s but 1, and (s + 1)^2 is greater: none at all but 1 and itself. -/
theorem prime_of (q s : Nat) (hq : 0 < q) (hs : q < (s + 1) * (s + 1)) (h : ∀ d, d < s + 1 → d ∣ q → d = 1) (d : Nat) (hd : d ∣ q) : d = 1 ∨ d = q := by
  obtain ⟨c, rfl⟩ := hd
  by_cases h1 : d < s + 1
  · exact Or.inl (h d h1 ⟨c, rfl⟩)
  · by_cases h2 : c < s + 1
    · have := h c h2 ⟨d, Nat.mul_comm _ _⟩
      subst this
      right; omega
    · exfalso
      have := Nat.mul_le_mul (show s + 1 ≤ d by omega) (show s + 1 ≤ c by omega)
      omega

theorem cop_of {q k : Nat} (hq : ∀ d, d ∣ q → d = 1 ∨ d = q) (h : ¬ q ∣ k) : Nat.Coprime k q := by
  rcases hq _ (Nat.gcd_dvd_right k q) with h1 | h1
  · exact h1
  · exact absurd (h1 ▸ Nat.gcd_dvd_left k q) h

theorem factor_of (k : Nat) (hk : k ∣ 18446744069414584320) (h1 : k ≠ 1) : 2 ∣ k ∨ 3 ∣ k ∨ 5 ∣ k ∨ 17 ∣ k ∨ 257 ∣ k ∨ 65537 ∣ k := by
  refine Classical.byContradiction fun hn => h1 ?_
  simp only [not_or] at hn
  obtain ⟨n2, n3, n5, n17, n257, n65537⟩ := hn
  have c2 := cop_of (prime_of 2 1 (by decide) (by decide) (by decide)) n2
  have c3 := cop_of (prime_of 3 1 (by decide) (by decide) (by decide)) n3
  have c5 := cop_of (prime_of 5 2 (by decide) (by decide) (by decide)) n5
  have c17 := cop_of (prime_of 17 4 (by decide) (by decide) (by decide)) n17
  have c257 := cop_of (prime_of 257 16 (by decide) (by decide) (by decide)) n257
  have c65537 := cop_of (prime_of 65537 256 (by decide) (by decide) (by decide +kernel)) n65537
  have c := (((((c2.pow_right 32).mul_right c3).mul_right c5).mul_right c17).mul_right c257).mul_right c65537
  exact c.eq_one_of_dvd hk

theorem fpow_gcd (x : F) (a b : Nat) : fpow x a = 1 → fpow x b = 1 → fpow x (Nat.gcd a b) = 1 := by
  induction a, b using Nat.gcd.induction with
  | H0 n => intro _ h; rw [Nat.gcd_zero_left]; exact h
  | H1 m n hm ih =>
    intro h1 h2
    rw [Nat.gcd_rec]
    refine ih ?_ h1
    have e : fpow x (m * (n / m) + n % m) = 1 := by rw [Nat.div_add_mod]; exact h2
    rw [fpow_add, fpow_mul, h1, one_fpow] at e
    rw [← e]; grind

def seven : F := 7
theorem seven_all : fpow seven 18446744069414584320 = 1 := by rw [← fsq_eq 64 _ _ (by decide +kernel)]; decide +kernel
theorem seven_2 : fpow seven 9223372034707292160 ≠ 1 := by rw [← fsq_eq 64 _ _ (by decide +kernel)]; decide +kernel
theorem seven_3 : fpow seven 6148914689804861440 ≠ 1 := by rw [← fsq_eq 64 _ _ (by decide +kernel)]; decide +kernel
theorem seven_5 : fpow seven 3689348813882916864 ≠ 1 := by rw [← fsq_eq 64 _ _ (by decide +kernel)]; decide +kernel
theorem seven_17 : fpow seven 1085102592318504960 ≠ 1 := by rw [← fsq_eq 64 _ _ (by decide +kernel)]; decide +kernel
theorem seven_257 : fpow seven 71777214277877760 ≠ 1 := by rw [← fsq_eq 64 _ _ (by decide +kernel)]; decide +kernel
theorem seven_65537 : fpow seven 281470681743360 ≠ 1 := by rw [← fsq_eq 64 _ _ (by decide +kernel)]; decide +kernel

theorem seven_order (d : Nat) (h0 : 0 < d) (h1 : d < 18446744069414584320) : fpow seven d ≠ 1 := by
  intro h
  have he := fpow_gcd seven d 18446744069414584320 h seven_all
  obtain ⟨k, hk⟩ := Nat.gcd_dvd_right d 18446744069414584320
  have hle : Nat.gcd d 18446744069414584320 ≤ d := Nat.le_of_dvd h0 (Nat.gcd_dvd_left _ _)
  generalize Nat.gcd d 18446744069414584320 = e at *
  have hk1 : k ≠ 1 := by intro hh; subst hh; omega
  have key : ∀ q r : Nat, 0 < q → q * r = 18446744069414584320 → fpow seven r ≠ 1 → ¬ q ∣ k := by
    intro q r hq hr hne hd
    obtain ⟨j, rfl⟩ := hd
    have : r = e * j := by
      refine Nat.eq_of_mul_eq_mul_left hq ?_
      rw [hr, hk]
      rw [← Nat.mul_assoc, ← Nat.mul_assoc, Nat.mul_comm e q]
    exact hne (by rw [this, fpow_mul, he, one_fpow])
  rcases factor_of k ⟨e, by rw [hk, Nat.mul_comm]⟩ hk1 with h | h | h | h | h | h
  · exact key 2 _ (by decide) (by decide +kernel) seven_2 h
  · exact key 3 _ (by decide) (by decide +kernel) seven_3 h
  · exact key 5 _ (by decide) (by decide +kernel) seven_5 h
  · exact key 17 _ (by decide) (by decide +kernel) seven_17 h
  · exact key 257 _ (by decide) (by decide +kernel) seven_257 h
  · exact key 65537 _ (by decide) (by decide +kernel) seven_65537 h

theorem seven_inv (i : Nat) (h : i ≤ 18446744069414584320) : fpow seven i * fpow seven (18446744069414584320 - i) = 1 := by
  rw [← fpow_add, Nat.add_sub_cancel' h, seven_all]
theorem one_ne_zero : (1 : F) ≠ 0 := by decide
theorem seven_ne (i : Nat) (h : i ≤ 18446744069414584320) : fpow seven i ≠ 0 := by
  intro h0
  have := seven_inv i h
  rw [h0] at this
  exact one_ne_zero (by rw [← this]; grind)

theorem seven_inj (i j : Nat) (hi : i < 18446744069414584320) (hj : j < 18446744069414584320) (h : fpow seven i = fpow seven j) : i = j := by
  have key : ∀ i j : Nat, i < j → j < 18446744069414584320 → fpow seven i = fpow seven j → False := by
    intro i j hij hj h
    refine seven_order (j - i) (by omega) (by omega) ?_
    have e : fpow seven j = fpow seven i * fpow seven (j - i) := by rw [← fpow_add]; congr 1; omega
    have hv := seven_inv i (by omega)
    rw [← h] at e
    grind
  rcases Nat.lt_trichotomy i j with h1 | h1 | h1
  · exact (key i j h1 hj h).elim
  · exact h1
  · exact (key j i h1 hi h.symm).elim

theorem val_ne {x : F} (h : x ≠ 0) : 0 < x.val := by
  refine Nat.pos_of_ne_zero fun h' => h ?_
  exact Fin.ext h'

/-- Each number but 0 is a power of 7. -/
theorem seven_each (x : F) (h : x ≠ 0) : ∃ i, i < 18446744069414584320 ∧ fpow seven i = x := by
  have hs := inj_surj 18446744069414584320 (fun i => (fpow seven i).val - 1)
    (by intro i hi
        have := (fpow seven i).isLt
        have := val_ne (seven_ne i (by omega))
        show (fpow seven i).val - 1 < _
        omega)
    (by intro i j hi hj hij
        have h1 := val_ne (seven_ne i (by omega))
        have h2 := val_ne (seven_ne j (by omega))
        have hij' : (fpow seven i).val - 1 = (fpow seven j).val - 1 := hij
        exact seven_inj i j hi hj (Fin.ext (by omega)))
    (x.val - 1) (by have := x.isLt; have := val_ne h; omega)
  obtain ⟨i, hi, h2⟩ := hs
  have h1 := val_ne (seven_ne i (by omega))
  have h3 := val_ne h
  have h2' : (fpow seven i).val - 1 = x.val - 1 := h2
  exact ⟨i, hi, Fin.ext (by omega)⟩

theorem fermat (x : F) (h : x ≠ 0) : fpow x 18446744069414584320 = 1 := by
  obtain ⟨i, _, rfl⟩ := seven_each x h
  rw [← fpow_mul, Nat.mul_comm, fpow_mul, seven_all, one_fpow]

/-- What gives 1 with a number (0 for 0). -/
def finv (x : F) : F := fpow x 18446744069414584319
theorem mul_finv (x : F) (h : x ≠ 0) : x * finv x = 1 := by
  have h1 := fermat x h
  have key : ∀ n m : Nat, n = m + 1 → fpow x n = fpow x m * x := by intro n m hn; subst hn; exact fpow_succ x m
  rw [key 18446744069414584320 18446744069414584319 (by decide)] at h1
  unfold finv
  generalize fpow x 18446744069414584319 = y at *
  rw [← h1]; grind
theorem finv_unique (x y : F) (h : x * y = 1) : y = finv x := by
  have hx : x ≠ 0 := by intro h0; subst h0; exact one_ne_zero (by rw [← h]; grind)
  have := mul_finv x hx
  grind
theorem mul_ne_zero {x y : F} (hx : x ≠ 0) (hy : y ≠ 0) : x * y ≠ 0 := by
  intro h
  have := mul_finv x hx
  apply hy
  grind
theorem mul_eq_zero {x y : F} (h : x * y = 0) : x = 0 ∨ y = 0 := by
  refine Classical.byContradiction fun hn => ?_
  simp only [not_or] at hn
  exact mul_ne_zero hn.1 hn.2 h
theorem mul_cancel {x y z : F} (hx : x ≠ 0) (h : x * y = x * z) : y = z := by
  have := mul_finv x hx
  grind
end Go.Proofs.Ytmgbdccfgbflnaa
