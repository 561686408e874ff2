/-
  Fld: The field of P numbers, P = 18446744069414584321, as plain mathematics (no Go in sight): the ring 'Fin P', powers, and the ways between whole numbers and it.
  Fermat: Each number of the field but 0 is a power of 7; so its power to P - 1 is 1, and its power to P - 2 gives 1 with it. (No table of primes: by 7's order, and by counting.)
  Prime: What the calls of package prime come to, as the field's: contracts for the walk.
  Pow: What prime.Pow, prime.Inv come to, as the field's: contracts for the walk.
  List: What prime.Sum and prime.Prod come to, as the field's: contracts for the walk.
  Is: The contracts of layer 1 with the answer under a name; what a uint64's bounds are.
  Loose: A region that draws its order, whose operations read, call and make memory, and whose last ones, in a forced order, store: each operation is shown ONCE, by what its own operands hold, in whatever world has come of the first one by new memory alone. No Go text in sight.
  Ftwo: Pairs a + b u of numbers of the field, where u squared is 7: they are a field; a turn is the power P. Plain mathematics (no Go in sight).
  Pairs: What the calls of package pair come to, as the pairs': contracts for the walk.
  PairPow: What pair.Inv, pair.Pow come to: contracts for the walk.
  PairSum: What pair.Sum comes to: a contract for the walk.
-/
import Derived.Test.YthfkfgjhgicfeaaGreatDoorChecked
import Derived.WalkKit
import Derived.Laws.Externs
import Derived.Laws.Bits64b
import Derived.Lib.Mul64
import Derived.Lib.Hide
import Derived.LoopTactic
import Derived.OwnWalk
import Derived.Below
import Derived.OpenShut
import Derived.Laws.OwnMore
import Derived.StillTail
import Derived.Tactics
import Derived.StillTailTactics
import Derived.Deep.RegionHeld3
import Derived.StillTactics
import Derived.Laws.Pointers
import Derived.WalkSpells
import Derived.Deep.DeepCutAuto
namespace Go.Proofs.YthfkfgjhgicfeaaGreatDoor
set_option linter.unusedVariables false

abbrev F := Fin 18446744069414584321
/-- What a whole number (not below 0) is in the field. -/
def toF (a : Int) : F := Fin.ofNat _ a.toNat
/-- A number of the field as it is kept. -/
def enc (x : F) : Int := (x.val : Int)
/-- A uint64. -/
def U (a : Int) : Prop := 0 ≤ a ∧ a < 18446744073709551616

theorem enc_nonneg (x : F) : 0 ≤ enc x := by unfold enc; omega
theorem enc_lt (x : F) : enc x < 18446744069414584321 := by unfold enc; have := x.isLt; omega
theorem enc_U (x : F) : U (enc x) := ⟨enc_nonneg x, by have := enc_lt x; omega⟩
theorem toF_enc (x : F) : toF (enc x) = x := by
  unfold toF enc
  apply Fin.ext
  simp [Fin.ofNat, Nat.mod_eq_of_lt x.isLt]
theorem enc_toF (a : Int) (h : 0 ≤ a) : enc (toF a) = a % 18446744069414584321 := by
  unfold toF enc
  simp only [Fin.ofNat]
  omega
theorem enc_inj {x y : F} : enc x = enc y ↔ x = y := by
  constructor
  · intro h; rw [← toF_enc x, ← toF_enc y, h]
  · intro h; rw [h]
theorem enc_add (x y : F) : enc (x + y) = (enc x + enc y) % 18446744069414584321 := by
  unfold enc; rw [Fin.val_add]; omega
theorem enc_mul (x y : F) : enc (x * y) = (enc x * enc y) % 18446744069414584321 := by
  unfold enc; rw [Fin.val_mul]; simp
theorem enc_zero : enc 0 = 0 := rfl
theorem enc_neg (x : F) : enc (-x) = (18446744069414584321 - enc x) % 18446744069414584321 := by
  unfold enc
  have h : (-x).val = (18446744069414584321 - x.val) % 18446744069414584321 := Fin.val_neg' x |>.trans (by rfl)
  rw [h]
  have := x.isLt
  omega
theorem toF_add (x y : Int) (hx : 0 ≤ x) (hy : 0 ≤ y) : toF (x + y) = toF x + toF y := by
  rw [← enc_inj, enc_toF _ (by omega), enc_add, enc_toF _ hx, enc_toF _ hy]; omega
theorem toF_mul (x y : Int) (hx : 0 ≤ x) (hy : 0 ≤ y) : toF (x * y) = toF x * toF y := by
  rw [← enc_inj, enc_toF _ (Int.mul_nonneg hx hy), enc_mul, enc_toF _ hx, enc_toF _ hy, Int.mul_emod]
/-- The product by its upper and lower half. -/
theorem mul_halves (a b hi lo t l : Int) (ha : 0 ≤ a) (hb : 0 ≤ b) (hlo : 0 ≤ lo) (ht : 0 ≤ t) (hl : 0 ≤ l)
    (e : a * b = hi * 18446744073709551616 + lo) (eh : hi = t * 4294967296 + l) :
    toF lo - toF t + toF (l * 4294967295) = toF a * toF b := by
  have c1 : toF 79228162514264337593543950336 = (-1 : F) := by decide +kernel
  have c2 : toF 18446744073709551616 = toF 4294967295 := by decide +kernel
  have e2 : a * b = t * 79228162514264337593543950336 + l * 18446744073709551616 + lo := by rw [e, eh]; omega
  rw [← toF_mul a b ha hb, e2, toF_add _ _ (by omega) hlo, toF_add _ _ (by omega) (by omega), toF_mul _ _ ht (by decide), toF_mul _ _ hl (by decide), toF_mul _ _ hl (by decide), c1, c2]
  grind

/-- A power. -/
def fpow (x : F) : Nat → F
  | 0 => 1
  | n + 1 => fpow x n * x
theorem fpow_zero (x : F) : fpow x 0 = 1 := rfl
theorem fpow_succ (x : F) (n : Nat) : fpow x (n + 1) = fpow x n * x := rfl
theorem fpow_add (x : F) (n m : Nat) : fpow x (n + m) = fpow x n * fpow x m := by
  induction m with
  | zero => simp only [fpow, Nat.add_zero]; grind
  | succ m ih => rw [← Nat.add_assoc, fpow_succ, fpow_succ, ih]; grind
theorem one_fpow (n : Nat) : fpow 1 n = 1 := by
  induction n with
  | zero => rfl
  | succ n ih => rw [fpow_succ, ih]; grind
theorem mul_fpow (x y : F) (n : Nat) : fpow (x * y) n = fpow x n * fpow y n := by
  induction n with
  | zero => simp only [fpow]; grind
  | succ n ih => simp only [fpow_succ, ih]; grind
theorem fpow_mul (x : F) (n m : Nat) : fpow x (n * m) = fpow (fpow x n) m := by
  induction m with
  | zero => rfl
  | succ m ih => rw [Nat.mul_succ, fpow_add, ih, fpow_succ]
theorem fpow_two (x : F) (n : Nat) : fpow (x * x) n = fpow x (2 * n) := by
  rw [fpow_mul]; simp only [fpow]; congr 1; grind

/-- A power by squares: for reckoning. -/
def fsq (x : F) : Nat → Nat → F
  | 0, _ => 1
  | fuel + 1, n => if n = 0 then 1 else if n % 2 = 1 then fsq (x * x) fuel (n / 2) * x else fsq (x * x) fuel (n / 2)
theorem fsq_eq (fuel : Nat) : ∀ (x : F) (n : Nat), n < 2 ^ fuel → fsq x fuel n = fpow x n := by
  induction fuel with
  | zero => intro x n h; have : n = 0 := by simpa using h
            subst this; rfl
  | succ k ih =>
    intro x n h
    have hk : n / 2 < 2 ^ k := by rw [Nat.pow_succ] at h; omega
    unfold fsq
    by_cases h0 : n = 0
    · subst h0; rfl
    · rw [if_neg h0, ih _ _ hk, fpow_two]
      by_cases h1 : n % 2 = 1
      · rw [if_pos h1, ← fpow_succ]; congr 1; omega
      · rw [if_neg h1]; congr 1; omega
end Go.Proofs.YthfkfgjhgicfeaaGreatDoor
namespace Go.Proofs.YthfkfgjhgicfeaaGreatDoor
set_option linter.unusedVariables false

/-- What is one to one on the numbers below n, into them, meets each of them. -/
theorem inj_surj : ∀ (n : Nat) (f : Nat → Nat), (∀ i, i < n → f i < n) → (∀ i j, i < n → j < n → f i = f j → i = j) → ∀ y, y < n → ∃ i, i < n ∧ f i = y := by
  intro n
  induction n with
  | zero => intro f _ _ y hy; omega
  | succ n ih =>
    intro f hf hinj y hy
    have hg := ih (fun i => if f i = n then f n else f i)
      (by
        intro i hi
        have h1 := hf i (by omega)
        have h2 := hf n (by omega)
        by_cases h : f i = n
        · have : f n ≠ n := fun h' => by have := hinj i n (by omega) (by omega) (by omega); omega
          simp only [h, if_true]; omega
        · simp only [h, if_false]; omega)
      (by
        intro i j hi hj h
        by_cases h1 : f i = n <;> by_cases h2 : f j = n
        · exact hinj i j (by omega) (by omega) (by omega)
        · simp only [h1, h2, if_true, if_false] at h
          have := hinj n j (by omega) (by omega) h; omega
        · simp only [h1, h2, if_true, if_false] at h
          have := hinj i n (by omega) (by omega) h; omega
        · simp only [h1, h2, if_false] at h
          exact hinj i j (by omega) (by omega) h)
    by_cases e1 : y = f n
    · exact ⟨n, by omega, e1.symm⟩
    · by_cases e2 : y = n
      · have hv : f n < n := by have := hf n (by omega); omega
        obtain ⟨i, hi, h⟩ := hg (f n) hv
        by_cases h1 : f i = n
        · exact ⟨i, by omega, by omega⟩
        · simp only [h1, if_false] at h
          have := hinj i n (by omega) (by omega) h; omega
      · obtain ⟨i, hi, h⟩ := hg y (by omega)
        by_cases h1 : f i = n
        · simp only [h1, if_true] at h; omega
        · simp only [h1, if_false] at h
          exact ⟨i, by omega, h⟩

/-- No divisor up to s but 1, and (s + 1)^2 is greater: none at all but 1 and itself. -/
theorem prime_of (q s : Nat) (hq : 0 < q) (hs : q < (s + 1) * (s + 1)) (h : ∀ d, d < s + 1 → d ∣ q → d = 1) (d : Nat) (hd : d ∣ q) : d = 1 ∨ d = q := by
  obtain ⟨c, rfl⟩ := hd
  by_cases h1 : d < s + 1
  · exact Or.inl (h d h1 ⟨c, rfl⟩)
  · by_cases h2 : c < s + 1
    · have := h c h2 ⟨d, Nat.mul_comm _ _⟩
      subst this
      right; omega
    · exfalso
      have := Nat.mul_le_mul (show s + 1 ≤ d by omega) (show s + 1 ≤ c by omega)
      omega

theorem cop_of {q k : Nat} (hq : ∀ d, d ∣ q → d = 1 ∨ d = q) (h : ¬ q ∣ k) : Nat.Coprime k q := by
  rcases hq _ (Nat.gcd_dvd_right k q) with h1 | h1
  · exact h1
  · exact absurd (h1 ▸ Nat.gcd_dvd_left k q) h

theorem factor_of (k : Nat) (hk : k ∣ 18446744069414584320) (h1 : k ≠ 1) : 2 ∣ k ∨ 3 ∣ k ∨ 5 ∣ k ∨ 17 ∣ k ∨ 257 ∣ k ∨ 65537 ∣ k := by
  refine Classical.byContradiction fun hn => h1 ?_
  simp only [not_or] at hn
  obtain ⟨n2, n3, n5, n17, n257, n65537⟩ := hn
  have c2 := cop_of (prime_of 2 1 (by decide) (by decide) (by decide)) n2
  have c3 := cop_of (prime_of 3 1 (by decide) (by decide) (by decide)) n3
  have c5 := cop_of (prime_of 5 2 (by decide) (by decide) (by decide)) n5
  have c17 := cop_of (prime_of 17 4 (by decide) (by decide) (by decide)) n17
  have c257 := cop_of (prime_of 257 16 (by decide) (by decide) (by decide)) n257
  have c65537 := cop_of (prime_of 65537 256 (by decide) (by decide) (by decide +kernel)) n65537
  have c := (((((c2.pow_right 32).mul_right c3).mul_right c5).mul_right c17).mul_right c257).mul_right c65537
  exact c.eq_one_of_dvd hk

theorem fpow_gcd (x : F) (a b : Nat) : fpow x a = 1 → fpow x b = 1 → fpow x (Nat.gcd a b) = 1 := by
  induction a, b using Nat.gcd.induction with
  | H0 n => intro _ h; rw [Nat.gcd_zero_left]; exact h
  | H1 m n hm ih =>
    intro h1 h2
    rw [Nat.gcd_rec]
    refine ih ?_ h1
    have e : fpow x (m * (n / m) + n % m) = 1 := by rw [Nat.div_add_mod]; exact h2
    rw [fpow_add, fpow_mul, h1, one_fpow] at e
    rw [← e]; grind

def seven : F := 7
theorem seven_all : fpow seven 18446744069414584320 = 1 := by rw [← fsq_eq 64 _ _ (by decide +kernel)]; decide +kernel
theorem seven_2 : fpow seven 9223372034707292160 ≠ 1 := by rw [← fsq_eq 64 _ _ (by decide +kernel)]; decide +kernel
theorem seven_3 : fpow seven 6148914689804861440 ≠ 1 := by rw [← fsq_eq 64 _ _ (by decide +kernel)]; decide +kernel
theorem seven_5 : fpow seven 3689348813882916864 ≠ 1 := by rw [← fsq_eq 64 _ _ (by decide +kernel)]; decide +kernel
theorem seven_17 : fpow seven 1085102592318504960 ≠ 1 := by rw [← fsq_eq 64 _ _ (by decide +kernel)]; decide +kernel
theorem seven_257 : fpow seven 71777214277877760 ≠ 1 := by rw [← fsq_eq 64 _ _ (by decide +kernel)]; decide +kernel
theorem seven_65537 : fpow seven 281470681743360 ≠ 1 := by rw [← fsq_eq 64 _ _ (by decide +kernel)]; decide +kernel

theorem seven_order (d : Nat) (h0 : 0 < d) (h1 : d < 18446744069414584320) : fpow seven d ≠ 1 := by
  intro h
  have he := fpow_gcd seven d 18446744069414584320 h seven_all
  obtain ⟨k, hk⟩ := Nat.gcd_dvd_right d 18446744069414584320
  have hle : Nat.gcd d 18446744069414584320 ≤ d := Nat.le_of_dvd h0 (Nat.gcd_dvd_left _ _)
  generalize Nat.gcd d 18446744069414584320 = e at *
  have hk1 : k ≠ 1 := by intro hh; subst hh; omega
  have key : ∀ q r : Nat, 0 < q → q * r = 18446744069414584320 → fpow seven r ≠ 1 → ¬ q ∣ k := by
    intro q r hq hr hne hd
    obtain ⟨j, rfl⟩ := hd
    have : r = e * j := by
      refine Nat.eq_of_mul_eq_mul_left hq ?_
      rw [hr, hk]
      rw [← Nat.mul_assoc, ← Nat.mul_assoc, Nat.mul_comm e q]
    exact hne (by rw [this, fpow_mul, he, one_fpow])
  rcases factor_of k ⟨e, by rw [hk, Nat.mul_comm]⟩ hk1 with h | h | h | h | h | h
  · exact key 2 _ (by decide) (by decide +kernel) seven_2 h
  · exact key 3 _ (by decide) (by decide +kernel) seven_3 h
  · exact key 5 _ (by decide) (by decide +kernel) seven_5 h
  · exact key 17 _ (by decide) (by decide +kernel) seven_17 h
  · exact key 257 _ (by decide) (by decide +kernel) seven_257 h
  · exact key 65537 _ (by decide) (by decide +kernel) seven_65537 h

theorem seven_inv (i : Nat) (h : i ≤ 18446744069414584320) : fpow seven i * fpow seven (18446744069414584320 - i) = 1 := by
  rw [← fpow_add, Nat.add_sub_cancel' h, seven_all]
theorem one_ne_zero : (1 : F) ≠ 0 := by decide
theorem seven_ne (i : Nat) (h : i ≤ 18446744069414584320) : fpow seven i ≠ 0 := by
  intro h0
  have := seven_inv i h
  rw [h0] at this
  exact one_ne_zero (by rw [← this]; grind)

theorem seven_inj (i j : Nat) (hi : i < 18446744069414584320) (hj : j < 18446744069414584320) (h : fpow seven i = fpow seven j) : i = j := by
  have key : ∀ i j : Nat, i < j → j < 18446744069414584320 → fpow seven i = fpow seven j → False := by
    intro i j hij hj h
    refine seven_order (j - i) (by omega) (by omega) ?_
    have e : fpow seven j = fpow seven i * fpow seven (j - i) := by rw [← fpow_add]; congr 1; omega
    have hv := seven_inv i (by omega)
    rw [← h] at e
    grind
  rcases Nat.lt_trichotomy i j with h1 | h1 | h1
  · exact (key i j h1 hj h).elim
  · exact h1
  · exact (key j i h1 hi h.symm).elim

theorem val_ne {x : F} (h : x ≠ 0) : 0 < x.val := by
  refine Nat.pos_of_ne_zero fun h' => h ?_
  exact Fin.ext h'

/-- Each number but 0 is a power of 7. -/
theorem seven_each (x : F) (h : x ≠ 0) : ∃ i, i < 18446744069414584320 ∧ fpow seven i = x := by
  have hs := inj_surj 18446744069414584320 (fun i => (fpow seven i).val - 1)
    (by intro i hi
        have := (fpow seven i).isLt
        have := val_ne (seven_ne i (by omega))
        show (fpow seven i).val - 1 < _
        omega)
    (by intro i j hi hj hij
        have h1 := val_ne (seven_ne i (by omega))
        have h2 := val_ne (seven_ne j (by omega))
        have hij' : (fpow seven i).val - 1 = (fpow seven j).val - 1 := hij
        exact seven_inj i j hi hj (Fin.ext (by omega)))
    (x.val - 1) (by have := x.isLt; have := val_ne h; omega)
  obtain ⟨i, hi, h2⟩ := hs
  have h1 := val_ne (seven_ne i (by omega))
  have h3 := val_ne h
  have h2' : (fpow seven i).val - 1 = x.val - 1 := h2
  exact ⟨i, hi, Fin.ext (by omega)⟩

theorem fermat (x : F) (h : x ≠ 0) : fpow x 18446744069414584320 = 1 := by
  obtain ⟨i, _, rfl⟩ := seven_each x h
  rw [← fpow_mul, Nat.mul_comm, fpow_mul, seven_all, one_fpow]

/-- What gives 1 with a number (0 for 0). -/
def finv (x : F) : F := fpow x 18446744069414584319
theorem mul_finv (x : F) (h : x ≠ 0) : x * finv x = 1 := by
  have h1 := fermat x h
  have key : ∀ n m : Nat, n = m + 1 → fpow x n = fpow x m * x := by intro n m hn; subst hn; exact fpow_succ x m
  rw [key 18446744069414584320 18446744069414584319 (by decide)] at h1
  unfold finv
  generalize fpow x 18446744069414584319 = y at *
  rw [← h1]; grind
theorem finv_unique (x y : F) (h : x * y = 1) : y = finv x := by
  have hx : x ≠ 0 := by intro h0; subst h0; exact one_ne_zero (by rw [← h]; grind)
  have := mul_finv x hx
  grind
theorem mul_ne_zero {x y : F} (hx : x ≠ 0) (hy : y ≠ 0) : x * y ≠ 0 := by
  intro h
  have := mul_finv x hx
  apply hy
  grind
theorem mul_eq_zero {x y : F} (h : x * y = 0) : x = 0 ∨ y = 0 := by
  refine Classical.byContradiction fun hn => ?_
  simp only [not_or] at hn
  exact mul_ne_zero hn.1 hn.2 h
theorem mul_cancel {x y z : F} (hx : x ≠ 0) (h : x * y = x * z) : y = z := by
  have := mul_finv x hx
  grind
end Go.Proofs.YthfkfgjhgicfeaaGreatDoor
namespace Go.Proofs.YthfkfgjhgicfeaaGreatDoor
open Go.RowKit
set_option linter.unusedVariables false

@[go_sem] theorem toF_enc_walk (x : F) : toF (enc x) = x := toF_enc x

theorem add64_0 (x y : Int) (hx : 0 ≤ x) (hy : 0 ≤ y) (w : World) : (callFunc 120 #[.int .u64 x, .int .u64 y, .int .u64 0]).run Tryz.prog w =
    .ok (.value (.tuple #[.int .u64 ((x + y) % 18446744073709551616), .int .u64 ((x + y) / 18446744073709551616)])) w := by
  rw [run_callFunc_extern Tryz.func120 (by kernel_rfl) (by kernel_rfl) (by kernel_rfl) (e := add64Entry) (by kernel_rfl), run_add64 x y 0 hx hy (by decide) (by decide)]
  simp [Result.andThen]

theorem add64_as (x y s c : Int) (hx : 0 ≤ x) (hy : 0 ≤ y) (hs : (x + y) % 18446744073709551616 = s) (hc : (x + y) / 18446744073709551616 = c) (w : World) : (callFunc 120 #[.int .u64 x, .int .u64 y, .int .u64 0]).run Tryz.prog w =
    .ok (.value (.tuple #[.int .u64 s, .int .u64 c])) w := by
  rw [add64_0 x y hx hy w, hs, hc]

theorem kept_any (a : Int) (h : U a) (w : World) : Calls Tryz.prog 118 #[.int .u64 a] w fun e w' => e = .returned (.int .u64 (enc (toF a))) ∧ w = w' := by
  obtain ⟨h0, h1⟩ := h
  have e := enc_toF a h0
  by_cases hc : 18446744069414584321 ≤ a
  · have e2 : IntKind.u64.wrap (a - 18446744069414584321) = enc (toF a) := by rw [IntKind.wrap_u64, e]; omega
    clear e
    go_enter Tryz.func118, Tryz.ntmps118
    go_wp2
    go_ret
    exact ⟨rfl, rfl⟩
  · have e2 : a = enc (toF a) := by rw [e]; omega
    clear e
    have H := Lib.hid e2; clear e2
    go_enter Tryz.func118, Tryz.ntmps118
    go_wp2
    go_ret
    exact ⟨by rw [← H.out]; rfl, rfl⟩

theorem add_any (a b : Int) (ha : U a) (hb : U b) (w : World) : Calls Tryz.prog 111 #[.int .u64 a, .int .u64 b] w fun e w' => e = .returned (.int .u64 (enc (toF a + toF b))) ∧ w = w' := by
  have k1 := fun w => kept_any a ha w
  have k2 := fun w => kept_any b hb w
  have e := enc_add (toF a) (toF b)
  have x0 := enc_nonneg (toF a); have x1 := enc_lt (toF a)
  have y0 := enc_nonneg (toF b); have y1 := enc_lt (toF b)
  generalize enc (toF a + toF b) = z at *
  generalize enc (toF a) = x at *
  generalize enc (toF b) = y at *
  by_cases c1 : 18446744073709551616 ≤ x + y
  · have A := fun w => add64_as x y (x + y - 18446744073709551616) 1 x0 y0 (by omega) (by omega) w
    have e2 : IntKind.u64.wrap (x + y - 18446744073709551616 - 18446744069414584321) = z := by rw [IntKind.wrap_u64, e]; omega
    generalize x + y - 18446744073709551616 = s at *
    clear e c1 x0 x1 y0 y1
    go_enter Tryz.func111, Tryz.ntmps111
    go_wp2_with (first | (go_at_call 118; ((with_reducible refine (k1 _).mono ?_); rintro e w' ⟨rfl, rfl⟩)) | (go_at_call 118; ((with_reducible refine (k2 _).mono ?_); rintro e w' ⟨rfl, rfl⟩)))
    go_ret
    exact ⟨rfl, rfl⟩
  · by_cases c2 : 18446744069414584321 ≤ x + y
    · have A := fun w => add64_as x y (x + y) 0 x0 y0 (by omega) (by omega) w
      have e2 : IntKind.u64.wrap (x + y - 18446744069414584321) = z := by rw [IntKind.wrap_u64, e]; omega
      generalize x + y = s at *
      clear e c1 x0 x1 y0 y1
      go_enter Tryz.func111, Tryz.ntmps111
      go_wp2_with (first | (go_at_call 118; ((with_reducible refine (k1 _).mono ?_); rintro e w' ⟨rfl, rfl⟩)) | (go_at_call 118; ((with_reducible refine (k2 _).mono ?_); rintro e w' ⟨rfl, rfl⟩)))
      go_ret
      exact ⟨rfl, rfl⟩
    · have A := fun w => add64_as x y (x + y) 0 x0 y0 (by omega) (by omega) w
      have e2 : x + y = z := by omega
      rw [e2] at A
      have c3 : ¬ 18446744069414584321 ≤ z := by omega
      clear e c1 c2 e2 x0 x1 y0 y1
      go_enter Tryz.func111, Tryz.ntmps111
      go_wp2_with (first | (go_at_call 118; ((with_reducible refine (k1 _).mono ?_); rintro e w' ⟨rfl, rfl⟩)) | (go_at_call 118; ((with_reducible refine (k2 _).mono ?_); rintro e w' ⟨rfl, rfl⟩)))
      go_ret
      exact ⟨rfl, rfl⟩

theorem neg_any (a : Int) (ha : U a) (w : World) : Calls Tryz.prog 110 #[.int .u64 a] w fun e w' => e = .returned (.int .u64 (enc (-toF a))) ∧ w = w' := by
  have k1 := fun w => kept_any a ha w
  have e := enc_neg (toF a)
  have x0 := enc_nonneg (toF a); have x1 := enc_lt (toF a)
  generalize enc (-toF a) = z at *
  generalize enc (toF a) = x at *
  by_cases c1 : x = 0
  · have e2 : z = 0 := by omega
    subst c1 e2
    clear e x0 x1
    go_enter Tryz.func110, Tryz.ntmps110
    go_wp2_with (go_at_call 118; ((with_reducible refine (k1 _).mono ?_); rintro e w' ⟨rfl, rfl⟩))
    go_ret
    exact ⟨rfl, rfl⟩
  · have e2 : IntKind.u64.wrap (18446744069414584321 - x) = z := by rw [IntKind.wrap_u64, e]; omega
    have c2 : (x == 0) = false := by simpa using c1
    clear e x0 x1 c1
    go_enter Tryz.func110, Tryz.ntmps110
    go_wp2_with (go_at_call 118; ((with_reducible refine (k1 _).mono ?_); rintro e w' ⟨rfl, rfl⟩))
    go_ret
    exact ⟨rfl, rfl⟩

theorem sub_any (a b : Int) (ha : U a) (hb : U b) (w : World) : Calls Tryz.prog 107 #[.int .u64 a, .int .u64 b] w fun e w' => e = .returned (.int .u64 (enc (toF a - toF b))) ∧ w = w' := by
  have k : toF a + -toF b = toF a - toF b := by grind
  have H := Lib.hid k; clear k
  go_enter Tryz.func107, Tryz.ntmps107
  go_wp2_with (first | (go_at_call 110; ((with_reducible refine (neg_any b hb _).mono ?_); rintro e w' ⟨rfl, rfl⟩)) | (go_at_call 111; ((with_reducible refine (add_any a _ ha (enc_U _) _).mono ?_); rintro e w' ⟨rfl, rfl⟩)))
  go_ret
  exact ⟨by rw [← H.out]; rfl, rfl⟩

/-- The upper and the lower half of a product, under names: the walk looks into neither. -/
def hiOf (a b : Int) : Int := a * b / 18446744073709551616
def loOf (a b : Int) : Int := a * b % 18446744073709551616
theorem hilo (a b : Int) : a * b = hiOf a b * 18446744073709551616 + loOf a b := by unfold hiOf loOf; omega
theorem loOf_U (a b : Int) : U (loOf a b) := by unfold loOf U; omega
theorem hiOf_U (a b : Int) (ha : U a) (hb : U b) : U (hiOf a b) := by
  obtain ⟨a0, a1⟩ := ha
  obtain ⟨b0, b1⟩ := hb
  obtain ⟨n, rfl⟩ := Int.eq_ofNat_of_zero_le a0
  obtain ⟨m, rfl⟩ := Int.eq_ofNat_of_zero_le b0
  have h : n * m ≤ 18446744073709551615 * 18446744073709551615 := Nat.mul_le_mul (by omega) (by omega)
  have e : (n : Int) * (m : Int) = ((n * m : Nat) : Int) := (Int.natCast_mul n m).symm
  unfold hiOf U
  rw [e]
  omega

theorem mask32 (a : Int) (ha : U a) : bits .and .u64 a 4294967295 = a % 4294967296 := by
  obtain ⟨a0, a1⟩ := ha
  obtain ⟨n, rfl⟩ := Int.eq_ofNat_of_zero_le a0
  refine (bits_and_u64_nat n 4294967295 (by omega) (by omega)).trans ?_
  have := Nat.and_two_pow_sub_one_eq_mod n 32
  rw [show n &&& 4294967295 = n % 4294967296 from this]
  omega

/-- Mul64 by the names of its own steps. -/
theorem mul64_core (x y x0 x1 y0 y1 a a1 b t t0 t1 c d d1 e g hi lo : Int)
    (f1 : bits .and .u64 x 4294967295 = x0) (f2 : x / 4294967296 = x1) (f3 : bits .and .u64 y 4294967295 = y0) (f4 : y / 4294967296 = y1)
    (f5 : IntKind.u64.wrap (x0 * y0) = a) (f6 : a / 4294967296 = a1) (f7 : IntKind.u64.wrap (x1 * y0) = b) (f8 : IntKind.u64.wrap (b + a1) = t)
    (f9 : bits .and .u64 t 4294967295 = t0) (f10 : t / 4294967296 = t1) (f11 : IntKind.u64.wrap (x0 * y1) = c) (f12 : IntKind.u64.wrap (t0 + c) = d)
    (f13 : IntKind.u64.wrap (x1 * y1) = e) (f14 : IntKind.u64.wrap (e + t1) = g) (f15 : d / 4294967296 = d1) (f16 : IntKind.u64.wrap (g + d1) = hi)
    (f17 : IntKind.u64.wrap (x * y) = lo) (w : World) :
    Calls Tryz.prog 116 #[.int .u64 x, .int .u64 y] w fun e w' => e = .returned (.tuple #[.int .u64 hi, .int .u64 lo]) ∧ w = w' := by
  go_enter Tryz.func116, Tryz.ntmps116
  go_wp2
  go_ret2
  exact ⟨rfl, rfl⟩

theorem wrap_id (z : Int) (h : U z) : IntKind.u64.wrap z = z := by
  obtain ⟨h0, h1⟩ := h
  rw [IntKind.wrap_u64]; omega

theorem mul64_any (a b : Int) (ha : U a) (hb : U b) (w : World) :
    Calls Tryz.prog 116 #[.int .u64 a, .int .u64 b] w fun e w' => e = .returned (.tuple #[.int .u64 (hiOf a b), .int .u64 (loOf a b)]) ∧ w = w' := by
  obtain ⟨a0, a1⟩ := ha
  obtain ⟨b0, b1⟩ := hb
  obtain ⟨n, rfl⟩ := Int.eq_ofNat_of_zero_le a0
  obtain ⟨m, rfl⟩ := Int.eq_ofNat_of_zero_le b0
  obtain ⟨h1, h2, h3, h4⟩ := Lib.mul64_hi n m (by omega) (by omega)
  have p1 := Lib.half_mul_le (a := n / 4294967296) (b := m / 4294967296) (by omega) (by omega)
  have p2 := Lib.half_mul_le (a := n / 4294967296) (b := m % 4294967296) (by omega) (by omega)
  have p3 := Lib.half_mul_le (a := n % 4294967296) (b := m / 4294967296) (by omega) (by omega)
  have q1 : ((n / 4294967296 : Nat) : Int) * ((m / 4294967296 : Nat) : Int) = ((n / 4294967296 * (m / 4294967296) : Nat) : Int) := (Int.natCast_mul _ _).symm
  have q2 : ((n / 4294967296 : Nat) : Int) * ((m % 4294967296 : Nat) : Int) = ((n / 4294967296 * (m % 4294967296) : Nat) : Int) := (Int.natCast_mul _ _).symm
  have q3 : ((n % 4294967296 : Nat) : Int) * ((m / 4294967296 : Nat) : Int) = ((n % 4294967296 * (m / 4294967296) : Nat) : Int) := (Int.natCast_mul _ _).symm
  have q4 : ((n % 4294967296 : Nat) : Int) * ((m % 4294967296 : Nat) : Int) = ((n % 4294967296 * (m % 4294967296) : Nat) : Int) := (Int.natCast_mul _ _).symm
  have q5 : (n : Int) * (m : Int) = ((n * m : Nat) : Int) := (Int.natCast_mul _ _).symm
  have v1 : hiOf n m = ((n * m / 18446744073709551616 : Nat) : Int) := by unfold hiOf; rw [q5]; omega
  have v2 : loOf n m = ((n * m % 18446744073709551616 : Nat) : Int) := by unfold loOf; rw [q5]; omega
  rw [v1, v2]
  generalize n / 4294967296 * (m / 4294967296) = A at *
  generalize n / 4294967296 * (m % 4294967296) = B at *
  generalize n % 4294967296 * (m / 4294967296) = C at *
  generalize n % 4294967296 * (m % 4294967296) = D at *
  generalize n * m = N at *
  refine mul64_core n m ((n % 4294967296 : Nat) : Int) ((n / 4294967296 : Nat) : Int) ((m % 4294967296 : Nat) : Int) ((m / 4294967296 : Nat) : Int) (D : Int) (D / 4294967296) (B : Int) (B + D / 4294967296)
    ((B + D / 4294967296) % 4294967296) ((B + D / 4294967296) / 4294967296) (C : Int) ((B + D / 4294967296) % 4294967296 + C) (((B + D / 4294967296) % 4294967296 + C) / 4294967296) (A : Int) (A + (B + D / 4294967296) / 4294967296) _ _
    ?_ ?_ ?_ ?_ ?_ rfl ?_ ?_ ?_ rfl ?_ ?_ ?_ ?_ rfl ?_ ?_ w
  · rw [mask32 _ ⟨by omega, by omega⟩]; omega
  · omega
  · rw [mask32 _ ⟨by omega, by omega⟩]; omega
  · omega
  · rw [q4]; exact wrap_id _ ⟨by omega, by omega⟩
  · rw [q2]; exact wrap_id _ ⟨by omega, by omega⟩
  · exact wrap_id _ ⟨by omega, by omega⟩
  · exact mask32 _ ⟨by omega, by omega⟩
  · rw [q3]; exact wrap_id _ ⟨by omega, by omega⟩
  · exact wrap_id _ ⟨by omega, by omega⟩
  · rw [q1]; exact wrap_id _ ⟨by omega, by omega⟩
  · exact wrap_id _ ⟨by omega, by omega⟩
  · rw [wrap_id _ ⟨by omega, by omega⟩]; omega
  · rw [q5, IntKind.wrap_u64]; omega

theorem mul_any (a b : Int) (ha : U a) (hb : U b) (w : World) : Calls Tryz.prog 101 #[.int .u64 a, .int .u64 b] w fun e w' => e = .returned (.int .u64 (enc (toF a * toF b))) ∧ w = w' := by
  have k1 := fun w => mul64_any a b ha hb w
  have hU := hiOf_U a b ha hb
  have lU := loOf_U a b
  have e := hilo a b
  have em := mask32 (hiOf a b) hU
  generalize hiOf a b = hi at *
  generalize loOf a b = lo at *
  have q := mul_halves a b hi lo (hi / 4294967296) (hi % 4294967296) ha.1 hb.1 lU.1 (by have := hU.1; omega) (by omega) e (by omega)
  have tU : U (hi / 4294967296) := by unfold U at *; omega
  have mU : U (hi % 4294967296 * 4294967295) := by unfold U at *; omega
  have ew : IntKind.u64.wrap (hi % 4294967296 * 4294967295) = hi % 4294967296 * 4294967295 := by rw [IntKind.wrap_u64]; unfold U at mU; omega
  have h0 := hU.1
  clear e hU ha hb
  have Q := Lib.hid q
  clear q
  generalize et : hi / 4294967296 = t at *
  generalize hi % 4294967296 = l at *
  obtain ⟨m, hm⟩ : ∃ m, l * 4294967295 = m := ⟨_, rfl⟩
  have Q' : Hid (toF lo - toF t + toF m = toF a * toF b) := Lib.hid (by rw [← hm]; exact Q.out)
  rw [hm] at mU
  have ew' : IntKind.u64.wrap (l * 4294967295) = m := by rw [ew, hm]
  clear Q ew hm
  go_enter Tryz.func101, Tryz.ntmps101
  go_wp2_with (first | (go_at_call 116; ((with_reducible refine (k1 _).mono ?_); rintro e w' ⟨rfl, rfl⟩)) | (go_at_call 107; ((with_reducible refine (sub_any lo t lU tU _).mono ?_); rintro e w' ⟨rfl, rfl⟩)) | (go_at_call 111; ((with_reducible refine (add_any _ m (enc_U _) mU _).mono ?_); rintro e w' ⟨rfl, rfl⟩)))
  go_ret
  exact ⟨by rw [← Q'.out]; rfl, rfl⟩

end Go.Proofs.YthfkfgjhgicfeaaGreatDoor
namespace Go.Proofs.YthfkfgjhgicfeaaGreatDoor
open Go.RowKit
set_option linter.unusedVariables false

theorem ret_int {k : IntKind} {a b : Int} (h : a = b) : Ending.returned (.int k a) = .returned (.int k b) := by rw [h]

theorem and1 (a : Int) (ha : U a) : bits .and .u64 a 1 = a % 2 := by
  obtain ⟨a0, a1⟩ := ha
  obtain ⟨n, rfl⟩ := Int.eq_ofNat_of_zero_le a0
  have h := bits_and_u64_nat n 1 (by omega) (by omega)
  rw [show n &&& 1 = n % 2 from Nat.and_one_is_mod n] at h
  exact h.trans (by omega)

/-- What is left to do: out times base to the k. -/
def PowInv (x : F) (n : Int) (k : Int) (o b : F) : Prop := o * fpow b k.toNat = fpow x n.toNat
theorem powInv_start (x : F) (n : Int) : PowInv x n n 1 x := by unfold PowInv; grind
theorem powInv_end {x : F} {n : Int} {o b : F} (h : PowInv x n 0 o b) : o = fpow x n.toNat := by unfold PowInv at h; rw [← h]; simp only [Int.toNat_zero, fpow]; grind
theorem powInv_odd {x : F} {n k : Int} {o b : F} (h0 : 0 < k) (h : k % 2 = 1) (hp : PowInv x n k o b) : PowInv x n (k / 2) (o * b) (b * b) := by
  unfold PowInv at *
  rw [← hp, fpow_two, show k.toNat = 2 * (k / 2).toNat + 1 by omega, fpow_succ]
  grind
theorem powInv_even {x : F} {n k : Int} {o b : F} (h0 : 0 < k) (h : ¬ k % 2 = 1) (hp : PowInv x n k o b) : PowInv x n (k / 2) o (b * b) := by
  unfold PowInv at *
  rw [← hp, fpow_two, show k.toNat = 2 * (k / 2).toNat by omega]

set_option maxHeartbeats 1000000 in
theorem pow_any (a n : Int) (ha : U a) (hn : U n) (w : World) : Calls Tryz.prog 102 #[.int .u64 a, .int .u64 n] w fun e w' => e = .returned (.int .u64 (enc (fpow (toF a) n.toNat))) ∧ w = w' := by
  have hs := powInv_start (toF a) n
  go_enter Tryz.func102, Tryz.ntmps102
  go_wp2_with (go_at_call 118; ((with_reducible refine (kept_any a ha _).mono ?_); rintro e w' ⟨rfl, rfl⟩))
  go_loop [1, 5, 6] (fun k o b => ∃ (k' : Int) (o' b' : F), U k' ∧ PowInv (toF a) n k' o' b' ∧ k = .int .u64 k' ∧ o = .int .u64 (enc o') ∧ b = .int .u64 (enc b')) (fun k _ _ => (intOf k).toNat)
  case atStart => exact ⟨n, 1, toF a, hn, hs, rfl, rfl, rfl⟩
  case round =>
    obtain ⟨k, o, b, hk, hp, rfl, rfl, rfl⟩ := hrel
    have m1 := fun w => mul_any (enc o) (enc b) (enc_U _) (enc_U _) w
    have m2 := fun w => mul_any (enc b) (enc b) (enc_U _) (enc_U _) w
    simp only [toF_enc] at m1 m2
    have hk0 := hk.1
    have hb1 := and1 k hk
    by_cases h0 : 0 < k
    · have hk2 : U (k / 2) := by unfold U at *; omega
      by_cases h1 : k % 2 = 1
      · have HP := Lib.hid (powInv_odd h0 h1 hp)
        rw [h1] at hb1
        clear h1 hp hs
        go_wp2_with (first | (go_at_call 101; ((with_reducible refine (m1 _).mono ?_); rintro e w' ⟨rfl, rfl⟩)) | (go_at_call 101; ((with_reducible refine (m2 _).mono ?_); rintro e w' ⟨rfl, rfl⟩)))
        go_round
        case rel => exact ⟨k / 2, o * b, b * b, hk2, HP.out, rfl, rfl, rfl⟩
        case measure => simp [intOf]; omega
      · have HP := Lib.hid (powInv_even h0 h1 hp)
        have hb2 : bits .and .u64 k 1 = 0 := by omega
        clear h1 hp hs hb1
        go_wp2_with (first | (go_at_call 101; ((with_reducible refine (m1 _).mono ?_); rintro e w' ⟨rfl, rfl⟩)) | (go_at_call 101; ((with_reducible refine (m2 _).mono ?_); rintro e w' ⟨rfl, rfl⟩)))
        go_round
        case rel => exact ⟨k / 2, o, b * b, hk2, HP.out, rfl, rfl, rfl⟩
        case measure => simp [intOf]; omega
    · obtain rfl : k = 0 := by omega
      have HP := Lib.hid (powInv_end hp)
      clear hp hs hb1
      go_wp2
      go_ret
      exact ⟨by rw [← HP.out]; rfl, rfl⟩

theorem inv_no (a : Int) (ha : U a) (h : toF a = 0) (w : World) : Calls Tryz.prog 91 #[.int .u64 a] w fun e w' => e = .returned (.tuple #[.int .u64 0, .bool false]) ∧ w = w' := by
  have k := fun w => kept_any a ha w
  rw [h, enc_zero] at k
  clear h
  go_enter Tryz.func91, Tryz.ntmps91
  go_wp2_with (go_at_call 118; ((with_reducible refine (k _).mono ?_); rintro e w' ⟨rfl, rfl⟩))
  go_ret2
  exact ⟨rfl, rfl⟩

theorem inv_yes (a : Int) (ha : U a) (h : toF a ≠ 0) (w : World) : Calls Tryz.prog 91 #[.int .u64 a] w fun e w' => e = .returned (.tuple #[.int .u64 (enc (fpow (toF a) 18446744069414584319)), .bool true]) ∧ w = w' := by
  have h' : (enc (toF a) == 0) = false := by
    have : ¬ enc (toF a) = 0 := fun hh => h (enc_inj.mp (hh.trans enc_zero.symm))
    simpa using this
  have k := fun w => pow_any a 18446744069414584319 ha ⟨by decide, by decide⟩ w
  rw [show (18446744069414584319 : Int).toNat = 18446744069414584319 from rfl] at k
  generalize fpow (toF a) 18446744069414584319 = z at *
  clear h
  go_enter Tryz.func91, Tryz.ntmps91
  go_wp2_with (first | (go_at_call 118; ((with_reducible refine (kept_any a ha _).mono ?_); rintro e w' ⟨rfl, rfl⟩)) | (go_at_call 102; ((with_reducible refine (k _).mono ?_); rintro e w' ⟨rfl, rfl⟩)))
  go_ret2
  exact ⟨rfl, rfl⟩
end Go.Proofs.YthfkfgjhgicfeaaGreatDoor
namespace Go.Proofs.YthfkfgjhgicfeaaGreatDoor
open Go.RowKit
set_option linter.unusedVariables false

def fsum : List F → F
  | [] => 0
  | x :: l => x + fsum l
def fprod : List F → F
  | [] => 1
  | x :: l => x * fprod l
theorem fsum_append (l m : List F) : fsum (l ++ m) = fsum l + fsum m := by
  induction l with
  | nil => simp only [List.nil_append, fsum]; grind
  | cons x l ih => simp only [List.cons_append, fsum, ih]; grind
theorem fprod_append (l m : List F) : fprod (l ++ m) = fprod l * fprod m := by
  induction l with
  | nil => simp only [List.nil_append, fprod]; grind
  | cons x l ih => simp only [List.cons_append, fprod, ih]; grind
/-- The first k numbers of a row, in the field. -/
def heads (zs : List Int) (k : Nat) : List F := (zs.take k).map toF
theorem heads_zero (zs : List Int) : heads zs 0 = [] := by simp [heads]
theorem heads_succ (zs : List Int) (k : Nat) (h : k < zs.length) : heads zs (k + 1) = heads zs k ++ [toF (zs.getD k 0)] := by
  unfold heads
  rw [List.take_succ_eq_append_getElem h, List.map_append]
  simp [List.getD, h]
theorem heads_all (zs : List Int) (k : Nat) (h : zs.length ≤ k) : heads zs k = zs.map toF := by
  unfold heads; rw [List.take_of_length_le h]

/-- A slice of numbers that reads as zs. -/
def Row (w : World) (v : Value) (zs : List Int) : Prop :=
  (v = .slice none 0 0 ∧ zs = []) ∨ (∃ a cap, v = .slice (some a) 0 cap ∧ zs = []) ∨ ∃ (b off cap : Nat), v = .slice (some ⟨b, off, none⟩) zs.length cap ∧ zs.length ≤ cap ∧ cap ≤ maxLen ∧ ∀ i, i < zs.length → w.cell? ⟨b, off + i, none⟩ = some (.int .u64 (zs.getD i 0))

theorem Row.below {w w' : World} {v : Value} {zs : List Int} (h : Row w v zs) (hb : Below w.heap.size w w') : Row w' v zs := by
  rcases h with h | h | ⟨b, off, cap, rfl, hc, hm, hcell⟩
  · exact Or.inl h
  · exact Or.inr (Or.inl h)
  · exact Or.inr (Or.inr ⟨b, off, cap, rfl, hc, hm, fun i hi => (hb.cell (World.block_lt_of_cell? w _ (hcell i hi))).trans (hcell i hi)⟩)

/-- What 'open_ints' gives of a slice that came in is such a slice. -/
theorem Row.came {w : World} {a : Option Addr} {len cap : Nat} {zs : List Int}
    (h : (a = none ∧ len = 0 ∧ cap = 0 ∧ zs = []) ∨ ∃ x, a = some x ∧ len ≤ cap ∧ cap ≤ maxLen ∧ zs.length = cap ∧ (∀ i, i < zs.length → w.cell? (x.add i) = some (.int .u64 (zs.getD i 0))) ∧ ∀ n ∈ zs, (Lit.int .u64 n).wf = true) :
    Row w (.slice a len cap) (zs.take len) ∧ (zs.take len).length = len ∧ ∀ n ∈ zs.take len, (Lit.int .u64 n).wf = true := by
  rcases h with ⟨rfl, rfl, rfl, rfl⟩ | ⟨x, rfl, hl, hm, hz, hcell, hwf⟩
  · exact ⟨Or.inl ⟨rfl, rfl⟩, rfl, by simp⟩
  · have hlen : (zs.take len).length = len := by rw [List.length_take]; omega
    refine ⟨?_, hlen, fun n hn => hwf n (List.mem_of_mem_take hn)⟩
    by_cases h0 : len = 0
    · subst h0; exact Or.inr (Or.inl ⟨x, cap, rfl, by simp⟩)
    · obtain ⟨b, off, rfl, hc⟩ := Go.ints_at hcell (by omega)
      refine Or.inr (Or.inr ⟨b, off, cap, by rw [hlen], by omega, hm, ?_⟩)
      intro i hi
      rw [hlen] at hi
      rw [hc i (by omega)]
      congr 2
      simp [List.getD, hi]

/-- A row of numbers that the call itself made is such a slice. -/
theorem Row.own {w : World} {base : Nat} {e : TypeId} {v : Value} {zs : List Int} (h : w.ownsRow base e 1 v zs.length (zs.map (Value.int .u64))) : Row w v zs := by
  rcases h.2 with ⟨rfl, h0⟩ | ⟨g, cap, cur, rfl, hb, hg, hn, hcap, hsz, ht⟩
  · exact Or.inl ⟨rfl, List.length_eq_zero_iff.mp h0⟩
  · refine Or.inr (Or.inr ⟨g, 0, cap, rfl, hn, hcap, ?_⟩)
    intro i hi
    have := h.cellAt i (by omega)
    rw [Nat.zero_add, this]
    simp [List.getD, hi]

theorem U_getD {zs : List Int} (h : ∀ n ∈ zs, U n) (k : Nat) (hk : k < zs.length) : U (zs.getD k 0) := by
  have : zs.getD k 0 = zs[k] := by simp [List.getD, hk]
  rw [this]; exact h _ (List.getElem_mem hk)

set_option maxHeartbeats 1000000 in
theorem sum_any (v : Value) (zs : List Int) (w : World) (hr : Row w v zs) (hu : ∀ n ∈ zs, U n) : Calls Tryz.prog 100 #[v] w fun e w' => e = .returned (.int .u64 (enc (fsum (zs.map toF)))) ∧ w = w' := by
  rcases hr with ⟨rfl, rfl⟩ | ⟨ad, cap, rfl, rfl⟩ | ⟨b, off, cap, rfl, hc, hm, hcell⟩
  · clear hu
    go_enter Tryz.func100, Tryz.ntmps100
    go_wp2
    go_loop [8, 3] (fun i o => i = .int .i64 0 ∧ o = .int .u64 0) (fun _ _ => 0)
    case atStart => exact ⟨rfl, rfl⟩
    case round =>
      obtain ⟨rfl, rfl⟩ := hrel
      go_wp2
      go_ret
      exact ⟨rfl, rfl⟩
  · clear hu
    go_enter Tryz.func100, Tryz.ntmps100
    go_wp2
    go_loop [8, 3] (fun i o => i = .int .i64 0 ∧ o = .int .u64 0) (fun _ _ => 0)
    case atStart => exact ⟨rfl, rfl⟩
    case round =>
      obtain ⟨rfl, rfl⟩ := hrel
      go_wp2
      go_ret
      exact ⟨rfl, rfl⟩
  · unfold maxLen at hm
    have hu' := fun k => U_getD hu k
    have hs := fun k => heads_succ zs k
    have ha := fun k => heads_all zs k
    have h00 : fsum (heads zs 0) = 0 := by rw [heads_zero]; rfl
    have HS := Lib.hid hs; have HA := Lib.hid ha; have HC := Lib.hid hcell; have HU := Lib.hid hu'; have H0 := Lib.hid h00
    clear hs ha hcell hu hu' h00
    generalize hzl : zs.length = len at *
    have HZ := Lib.hid hzl; clear hzl
    go_enter Tryz.func100, Tryz.ntmps100
    go_wp2
    go_loop [8, 3] (fun i o => ∃ k : Nat, k ≤ len ∧ i = .int .i64 k ∧ o = .int .u64 (enc (fsum (heads zs k)))) (fun i _ => len - (intOf i).toNat)
    case atStart => exact ⟨0, Nat.zero_le _, rfl, by rw [H0.out]; rfl⟩
    case round =>
      obtain ⟨k, hk, rfl, rfl⟩ := hrel
      by_cases hlt : k < len
      · have g := HC.out k hlt
        have gU := HU.out k hlt
        have m1 := fun w => add_any (enc (fsum (heads zs k))) (zs.getD k 0) (enc_U _) gU w
        have e2 := HS.out k hlt
        have E2 : Hid (fsum (heads zs (k + 1)) = fsum (heads zs k) + toF (zs.getD k 0)) := Lib.hid (by rw [e2, fsum_append]; simp only [fsum]; grind)
        clear e2
        simp only [toF_enc] at m1
        generalize zs.getD k 0 = z at *
        go_wp2_with (go_at_call 111; ((with_reducible refine (m1 _).mono ?_); rintro e w' ⟨rfl, rfl⟩))
        go_round
        case rel => exact ⟨k + 1, by omega, by go_num, by rw [E2.out]⟩
        case measure => simp [intOf]; omega
      · go_wp2
        go_ret
        exact ⟨ret_int (by rw [HA.out k (by omega)]), rfl⟩

set_option maxHeartbeats 1000000 in
theorem prod_any (v : Value) (zs : List Int) (w : World) (hr : Row w v zs) (hu : ∀ n ∈ zs, U n) : Calls Tryz.prog 112 #[v] w fun e w' => e = .returned (.int .u64 (enc (fprod (zs.map toF)))) ∧ w = w' := by
  rcases hr with ⟨rfl, rfl⟩ | ⟨ad, cap, rfl, rfl⟩ | ⟨b, off, cap, rfl, hc, hm, hcell⟩
  · clear hu
    go_enter Tryz.func112, Tryz.ntmps112
    go_wp2
    go_loop [8, 3] (fun i o => i = .int .i64 0 ∧ o = .int .u64 1) (fun _ _ => 0)
    case atStart => exact ⟨rfl, rfl⟩
    case round =>
      obtain ⟨rfl, rfl⟩ := hrel
      go_wp2
      go_ret
      exact ⟨rfl, rfl⟩
  · clear hu
    go_enter Tryz.func112, Tryz.ntmps112
    go_wp2
    go_loop [8, 3] (fun i o => i = .int .i64 0 ∧ o = .int .u64 1) (fun _ _ => 0)
    case atStart => exact ⟨rfl, rfl⟩
    case round =>
      obtain ⟨rfl, rfl⟩ := hrel
      go_wp2
      go_ret
      exact ⟨rfl, rfl⟩
  · unfold maxLen at hm
    have hu' := fun k => U_getD hu k
    have hs := fun k => heads_succ zs k
    have ha := fun k => heads_all zs k
    have h00 : fprod (heads zs 0) = 1 := by rw [heads_zero]; rfl
    have HS := Lib.hid hs; have HA := Lib.hid ha; have HC := Lib.hid hcell; have HU := Lib.hid hu'; have H0 := Lib.hid h00
    clear hs ha hcell hu hu' h00
    generalize hzl : zs.length = len at *
    have HZ := Lib.hid hzl; clear hzl
    go_enter Tryz.func112, Tryz.ntmps112
    go_wp2
    go_loop [8, 3] (fun i o => ∃ k : Nat, k ≤ len ∧ i = .int .i64 k ∧ o = .int .u64 (enc (fprod (heads zs k)))) (fun i _ => len - (intOf i).toNat)
    case atStart => exact ⟨0, Nat.zero_le _, rfl, by rw [H0.out]; rfl⟩
    case round =>
      obtain ⟨k, hk, rfl, rfl⟩ := hrel
      by_cases hlt : k < len
      · have g := HC.out k hlt
        have gU := HU.out k hlt
        have m1 := fun w => mul_any (enc (fprod (heads zs k))) (zs.getD k 0) (enc_U _) gU w
        have e2 := HS.out k hlt
        have E2 : Hid (fprod (heads zs (k + 1)) = fprod (heads zs k) * toF (zs.getD k 0)) := Lib.hid (by rw [e2, fprod_append]; simp only [fprod]; grind)
        clear e2
        simp only [toF_enc] at m1
        generalize zs.getD k 0 = z at *
        go_wp2_with (go_at_call 101; ((with_reducible refine (m1 _).mono ?_); rintro e w' ⟨rfl, rfl⟩))
        go_round
        case rel => exact ⟨k + 1, by omega, by go_num, by rw [E2.out]⟩
        case measure => simp [intOf]; omega
      · go_wp2
        go_ret
        exact ⟨ret_int (by rw [HA.out k (by omega)]), rfl⟩
end Go.Proofs.YthfkfgjhgicfeaaGreatDoor
namespace Go.Proofs.YthfkfgjhgicfeaaGreatDoor
open Go.RowKit
set_option linter.unusedVariables false

theorem U_lit (a : Int) (h : decide (0 ≤ a) = true) (h' : decide (a < 18446744073709551616) = true) : U a := ⟨of_decide_eq_true h, of_decide_eq_true h'⟩

theorem U_wf {a : Int} (h : (Lit.int .u64 a).wf = true) : U a := by
  have := Go.bounds_u64 h
  unfold U; omega

theorem add_is (a b z : Int) (ha : U a) (hb : U b) (h : enc (toF a + toF b) = z) (w : World) : Calls Tryz.prog 111 #[.int .u64 a, .int .u64 b] w fun e w' => e = .returned (.int .u64 z) ∧ w = w' := h ▸ add_any a b ha hb w
theorem sub_is (a b z : Int) (ha : U a) (hb : U b) (h : enc (toF a - toF b) = z) (w : World) : Calls Tryz.prog 107 #[.int .u64 a, .int .u64 b] w fun e w' => e = .returned (.int .u64 z) ∧ w = w' := h ▸ sub_any a b ha hb w
theorem mul_is (a b z : Int) (ha : U a) (hb : U b) (h : enc (toF a * toF b) = z) (w : World) : Calls Tryz.prog 101 #[.int .u64 a, .int .u64 b] w fun e w' => e = .returned (.int .u64 z) ∧ w = w' := h ▸ mul_any a b ha hb w
theorem neg_is (a z : Int) (ha : U a) (h : enc (-toF a) = z) (w : World) : Calls Tryz.prog 110 #[.int .u64 a] w fun e w' => e = .returned (.int .u64 z) ∧ w = w' := h ▸ neg_any a ha w
theorem pow_is (a n z : Int) (ha : U a) (hn : U n) (h : enc (fpow (toF a) n.toNat) = z) (w : World) : Calls Tryz.prog 102 #[.int .u64 a, .int .u64 n] w fun e w' => e = .returned (.int .u64 z) ∧ w = w' := h ▸ pow_any a n ha hn w

theorem rem_toF (a : Int) (ha : U a) : Int.tmod a 18446744069414584321 = enc (toF a) := by
  rw [enc_toF a ha.1, Int.tmod_eq_emod_of_nonneg ha.1]
theorem mod_toF (a : Int) (ha : U a) : a % 18446744069414584321 = enc (toF a) := (enc_toF a ha.1).symm

end Go.Proofs.YthfkfgjhgicfeaaGreatDoor
namespace Go.Proofs.YthfkfgjhgicfeaaGreatDoor
open Go Go.RowKit
set_option linter.unusedVariables false

section
variable {P : Program} {ops : Array Oper} {md : Region.Mode} {Q : Exit → Act → World → Prop}

/-- How many of the first n have not come up yet. -/
def cnt (listed : Array Bool) : Nat → Nat
  | 0 => 0
  | n + 1 => cnt listed n + if listed.getD n false = true then 0 else 1
theorem cnt_far (listed : Array Bool) (i : Nat) : ∀ n, n ≤ i → cnt (listed.setIfInBounds i true) n = cnt listed n
  | 0, _ => rfl
  | n + 1, h => by rw [cnt, cnt, cnt_far listed i n (by omega), getD_set_ne false (by omega)]
theorem cnt_set (listed : Array Bool) (i : Nat) (hs : i < listed.size) (hu : listed.getD i false = false) : ∀ n, i < n → cnt (listed.setIfInBounds i true) n + 1 = cnt listed n
  | 0, h => by omega
  | n + 1, h => by
    rw [cnt, cnt]
    by_cases he : i = n
    · subst he
      rw [cnt_far listed i i (Nat.le_refl _)]
      have : (listed.setIfInBounds i true).getD i false = true := by simp [hs]
      rw [this, hu]; simp
    · rw [getD_set_ne false he]
      have := cnt_set listed i hs hu n (by omega)
      omega
theorem cnt_zero (listed : Array Bool) : ∀ n, cnt listed n = 0 → ∀ i, i < n → listed.getD i false = true
  | 0, _, i, h => by omega
  | n + 1, h0, i, h => by
    rw [cnt] at h0
    by_cases hi : listed.getD n false = true
    · by_cases he : i = n
      · rw [he]; exact hi
      · exact cnt_zero listed n (by omega) i (by omega)
    · rw [if_neg hi] at h0; omega

/-- Edges lead back. -/
def backB (md : Region.Mode) (ops : Array Oper) : Bool :=
  (List.range ops.size).all fun i => match ops[i]? with
    | some o => o.after.all fun e => !Region.binds md e || decide (e.on < i)
    | none => true
theorem backB_spec (h : backB md ops = true) {i : Nat} {o : Oper} (ho : ops[i]? = some o) {e : Edge} (he : e ∈ o.after) (hb : Region.binds md e = true) : e.on < i := by
  have h1 := List.all_eq_true.1 h i (List.mem_range.2 (Array.getElem?_eq_some_iff.1 ho).1)
  simp only [ho] at h1
  have h2 := Array.all_eq_true_iff_forall_mem.1 h1 e he
  simpa [hb] using h2
theorem ready_some (hb : backB md ops = true) {listed : Array Bool} (hsz : listed.size = ops.size) : ∀ i, i < ops.size → listed.getD i false = false → Region.ready md ops listed ≠ [] := by
  intro i
  induction i using Nat.strongRecOn with
  | _ i ih =>
    intro hi hu
    obtain ⟨o, ho⟩ : ∃ o, ops[i]? = some o := ⟨_, Array.getElem?_eq_getElem hi⟩
    by_cases hall : ∀ e ∈ o.after, Region.binds md e = true → listed.getD e.on false = true
    · intro h0
      have : i ∈ Region.ready md ops listed := mem_ready.2 ⟨getD_in (by omega) hu, o, ho, hall⟩
      rw [h0] at this; cases this
    · simp only [Classical.not_forall] at hall
      obtain ⟨e, he, hbe, hl⟩ := hall
      have hlt := backB_spec hb ho he hbe
      exact ih e.on hlt (by omega) (by simpa using hl)

/-- The first n have come up, and no other. -/
def doneArr (n m : Nat) : Array Bool := (List.replicate n true ++ List.replicate m false).toArray
theorem done_eq {listed : Array Bool} {n : Nat} (hn : n ≤ ops.size) (inv : HeadInv md ops n listed) (h : ∀ i, i < n → listed.getD i false = true) : listed = doneArr n (ops.size - n) := by
  have hsz := inv.size
  apply Array.ext
  · simp [doneArr, hsz]; omega
  · intro i h1 h2
    by_cases hin : i < n
    · have := h i hin
      simp only [Array.getD, h1, dite_true] at this
      simp only [doneArr, List.getElem_toArray]
      rw [List.getElem_append_left (by simpa using hin), List.getElem_replicate]
      exact this
    · have := inv.tail i (by omega) (by omega)
      simp only [Array.getD, h1, dite_true] at this
      simp only [doneArr, List.getElem_toArray]
      rw [List.getElem_append_right (by simpa using hin), List.getElem_replicate]
      exact this

theorem loose_go {n : Nat} {J : Array Bool → Act → World → Prop} (hn : n ≤ ops.size) (hT : n = ops.size ∨ (Region.sinkB md ops n = true ∧ Region.chainB md ops n = true)) (hbk : backB md ops = true)
    (step : ∀ listed a w i, HeadInv md ops n listed → J listed a w → i ∈ Region.ready md ops listed → i < n → wpOp P ops Q i (J (listed.setIfInBounds i true)) a w)
    (fin : ∀ a w, J (doneArr n (ops.size - n)) a w → wpAny P md ops Q (ops.size - n) (doneArr n (ops.size - n)) a w) :
    ∀ (f : Nat) (listed : Array Bool) (a : Act) (w : World), cnt listed n = f → HeadInv md ops n listed → J listed a w → wpAny P md ops Q (f + (ops.size - n)) listed a w
  | 0, listed, a, w, hc, inv, hJ => by
    have he := done_eq hn inv (cnt_zero listed n hc)
    subst he
    rw [Nat.zero_add]
    exact fin a w hJ
  | f + 1, listed, a, w, hc, inv, hJ => by
    rw [show f + 1 + (ops.size - n) = (f + (ops.size - n)) + 1 by omega]
    have hex : ∃ i, i < n ∧ listed.getD i false = false := by
      refine Classical.byContradiction fun hno => ?_
      have : ∀ k, k ≤ n → cnt listed k = 0 := by
        intro k
        induction k with
        | zero => intro _; rfl
        | succ k ih =>
          intro hk
          rw [cnt, ih (by omega)]
          have : listed.getD k false = true := by
            cases hh : listed.getD k false with
            | true => rfl
            | false => exact absurd ⟨k, by omega, hh⟩ hno
          rw [if_pos this]
      have := this n (Nat.le_refl _)
      omega
    obtain ⟨i0, hi0, hu0⟩ := hex
    refine ⟨fun h0 => absurd h0 (ready_some hbk inv.size i0 (by omega) hu0), fun i hi => ?_⟩
    have hilt : i < ops.size := by
      obtain ⟨_, o, ho, _⟩ := mem_ready.1 hi
      exact (Array.getElem?_eq_some_iff.1 ho).1
    have hin : i < n := by
      rcases hT with h | ⟨hs, hc'⟩
      · omega
      · rcases Nat.lt_or_ge i n with h | h
        · exact h
        · exact absurd hi (tail_waits hs hc' (by omega) inv _ i0 rfl hi0 (getD_in (by rw [inv.size]; omega) hu0) i h)
    have hui : listed.getD i false = false := getD_both (mem_ready.1 hi).1
    have hcn := cnt_set listed i (by rw [inv.size]; omega) hui n hin
    exact wpOp_mono (fun a' w' hJ' => loose_go hn hT hbk step fin f _ a' w' (by omega) (inv.set hi hin) hJ') (step listed a w i inv hJ hi hin)
end

/-! ### The frame while the region runs: its own slots hold σ. -/
def fill (a : Act) : List Nat → (Nat → Value) → Act
  | [], _ => a
  | d :: ds, σ => (fill a ds σ).put (some d) (σ d)
theorem fill_congr {a : Act} {σ τ : Nat → Value} : ∀ {ds : List Nat}, (∀ d ∈ ds, σ d = τ d) → fill a ds σ = fill a ds τ
  | [], _ => rfl
  | d :: ds, h => by rw [fill, fill, fill_congr (fun e he => h e (List.mem_cons_of_mem _ he)), h d List.mem_cons_self]
theorem put_put (a : Act) (d : Nat) (v u : Value) : (a.put (some d) v).put (some d) u = a.put (some d) u := by
  simp [Act.put]
theorem fill_put {a : Act} {σ : Nat → Value} {d : Nat} {v : Value} : ∀ {ds : List Nat}, ds.Nodup → d ∈ ds → (fill a ds σ).put (some d) v = fill a ds (fun k => if k = d then v else σ k)
  | [], _, h => by cases h
  | e :: ds, hn, h => by
    obtain ⟨h1, h2⟩ := List.nodup_cons.1 hn
    rw [fill, fill]
    by_cases hd : d = e
    · subst hd
      rw [put_put, if_pos rfl, fill_congr (σ := σ) (τ := fun k => if k = d then v else σ k)]
      intro k hk
      rw [if_neg (by intro hkd; subst hkd; exact h1 hk)]
    · have hm : d ∈ ds := by
        rcases List.mem_cons.1 h with h' | h'
        · exact absurd h' hd
        · exact h'
      rw [Act.put_comm _ _ _ (by intro x hx hy; cases hx; cases hy; exact hd rfl), fill_put h2 hm, if_neg (fun he => hd he.symm)]
theorem fill_self {a : Act} : ∀ {ds : List Nat}, fill a ds (fun d => a.tmps.getD d undef) = a
  | [] => rfl
  | d :: ds => by
    rw [fill, fill_self]
    cases a with
    | mk t df =>
      simp only [Act.put]
      congr 1
      apply Array.ext_getElem?
      intro i
      by_cases hi : d = i
      · subst hi
        rw [Array.getElem?_setIfInBounds]
        by_cases hl : d < t.size
        · simp [hl]
        · simp [hl]
      · rw [Array.getElem?_setIfInBounds_ne hi]

/-- A pointer to a block that was there. -/
def OldPtr (w : World) (v : Value) : Prop := ∃ g : Nat, v = .pointer (some ⟨g, 0, none⟩) ∧ g < w.heap.size
/-- A pointer to a block that was made between these worlds. -/
def NewPtr (w w' : World) (v : Value) : Prop := ∃ g : Nat, v = .pointer (some ⟨g, 0, none⟩) ∧ w.heap.size ≤ g ∧ g < w'.heap.size

/-- What one operation is asked: from the slots that it waits for, it yields a value of its kind, by new memory alone. -/
def OpRuns (P : Program) (ops : Array Oper) (Q : Exit → Act → World → Prop) (a : Act) (ds : List Nat) (w : World) (R : Nat → Value → World → Prop) (fresh : Nat → Bool) (o : Oper) (d : Nat) (needs : List Nat) : Prop :=
  ∀ (σ : Nat → Value) (W : World) (K : Act → World → Prop), Below w.heap.size w W → (∀ k ∈ needs, R k (σ k) W) →
    (∀ (v : Value) (W' : World), R d v W' → Below W.heap.size W W' → (fresh d = true → NewPtr W W' v) → K ((fill a ds σ).put o.dst v) W') →
    if Region.wanted o (yielded ops (fill a ds σ).tmps) = true then Oper.wp P o (fill a ds σ) W K Q else K ((fill a ds σ).put o.dst undef) W

/-- The plan: of each operation of the head its slot and the slots that it waits for. -/
def planOk (md : Region.Mode) (ops : Array Oper) (plan : List (Nat × List Nat)) : Bool :=
  decide (plan.length ≤ ops.size) && decide (plan.map (·.1)).Nodup && backB md ops &&
  (decide (plan.length = ops.size) || (Region.sinkB md ops plan.length && Region.chainB md ops plan.length)) &&
  Region.seqB md ops (ops.size - plan.length) plan.length (doneArr plan.length (ops.size - plan.length)) &&
  (List.range plan.length).all fun i => match plan[i]?, ops[i]? with
    | some (d, needs), some o => decide (o.dst = some d) && needs.all fun k => o.after.any fun e => Region.binds md e && decide (e.on < i) && (((ops[e.on]?).bind (·.dst)) == some k)
    | _, _ => false

theorem wp_region_loose {P : Program} {id : Nat} {Q : Exit → Act → World → Prop} {a : Act} {w : World} {l : List Oper} (plan : List (Nat × List Nat)) (R : Nat → Value → World → Prop) (fresh : Nat → Bool)
    (hm : P.follows .mixedOrders = true) (hB : planOk .any l.toArray plan = true)
    (hst : ∀ d v W W', R d v W → Below W.heap.size W W' → R d v W')
    (hops : ∀ (i : Nat) (o : Oper) (d : Nat) (needs : List Nat), l[i]? = some o → plan[i]? = some (d, needs) → OpRuns P l.toArray Q a (plan.map (·.1)) w R fresh o d needs)
    (hend : ∀ (σ : Nat → Value) (W : World), Below w.heap.size w W → (∀ d ∈ plan.map (·.1), R d (σ d) W) →
      (∀ d ∈ plan.map (·.1), ∀ e ∈ plan.map (·.1), fresh d = true → fresh e = true → d ≠ e → σ d ≠ σ e) → wpList P l.toArray Q (l.drop plan.length) (fill a (plan.map (·.1)) σ) W) :
    (Code.region id l.toArray true).wp P Q a w := by
  simp only [planOk, Bool.and_eq_true, decide_eq_true_eq] at hB
  obtain ⟨⟨⟨⟨⟨hlen, hnd⟩, hbk⟩, hT⟩, hseq⟩, hpl⟩ := hB
  have hT' : plan.length = l.toArray.size ∨ (Region.sinkB .any l.toArray plan.length = true ∧ Region.chainB .any l.toArray plan.length = true) := by
    simpa only [Bool.or_eq_true, decide_eq_true_eq, Bool.and_eq_true] using hT
  have plan_at : ∀ i, i < plan.length → ∃ d needs o, plan[i]? = some (d, needs) ∧ l[i]? = some o ∧ o.dst = some d ∧
      ∀ k ∈ needs, ∃ e ∈ o.after, Region.binds .any e = true ∧ e.on < i ∧ ((l.toArray[e.on]?).bind (·.dst)) = some k := by
    intro i hi
    have h1 := List.all_eq_true.1 hpl i (List.mem_range.2 hi)
    cases hp : plan[i]? with
    | none => rw [hp] at h1; simp at h1
    | some q =>
      obtain ⟨d, needs⟩ := q
      cases ho : l.toArray[i]? with
      | none => rw [hp, ho] at h1; simp at h1
      | some o =>
        rw [hp, ho] at h1
        simp only [Bool.and_eq_true, decide_eq_true_eq, List.all_eq_true] at h1
        refine ⟨d, needs, o, rfl, by simpa using ho, h1.1, fun k hk => ?_⟩
        obtain ⟨e, he, hb⟩ := Array.any_eq_true'.1 (h1.2 k hk)
        simp only [Bool.and_eq_true, decide_eq_true_eq, beq_iff_eq] at hb
        exact ⟨e, he, hb.1.1, hb.1.2, hb.2⟩
  have plan_inj : ∀ (i j d : Nat) (ni nj : List Nat), plan[i]? = some (d, ni) → plan[j]? = some (d, nj) → i = j := by
    intro i j d ni nj hi hj
    have h1 : (plan.map (·.1))[i]? = some d := by simp [hi]
    have h2 : (plan.map (·.1))[j]? = some d := by simp [hj]
    have hil : i < (plan.map (·.1)).length := by
      rcases Nat.lt_or_ge i (plan.map (·.1)).length with h | h
      · exact h
      · rw [List.getElem?_eq_none h] at h1; cases h1
    exact (List.getElem?_inj hil hnd).1 (h1.trans h2.symm)
  -- what holds while the head runs
  let J : Array Bool → Act → World → Prop := fun listed a' W => ∃ σ : Nat → Value, a' = fill a (plan.map (·.1)) σ ∧ Below w.heap.size w W ∧
    (∀ (i d : Nat) (needs : List Nat), plan[i]? = some (d, needs) → listed.getD i false = true → R d (σ d) W ∧ (fresh d = true → OldPtr W (σ d))) ∧
    (∀ (i j d e : Nat) (ni nj : List Nat), plan[i]? = some (d, ni) → plan[j]? = some (e, nj) → listed.getD i false = true → listed.getD j false = true → fresh d = true → fresh e = true → d ≠ e → σ d ≠ σ e)
  have step : ∀ listed a' W i, HeadInv .any l.toArray plan.length listed → J listed a' W → i ∈ Region.ready .any l.toArray listed → i < plan.length → wpOp P l.toArray Q i (J (listed.setIfInBounds i true)) a' W := by
    rintro listed a' W i inv ⟨σ, rfl, hbel, hR, hF⟩ hi hin
    obtain ⟨d, needs, o, hp, ho, hd, hneeds⟩ := plan_at i hin
    obtain ⟨hun, o', ho', hall⟩ := mem_ready.1 hi
    have hoa : l.toArray[i]? = some o := by simpa using ho
    have : o' = o := Option.some.inj (ho'.symm.trans hoa)
    subst this
    have hop := hops i o' d needs ho hp σ W (J (listed.setIfInBounds i true)) hbel ?_ ?_
    · unfold wpOp
      simp only [hoa]
      split
      · rename_i hw; rw [if_pos hw] at hop; exact Or.inl hop
      · rename_i hw; rw [if_neg hw] at hop; exact hop
    · intro k hk
      obtain ⟨e, he, hb, hlt, hdst⟩ := hneeds k hk
      have hle := hall e he hb
      obtain ⟨d2, n2, o2, hp2, ho2, hd2, _⟩ := plan_at e.on (by omega)
      have : d2 = k := by
        have h3 : l.toArray[e.on]? = some o2 := by simpa using ho2
        rw [h3] at hdst
        simp only [Option.bind_some] at hdst
        exact Option.some.inj (hd2.symm.trans hdst)
      subst this
      exact (hR e.on d2 n2 hp2 hle).1
    · intro v W' hv hbl hfr
      have hdm : d ∈ plan.map (·.1) := List.mem_map.2 ⟨(d, needs), List.mem_of_getElem? hp, rfl⟩
      refine ⟨fun k => if k = d then v else σ k, by rw [hd, fill_put hnd hdm], hbel.trans (hbl.mono hbel.size), ?_, ?_⟩
      · intro j e nj hj hl
        dsimp only
        by_cases hji : j = i
        · subst hji
          have : (e, nj) = (d, needs) := Option.some.inj (hj.symm.trans hp)
          cases this
          rw [if_pos rfl]
          exact ⟨hv, fun hf => by obtain ⟨g, h1, _, h3⟩ := hfr hf; exact ⟨g, h1, h3⟩⟩
        · have hne : e ≠ d := fun h => hji (by subst h; exact plan_inj _ _ _ _ _ hj hp)
          rw [getD_set_ne false (Ne.symm hji)] at hl
          rw [if_neg hne]
          obtain ⟨h1, h2⟩ := hR j e nj hj hl
          exact ⟨hst _ _ _ _ h1 hbl, fun hf => by obtain ⟨g, h3, h4⟩ := h2 hf; exact ⟨g, h3, Nat.lt_of_lt_of_le h4 hbl.size⟩⟩
      · intro j j' e e' nj nj' hj hj' hl hl' hf hf' hne
        dsimp only
        have old : ∀ (j e : Nat) (nj : List Nat), plan[j]? = some (e, nj) → (listed.setIfInBounds i true).getD j false = true → e ≠ d → fresh e = true → OldPtr W (σ e) := by
          intro j e nj hj hl hed hf
          have hji : j ≠ i := fun h => hed (by subst h; exact (Prod.mk.inj (Option.some.inj (hj.symm.trans hp))).1)
          rw [getD_set_ne false (Ne.symm hji)] at hl
          exact (hR j e nj hj hl).2 hf
        by_cases he : e = d
        · have he' : e' ≠ d := fun h => hne (he.trans h.symm)
          rw [if_pos he, if_neg he']
          obtain ⟨g, h1, h2, _⟩ := hfr (he ▸ hf)
          obtain ⟨g', h3, h4⟩ := old j' e' nj' hj' hl' he' hf'
          rw [h1, h3]
          intro hh; have hg : _ = _ := congrArg (fun v : Value => match v with | .pointer (some a) => a.block | _ => 0) hh; simp only at hg; omega
        · by_cases he' : e' = d
          · rw [if_neg he, if_pos he']
            obtain ⟨g, h1, h2, _⟩ := hfr (he' ▸ hf')
            obtain ⟨g', h3, h4⟩ := old j e nj hj hl he hf
            rw [h1, h3]
            intro hh; have hg : _ = _ := congrArg (fun v : Value => match v with | .pointer (some a) => a.block | _ => 0) hh; simp only at hg; omega
          · rw [if_neg he, if_neg he']
            have hji : j ≠ i := fun h => he (by subst h; exact (Prod.mk.inj (Option.some.inj (hj.symm.trans hp))).1)
            have hji' : j' ≠ i := fun h => he' (by subst h; exact (Prod.mk.inj (Option.some.inj (hj'.symm.trans hp))).1)
            rw [getD_set_ne false (Ne.symm hji)] at hl
            rw [getD_set_ne false (Ne.symm hji')] at hl'
            exact hF j j' e e' nj nj' hj hj' hl hl' hf hf' hne
  have fin : ∀ a' W, J (doneArr plan.length (l.toArray.size - plan.length)) a' W → wpAny P .any l.toArray Q (l.toArray.size - plan.length) (doneArr plan.length (l.toArray.size - plan.length)) a' W := by
    rintro a' W ⟨σ, rfl, hbel, hR, hF⟩
    have hdone : ∀ i, i < plan.length → (doneArr plan.length (l.toArray.size - plan.length)).getD i false = true := by
      intro i hi
      have h1 : i < (doneArr plan.length (l.toArray.size - plan.length)).size := by simp [doneArr]; omega
      simp only [Array.getD, h1, dite_true]
      simp only [doneArr]
      show (List.replicate plan.length true ++ List.replicate (l.toArray.size - plan.length) false)[i]'(by simp; omega) = true
      rw [List.getElem_append_left (by simpa using hi), List.getElem_replicate]
    have hat : ∀ d ∈ plan.map (·.1), ∃ i needs, i < plan.length ∧ plan[i]? = some (d, needs) := by
      intro d hd
      obtain ⟨q, hq, rfl⟩ := List.mem_map.1 hd
      obtain ⟨i, hi, hqi⟩ := List.getElem_of_mem hq
      exact ⟨i, q.2, hi, by rw [List.getElem?_eq_getElem hi, hqi]⟩
    have hl2 : (l.drop plan.length).length = l.toArray.size - plan.length := by simp
    have := wpAny_of_seq (md := .any) (Q' := Q) (P := P) (l.drop plan.length) plan.length (doneArr plan.length (l.toArray.size - plan.length)) (fill a (plan.map (·.1)) σ) W (fun j => by simp [List.getElem?_drop]) (by rw [hl2]; exact hseq)
      (hend σ W hbel (fun d hd => by obtain ⟨i, needs, hi, hp⟩ := hat d hd; exact (hR i d needs hp (hdone i hi)).1)
        (fun d hd e he hf hf' hne => by
          obtain ⟨i, ni, hi, hp⟩ := hat d hd
          obtain ⟨j, nj, hj, hp'⟩ := hat e he
          exact hF i j d e ni nj hp hp' (hdone i hi) (hdone j hj) hf hf' hne))
    rwa [hl2] at this
  refine wp_region_any hm ?_
  have inv0 : HeadInv .any l.toArray plan.length (Array.replicate l.toArray.size false) :=
    ⟨by simp, fun j oj _ hl => (by rw [getD_replicate_false] at hl; cases hl), fun t _ ht => getD_in (by simpa using ht) (getD_replicate_false _ _)⟩
  have hc0 : ∀ k, cnt (Array.replicate l.toArray.size false) k = k := by
    intro k
    induction k with
    | zero => rfl
    | succ k ih => rw [cnt, ih, getD_replicate_false]; simp
  have key := loose_go (P := P) (Q := Q) (md := .any) (J := J) hlen hT' hbk step fin plan.length (Array.replicate l.toArray.size false) a { w with drawn := w.drawn + 1 } (hc0 _) inv0
    ⟨fun d => a.tmps.getD d undef, fill_self.symm, (Below.refl w.heap.size w).drew, fun i d needs _ h => (by rw [getD_replicate_false] at h; cases h), fun i j d e ni nj _ _ h => (by rw [getD_replicate_false] at h; cases h)⟩
  rw [show plan.length + (l.toArray.size - plan.length) = l.toArray.size by omega] at key
  exact key

/-- All operations of the head, one by one. -/
def OpsRun (P : Program) (ops : Array Oper) (Q : Exit → Act → World → Prop) (a : Act) (ds : List Nat) (w : World) (R : Nat → Value → World → Prop) (fresh : Nat → Bool) : List Oper → List (Nat × List Nat) → Prop
  | _, [] => True
  | [], _ :: _ => True
  | o :: os, (d, needs) :: ps => OpRuns P ops Q a ds w R fresh o d needs ∧ OpsRun P ops Q a ds w R fresh os ps
theorem OpsRun.at {P : Program} {ops : Array Oper} {Q : Exit → Act → World → Prop} {a : Act} {ds : List Nat} {w : World} {R : Nat → Value → World → Prop} {fresh : Nat → Bool} : ∀ {os : List Oper} {ps : List (Nat × List Nat)}, OpsRun P ops Q a ds w R fresh os ps →
    ∀ (i : Nat) (o : Oper) (d : Nat) (needs : List Nat), os[i]? = some o → ps[i]? = some (d, needs) → OpRuns P ops Q a ds w R fresh o d needs
  | os, [], _, i, o, d, needs, _, h => by simp at h
  | [], _ :: _, _, i, o, d, needs, h, _ => by simp at h
  | o' :: os, (d', n') :: ps, h, 0, o, d, needs, h1, h2 => by
    simp at h1 h2
    obtain ⟨rfl, rfl⟩ := h2
    subst h1
    exact h.1
  | o' :: os, (d', n') :: ps, h, i + 1, o, d, needs, h1, h2 => OpsRun.at h.2 i o d needs (by simpa using h1) (by simpa using h2)
theorem opsrun_cons {P : Program} {ops : Array Oper} {Q : Exit → Act → World → Prop} {a : Act} {ds : List Nat} {w : World} {R : Nat → Value → World → Prop} {fresh : Nat → Bool} {o : Oper} {os : List Oper} {d : Nat} {needs : List Nat} {ps : List (Nat × List Nat)}
    (h : OpRuns P ops Q a ds w R fresh o d needs) (hs : OpsRun P ops Q a ds w R fresh os ps) : OpsRun P ops Q a ds w R fresh (o :: os) ((d, needs) :: ps) := ⟨h, hs⟩
theorem opsrun_nil {P : Program} {ops : Array Oper} {Q : Exit → Act → World → Prop} {a : Act} {ds : List Nat} {w : World} {R : Nat → Value → World → Prop} {fresh : Nat → Bool} {os : List Oper} : OpsRun P ops Q a ds w R fresh os [] := by
  cases os <;> exact trivial

theorem OpRuns.any {P : Program} {ops : Array Oper} {Q : Exit → Act → World → Prop} {a : Act} {ds : List Nat} {w : World} {R : Nat → Value → World → Prop} {fresh : Nat → Bool} {o : Oper} {d : Nat} {needs : List Nat}
    (h : ∀ Q' : Exit → Act → World → Prop, OpRuns P ops Q' a ds w R fresh o d needs) : OpRuns P ops Q a ds w R fresh o d needs := h Q

/-- The law, its operations handed over one by one. -/
theorem wp_loose {P : Program} {id : Nat} {Q : Exit → Act → World → Prop} {a : Act} {w : World} {l : List Oper} (plan : List (Nat × List Nat)) (R : Nat → Value → World → Prop) (fresh : Nat → Bool)
    (hm : P.follows .mixedOrders = true) (hB : planOk .any l.toArray plan = true)
    (hst : ∀ d v W W', R d v W → Below W.heap.size W W' → R d v W')
    (hops : OpsRun P l.toArray Q a (plan.map (·.1)) w R fresh l plan)
    (hend : ∀ (σ : Nat → Value) (W : World), Below w.heap.size w W → (∀ d ∈ plan.map (·.1), R d (σ d) W) →
      (∀ d ∈ plan.map (·.1), ∀ e ∈ plan.map (·.1), fresh d = true → fresh e = true → d ≠ e → σ d ≠ σ e) → wpList P l.toArray Q (l.drop plan.length) (fill a (plan.map (·.1)) σ) W) :
    (Code.region id l.toArray true).wp P Q a w :=
  wp_region_loose plan R fresh hm hB hst hops.at hend
end Go.Proofs.YthfkfgjhgicfeaaGreatDoor
namespace Go.Proofs.YthfkfgjhgicfeaaGreatDoor
set_option linter.unusedVariables false

structure F2 where
  a : F
  b : F
theorem F2.eq {x y : F2} (h1 : x.a = y.a) (h2 : x.b = y.b) : x = y := by cases x; cases y; simp_all
theorem F2.iff {x y : F2} : x = y ↔ x.a = y.a ∧ x.b = y.b := ⟨fun h => by subst h; exact ⟨rfl, rfl⟩, fun h => F2.eq h.1 h.2⟩
instance : Inhabited F2 := ⟨⟨0, 0⟩⟩
instance : DecidableEq F2 := fun x y => if h : x.a = y.a ∧ x.b = y.b then isTrue (F2.iff.2 h) else isFalse fun e => h (F2.iff.1 e)
instance : Add F2 := ⟨fun x y => ⟨x.a + y.a, x.b + y.b⟩⟩
instance : Sub F2 := ⟨fun x y => ⟨x.a - y.a, x.b - y.b⟩⟩
instance : Neg F2 := ⟨fun x => ⟨-x.a, -x.b⟩⟩
instance : Mul F2 := ⟨fun x y => ⟨x.a * y.a + 7 * (x.b * y.b), x.a * y.b + x.b * y.a⟩⟩
instance : OfNat F2 0 := ⟨⟨0, 0⟩⟩
instance : OfNat F2 1 := ⟨⟨1, 0⟩⟩
/-- A number as a pair; so many times; the turn; the norm. -/
def lift (a : F) : F2 := ⟨a, 0⟩
def scale (x : F2) (a : F) : F2 := ⟨x.a * a, x.b * a⟩
def turn (x : F2) : F2 := ⟨x.a, -x.b⟩
def norm (x : F2) : F := x.a * x.a - 7 * (x.b * x.b)

theorem F2.add_a (x y : F2) : (x + y).a = x.a + y.a := rfl
theorem F2.add_b (x y : F2) : (x + y).b = x.b + y.b := rfl
theorem F2.sub_a (x y : F2) : (x - y).a = x.a - y.a := rfl
theorem F2.sub_b (x y : F2) : (x - y).b = x.b - y.b := rfl
theorem F2.neg_a (x : F2) : (-x).a = -x.a := rfl
theorem F2.neg_b (x : F2) : (-x).b = -x.b := rfl
theorem F2.mul_a (x y : F2) : (x * y).a = x.a * y.a + 7 * (x.b * y.b) := rfl
theorem F2.mul_b (x y : F2) : (x * y).b = x.a * y.b + x.b * y.a := rfl
theorem F2.zero_a : (0 : F2).a = 0 := rfl
theorem F2.zero_b : (0 : F2).b = 0 := rfl
theorem F2.one_a : (1 : F2).a = 1 := rfl
theorem F2.one_b : (1 : F2).b = 0 := rfl

theorem F2.add_comm (x y : F2) : x + y = y + x := F2.eq (by simp only [F2.add_a]; grind) (by simp only [F2.add_b]; grind)
theorem F2.add_assoc (x y z : F2) : x + y + z = x + (y + z) := F2.eq (by simp only [F2.add_a]; grind) (by simp only [F2.add_b]; grind)
theorem F2.mul_comm (x y : F2) : x * y = y * x := F2.eq (by simp only [F2.mul_a]; grind) (by simp only [F2.mul_b]; grind)
theorem F2.mul_assoc (x y z : F2) : x * y * z = x * (y * z) := F2.eq (by simp only [F2.mul_a, F2.mul_b]; grind) (by simp only [F2.mul_a, F2.mul_b]; grind)
theorem F2.mul_add (x y z : F2) : x * (y + z) = x * y + x * z := F2.eq (by simp only [F2.mul_a, F2.add_a, F2.add_b]; grind) (by simp only [F2.mul_b, F2.add_a, F2.add_b]; grind)
theorem F2.add_mul (x y z : F2) : (x + y) * z = x * z + y * z := by rw [F2.mul_comm, F2.mul_add, F2.mul_comm z x, F2.mul_comm z y]
theorem F2.zero_add (x : F2) : 0 + x = x := F2.eq (by simp only [F2.add_a, F2.zero_a]; grind) (by simp only [F2.add_b, F2.zero_b]; grind)
theorem F2.add_zero (x : F2) : x + 0 = x := by rw [F2.add_comm, F2.zero_add]
theorem F2.one_mul (x : F2) : 1 * x = x := F2.eq (by simp only [F2.mul_a, F2.one_a, F2.one_b]; grind) (by simp only [F2.mul_b, F2.one_a, F2.one_b]; grind)
theorem F2.mul_one (x : F2) : x * 1 = x := by rw [F2.mul_comm, F2.one_mul]
theorem F2.zero_mul (x : F2) : 0 * x = 0 := F2.eq (by simp only [F2.mul_a, F2.zero_a, F2.zero_b]; grind) (by simp only [F2.mul_b, F2.zero_a, F2.zero_b]; grind)
theorem F2.mul_zero (x : F2) : x * 0 = 0 := by rw [F2.mul_comm, F2.zero_mul]
theorem F2.add_neg (x : F2) : x + -x = 0 := F2.eq (by simp only [F2.add_a, F2.neg_a, F2.zero_a]; grind) (by simp only [F2.add_b, F2.neg_b, F2.zero_b]; grind)
theorem F2.sub_eq (x y : F2) : x - y = x + -y := F2.eq (by simp only [F2.add_a, F2.neg_a, F2.sub_a]; grind) (by simp only [F2.add_b, F2.neg_b, F2.sub_b]; grind)
theorem F2.add_sub (x y : F2) : x + y - y = x := F2.eq (by simp only [F2.add_a, F2.sub_a]; grind) (by simp only [F2.add_b, F2.sub_b]; grind)
theorem F2.neg_mul (x y : F2) : -x * y = -(x * y) := F2.eq (by simp only [F2.mul_a, F2.neg_a, F2.neg_b]; grind) (by simp only [F2.mul_b, F2.neg_a, F2.neg_b]; grind)
theorem mul_turn (x : F2) : x * turn x = lift (norm x) := F2.eq (by simp only [turn, norm, lift, F2.mul_a]; grind) (by simp only [turn, norm, lift, F2.mul_b]; grind)
theorem lift_mul (a b : F) : lift (a * b) = lift a * lift b := F2.eq (by simp only [lift, F2.mul_a]; grind) (by simp only [lift, F2.mul_b]; grind)
theorem scale_lift (x : F2) (a : F) : scale x a = x * lift a := F2.eq (by simp only [scale, lift, F2.mul_a]; grind) (by simp only [scale, lift, F2.mul_b]; grind)
/-- 7 is no square. -/
theorem no_root (s : F) : s * s ≠ 7 := by
  intro h
  have hs : s ≠ 0 := by intro h0; subst h0; exact absurd h (by decide +kernel)
  have h1 : fpow (s * s) 9223372034707292160 = 1 := by rw [fpow_two]; exact fermat s hs
  rw [h] at h1
  exact seven_2 h1

theorem norm_eq_zero {x : F2} (h : norm x = 0) : x = 0 := by
  unfold norm at h
  by_cases hb : x.b = 0
  · have ha : x.a * x.a = 0 := by rw [hb] at h; grind
    rcases mul_eq_zero ha with h1 | h1 <;> exact F2.eq h1 hb
  · exfalso
    have hi := mul_finv _ hb
    refine no_root (x.a * finv x.b) ?_
    generalize finv x.b = y at *
    grind
theorem norm_zero : norm 0 = 0 := by decide +kernel
def qinv (x : F2) : F2 := scale (turn x) (finv (norm x))
theorem mul_qinv (x : F2) (h : x ≠ 0) : x * qinv x = 1 := by
  have hn : norm x ≠ 0 := fun h' => h (norm_eq_zero h')
  unfold qinv
  rw [scale_lift, ← F2.mul_assoc, mul_turn, ← lift_mul, mul_finv _ hn]; rfl
theorem F2.one_ne_zero : (1 : F2) ≠ 0 := by decide +kernel
theorem F2.mul_eq_zero {x y : F2} (h : x * y = 0) : x = 0 ∨ y = 0 := by
  by_cases hx : x = 0
  · exact Or.inl hx
  · right
    have := mul_qinv x hx
    calc y = x * qinv x * y := by rw [this, F2.one_mul]
      _ = qinv x * (x * y) := by rw [F2.mul_comm x, F2.mul_assoc]
      _ = 0 := by rw [h, F2.mul_zero]
theorem F2.mul_ne_zero {x y : F2} (hx : x ≠ 0) (hy : y ≠ 0) : x * y ≠ 0 := fun h => (F2.mul_eq_zero h).elim hx hy
theorem F2.cancel {x y z : F2} (hx : x ≠ 0) (h : x * y = x * z) : y = z := by
  have := mul_qinv x hx
  calc y = qinv x * (x * y) := by rw [← F2.mul_assoc, F2.mul_comm (qinv x), this, F2.one_mul]
    _ = qinv x * (x * z) := by rw [h]
    _ = z := by rw [← F2.mul_assoc, F2.mul_comm (qinv x), this, F2.one_mul]
/-- A power. -/
def qpow (x : F2) : Nat → F2
  | 0 => 1
  | n + 1 => qpow x n * x
theorem qpow_zero (x : F2) : qpow x 0 = 1 := rfl
theorem qpow_succ (x : F2) (n : Nat) : qpow x (n + 1) = qpow x n * x := rfl
theorem qpow_one (x : F2) : qpow x 1 = x := by rw [qpow_succ, qpow_zero, F2.one_mul]
theorem qpow_add (x : F2) (n m : Nat) : qpow x (n + m) = qpow x n * qpow x m := by
  induction m with
  | zero => rw [Nat.add_zero, qpow_zero, F2.mul_one]
  | succ m ih => rw [← Nat.add_assoc, qpow_succ, qpow_succ, ih, F2.mul_assoc]
theorem qpow_mul (x : F2) (n m : Nat) : qpow x (n * m) = qpow (qpow x n) m := by
  induction m with
  | zero => rfl
  | succ m ih => rw [Nat.mul_succ, qpow_add, ih, qpow_succ]
theorem qpow_two (x : F2) (n : Nat) : qpow (x * x) n = qpow x (2 * n) := by
  rw [qpow_mul]; congr 1; rw [qpow_succ, qpow_one]
theorem lift_qpow (a : F) (n : Nat) : qpow (lift a) n = lift (fpow a n) := by
  induction n with
  | zero => rfl
  | succ n ih => rw [qpow_succ, ih, fpow_succ, lift_mul]

/-! A turn is the power P: by the binomial sum. -/
theorem half_minus : fpow seven 9223372034707292160 = -1 := by rw [← fsq_eq 64 _ _ (by decide +kernel)]; decide +kernel
def qsum : List F2 → F2
  | [] => 0
  | x :: l => x + qsum l
theorem qsum_append (l m : List F2) : qsum (l ++ m) = qsum l + qsum m := by
  induction l with
  | nil => rw [List.nil_append]; simp only [qsum]; rw [F2.zero_add]
  | cons x l ih => rw [List.cons_append]; simp only [qsum]; rw [ih, F2.add_assoc]
end Go.Proofs.YthfkfgjhgicfeaaGreatDoor
namespace Go.Proofs.YthfkfgjhgicfeaaGreatDoor
open Go.RowKit
set_option linter.unusedVariables false

/-- What two numbers are as a pair. -/
def Rep (a b : Int) (x : F2) : Prop := U a ∧ U b ∧ toF a = x.a ∧ toF b = x.b
theorem rep_enc (x : F2) : Rep (enc x.a) (enc x.b) x := ⟨enc_U _, enc_U _, toF_enc _, toF_enc _⟩
theorem rep_raw {a b : Int} (ha : U a) (hb : U b) : Rep a b ⟨toF a, toF b⟩ := ⟨ha, hb, rfl, rfl⟩
theorem rep_zero : Rep 0 0 0 := rep_enc 0
theorem bkeep {W w1 : World} (hb : Below W.heap.size W w1) {p : Addr} {v : Value} (h : W.cell? p = some v) : w1.cell? p = some v :=
  (hb.cell (World.block_lt_of_cell? W _ h)).trans h
theorem bfree {W w1 : World} (hb : Below W.heap.size W w1) {p : Addr} {v : Value} (h : W.cell? p = some v) (hf : W.frozen? p = false) : w1.frozen? p = false :=
  (hb.frozen (World.block_lt_of_cell? W _ h)).trans hf
theorem bthen {w W w1 : World} (h : Below w.heap.size w W) (hb : Below W.heap.size W w1) : Below w.heap.size w w1 := h.trans (hb.mono h.size)
theorem wp_gen {P : Program} {c : Code} {Q : Exit → Act → World → Prop} {a : Act} {w : World} (S : World → Prop) (h : S w) (k : ∀ W, S W → c.wp P Q a W) : c.wp P Q a w := k w h

/-- A variable of two cells, unfrozen. -/
def Var (W : World) (g : Nat) (x y : Int) : Prop := W.cell? ⟨g, 0, none⟩ = some (.int .u64 x) ∧ W.cell? ⟨g, 1, none⟩ = some (.int .u64 y) ∧ W.frozen? ⟨g, 0, none⟩ = false ∧ W.frozen? ⟨g, 1, none⟩ = false
theorem Var.keep {W w1 : World} {g : Nat} {x y : Int} (h : Var W g x y) (hb : Below W.heap.size W w1) : Var w1 g x y :=
  ⟨bkeep hb h.1, bkeep hb h.2.1, bfree hb h.1 h.2.2.1, bfree hb h.2.1 h.2.2.2⟩
theorem Var.lt {W : World} {g : Nat} {x y : Int} (h : Var W g x y) : g < W.heap.size := World.block_lt_of_cell? W _ h.1
theorem Var.alloc {W : World} {g : Nat} {x y : Int} (h : Var W g x y) (o : Obj) : Var (W.alloc o) g x y :=
  h.keep ((Below.refl _ _).alloc (Nat.le_refl _) _)
theorem Var.drew {W : World} {g : Nat} {x y : Int} (h : Var W g x y) : Var W.drew g x y := h
theorem Var.new (W : World) (x y : Int) (t : TypeId) : Var (W.alloc (.cells #[.int .u64 x, .int .u64 y] t)) W.heap.size x y := by simp [Var, go_sem]
theorem Var.far {W : World} {g g' : Nat} {x y : Int} (h : Var W g x y) (hg : g' ≠ g) (o : Nat) (v : Value) : Var (W.setCell ⟨g', o, none⟩ v) g x y := by
  obtain ⟨c0, c1, f0, f1⟩ := h
  exact ⟨(World.cell?_setCell_far _ _ _ _ hg).trans c0, (World.cell?_setCell_far _ _ _ _ hg).trans c1, by simp [f0], by simp [f1]⟩
theorem Var.set {W : World} {g : Nat} {x y : Int} (h : Var W g x y) (x' y' : Int) : Var ((W.setCell ⟨g, 0, none⟩ (.int .u64 x')).setCell ⟨g, 1, none⟩ (.int .u64 y')) g x' y' := by
  obtain ⟨c0, c1, f0, f1⟩ := h
  simp [Var, go_sem, c0, c1, f0, f1]
theorem row_one {W : World} {g : Nat} {x : Int} (h0 : W.cell? ⟨g, 0, none⟩ = some (.int .u64 x)) : Row W (.slice (some ⟨g, 0, none⟩) 1 1) [x] := by
  right; right
  refine ⟨g, 0, 1, rfl, by simp, by unfold maxLen; omega, ?_⟩
  intro i hi
  have : i = 0 := by simp at hi; omega
  subst this; exact h0
theorem row_tri {W : World} {g : Nat} {x y z : Int} (h0 : W.cell? ⟨g, 0, none⟩ = some (.int .u64 x)) (h1 : W.cell? ⟨g, 1, none⟩ = some (.int .u64 y)) (h2 : W.cell? ⟨g, 2, none⟩ = some (.int .u64 z)) : Row W (.slice (some ⟨g, 0, none⟩) 3 3) [x, y, z] := by
  right; right
  refine ⟨g, 0, 3, rfl, by simp, by unfold maxLen; omega, ?_⟩
  intro i hi
  have : i = 0 ∨ i = 1 ∨ i = 2 := by simp at hi; omega
  rcases this with rfl | rfl | rfl
  · exact h0
  · exact h1
  · exact h2
theorem sum_one (x : Int) (v : Value) (w : World) (hx : U x) (hr : Row w v [x]) : Calls Tryz.prog 100 #[v] w fun e w' => e = .returned (.int .u64 (enc (toF x))) ∧ w = w' := by
  have h := sum_any v [x] w hr (by intro n hn; simp at hn; subst hn; exact hx)
  rw [show fsum ([x].map toF) = toF x by simp only [List.map, fsum]; grind] at h
  exact h
theorem prod_tri (x y z : Int) (p : F) (v : Value) (w : World) (hx : U x) (hy : U y) (hz : U z) (hr : Row w v [x, y, z]) (hp : toF x * (toF y * toF z) = p) : Calls Tryz.prog 112 #[v] w fun e w' => e = .returned (.int .u64 (enc p)) ∧ w = w' := by
  have h := prod_any v [x, y, z] w hr (by intro n hn; simp at hn; rcases hn with rfl | rfl | rfl <;> assumption)
  rw [show fprod ([x, y, z].map toF) = p by rw [← hp]; simp only [List.map, fprod]; grind] at h
  exact h

theorem lift_q (a : Int) (z : F2) (ha : U a) (hz : lift (toF a) = z) (w : World) : Calls Tryz.prog 65 #[.int .u64 a] w fun e w' => e = .returned (.agg #[.int .u64 (enc z.a), .int .u64 (enc z.b)]) ∧ Below w.heap.size w w' := by
  have k1 := fun W v => sum_one a v W ha
  have e1 : enc (toF a) = enc z.a := by rw [← hz]; rfl
  have e2 : (0 : Int) = enc z.b := by rw [← hz]; rfl
  rw [e1] at k1
  generalize enc z.a = x at *
  generalize enc z.b = y at *
  clear hz e1
  subst e2
  go_enter Tryz.func65, Tryz.ntmps65
  go_wp2_with (go_at_call 100; ((with_reducible refine (k1 _ _ (row_one (by simp [go_sem]))).mono ?_); rintro e w' ⟨rfl, rfl⟩))
  exact bodyPost_ret (v := .agg #[.int .u64 x, .int .u64 0]) (by simp [results, Tryz.results65, go_sem]) rfl ⟨rfl, ((Below.refl _ _).alloc (Nat.le_refl _) _).alloc (by simp) _⟩

theorem padd_q (a b c d : Int) (x y z : F2) (hx : Rep a b x) (hy : Rep c d y) (hz : x + y = z) (w : World) : Calls Tryz.prog 99 #[.agg #[.int .u64 a, .int .u64 b], .agg #[.int .u64 c, .int .u64 d]] w fun e w' => e = .returned (.agg #[.int .u64 (enc z.a), .int .u64 (enc z.b)]) ∧ Below w.heap.size w w' := by
  have k1 := add_is a c (enc z.a) hx.1 hy.1 (by rw [hx.2.2.1, hy.2.2.1, ← hz]; rfl)
  have k2 := add_is b d (enc z.b) hx.2.1 hy.2.1 (by rw [hx.2.2.2, hy.2.2.2, ← hz]; rfl)
  generalize enc z.a = s at *
  generalize enc z.b = t at *
  clear hx hy hz
  go_enter Tryz.func99, Tryz.ntmps99
  go_wp2_with fail
  go_region_held3 (fun w' => w'.cell? ⟨w.heap.size, 0, none⟩ = some (.int .u64 a) ∧ w'.cell? ⟨w.heap.size, 1, none⟩ = some (.int .u64 b) ∧ w'.cell? ⟨w.heap.size + 1, 0, none⟩ = some (.int .u64 c) ∧ w'.cell? ⟨w.heap.size + 1, 1, none⟩ = some (.int .u64 d)) (go_keep)
    (first | (go_at_call 111; ((with_reducible refine (k1 _).mono ?_); rintro e w' ⟨rfl, rfl⟩)) | (go_at_call 111; ((with_reducible refine (k2 _).mono ?_); rintro e w' ⟨rfl, rfl⟩)))
  go_wp2
  exact bodyPost_ret (v := .agg #[.int .u64 s, .int .u64 t]) (by simp [results, Tryz.results99, go_sem]) rfl ⟨rfl, ((((Below.refl _ _).alloc (Nat.le_refl _) _).alloc (by simp) _).alloc (by simp; omega) _).drew⟩

theorem psub_q (a b c d : Int) (x y z : F2) (hx : Rep a b x) (hy : Rep c d y) (hz : x - y = z) (w : World) : Calls Tryz.prog 75 #[.agg #[.int .u64 a, .int .u64 b], .agg #[.int .u64 c, .int .u64 d]] w fun e w' => e = .returned (.agg #[.int .u64 (enc z.a), .int .u64 (enc z.b)]) ∧ Below w.heap.size w w' := by
  have k1 := sub_is a c (enc z.a) hx.1 hy.1 (by rw [hx.2.2.1, hy.2.2.1, ← hz]; rfl)
  have k2 := sub_is b d (enc z.b) hx.2.1 hy.2.1 (by rw [hx.2.2.2, hy.2.2.2, ← hz]; rfl)
  generalize enc z.a = s at *
  generalize enc z.b = t at *
  clear hx hy hz
  go_enter Tryz.func75, Tryz.ntmps75
  go_wp2_with fail
  go_region_held3 (fun w' => w'.cell? ⟨w.heap.size, 0, none⟩ = some (.int .u64 a) ∧ w'.cell? ⟨w.heap.size, 1, none⟩ = some (.int .u64 b) ∧ w'.cell? ⟨w.heap.size + 1, 0, none⟩ = some (.int .u64 c) ∧ w'.cell? ⟨w.heap.size + 1, 1, none⟩ = some (.int .u64 d)) (go_keep)
    (first | (go_at_call 107; ((with_reducible refine (k1 _).mono ?_); rintro e w' ⟨rfl, rfl⟩)) | (go_at_call 107; ((with_reducible refine (k2 _).mono ?_); rintro e w' ⟨rfl, rfl⟩)))
  go_wp2
  exact bodyPost_ret (v := .agg #[.int .u64 s, .int .u64 t]) (by simp [results, Tryz.results75, go_sem]) rfl ⟨rfl, ((((Below.refl _ _).alloc (Nat.le_refl _) _).alloc (by simp) _).alloc (by simp; omega) _).drew⟩

theorem pneg_q (a b : Int) (x z : F2) (hx : Rep a b x) (hz : -x = z) (w : World) : Calls Tryz.prog 77 #[.agg #[.int .u64 a, .int .u64 b]] w fun e w' => e = .returned (.agg #[.int .u64 (enc z.a), .int .u64 (enc z.b)]) ∧ Below w.heap.size w w' := by
  have k1 := neg_is a (enc z.a) hx.1 (by rw [hx.2.2.1, ← hz]; rfl)
  have k2 := neg_is b (enc z.b) hx.2.1 (by rw [hx.2.2.2, ← hz]; rfl)
  generalize enc z.a = s at *
  generalize enc z.b = t at *
  clear hx hz
  go_enter Tryz.func77, Tryz.ntmps77
  go_wp2_with fail
  go_region_held3 (fun w' => w'.cell? ⟨w.heap.size, 0, none⟩ = some (.int .u64 a) ∧ w'.cell? ⟨w.heap.size, 1, none⟩ = some (.int .u64 b)) (go_keep)
    (first | (go_at_call 110; ((with_reducible refine (k1 _).mono ?_); rintro e w' ⟨rfl, rfl⟩)) | (go_at_call 110; ((with_reducible refine (k2 _).mono ?_); rintro e w' ⟨rfl, rfl⟩)))
  go_wp2
  exact bodyPost_ret (v := .agg #[.int .u64 s, .int .u64 t]) (by simp [results, Tryz.results77, go_sem]) rfl ⟨rfl, (((Below.refl _ _).alloc (Nat.le_refl _) _).alloc (by simp) _).drew⟩

theorem pscale_q (a b c : Int) (x z : F2) (hx : Rep a b x) (hc : U c) (hz : scale x (toF c) = z) (w : World) : Calls Tryz.prog 68 #[.agg #[.int .u64 a, .int .u64 b], .int .u64 c] w fun e w' => e = .returned (.agg #[.int .u64 (enc z.a), .int .u64 (enc z.b)]) ∧ Below w.heap.size w w' := by
  have k1 := mul_is a c (enc z.a) hx.1 hc (by rw [hx.2.2.1, ← hz]; rfl)
  have k2 := mul_is b c (enc z.b) hx.2.1 hc (by rw [hx.2.2.2, ← hz]; rfl)
  generalize enc z.a = s at *
  generalize enc z.b = t at *
  clear hx hz
  go_enter Tryz.func68, Tryz.ntmps68
  go_wp2_with fail
  go_region_held3 (fun w' => w'.cell? ⟨w.heap.size, 0, none⟩ = some (.int .u64 a) ∧ w'.cell? ⟨w.heap.size, 1, none⟩ = some (.int .u64 b)) (go_keep)
    (first | (go_at_call 101; ((with_reducible refine (k1 _).mono ?_); rintro e w' ⟨rfl, rfl⟩)) | (go_at_call 101; ((with_reducible refine (k2 _).mono ?_); rintro e w' ⟨rfl, rfl⟩)))
  go_wp2
  exact bodyPost_ret (v := .agg #[.int .u64 s, .int .u64 t]) (by simp [results, Tryz.results68, go_sem]) rfl ⟨rfl, (((Below.refl _ _).alloc (Nat.le_refl _) _).alloc (by simp) _).drew⟩

theorem pturn_q (a b : Int) (x z : F2) (hx : Rep a b x) (hz : turn x = z) (w : World) : Calls Tryz.prog 109 #[.agg #[.int .u64 a, .int .u64 b]] w fun e w' => e = .returned (.agg #[.int .u64 (enc z.a), .int .u64 (enc z.b)]) ∧ Below w.heap.size w w' := by
  have k1 := fun W v => sum_one a v W hx.1
  rw [show enc (toF a) = enc z.a by rw [hx.2.2.1, ← hz]; rfl] at k1
  have k2 := neg_is b (enc z.b) hx.2.1 (by rw [hx.2.2.2, ← hz]; rfl)
  generalize enc z.a = s at *
  generalize enc z.b = t at *
  clear hx hz
  go_enter Tryz.func109, Tryz.ntmps109
  go_wp2_with fail
  go_region_held3 (fun w' => w'.cell? ⟨w.heap.size, 0, none⟩ = some (.int .u64 a) ∧ w'.cell? ⟨w.heap.size, 1, none⟩ = some (.int .u64 b)) (go_keep)
    (first | (go_at_call 100; ((with_reducible refine (k1 _ _ (row_one (by simp [go_sem]))).mono ?_); rintro e w' ⟨rfl, rfl⟩)) | (go_at_call 110; ((with_reducible refine (k2 _).mono ?_); rintro e w' ⟨rfl, rfl⟩)))
  all_goals go_wp2
  all_goals exact bodyPost_ret (v := .agg #[.int .u64 s, .int .u64 t]) (by simp [results, Tryz.results109, go_sem]) rfl ⟨rfl, ((((Below.refl _ _).alloc (Nat.le_refl _) _).alloc (by simp) _).alloc (by simp; omega) _).drew⟩

theorem pnorm_q (a b : Int) (x : F2) (z : F) (hx : Rep a b x) (hz : norm x = z) (w : World) : Calls Tryz.prog 108 #[.agg #[.int .u64 a, .int .u64 b]] w fun e w' => e = .returned (.int .u64 (enc z)) ∧ Below w.heap.size w w' := by
  have k1 := mul_is a a (enc (x.a * x.a)) hx.1 hx.1 (by rw [hx.2.2.1])
  have k2 := fun W v hr => prod_tri 7 b b (7 * (x.b * x.b)) v W (U_lit _ rfl rfl) hx.2.1 hx.2.1 hr (by rw [hx.2.2.2, show toF 7 = 7 by decide +kernel])
  have k3 := sub_is (enc (x.a * x.a)) (enc (7 * (x.b * x.b))) (enc z) (enc_U _) (enc_U _) (by rw [toF_enc, toF_enc, ← hz]; rfl)
  generalize enc z = s at *
  generalize enc (x.a * x.a) = t at *
  generalize enc (7 * (x.b * x.b)) = r at *
  clear hx hz
  go_enter Tryz.func108, Tryz.ntmps108
  go_wp2_with fail
  go_region_held3 (fun w' => w'.cell? ⟨w.heap.size, 0, none⟩ = some (.int .u64 a) ∧ w'.cell? ⟨w.heap.size, 1, none⟩ = some (.int .u64 b)) (go_keep)
    (first | (go_at_call 112; ((with_reducible refine (k2 _ _ (row_tri (by simp [go_sem]) (by simp [go_sem]) (by simp [go_sem]))).mono ?_); rintro e w' ⟨rfl, rfl⟩)) | (go_at_call 101; ((with_reducible refine (k1 _).mono ?_); rintro e w' ⟨rfl, rfl⟩)) | (go_at_call 107; ((with_reducible refine (k3 _).mono ?_); rintro e w' ⟨rfl, rfl⟩)))
  all_goals go_wp2
  all_goals go_ret
  all_goals exact ⟨rfl, (((Below.refl _ _).alloc (Nat.le_refl _) _).alloc (by simp) _).drew⟩

theorem pmul_q (a b c d : Int) (x y z : F2) (hx : Rep a b x) (hy : Rep c d y) (hz : x * y = z) (w : World) : Calls Tryz.prog 78 #[.agg #[.int .u64 a, .int .u64 b], .agg #[.int .u64 c, .int .u64 d]] w fun e w' => e = .returned (.agg #[.int .u64 (enc z.a), .int .u64 (enc z.b)]) ∧ Below w.heap.size w w' := by
  have k1 := mul_is a c (enc (x.a * y.a)) hx.1 hy.1 (by rw [hx.2.2.1, hy.2.2.1])
  have k2 := fun W v hr => prod_tri 7 b d (7 * (x.b * y.b)) v W (U_lit _ rfl rfl) hx.2.1 hy.2.1 hr (by rw [hx.2.2.2, hy.2.2.2, show toF 7 = 7 by decide +kernel])
  have k3 := add_is (enc (x.a * y.a)) (enc (7 * (x.b * y.b))) (enc z.a) (enc_U _) (enc_U _) (by rw [toF_enc, toF_enc, ← hz]; rfl)
  have k4 := mul_is a d (enc (x.a * y.b)) hx.1 hy.2.1 (by rw [hx.2.2.1, hy.2.2.2])
  have k5 := mul_is b c (enc (x.b * y.a)) hx.2.1 hy.1 (by rw [hx.2.2.2, hy.2.2.1])
  have k6 := add_is (enc (x.a * y.b)) (enc (x.b * y.a)) (enc z.b) (enc_U _) (enc_U _) (by rw [toF_enc, toF_enc, ← hz]; rfl)
  generalize enc z.a = s at *
  generalize enc z.b = t at *
  generalize enc (x.a * y.a) = e1 at *
  generalize enc (7 * (x.b * y.b)) = e2 at *
  generalize enc (x.a * y.b) = e3 at *
  generalize enc (x.b * y.a) = e4 at *
  clear hx hy hz
  go_enter Tryz.func78, Tryz.ntmps78
  go_wp2_with fail
  go_region_held3 (fun w' => w'.cell? ⟨w.heap.size, 0, none⟩ = some (.int .u64 a) ∧ w'.cell? ⟨w.heap.size, 1, none⟩ = some (.int .u64 b) ∧ w'.cell? ⟨w.heap.size + 1, 0, none⟩ = some (.int .u64 c) ∧ w'.cell? ⟨w.heap.size + 1, 1, none⟩ = some (.int .u64 d)) (go_keep)
    (first | (go_at_call 112; ((with_reducible refine (k2 _ _ (row_tri (by simp [go_sem]) (by simp [go_sem]) (by simp [go_sem]))).mono ?_); rintro e w' ⟨rfl, rfl⟩)) | (go_at_call 101; ((with_reducible first | refine (k1 _).mono ?_ | refine (k4 _).mono ?_ | refine (k5 _).mono ?_); rintro e w' ⟨rfl, rfl⟩)) | (go_at_call 111; ((with_reducible first | refine (k3 _).mono ?_ | refine (k6 _).mono ?_); rintro e w' ⟨rfl, rfl⟩)))
  all_goals go_wp2
  all_goals exact bodyPost_ret (v := .agg #[.int .u64 s, .int .u64 t]) (by simp [results, Tryz.results78, go_sem]) rfl ⟨rfl, (((((Below.refl _ _).alloc (Nat.le_refl _) _).alloc (by simp) _).alloc (by simp; omega) _).alloc (by simp; omega) _).drew⟩

end Go.Proofs.YthfkfgjhgicfeaaGreatDoor
namespace Go.Proofs.YthfkfgjhgicfeaaGreatDoor
open Go.RowKit
set_option linter.unusedVariables false

theorem pinv_no (a b : Int) (x : F2) (hx : Rep a b x) (h : x = 0) (w : World) : Calls Tryz.prog 76 #[.agg #[.int .u64 a, .int .u64 b]] w fun e w' => e = .returned (.tuple #[.agg #[.int .u64 0, .int .u64 0], .bool false]) ∧ Below w.heap.size w w' := by
  have k1 := pnorm_q a b x 0 hx (by rw [h]; exact norm_zero)
  have k2 := inv_no (enc 0) (enc_U _) (toF_enc 0)
  clear hx h
  go_enter Tryz.func76, Tryz.ntmps76
  go_upto_region 1 with fail
  refine wp_gen (fun W => Below w.heap.size w W ∧ Var W w.heap.size a b ∧ Var W (w.heap.size + 1) 0 0) ⟨((Below.refl _ _).alloc (Nat.le_refl _) _).alloc (by simp) _, by simp [Var, go_sem], by simp [Var, go_sem]⟩ ?_
  rintro W ⟨hB, hV, hR⟩
  obtain ⟨c0, c1, f0, f1⟩ := hV
  obtain ⟨d0, d1, e0, e1⟩ := hR
  go_wp2_with (first | (go_at_call 108; ((with_reducible refine (k1 _).mono ?_); rintro e w1 ⟨rfl, hb⟩; replace e0 := bfree hb d0 e0; replace e1 := bfree hb d1 e1; replace d0 := bkeep hb d0; replace d1 := bkeep hb d1; replace hB := bthen hB hb; clear hb c0 c1 f0 f1)) | (go_at_call 91; ((with_reducible refine (k2 _).mono ?_); rintro e w' ⟨rfl, rfl⟩)))
  exact bodyPost_ret (v := .tuple #[.agg #[.int .u64 0, .int .u64 0], .bool false]) (by simp [results, Tryz.results76, go_sem, d0, d1]) rfl ⟨rfl, (hB.setCell (by simp) _).setCell (by simp) _⟩

theorem pinv_yes (a b : Int) (x z : F2) (hx : Rep a b x) (h : x ≠ 0) (hz : qinv x = z) (w : World) : Calls Tryz.prog 76 #[.agg #[.int .u64 a, .int .u64 b]] w fun e w' => e = .returned (.tuple #[.agg #[.int .u64 (enc z.a), .int .u64 (enc z.b)], .bool true]) ∧ Below w.heap.size w w' := by
  obtain ⟨n, hn⟩ : ∃ n, norm x = n := ⟨_, rfl⟩
  have hn0 : n ≠ 0 := fun h0 => h (norm_eq_zero (hn.trans h0))
  obtain ⟨i, hi⟩ : ∃ i, finv n = i := ⟨_, rfl⟩
  obtain ⟨t, ht⟩ : ∃ t, turn x = t := ⟨_, rfl⟩
  have k1 := pnorm_q a b x n hx hn
  have k2 := inv_yes (enc n) (enc_U _) (by rw [toF_enc]; exact hn0)
  rw [toF_enc, show fpow n 18446744069414584319 = i from hi] at k2
  have k3 := pturn_q a b x t hx ht
  have k4 := pscale_q (enc t.a) (enc t.b) (enc i) t z (rep_enc t) (enc_U _) (by rw [toF_enc, ← hz, ← ht, ← hi, ← hn]; rfl)
  clear hx h hz hn hn0 hi ht
  go_enter Tryz.func76, Tryz.ntmps76
  go_upto_region 1 with fail
  refine wp_gen (fun W => Below w.heap.size w W ∧ Var W w.heap.size a b ∧ Var W (w.heap.size + 1) 0 0) ⟨((Below.refl _ _).alloc (Nat.le_refl _) _).alloc (by simp) _, by simp [Var, go_sem], by simp [Var, go_sem]⟩ ?_
  rintro W ⟨hB, hV, hR⟩
  obtain ⟨c0, c1, f0, f1⟩ := hV
  obtain ⟨d0, d1, e0, e1⟩ := hR
  go_wp2_with (first
    | (go_at_call 91; ((with_reducible refine (k2 _).mono ?_); rintro e w' ⟨rfl, rfl⟩))
    | ((first
        | (go_at_call 108; (with_reducible refine (k1 _).mono ?_))
        | (go_at_call 109; (with_reducible refine (k3 _).mono ?_))
        | (go_at_call 68; (with_reducible refine (k4 _).mono ?_)))
       rintro e w1 ⟨rfl, hb⟩; replace e0 := bfree hb d0 e0; replace e1 := bfree hb d1 e1; replace d0 := bkeep hb d0; replace d1 := bkeep hb d1; replace c0 := bkeep hb c0; replace c1 := bkeep hb c1; replace hB := bthen hB hb; clear hb))
  exact bodyPost_ret (v := .tuple #[.agg #[.int .u64 (enc z.a), .int .u64 (enc z.b)], .bool true]) (by simp [results, Tryz.results76, go_sem, d0, d1]) rfl ⟨rfl, (hB.setCell (by simp) _).setCell (by simp) _⟩

end Go.Proofs.YthfkfgjhgicfeaaGreatDoor
namespace Go.Proofs.YthfkfgjhgicfeaaGreatDoor
open Go.RowKit
set_option linter.unusedVariables false

/-- A slice of pairs that reads as zs. -/
def QRow (w : World) (v : Value) (zs : List (Int × Int)) : Prop :=
  (v = .slice none 0 0 ∧ zs = []) ∨ (∃ a cap, v = .slice (some a) 0 cap ∧ zs = []) ∨ ∃ (b off cap : Nat), v = .slice (some ⟨b, off, none⟩) zs.length cap ∧ zs.length ≤ cap ∧ cap ≤ maxLen ∧
    ∀ i, i < zs.length → w.cell? ⟨b, off + i * 2, none⟩ = some (.int .u64 (zs.getD i (0, 0)).1) ∧ w.cell? ⟨b, off + i * 2 + 1, none⟩ = some (.int .u64 (zs.getD i (0, 0)).2)
theorem QRow.keep {w w' : World} {v : Value} {zs : List (Int × Int)} (h : QRow w v zs) (hb : Below w.heap.size w w') : QRow w' v zs := by
  rcases h with h | h | ⟨b, off, cap, rfl, hc, hm, hcell⟩
  · exact Or.inl h
  · exact Or.inr (Or.inl h)
  · exact Or.inr (Or.inr ⟨b, off, cap, rfl, hc, hm, fun i hi => ⟨bkeep hb (hcell i hi).1, bkeep hb (hcell i hi).2⟩⟩)

def toQ (z : Int × Int) : F2 := ⟨toF z.1, toF z.2⟩
def qheads (zs : List (Int × Int)) (k : Nat) : List F2 := (zs.take k).map toQ
theorem qheads_zero (zs : List (Int × Int)) : qheads zs 0 = [] := by simp [qheads]
theorem qheads_succ (zs : List (Int × Int)) (k : Nat) (h : k < zs.length) : qheads zs (k + 1) = qheads zs k ++ [toQ (zs.getD k (0, 0))] := by
  unfold qheads
  rw [List.take_succ_eq_append_getElem h, List.map_append]
  simp [List.getD, h]
theorem qheads_all (zs : List (Int × Int)) (k : Nat) (h : zs.length ≤ k) : qheads zs k = zs.map toQ := by
  unfold qheads; rw [List.take_of_length_le h]
theorem qsum_snoc (zs : List (Int × Int)) (k : Nat) (h : k < zs.length) : qsum (qheads zs k) + toQ (zs.getD k (0, 0)) = qsum (qheads zs (k + 1)) := by
  rw [qheads_succ zs k h, qsum_append]; simp only [qsum]; rw [F2.add_zero]
theorem UU_getD {zs : List (Int × Int)} (h : ∀ n ∈ zs, U n.1 ∧ U n.2) (k : Nat) (hk : k < zs.length) : U (zs.getD k (0, 0)).1 ∧ U (zs.getD k (0, 0)).2 := by
  have : zs.getD k (0, 0) = zs[k] := by simp [List.getD, hk]
  rw [this]; exact h _ (List.getElem_mem hk)

/-- The loop of a sum over no pairs. -/
def SumNone (w : World) (g2 g3 : Nat) (i : Value) (W : World) : Prop := i = .int .i64 0 ∧ Below w.heap.size w W ∧ Var W g2 0 0 ∧ Var W g3 0 0
/-- The loop of a sum: how many are in, and what the sum's variable holds. -/
def SumHead (w : World) (zs : List (Int × Int)) (g2 g3 : Nat) (i : Value) (W : World) : Prop :=
  ∃ k : Nat, k ≤ zs.length ∧ i = .int .i64 k ∧ Below w.heap.size w W ∧ Var W g2 0 0 ∧ Var W g3 (enc (qsum (qheads zs k)).a) (enc (qsum (qheads zs k)).b)

set_option maxHeartbeats 1000000 in
theorem psum_none (v : Value) (hv : v = .slice none 0 0 ∨ ∃ a cap, v = .slice (some a) 0 cap) (w : World) : Calls Tryz.prog 121 #[v] w fun e w' => e = .returned (.agg #[.int .u64 0, .int .u64 0]) ∧ Below w.heap.size w w' := by
  rcases hv with rfl | ⟨a, cap, rfl⟩
  all_goals
    go_enter Tryz.func121, Tryz.ntmps121
    go_upto_region 3 with fail
    go_loopw [9] (SumNone w w.heap.size (w.heap.size + 1)) (fun _ _ => 0)
    case atStart => exact ⟨rfl, ((Below.refl _ _).alloc (Nat.le_refl _) _).alloc (by simp) _, (Var.new _ _ _ _).alloc _, by simpa using Var.new (w.alloc (.cells #[.int .u64 0, .int .u64 0] 31)) 0 0 31⟩
    case round =>
      obtain ⟨rfl, hB, h2, h3⟩ := hrel
      obtain ⟨c0, c1, f0, f1⟩ := h2
      obtain ⟨d0, d1, e0, e1⟩ := h3
      go_wp2
      exact bodyPost_ret (v := .agg #[.int .u64 0, .int .u64 0]) (by simp [results, Tryz.results121, go_sem, c0, c1]) rfl ⟨rfl, (hB.setCell (by simp) _).setCell (by simp) _⟩

set_option maxHeartbeats 1000000 in
theorem psum_q (v : Value) (zs : List (Int × Int)) (w : World) (hr : QRow w v zs) (hu : ∀ n ∈ zs, U n.1 ∧ U n.2) : Calls Tryz.prog 121 #[v] w fun e w' => e = .returned (.agg #[.int .u64 (enc (qsum (zs.map toQ)).a), .int .u64 (enc (qsum (zs.map toQ)).b)]) ∧ Below w.heap.size w w' := by
  have hr0 := hr
  rcases hr with ⟨rfl, rfl⟩ | ⟨ad, cap, rfl, rfl⟩ | ⟨b, off, cap, rfl, hc, hm, hcell⟩
  · exact psum_none _ (Or.inl rfl) w
  · exact psum_none _ (Or.inr ⟨ad, cap, rfl⟩) w
  · unfold maxLen at hm
    have HS := Lib.hid (qsum_snoc zs); have HA := Lib.hid (qheads_all zs); have HC := Lib.hid hcell; have HU := Lib.hid (UU_getD hu); have H0 := Lib.hid (qheads_zero zs)
    have HR := Lib.hid hr0
    clear hcell hu hr0
    generalize hzl : zs.length = len at *
    have HZ := Lib.hid hzl; clear hzl
    go_enter Tryz.func121, Tryz.ntmps121
    go_upto_region 3 with fail
    go_loopw [9] (SumHead w zs w.heap.size (w.heap.size + 1)) (fun i _ => len - (intOf i).toNat)
    case atStart => exact ⟨0, Nat.zero_le _, rfl, ((Below.refl _ _).alloc (Nat.le_refl _) _).alloc (by simp) _, (Var.new _ _ _ _).alloc _, by rw [H0.out, show enc (qsum []).a = 0 from rfl, show enc (qsum []).b = 0 from rfl]; simpa using Var.new (w.alloc (.cells #[.int .u64 0, .int .u64 0] 31)) 0 0 31⟩
    case round =>
      obtain ⟨k, hk, rfl, hB, h2, h3⟩ := hrel
      rw [HZ.out] at hk
      by_cases hlt : k < len
      · have g0 := bkeep hB (HC.out k hlt).1
        have g1 := bkeep hB (HC.out k hlt).2
        have gU := HU.out k hlt
        have e2 := HS.out k hlt
        have m1 := padd_q (enc (qsum (qheads zs k)).a) (enc (qsum (qheads zs k)).b) (zs.getD k (0, 0)).1 (zs.getD k (0, 0)).2 _ _ _ (rep_enc _) (rep_raw gU.1 gU.2) e2
        clear e2
        generalize (zs.getD k (0, 0)).1 = z0 at *
        generalize (zs.getD k (0, 0)).2 = z1 at *
        go_upto_region 5 with fail
        refine wp_gen (fun W => Below w.heap.size w W ∧ Var W w.heap.size 0 0 ∧ Var W (w.heap.size + 1) (enc (qsum (qheads zs k)).a) (enc (qsum (qheads zs k)).b) ∧ Var W wr.heap.size z0 z1) ⟨hB.alloc hB.size _, h2.alloc _, h3.alloc _, Var.new _ _ _ _⟩ ?_
        clear hB h2 h3 g0 g1
        rintro W ⟨hB, h2, ⟨d0, d1, e0, e1⟩, ⟨c0, c1, f0, f1⟩⟩
        go_upto_region 6 with ((go_at_call 99; ((with_reducible refine (m1 _).mono ?_); rintro e w1 ⟨rfl, hb⟩; replace e0 := bfree hb d0 e0; replace e1 := bfree hb d1 e1; replace d0 := bkeep hb d0; replace d1 := bkeep hb d1; replace h2 := h2.keep hb; replace hB := bthen hB hb; clear hb c0 c1 f0 f1)))
        refine wp_gen (fun W => Below w.heap.size w W ∧ Var W w.heap.size 0 0 ∧ Var W (w.heap.size + 1) (enc (qsum (qheads zs (k + 1))).a) (enc (qsum (qheads zs (k + 1))).b)) ⟨(hB.setCell (by simp) _).setCell (by simp) _, (h2.far (by omega) _ _).far (by omega) _ _, Var.set ⟨d0, d1, e0, e1⟩ _ _⟩ ?_
        clear hB h2 d0 d1 e0 e1
        rintro W2 ⟨hB, h2, h3⟩
        go_wp2
        go_roundw
        case rel => exact ⟨k + 1, by rw [HZ.out]; omega, by go_num, hB, h2, h3⟩
        case measure => simp [intOf]; omega
      · obtain ⟨c0, c1, f0, f1⟩ := h2
        obtain ⟨d0, d1, e0, e1⟩ := h3
        go_wp2
        exact bodyPost_ret (v := .agg #[.int .u64 (enc (qsum (qheads zs k)).a), .int .u64 (enc (qsum (qheads zs k)).b)]) (by simp [results, Tryz.results121, go_sem, c0, c1]) rfl ⟨by rw [HA.out k (by omega)], (hB.setCell (by simp) _).setCell (by simp) _⟩
end Go.Proofs.YthfkfgjhgicfeaaGreatDoor
