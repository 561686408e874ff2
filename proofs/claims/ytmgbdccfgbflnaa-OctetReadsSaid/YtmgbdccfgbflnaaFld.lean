/-
  The field of P numbers, P = 18446744069414584321, as plain mathematics (no Go in sight): the ring 'Fin P', powers, and the ways between whole numbers and it.
-/
namespace Go.Proofs.Ytmgbdccfgbflnaa
set_option linter.unusedVariables false

abbrev F := Fin 18446744069414584321
/-- What a whole number (not below 0) is in the field. -/
def toF (a : Int) : F := Fin.ofNat _ a.toNat
/-- A number of the field as it is kept. -/
def enc (x : F) : Int := (x.val : Int)
/-- A uint64. -/
def U (a : Int) : Prop := 0 ≤ a ∧ a < 18446744073709551616

theorem enc_nonneg (x : F) : 0 ≤ enc x := by unfold enc; omega
theorem enc_lt (x : F) : enc x < 18446744069414584321 := by unfold enc; have := x.isLt; omega
theorem enc_U (x : F) : U (enc x) := ⟨enc_nonneg x, by have := enc_lt x; omega⟩
theorem toF_enc (x : F) : toF (enc x) = x := by
  unfold toF enc
  apply Fin.ext
  simp [Fin.ofNat, Nat.mod_eq_of_lt x.isLt]
theorem enc_toF (a : Int) (h : 0 ≤ a) : enc (toF a) = a % 18446744069414584321 := by
  unfold toF enc
  simp only [Fin.ofNat]
  omega
theorem enc_inj {x y : F} : enc x = enc y ↔ x = y := by
  constructor
  · intro h; rw [← toF_enc x, ← toF_enc y, h]
  · intro h; rw [h]
theorem enc_add (x y : F) : enc (x + y) = (enc x + enc y) % 18446744069414584321 := by
  unfold enc; rw [Fin.val_add]; omega
theorem enc_mul (x y : F) : enc (x * y) = (enc x * enc y) % 18446744069414584321 := by
  unfold enc; rw [Fin.val_mul]; simp
theorem enc_zero : enc 0 = 0 := rfl
theorem enc_one : enc 1 = 1 := rfl
theorem enc_neg (x : F) : enc (-x) = (18446744069414584321 - enc x) % 18446744069414584321 := by
  unfold enc
  have h : (-x).val = (18446744069414584321 - x.val) % 18446744069414584321 := Fin.val_neg' x |>.trans (by rfl)
  rw [h]
  have := x.isLt
  omega
theorem toF_of (x : F) (a : Int) (h : a % 18446744069414584321 = enc x) (h0 : 0 ≤ a) : toF a = x := by
  rw [← enc_inj, enc_toF a h0, h]

theorem toF_add (x y : Int) (hx : 0 ≤ x) (hy : 0 ≤ y) : toF (x + y) = toF x + toF y := by
  rw [← enc_inj, enc_toF _ (by omega), enc_add, enc_toF _ hx, enc_toF _ hy]; omega
theorem toF_mul (x y : Int) (hx : 0 ≤ x) (hy : 0 ≤ y) : toF (x * y) = toF x * toF y := by
  rw [← enc_inj, enc_toF _ (Int.mul_nonneg hx hy), enc_mul, enc_toF _ hx, enc_toF _ hy, Int.mul_emod]
/-- The product by its upper and lower half. -/
theorem mul_halves (a b hi lo t l : Int) (ha : 0 ≤ a) (hb : 0 ≤ b) (hlo : 0 ≤ lo) (ht : 0 ≤ t) (hl : 0 ≤ l)
    (e : a * b = hi * 18446744073709551616 + lo) (eh : hi = t * 4294967296 + l) :
    toF lo - toF t + toF (l * 4294967295) = toF a * toF b := by
  have c1 : toF 79228162514264337593543950336 = (-1 : F) := by decide +kernel
  have c2 : toF 18446744073709551616 = toF 4294967295 := by decide +kernel
  have e2 : a * b = t * 79228162514264337593543950336 + l * 18446744073709551616 + lo := by rw [e, eh]; omega
  rw [← toF_mul a b ha hb, e2, toF_add _ _ (by omega) hlo, toF_add _ _ (by omega) (by omega), toF_mul _ _ ht (by decide), toF_mul _ _ hl (by decide), toF_mul _ _ hl (by decide), c1, c2]
  grind

/-- A power. -/
def fpow (x : F) : Nat → F
  | 0 => 1
  | n + 1 => fpow x n * x
theorem fpow_zero (x : F) : fpow x 0 = 1 := rfl
theorem fpow_succ (x : F) (n : Nat) : fpow x (n + 1) = fpow x n * x := rfl
theorem fpow_one (x : F) : fpow x 1 = x := by simp only [fpow]; grind
theorem fpow_add (x : F) (n m : Nat) : fpow x (n + m) = fpow x n * fpow x m := by
  induction m with
  | zero => simp only [fpow, Nat.add_zero]; grind
  | succ m ih => rw [← Nat.add_assoc, fpow_succ, fpow_succ, ih]; grind
theorem one_fpow (n : Nat) : fpow 1 n = 1 := by
  induction n with
  | zero => rfl
  | succ n ih => rw [fpow_succ, ih]; grind
theorem mul_fpow (x y : F) (n : Nat) : fpow (x * y) n = fpow x n * fpow y n := by
  induction n with
  | zero => simp only [fpow]; grind
  | succ n ih => simp only [fpow_succ, ih]; grind
theorem fpow_mul (x : F) (n m : Nat) : fpow x (n * m) = fpow (fpow x n) m := by
  induction m with
  | zero => rfl
  | succ m ih => rw [Nat.mul_succ, fpow_add, ih, fpow_succ]
theorem fpow_two (x : F) (n : Nat) : fpow (x * x) n = fpow x (2 * n) := by
  rw [fpow_mul]; simp only [fpow]; congr 1; grind

/-- A power by squares: for reckoning. -/
def fsq (x : F) : Nat → Nat → F
  | 0, _ => 1
  | fuel + 1, n => if n = 0 then 1 else if n % 2 = 1 then fsq (x * x) fuel (n / 2) * x else fsq (x * x) fuel (n / 2)
theorem fsq_eq (fuel : Nat) : ∀ (x : F) (n : Nat), n < 2 ^ fuel → fsq x fuel n = fpow x n := by
  induction fuel with
  | zero => intro x n h; have : n = 0 := by simpa using h
            subst this; rfl
  | succ k ih =>
    intro x n h
    have hk : n / 2 < 2 ^ k := by rw [Nat.pow_succ] at h; omega
    unfold fsq
    by_cases h0 : n = 0
    · subst h0; rfl
    · rw [if_neg h0, ih _ _ hk, fpow_two]
      by_cases h1 : n % 2 = 1
      · rw [if_pos h1, ← fpow_succ]; congr 1; omega
      · rw [if_neg h1]; congr 1; omega
end Go.Proofs.Ytmgbdccfgbflnaa
