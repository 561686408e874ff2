/-
  Pairs a + b u of numbers of the field, where u squared is 7: they are a field; a turn is the power P. Plain mathematics (no Go in sight).
-/
import Derived.Test.YtmgbdccfgbflnaaFermat
namespace Go.Proofs.Ytmgbdccfgbflnaa
set_option linter.unusedVariables false

structure F2 where
  a : F
  b : F
theorem F2.eq {x y : F2} (h1 : x.a = y.a) (h2 : x.b = y.b) : x = y := by cases x; cases y; simp_all
theorem F2.iff {x y : F2} : x = y ↔ x.a = y.a ∧ x.b = y.b := ⟨fun h => by subst h; exact ⟨rfl, rfl⟩, fun h => F2.eq h.1 h.2⟩
instance : Inhabited F2 := ⟨⟨0, 0⟩⟩
instance : DecidableEq F2 := fun x y => if h : x.a = y.a ∧ x.b = y.b then isTrue (F2.iff.2 h) else isFalse fun e => h (F2.iff.1 e)
instance : Add F2 := ⟨fun x y => ⟨x.a + y.a, x.b + y.b⟩⟩
instance : Sub F2 := ⟨fun x y => ⟨x.a - y.a, x.b - y.b⟩⟩
instance : Neg F2 := ⟨fun x => ⟨-x.a, -x.b⟩⟩
instance : Mul F2 := ⟨fun x y => ⟨x.a * y.a + 7 * (x.b * y.b), x.a * y.b + x.b * y.a⟩⟩
instance : OfNat F2 0 := ⟨⟨0, 0⟩⟩
instance : OfNat F2 1 := ⟨⟨1, 0⟩⟩
/-- A number as a pair; so many times; the turn; the norm. -/
def lift (a : F) : F2 := ⟨a, 0⟩
def scale (x : F2) (a : F) : F2 := ⟨x.a * a, x.b * a⟩
def turn (x : F2) : F2 := ⟨x.a, -x.b⟩
def norm (x : F2) : F := x.a * x.a - 7 * (x.b * x.b)

theorem F2.add_a (x y : F2) : (x + y).a = x.a + y.a := rfl
theorem F2.add_b (x y : F2) : (x + y).b = x.b + y.b := rfl
theorem F2.sub_a (x y : F2) : (x - y).a = x.a - y.a := rfl
theorem F2.sub_b (x y : F2) : (x - y).b = x.b - y.b := rfl
theorem F2.neg_a (x : F2) : (-x).a = -x.a := rfl
theorem F2.neg_b (x : F2) : (-x).b = -x.b := rfl
theorem F2.mul_a (x y : F2) : (x * y).a = x.a * y.a + 7 * (x.b * y.b) := rfl
theorem F2.mul_b (x y : F2) : (x * y).b = x.a * y.b + x.b * y.a := rfl
theorem F2.zero_a : (0 : F2).a = 0 := rfl
theorem F2.zero_b : (0 : F2).b = 0 := rfl
theorem F2.one_a : (1 : F2).a = 1 := rfl
theorem F2.one_b : (1 : F2).b = 0 := rfl

theorem F2.add_comm (x y : F2) : x + y = y + x := F2.eq (by simp only [F2.add_a]; grind) (by simp only [F2.add_b]; grind)
theorem F2.add_assoc (x y z : F2) : x + y + z = x + (y + z) := F2.eq (by simp only [F2.add_a]; grind) (by simp only [F2.add_b]; grind)
theorem F2.mul_comm (x y : F2) : x * y = y * x := F2.eq (by simp only [F2.mul_a]; grind) (by simp only [F2.mul_b]; grind)
theorem F2.mul_assoc (x y z : F2) : x * y * z = x * (y * z) := F2.eq (by simp only [F2.mul_a, F2.mul_b]; grind) (by simp only [F2.mul_a, F2.mul_b]; grind)
theorem F2.mul_add (x y z : F2) : x * (y + z) = x * y + x * z := F2.eq (by simp only [F2.mul_a, F2.add_a, F2.add_b]; grind) (by simp only [F2.mul_b, F2.add_a, F2.add_b]; grind)
theorem F2.add_mul (x y z : F2) : (x + y) * z = x * z + y * z := by rw [F2.mul_comm, F2.mul_add, F2.mul_comm z x, F2.mul_comm z y]
theorem F2.zero_add (x : F2) : 0 + x = x := F2.eq (by simp only [F2.add_a, F2.zero_a]; grind) (by simp only [F2.add_b, F2.zero_b]; grind)
theorem F2.add_zero (x : F2) : x + 0 = x := by rw [F2.add_comm, F2.zero_add]
theorem F2.one_mul (x : F2) : 1 * x = x := F2.eq (by simp only [F2.mul_a, F2.one_a, F2.one_b]; grind) (by simp only [F2.mul_b, F2.one_a, F2.one_b]; grind)
theorem F2.mul_one (x : F2) : x * 1 = x := by rw [F2.mul_comm, F2.one_mul]
theorem F2.zero_mul (x : F2) : 0 * x = 0 := F2.eq (by simp only [F2.mul_a, F2.zero_a, F2.zero_b]; grind) (by simp only [F2.mul_b, F2.zero_a, F2.zero_b]; grind)
theorem F2.mul_zero (x : F2) : x * 0 = 0 := by rw [F2.mul_comm, F2.zero_mul]
theorem F2.add_neg (x : F2) : x + -x = 0 := F2.eq (by simp only [F2.add_a, F2.neg_a, F2.zero_a]; grind) (by simp only [F2.add_b, F2.neg_b, F2.zero_b]; grind)
theorem F2.sub_eq (x y : F2) : x - y = x + -y := F2.eq (by simp only [F2.add_a, F2.neg_a, F2.sub_a]; grind) (by simp only [F2.add_b, F2.neg_b, F2.sub_b]; grind)
theorem F2.add_sub (x y : F2) : x + y - y = x := F2.eq (by simp only [F2.add_a, F2.sub_a]; grind) (by simp only [F2.add_b, F2.sub_b]; grind)
theorem F2.neg_mul (x y : F2) : -x * y = -(x * y) := F2.eq (by simp only [F2.mul_a, F2.neg_a, F2.neg_b]; grind) (by simp only [F2.mul_b, F2.neg_a, F2.neg_b]; grind)
theorem F2.mul_left (x y z : F2) : x * (y * z) = y * (x * z) := by rw [← F2.mul_assoc, F2.mul_comm x y, F2.mul_assoc]
theorem F2.add_left (x y z : F2) : x + (y + z) = y + (x + z) := by rw [← F2.add_assoc, F2.add_comm x y, F2.add_assoc]

theorem turn_mul (x y : F2) : turn (x * y) = turn x * turn y := F2.eq (by simp only [turn, F2.mul_a, F2.mul_b]; grind) (by simp only [turn, F2.mul_a, F2.mul_b]; grind)
theorem turn_add (x y : F2) : turn (x + y) = turn x + turn y := F2.eq (by simp only [turn, F2.add_a, F2.add_b]) (by simp only [turn, F2.add_a, F2.add_b]; grind)
theorem turn_turn (x : F2) : turn (turn x) = x := F2.eq rfl (by simp only [turn]; grind)
theorem mul_turn (x : F2) : x * turn x = lift (norm x) := F2.eq (by simp only [turn, norm, lift, F2.mul_a]; grind) (by simp only [turn, norm, lift, F2.mul_b]; grind)
theorem norm_mul (x y : F2) : norm (x * y) = norm x * norm y := by simp only [norm, F2.mul_a, F2.mul_b]; grind
theorem lift_mul (a b : F) : lift (a * b) = lift a * lift b := F2.eq (by simp only [lift, F2.mul_a]; grind) (by simp only [lift, F2.mul_b]; grind)
theorem lift_add (a b : F) : lift (a + b) = lift a + lift b := F2.eq rfl (by simp only [lift, F2.add_b]; grind)
theorem scale_lift (x : F2) (a : F) : scale x a = x * lift a := F2.eq (by simp only [scale, lift, F2.mul_a]; grind) (by simp only [scale, lift, F2.mul_b]; grind)
theorem scale_add (x y : F2) (a : F) : scale (x + y) a = scale x a + scale y a := by rw [scale_lift, scale_lift, scale_lift, F2.add_mul]

/-- 7 is no square. -/
theorem no_root (s : F) : s * s ≠ 7 := by
  intro h
  have hs : s ≠ 0 := by intro h0; subst h0; exact absurd h (by decide +kernel)
  have h1 : fpow (s * s) 9223372034707292160 = 1 := by rw [fpow_two]; exact fermat s hs
  rw [h] at h1
  exact seven_2 h1

theorem norm_eq_zero {x : F2} (h : norm x = 0) : x = 0 := by
  unfold norm at h
  by_cases hb : x.b = 0
  · have ha : x.a * x.a = 0 := by rw [hb] at h; grind
    rcases mul_eq_zero ha with h1 | h1 <;> exact F2.eq h1 hb
  · exfalso
    have hi := mul_finv _ hb
    refine no_root (x.a * finv x.b) ?_
    generalize finv x.b = y at *
    grind
theorem norm_zero : norm 0 = 0 := by decide +kernel
theorem norm_iff (x : F2) : norm x = 0 ↔ x = 0 := ⟨norm_eq_zero, fun h => h ▸ norm_zero⟩

def qinv (x : F2) : F2 := scale (turn x) (finv (norm x))
theorem mul_qinv (x : F2) (h : x ≠ 0) : x * qinv x = 1 := by
  have hn : norm x ≠ 0 := fun h' => h (norm_eq_zero h')
  unfold qinv
  rw [scale_lift, ← F2.mul_assoc, mul_turn, ← lift_mul, mul_finv _ hn]; rfl
theorem F2.one_ne_zero : (1 : F2) ≠ 0 := by decide +kernel
theorem F2.mul_eq_zero {x y : F2} (h : x * y = 0) : x = 0 ∨ y = 0 := by
  by_cases hx : x = 0
  · exact Or.inl hx
  · right
    have := mul_qinv x hx
    calc y = x * qinv x * y := by rw [this, F2.one_mul]
      _ = qinv x * (x * y) := by rw [F2.mul_comm x, F2.mul_assoc]
      _ = 0 := by rw [h, F2.mul_zero]
theorem F2.mul_ne_zero {x y : F2} (hx : x ≠ 0) (hy : y ≠ 0) : x * y ≠ 0 := fun h => (F2.mul_eq_zero h).elim hx hy
theorem F2.cancel {x y z : F2} (hx : x ≠ 0) (h : x * y = x * z) : y = z := by
  have := mul_qinv x hx
  calc y = qinv x * (x * y) := by rw [← F2.mul_assoc, F2.mul_comm (qinv x), this, F2.one_mul]
    _ = qinv x * (x * z) := by rw [h]
    _ = z := by rw [← F2.mul_assoc, F2.mul_comm (qinv x), this, F2.one_mul]
theorem qinv_unique {x y : F2} (h : x * y = 1) : y = qinv x := by
  have hx : x ≠ 0 := by intro h0; subst h0; rw [F2.zero_mul] at h; exact F2.one_ne_zero h.symm
  exact F2.cancel hx (by rw [h, mul_qinv x hx])

/-- A power. -/
def qpow (x : F2) : Nat → F2
  | 0 => 1
  | n + 1 => qpow x n * x
theorem qpow_zero (x : F2) : qpow x 0 = 1 := rfl
theorem qpow_succ (x : F2) (n : Nat) : qpow x (n + 1) = qpow x n * x := rfl
theorem qpow_one (x : F2) : qpow x 1 = x := by rw [qpow_succ, qpow_zero, F2.one_mul]
theorem qpow_add (x : F2) (n m : Nat) : qpow x (n + m) = qpow x n * qpow x m := by
  induction m with
  | zero => rw [Nat.add_zero, qpow_zero, F2.mul_one]
  | succ m ih => rw [← Nat.add_assoc, qpow_succ, qpow_succ, ih, F2.mul_assoc]
theorem one_qpow (n : Nat) : qpow 1 n = 1 := by
  induction n with
  | zero => rfl
  | succ n ih => rw [qpow_succ, ih, F2.mul_one]
theorem mul_qpow (x y : F2) (n : Nat) : qpow (x * y) n = qpow x n * qpow y n := by
  induction n with
  | zero => rw [qpow_zero, qpow_zero, qpow_zero, F2.mul_one]
  | succ n ih => rw [qpow_succ, qpow_succ, qpow_succ, ih, F2.mul_assoc, F2.mul_assoc, F2.mul_left x]
theorem qpow_mul (x : F2) (n m : Nat) : qpow x (n * m) = qpow (qpow x n) m := by
  induction m with
  | zero => rfl
  | succ m ih => rw [Nat.mul_succ, qpow_add, ih, qpow_succ]
theorem qpow_two (x : F2) (n : Nat) : qpow (x * x) n = qpow x (2 * n) := by
  rw [qpow_mul]; congr 1; rw [qpow_succ, qpow_one]
theorem lift_qpow (a : F) (n : Nat) : qpow (lift a) n = lift (fpow a n) := by
  induction n with
  | zero => rfl
  | succ n ih => rw [qpow_succ, ih, fpow_succ, lift_mul]

/-! A turn is the power P: by the binomial sum. -/
def ch : Nat → Nat → Nat
  | _, 0 => 1
  | 0, _ + 1 => 0
  | n + 1, k + 1 => ch n k + ch n (k + 1)
theorem ch_zero (n : Nat) : ch n 0 = 1 := by cases n <;> rfl
theorem ch_succ (n k : Nat) : ch (n + 1) (k + 1) = ch n k + ch n (k + 1) := rfl
theorem ch_far : ∀ n k : Nat, n < k → ch n k = 0
  | 0, k + 1, _ => rfl
  | n + 1, k + 1, h => by rw [ch_succ, ch_far n k (by omega), ch_far n (k + 1) (by omega)]
theorem ch_self : ∀ n : Nat, ch n n = 1
  | 0 => rfl
  | n + 1 => by rw [ch_succ, ch_self n, ch_far n (n + 1) (by omega)]
theorem ch_mul : ∀ n k : Nat, (k + 1) * ch (n + 1) (k + 1) = (n + 1) * ch n k
  | 0, 0 => rfl
  | 0, k + 1 => by rw [ch_succ, ch_far 0 (k + 1) (by omega), ch_far 0 (k + 2) (by omega)]; simp
  | n + 1, 0 => by
      have h := ch_mul n 0
      rw [ch_zero] at *
      rw [ch_succ, ch_zero]
      omega
  | n + 1, k + 1 => by
      have h1 := ch_mul n k
      have h2 := ch_mul n (k + 1)
      rw [ch_succ (n + 1) (k + 1), ch_succ n k]
      rw [ch_succ n k] at h1
      have e : (k + 1 + 1) * (ch n k + ch n (k + 1) + ch (n + 1) (k + 1 + 1)) = (k + 1) * (ch n k + ch n (k + 1)) + (ch n k + ch n (k + 1)) + (k + 1 + 1) * ch (n + 1) (k + 1 + 1) := by
        rw [Nat.mul_add, Nat.succ_mul (k + 1)]
      rw [e, h1, h2, Nat.succ_mul (n + 1), Nat.mul_add]
      omega

/-- A number of times, as a number of the field. -/
def nat (n : Nat) : F := Fin.ofNat _ n
theorem nat_add (n m : Nat) : nat (n + m) = nat n + nat m := by
  apply Fin.ext; simp [nat, Fin.ofNat, Fin.val_add]
theorem nat_mul (n m : Nat) : nat (n * m) = nat n * nat m := by
  apply Fin.ext; simp [nat, Fin.ofNat, Fin.val_mul]
theorem nat_ne (n : Nat) (h0 : 0 < n) (h1 : n < 18446744069414584321) : nat n ≠ 0 := by
  intro h
  have := congrArg Fin.val h
  simp [nat, Fin.ofNat, Nat.mod_eq_of_lt h1] at this
  omega
theorem ch_P (n k : Nat) (hn : n + 1 = 18446744069414584321) (hk : k + 1 < 18446744069414584321) : nat (ch (n + 1) (k + 1)) = 0 := by
  have h := congrArg nat (ch_mul n k)
  rw [nat_mul, nat_mul, hn] at h
  have hP : nat 18446744069414584321 = 0 := by decide +kernel
  rw [hP] at h
  have h2 : nat (k + 1) * nat (ch 18446744069414584321 (k + 1)) = 0 := by rw [h]; grind
  rw [hn]
  exact (mul_eq_zero h2).resolve_left (nat_ne _ (by omega) hk)

def bs (x : F2) (n : Nat) : Nat → F2
  | 0 => 0
  | m + 1 => bs x n m + scale (qpow x m) (nat (ch n m))
theorem bs_succ (x : F2) (n m : Nat) : bs x n (m + 1) = bs x n m + scale (qpow x m) (nat (ch n m)) := rfl
theorem scale_nat_add (x : F2) (n m : Nat) : scale x (nat (n + m)) = scale x (nat n) + scale x (nat m) := by
  rw [nat_add, scale_lift, scale_lift, scale_lift, lift_add, F2.mul_add]
theorem scale_one (x : F2) : scale x (nat 1) = x := by
  rw [scale_lift]; exact F2.mul_one x
theorem scale_zero (x : F2) : scale x (nat 0) = 0 := by
  rw [scale_lift]; exact F2.mul_zero x
theorem scale_mul (x y : F2) (a : F) : scale (x * y) a = y * scale x a := by rw [scale_lift, scale_lift, F2.mul_comm x y, F2.mul_assoc]
theorem bs_step (x : F2) (n : Nat) : ∀ m, bs x (n + 1) (m + 1) = bs x n (m + 1) + x * bs x n m
  | 0 => by rw [bs_succ, bs_succ, ch_zero, ch_zero]; simp only [bs]; rw [F2.mul_zero, F2.add_zero]
  | m + 1 => by
      rw [bs_succ x (n + 1) (m + 1), bs_step x n m, ch_succ, scale_nat_add, bs_succ x n (m + 1), bs_succ x n m, F2.mul_add, qpow_succ, scale_mul (qpow x m) x (nat (ch n m))]
      simp only [F2.add_assoc, F2.add_left, F2.add_comm]
theorem binomial (x : F2) : ∀ n, qpow (x + 1) n = bs x n (n + 1)
  | 0 => by rw [bs_succ]; simp only [bs, ch_zero, qpow_zero]; rw [scale_one, F2.zero_add]
  | n + 1 => by
      rw [qpow_succ, binomial x n, bs_step, bs_succ x n (n + 1), ch_far n (n + 1) (by omega), scale_zero, F2.add_zero, F2.mul_add, F2.mul_one, F2.mul_comm x, F2.add_comm]
theorem bs_P (x : F2) (n : Nat) (hn : n + 1 = 18446744069414584321) : ∀ m, m < 18446744069414584321 → bs x (n + 1) (m + 1) = 1
  | 0, _ => by rw [bs_succ, ch_zero, scale_one]; simp only [bs, qpow_zero]; rw [F2.zero_add]
  | m + 1, h => by
      rw [bs_succ, bs_P x n hn m (by omega), ch_P n m hn h]
      exact (congrArg _ (scale_zero _)).trans (F2.add_zero _)
theorem succ_P (x : F2) (n : Nat) (hn : n + 1 = 18446744069414584321) : qpow (x + 1) (n + 1) = qpow x (n + 1) + 1 := by
  rw [binomial, bs_succ, bs_P x n hn n (by omega), ch_self, scale_one, F2.add_comm]
theorem add_P (x y : F2) (hy : y ≠ 0) (n : Nat) (hn : n + 1 = 18446744069414584321) : qpow (x + y) (n + 1) = qpow x (n + 1) + qpow y (n + 1) := by
  have h := mul_qinv y hy
  have e1 : x + y = y * (qinv y * x + 1) := by
    rw [F2.mul_add, ← F2.mul_assoc, h, F2.one_mul, F2.mul_one]
  have e2 : qpow y (n + 1) * qpow (qinv y) (n + 1) = 1 := by rw [← mul_qpow, h, one_qpow]
  rw [e1, mul_qpow, succ_P _ n hn, F2.mul_add, F2.mul_one, mul_qpow, ← F2.mul_assoc, e2, F2.one_mul]
theorem fpow_P (a : F) (n : Nat) (hn : n + 1 = 18446744069414584321) : fpow a (n + 1) = a := by
  by_cases h : a = 0
  · rw [fpow_succ, h]; grind
  · have e : n = 18446744069414584320 := by omega
    rw [fpow_succ, e, fermat a h]; grind
theorem half_minus : fpow seven 9223372034707292160 = -1 := by rw [← fsq_eq 64 _ _ (by decide +kernel)]; decide +kernel
theorem u_sq : (⟨0, 1⟩ : F2) * ⟨0, 1⟩ = lift seven := by decide +kernel
theorem u_P (n : Nat) (hn : n + 1 = 18446744069414584321) : qpow ⟨0, 1⟩ (n + 1) = ⟨0, -1⟩ := by
  have e : n = 2 * 9223372034707292160 := by omega
  rw [qpow_succ, e, ← qpow_two, u_sq, lift_qpow, half_minus]
  decide +kernel
/-- A turn is the power P. -/
theorem turn_P (x : F2) (n : Nat) (hn : n + 1 = 18446744069414584321) : qpow x (n + 1) = turn x := by
  by_cases hb : x.b = 0
  · have e : x = lift x.a := F2.eq rfl hb
    rw [e, lift_qpow, fpow_P _ n hn]
    exact F2.eq rfl (by simp only [lift, turn]; grind)
  · have e : x = lift x.a + lift x.b * ⟨0, 1⟩ := F2.eq (by simp only [lift, F2.add_a, F2.mul_a]; grind) (by simp only [lift, F2.add_b, F2.mul_b]; grind)
    have hy : lift x.b * ⟨0, 1⟩ ≠ 0 := by
      intro h
      have := congrArg F2.b h
      simp only [lift, F2.mul_b, F2.zero_b] at this
      exact hb (by rw [← this]; grind)
    rw [show qpow x (n + 1) = qpow (lift x.a + lift x.b * ⟨0, 1⟩) (n + 1) by rw [← e], add_P _ _ hy n hn, mul_qpow, lift_qpow, lift_qpow, fpow_P _ n hn, fpow_P _ n hn, u_P n hn]
    exact F2.eq (by simp only [lift, turn, F2.add_a, F2.mul_a]; grind) (by simp only [lift, turn, F2.add_b, F2.mul_b]; grind)

/-- A power by squares: for reckoning. -/
theorem qpow_even (x : F2) (n : Nat) : qpow x (2 * n) = qpow (x * x) n := (qpow_two x n).symm
theorem qpow_odd (x : F2) (n : Nat) : qpow x (2 * n + 1) = qpow (x * x) n * x := by rw [qpow_succ, qpow_two]

def qsum : List F2 → F2
  | [] => 0
  | x :: l => x + qsum l
theorem qsum_append (l m : List F2) : qsum (l ++ m) = qsum l + qsum m := by
  induction l with
  | nil => rw [List.nil_append]; simp only [qsum]; rw [F2.zero_add]
  | cons x l ih => rw [List.cons_append]; simp only [qsum]; rw [ih, F2.add_assoc]
end Go.Proofs.Ytmgbdccfgbflnaa
