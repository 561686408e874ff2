/-
  Sums, polynomials and what they come to at roots of unity, and back, as plain mathematics (no Go in sight).
-/
import Derived.Test.YthmpojefoiojeaaDoorGRoot
namespace Go.Proofs.YthmpojefoiojeaaDoor
set_option linter.unusedVariables false

/-- The sum of the first n. -/
def sm : Nat → (Nat → F) → F
  | 0, _ => 0
  | n + 1, f => sm n f + f n
theorem sm_succ (n : Nat) (f : Nat → F) : sm (n + 1) f = sm n f + f n := rfl
theorem sm_congr {f g : Nat → F} : ∀ {n : Nat}, (∀ i, i < n → f i = g i) → sm n f = sm n g
  | 0, _ => rfl
  | n + 1, h => by rw [sm_succ, sm_succ, sm_congr (fun i hi => h i (by omega)), h n (by omega)]
theorem sm_add (f g : Nat → F) : ∀ n : Nat, sm n (fun i => f i + g i) = sm n f + sm n g
  | 0 => by simp only [sm]; grind
  | n + 1 => by rw [sm_succ, sm_succ, sm_succ, sm_add f g n]; grind
theorem sm_mul (a : F) (f : Nat → F) : ∀ n : Nat, sm n (fun i => a * f i) = a * sm n f
  | 0 => by simp only [sm]; grind
  | n + 1 => by rw [sm_succ, sm_succ, sm_mul a f n]; grind
theorem sm_zero : ∀ n : Nat, sm n (fun _ => 0) = 0
  | 0 => rfl
  | n + 1 => by rw [sm_succ, sm_zero n]; grind
theorem sm_none {f : Nat → F} {n : Nat} (h : ∀ i, i < n → f i = 0) : sm n f = 0 := by rw [sm_congr h, sm_zero]
theorem sm_swap (f : Nat → Nat → F) (m : Nat) : ∀ n : Nat, sm n (fun i => sm m (f i)) = sm m (fun j => sm n (fun i => f i j))
  | 0 => (sm_none (f := fun j => sm 0 (fun i => f i j)) (fun i _ => rfl)).symm
  | n + 1 => by rw [sm_succ, sm_swap f m n, ← sm_add]; rfl
theorem sm_one {f : Nat → F} {k : Nat} : ∀ {n : Nat}, k < n → (∀ i, i < n → i ≠ k → f i = 0) → sm n f = f k
  | n + 1, hk, h => by
    rw [sm_succ]
    by_cases e : k = n
    · subst e; rw [sm_none (fun i hi => h i (by omega) (by omega))]; grind
    · rw [sm_one (n := n) (by omega) (fun i hi hik => h i (by omega) hik), h n (by omega) (fun e' => e e'.symm)]; grind
theorem sm_first (f : Nat → F) : ∀ n : Nat, sm (n + 1) f = f 0 + sm n (fun i => f (i + 1))
  | 0 => by simp only [sm]; grind
  | n + 1 => by rw [sm_succ, sm_first f n, sm_succ]; grind
theorem sm_more {f : Nat → F} {n : Nat} : ∀ {m : Nat}, n ≤ m → (∀ i, n ≤ i → i < m → f i = 0) → sm m f = sm n f
  | 0, h, _ => by rw [show n = 0 by omega]
  | m + 1, h, hz => by
    by_cases e : n = m + 1
    · rw [e]
    · rw [sm_succ, sm_more (n := n) (m := m) (by omega) (fun i h1 h2 => hz i h1 (by omega)), hz m (by omega) (by omega)]; grind
/-- The even ones and the odd ones. -/
theorem sm_two (f : Nat → F) : ∀ n : Nat, sm (2 * n) f = sm n (fun i => f (2 * i)) + sm n (fun i => f (2 * i + 1))
  | 0 => by simp only [sm]; grind
  | n + 1 => by
    rw [show 2 * (n + 1) = 2 * n + 1 + 1 by omega, sm_succ, sm_succ, sm_two f n, sm_succ, sm_succ]; grind
theorem sm_cat (f : Nat → F) (n : Nat) : ∀ m : Nat, sm (n + m) f = sm n f + sm m (fun i => f (n + i))
  | 0 => by simp only [sm, Nat.add_zero]; grind
  | m + 1 => by rw [← Nat.add_assoc, sm_succ, sm_cat f n m, sm_succ]; grind

/-! Polynomials. -/
/-- A row's number at a place, in the field; 0 behind its end. -/
def co (zs : List Int) (j : Nat) : F := toF (zs.getD j 0)
theorem co_out (zs : List Int) (j : Nat) (h : zs.length ≤ j) : co zs j = 0 := by
  unfold co
  rw [show zs.getD j 0 = 0 by simp [List.getD, h]]
  decide
/-- What n coefficients come to. -/
def ev (n : Nat) (c : Nat → F) (x : F) : F := sm n (fun j => c j * fpow x j)
theorem ev_congr {n : Nat} {c d : Nat → F} {x : F} (h : ∀ j, j < n → c j = d j) : ev n c x = ev n d x := sm_congr fun j hj => by rw [h j hj]
theorem ev_more {n m : Nat} {c : Nat → F} (x : F) (h : n ≤ m) (hz : ∀ j, n ≤ j → c j = 0) : ev m c x = ev n c x := sm_more h fun i h1 _ => by rw [hz i h1]; grind
theorem ev_add (n : Nat) (c d : Nat → F) (x : F) : ev n (fun j => c j + d j) x = ev n c x + ev n d x := by
  unfold ev; rw [← sm_add]; exact sm_congr fun j _ => by grind
theorem ev_mul (n : Nat) (a : F) (c : Nat → F) (x : F) : ev n (fun j => a * c j) x = a * ev n c x := by
  unfold ev; rw [← sm_mul]; exact sm_congr fun j _ => by grind
theorem ev_shift (n : Nat) (c : Nat → F) (s x : F) : ev n (fun j => c j * fpow s j) x = ev n c (s * x) := by
  unfold ev; exact sm_congr fun j _ => by rw [mul_fpow]; grind
/-- From the j-th coefficient on, the highest one first (Horner). -/
def ho (n : Nat) (c : Nat → F) (x : F) (j : Nat) : F := ev (n - j) (fun i => c (j + i)) x
theorem ho_end (n : Nat) (c : Nat → F) (x : F) : ho n c x n = 0 := by unfold ho; rw [Nat.sub_self]; rfl
theorem ho_step (n : Nat) (c : Nat → F) (x : F) (j : Nat) (h : j < n) : ho n c x j = ho n c x (j + 1) * x + c j := by
  unfold ho ev
  rw [show n - j = (n - (j + 1)) + 1 by omega, sm_first, show ∀ a b : F, a * x + b = b + x * a by intro a b; grind, ← sm_mul]
  congr 1
  · simp only [fpow, Nat.add_zero]; grind
  · exact sm_congr fun i _ => by dsimp only; rw [fpow_succ, show j + (i + 1) = j + 1 + i by omega]; grind
theorem ho_zero (n : Nat) (c : Nat → F) (x : F) : ho n c x 0 = ev n c x := by
  unfold ho; rw [Nat.sub_zero]; exact ev_congr fun j _ => by rw [Nat.zero_add]

/-! Roots of unity. -/
theorem geo (z : F) : ∀ n : Nat, (z - 1) * sm n (fpow z) = fpow z n - 1
  | 0 => by simp only [sm, fpow]; grind
  | n + 1 => by
    have := geo z n
    rw [sm_succ, fpow_succ]
    grind
theorem fpow_sm_one : ∀ n : Nat, sm n (fpow 1) = nat n
  | 0 => rfl
  | n + 1 => by rw [sm_succ, fpow_sm_one n, one_fpow, nat_add]; rfl
/-- No two powers of a root below its order are one. -/
theorem root_inj (k : Nat) (hk : k ≤ 32) (i j : Nat) (hi : i < 2 ^ k) (hj : j < 2 ^ k) (h : fpow (rootOf k) i = fpow (rootOf k) j) : i = j := by
  unfold rootOf at h
  rw [← fpow_mul, ← fpow_mul] at h
  have hd : 18446744069414584320 / 2 ^ k * 2 ^ k = 18446744069414584320 := by
    have : ∀ k, k < 33 → 18446744069414584320 / 2 ^ k * 2 ^ k = 18446744069414584320 := by decide +kernel
    exact this k (by omega)
  have hp : 0 < 18446744069414584320 / 2 ^ k := by
    refine Nat.pos_of_ne_zero fun h0 => ?_
    rw [h0] at hd
    omega
  generalize 18446744069414584320 / 2 ^ k = d at *
  have b1 : d * i < d * 2 ^ k := Nat.mul_lt_mul_of_pos_left hi hp
  have b2 : d * j < d * 2 ^ k := Nat.mul_lt_mul_of_pos_left hj hp
  rw [hd] at b1 b2
  exact Nat.eq_of_mul_eq_mul_left hp (seven_inj _ _ b1 b2 h)
theorem root_ne (k : Nat) (hk : k ≤ 32) : rootOf k ≠ 0 := by
  intro h
  have := root_all k hk
  rw [h] at this
  cases e : 2 ^ k with
  | zero => have := Nat.two_pow_pos k; omega
  | succ n => rw [e, fpow_succ] at this; have h2 : (1 : F) = 0 := by rw [← this]; grind
              exact one_ne_zero h2
theorem fpow_finv {x : F} (hx : x ≠ 0) (j : Nat) : fpow x j * fpow (finv x) j = 1 := by
  rw [← mul_fpow, mul_finv x hx, one_fpow]
/-- All powers of a root by the inverse of others: they are 0 together, but where both are one. -/
theorem root_orth (k : Nat) (hk : k ≤ 32) (m j : Nat) (hm : m < 2 ^ k) (hj : j < 2 ^ k) :
    sm (2 ^ k) (fun i => fpow (rootOf k) (i * m) * fpow (finv (rootOf k)) (j * i)) = if m = j then nat (2 ^ k) else 0 := by
  have hne := root_ne k hk
  have e : ∀ i, fpow (rootOf k) (i * m) * fpow (finv (rootOf k)) (j * i) = fpow (fpow (rootOf k) m * fpow (finv (rootOf k)) j) i := by
    intro i
    rw [mul_fpow, ← fpow_mul, ← fpow_mul, Nat.mul_comm i m]
  rw [sm_congr (fun i _ => e i)]
  by_cases h : m = j
  · subst h
    rw [if_pos rfl, fpow_finv hne, ← fpow_sm_one]
  · rw [if_neg h]
    have hz : fpow (rootOf k) m * fpow (finv (rootOf k)) j ≠ 1 := by
      intro h1
      refine h (root_inj k hk m j hm hj ?_)
      have h2 := fpow_finv hne j
      calc fpow (rootOf k) m = fpow (rootOf k) m * (fpow (rootOf k) j * fpow (finv (rootOf k)) j) := by rw [h2]; grind
        _ = fpow (rootOf k) j * (fpow (rootOf k) m * fpow (finv (rootOf k)) j) := by grind
        _ = fpow (rootOf k) j := by rw [h1]; grind
    have hg := geo (fpow (rootOf k) m * fpow (finv (rootOf k)) j) (2 ^ k)
    have hN : fpow (fpow (rootOf k) m * fpow (finv (rootOf k)) j) (2 ^ k) = 1 := by
      have hw := root_all k hk
      rw [mul_fpow, ← fpow_mul, ← fpow_mul, Nat.mul_comm m, Nat.mul_comm j, fpow_mul, fpow_mul, hw]
      have hv : fpow (finv (rootOf k)) (2 ^ k) = 1 := by
        have := fpow_finv hne (2 ^ k)
        rw [hw] at this
        rw [← this]; grind
      rw [hv, one_fpow, one_fpow]; grind
    rw [hN] at hg
    have h0 : (fpow (rootOf k) m * fpow (finv (rootOf k)) j - 1) * sm (2 ^ k) (fpow (fpow (rootOf k) m * fpow (finv (rootOf k)) j)) = 0 := by rw [hg]; grind
    rcases mul_eq_zero h0 with h1 | h1
    · exfalso; apply hz
      generalize fpow (rootOf k) m * fpow (finv (rootOf k)) j = z at *
      grind
    · exact h1

/-- The points: the shift times a root's powers. -/
def pt (s : F) (k i : Nat) : F := s * fpow (rootOf k) i
theorem pt_zero (s : F) (k : Nat) : pt s k 0 = s := by unfold pt; rw [fpow_zero]; grind
theorem pt_succ (s : F) (k i : Nat) : pt s k (i + 1) = pt s k i * rootOf k := by unfold pt; rw [fpow_succ]; grind
theorem pt_half (s : F) (k i : Nat) (hk : k < 32) : pt s (k + 1) (2 * i) = pt s k i := by
  unfold pt; rw [fpow_mul]
  congr 2
  rw [show fpow (rootOf (k + 1)) 2 = rootOf (k + 1) * rootOf (k + 1) by simp only [fpow]; grind, root_sq k hk]
/-- From values at the points back to coefficients. -/
def bk (s : F) (k : Nat) (v : Nat → F) (j : Nat) : F := ev (2 ^ k) v (fpow (finv (rootOf k)) j) * (finv (nat (2 ^ k)) * fpow (finv s) j)
theorem nat_pow_ne (k : Nat) (hk : k ≤ 32) : nat (2 ^ k) ≠ 0 := by
  have : 2 ^ k ≤ 2 ^ 32 := Nat.pow_le_pow_right (by decide) hk
  exact nat_ne _ (Nat.two_pow_pos k) (by omega)
/-- Forth and back. -/
theorem bk_ev (s : F) (hs : s ≠ 0) (k : Nat) (hk : k ≤ 32) (c : Nat → F) (j : Nat) (hj : j < 2 ^ k) : bk s k (fun i => ev (2 ^ k) c (pt s k i)) j = c j := by
  have hn := mul_finv _ (nat_pow_ne k hk)
  have e1 : ev (2 ^ k) (fun i => ev (2 ^ k) c (pt s k i)) (fpow (finv (rootOf k)) j) = nat (2 ^ k) * (c j * fpow s j) := by
    unfold ev
    have e2 : ∀ i, sm (2 ^ k) (fun m => c m * fpow (pt s k i) m) * fpow (fpow (finv (rootOf k)) j) i = sm (2 ^ k) (fun m => (c m * fpow s m) * (fpow (rootOf k) (i * m) * fpow (finv (rootOf k)) (j * i))) := by
      intro i
      rw [show ∀ a b : F, a * b = b * a by intro a b; grind, ← sm_mul]
      refine sm_congr fun m _ => ?_
      unfold pt
      rw [mul_fpow, ← fpow_mul, ← fpow_mul]
      grind
    rw [sm_congr (fun i _ => e2 i), sm_swap]
    rw [sm_congr (g := fun m => (c m * fpow s m) * (if m = j then nat (2 ^ k) else 0)) (fun m hm => by rw [sm_mul, root_orth k hk m j hm hj])]
    rw [sm_one hj (fun i _ hij => by rw [if_neg hij]; grind), if_pos rfl]
    grind
  have h2 := fpow_finv hs j
  unfold bk
  rw [e1]
  generalize nat (2 ^ k) = n at *
  generalize finv n = n' at *
  generalize fpow s j = p at *
  generalize fpow (finv s) j = q at *
  grind
/-- Back and forth. -/
theorem ev_bk (s : F) (hs : s ≠ 0) (k : Nat) (hk : k ≤ 32) (v : Nat → F) (i : Nat) (hi : i < 2 ^ k) : ev (2 ^ k) (bk s k v) (pt s k i) = v i := by
  have hn := mul_finv _ (nat_pow_ne k hk)
  unfold ev
  have e2 : ∀ j, bk s k v j * fpow (pt s k i) j = finv (nat (2 ^ k)) * sm (2 ^ k) (fun m => v m * (fpow (rootOf k) (j * i) * fpow (finv (rootOf k)) (m * j))) := by
    intro j
    have h2 := fpow_finv hs j
    unfold bk pt ev
    generalize finv (nat (2 ^ k)) = n'
    rw [mul_fpow, ← fpow_mul, Nat.mul_comm i j]
    rw [show ∀ a n p s' w : F, s' * p = 1 → a * (n * p) * (s' * w) = n * (w * a) by intro a n p s' w h; grind]
    · rw [← sm_mul]
      refine congrArg (fun z => n' * z) (sm_congr fun m _ => ?_)
      rw [← fpow_mul, Nat.mul_comm j m]
      grind
    · exact h2
  rw [sm_congr (fun j _ => e2 j), sm_mul, sm_swap]
  rw [sm_congr (g := fun m => v m * (if i = m then nat (2 ^ k) else 0)) (fun m hm => by rw [sm_mul, root_orth k hk i m hi hm])]
  rw [sm_one hi (fun m _ hmi => by rw [if_neg (fun e => hmi e.symm)]; grind), if_pos rfl]
  generalize nat (2 ^ k) = n at *
  generalize finv n = n' at *
  grind
end Go.Proofs.YthmpojefoiojeaaDoor
