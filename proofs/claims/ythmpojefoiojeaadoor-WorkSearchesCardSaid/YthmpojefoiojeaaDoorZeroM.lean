/-
  Points of rows and of places, what is 0 there: the gap, the spots, all rows together. Plain mathematics (no Go in sight).
-/
import Derived.Test.YthmpojefoiojeaaDoorSums
import Derived.Test.YthmpojefoiojeaaDoorGNum
namespace Go.Proofs.YthmpojefoiojeaaDoor
set_option linter.unusedVariables false

/-- The point of a row. -/
def rw' (k i : Nat) : F := fpow (rootOf k) i
theorem rw_zero (k : Nat) : rw' k 0 = 1 := fpow_zero _
theorem rw_succ (k i : Nat) : rw' k (i + 1) = rootOf k * rw' k i := by unfold rw'; rw [fpow_succ]; grind
theorem rw_round (k i : Nat) (hk : k ≤ 32) : rw' k (i + 2 ^ k) = rw' k i := by unfold rw'; rw [fpow_add, root_all k hk]; grind
theorem rw_all (k i : Nat) (hk : k ≤ 32) : fpow (rw' k i) (2 ^ k) = 1 := by
  unfold rw'
  rw [← fpow_mul, Nat.mul_comm, fpow_mul, root_all k hk, one_fpow]
theorem rw_inj (k : Nat) (hk : k ≤ 32) (i j : Nat) (hi : i < 2 ^ k) (hj : j < 2 ^ k) : rw' k i = rw' k j ↔ i = j := ⟨root_inj k hk i j hi hj, fun h => h ▸ rfl⟩
theorem lift_inj {a b : F} : lift a = lift b ↔ a = b := ⟨fun h => congrArg F2.a h, fun h => h ▸ rfl⟩
theorem lift_one' : lift 1 = 1 := rfl
theorem lift_zero' : lift 0 = 0 := rfl
theorem lift_sub (a b : F) : lift (a - b) = lift a - lift b := F2.eq rfl (by simp only [lift, F2.sub_b]; grind)
theorem qsub_zero {x y : F2} : x - y = 0 ↔ x = y := by
  constructor
  · intro h
    have : x - y + y = y := by rw [h, F2.zero_add]
    rw [← this, F2.sub_eq, F2.add_assoc, F2.add_comm (-y), F2.add_neg, F2.add_zero]
  · rintro rfl; rw [F2.sub_eq, F2.add_neg]
/-- A row's point, to the power of all rows. -/
theorem row_all (k i : Nat) (hk : k ≤ 32) : qpow (lift (rw' k i)) (2 ^ k) = 1 := by rw [lift_qpow, rw_all k i hk]; rfl
/-- A product of the first n. -/
def pz : Nat → (Nat → F2) → F2
  | 0, _ => 1
  | n + 1, f => pz n f * f n
theorem pz_congr {f g : Nat → F2} : ∀ {n : Nat}, (∀ i, i < n → f i = g i) → pz n f = pz n g
  | 0, _ => rfl
  | n + 1, h => by
    show pz n f * f n = pz n g * g n
    rw [pz_congr (fun i hi => h i (by omega)), h n (by omega)]
theorem pz_add (f : Nat → F2) (n : Nat) : ∀ m : Nat, pz (n + m) f = pz n f * pz m (fun i => f (n + i))
  | 0 => (F2.mul_one _).symm
  | m + 1 => by
    show pz (n + m) f * f (n + m) = pz n f * (pz m (fun i => f (n + i)) * f (n + m))
    rw [pz_add f n m, F2.mul_assoc]
theorem pz_mul (f g : Nat → F2) : ∀ n : Nat, pz n (fun i => f i * g i) = pz n f * pz n g
  | 0 => (F2.mul_one _).symm
  | n + 1 => by
    show pz n (fun i => f i * g i) * (f n * g n) = pz n f * f n * (pz n g * g n)
    rw [pz_mul f g n, F2.mul_assoc, F2.mul_assoc, F2.mul_left (f n)]
theorem two_sq (x y : F2) : (x - y) * (x - -y) = x * x - y * y := by
  refine F2.eq ?_ ?_
  · simp only [F2.sub_a, F2.sub_b, F2.mul_a, F2.neg_a, F2.neg_b]; grind
  · simp only [F2.sub_a, F2.sub_b, F2.mul_b, F2.neg_a, F2.neg_b]; grind
theorem lift_neg (a : F) : lift (-a) = -lift a := F2.eq rfl (by simp only [lift, F2.neg_b]; grind)
/-- What is 0 at each row alone, all together. -/
theorem spots_all : ∀ (k : Nat), k ≤ 32 → ∀ x : F2, pz (2 ^ k) (fun i => x - lift (rw' k i)) = qpow x (2 ^ k) - 1
  | 0, _, x => by
    show 1 * (x - lift (rw' 0 0)) = qpow x 1 - 1
    rw [F2.one_mul, rw_zero, qpow_one]; rfl
  | k + 1, hk, x => by
    have ih := spots_all k (by omega) (x * x)
    rw [show 2 ^ (k + 1) = 2 ^ k + 2 ^ k by rw [Nat.pow_succ]; omega, pz_add, ← pz_mul]
    have e : pz (2 ^ k) (fun i => (x - lift (rw' (k + 1) i)) * (x - lift (rw' (k + 1) (2 ^ k + i)))) = pz (2 ^ k) (fun i => x * x - lift (rw' k i)) := by
      refine pz_congr fun i _ => ?_
      have h1 : rw' (k + 1) (2 ^ k + i) = -rw' (k + 1) i := by unfold rw'; rw [fpow_add, root_half k (by omega)]; grind
      have h2 : rw' k i = rw' (k + 1) i * rw' (k + 1) i := by
        unfold rw'
        rw [← root_sq k (by omega), ← mul_fpow]
      rw [h1, lift_neg, two_sq, h2, lift_mul]
    rw [e, ih]
    congr 1
    rw [qpow_two, Nat.two_mul]
/-- The place. -/
def pla (k i : Nat) : F := 7 * rw' k i
theorem pla_succ (k i : Nat) : pla k (i + 1) = rootOf k * pla k i := by unfold pla; rw [rw_succ]; grind
theorem seven_ne0 : (7 : F) ≠ 0 := by decide +kernel
/-- A place, 7 times less. -/
theorem pla_down (k i : Nat) (s : F) (hs : 7 * s = 1) : scale (lift (pla k i)) s = lift (rw' k i) := by
  rw [scale_lift, ← lift_mul]
  congr 1
  unfold pla
  calc 7 * rw' k i * s = (7 * s) * rw' k i := by grind
    _ = rw' k i := by rw [hs]; grind
/-- The gap. -/
def last (k : Nat) : F := rw' k (2 ^ k - 1)
def gapv (x : F2) (k : Nat) : F2 := (qpow x (2 ^ k) - 1) * qinv (x - lift (last k))
theorem gap_mul (x : F2) (k : Nat) (h : x - lift (last k) ≠ 0) : gapv x k * (x - lift (last k)) = qpow x (2 ^ k) - 1 := by
  unfold gapv
  rw [F2.mul_assoc, F2.mul_comm (qinv _), mul_qinv _ h, F2.mul_one]
theorem gap_row (k i : Nat) (hk : k ≤ 32) : gapv (lift (rw' k i)) k = 0 := by
  unfold gapv
  rw [row_all k i hk, qsub_zero.2 rfl, F2.zero_mul]
theorem row_last (k i : Nat) (hk : k ≤ 32) (hi : i < 2 ^ k) : lift (rw' k i) - lift (last k) = 0 ↔ i = 2 ^ k - 1 := by
  rw [qsub_zero, lift_inj]
  exact rw_inj k hk i _ hi (by have := Nat.two_pow_pos k; omega)
theorem spot_row (k i j : Nat) (hk : k ≤ 32) (hi : i < 2 ^ k) (hj : j < 2 ^ k) : lift (rw' k i) - lift (rw' k j) = 0 ↔ i = j := by
  rw [qsub_zero, lift_inj]
  exact rw_inj k hk i j hi hj
end Go.Proofs.YthmpojefoiojeaaDoor
