/-
  Butterflies: what 2^k coefficients, their places' bits the other way round, come to stage by stage, as plain mathematics (no Go in sight).
-/
import Derived.Test.YtflabonifbhmnaaDoorSums
namespace Go.Proofs.YtflabonifbhmnaaDoor
set_option linter.unusedVariables false

theorem rv_twice : ∀ (K b r : Nat), r < 2 → rv (K + 1) (2 * b + r) = r * 2 ^ K + rv K b
  | 0, b, r, h => by simp only [rv, Nat.pow_zero]; omega
  | K + 1, b, r, h => by
    have ih := rv_twice K b r h
    have e : (2 * b + r) / 2 ^ (K + 1) = b / 2 ^ K := by
      rw [Nat.pow_succ, Nat.mul_comm (2 ^ K) 2, ← Nat.div_div_eq_div_mul]
      congr 1; omega
    rw [rv_succ (K + 1), ih, rv_succ K b, e, Nat.pow_succ]
    generalize 2 ^ K = p
    have : r = 0 ∨ r = 1 := by omega
    rcases this with rfl | rfl <;> omega
theorem rv_zero' : ∀ K, rv K 0 = 0
  | 0 => rfl
  | K + 1 => by rw [rv_succ, rv_zero' K]; simp

/-- What stands at a place behind o stages. -/
def st (k o : Nat) (c : Nat → F) (p : Nat) : F := sm (2 ^ o) (fun m => c (m * 2 ^ (k - o) + rv (k - o) (p / 2 ^ o)) * fpow (rootOf o) (m * (p % 2 ^ o)))
theorem st_zero (k : Nat) (c : Nat → F) (p : Nat) : st k 0 c p = c (rv k p) := by
  unfold st
  simp only [Nat.pow_zero, Nat.div_one, Nat.sub_zero, sm, Nat.zero_mul, Nat.zero_add, fpow]
  grind
theorem st_last (k : Nat) (c : Nat → F) (p : Nat) (hp : p < 2 ^ k) : st k k c p = ev (2 ^ k) c (fpow (rootOf k) p) := by
  unfold st ev
  refine sm_congr fun m _ => ?_
  rw [Nat.sub_self, Nat.div_eq_of_lt hp, rv_zero', Nat.mod_eq_of_lt hp, Nat.pow_zero, Nat.mul_one, Nat.add_zero, Nat.mul_comm m p, fpow_mul]

/-- One stage, at all places: halves of h values, by powers of w. -/
def bf {M : Type} (add sub : M → M → M) (sc : M → F → M) (h : Nat) (w : F) (x : Nat → M) (p : Nat) : M :=
  if p % (2 * h) < h then add (x p) (sc (x (p + h)) (fpow w (p % (2 * h)))) else sub (x (p - h)) (sc (x p) (fpow w (p % (2 * h) - h)))

theorem st_half (k o b j J : Nat) (c : Nat → F) (ho : o < k) (hk : k ≤ 32) (hJ : fpow (rootOf o) J = fpow (rootOf o) j) :
    sm (2 ^ (o + 1)) (fun m => c (m * 2 ^ (k - (o + 1)) + rv (k - (o + 1)) b) * fpow (rootOf (o + 1)) (m * J)) =
      sm (2 ^ o) (fun m => c (m * 2 ^ (k - o) + rv (k - o) (2 * b)) * fpow (rootOf o) (m * j)) +
      fpow (rootOf (o + 1)) J * sm (2 ^ o) (fun m => c (m * 2 ^ (k - o) + rv (k - o) (2 * b + 1)) * fpow (rootOf o) (m * j)) := by
  obtain ⟨K, hK⟩ : ∃ K, k = o + 1 + K := ⟨k - (o + 1), by omega⟩
  have e1 : k - (o + 1) = K := by omega
  have e2 : k - o = K + 1 := by omega
  rw [e1, e2, Nat.pow_succ, Nat.mul_comm (2 ^ o) 2, sm_two, ← sm_mul]
  have r0 := rv_twice K b 0 (by omega)
  have r1 := rv_twice K b 1 (by omega)
  simp only [Nat.add_zero, Nat.zero_mul, Nat.zero_add, Nat.one_mul] at r0 r1
  have q : ∀ m, fpow (rootOf (o + 1)) (2 * m * J) = fpow (rootOf o) (m * j) := by
    intro m
    rw [show 2 * m * J = 2 * (J * m) by rw [Nat.mul_assoc, Nat.mul_comm m J], fpow_mul, show fpow (rootOf (o + 1)) 2 = rootOf (o + 1) * rootOf (o + 1) by simp only [fpow]; grind, root_sq o (by omega), fpow_mul, hJ, ← fpow_mul, Nat.mul_comm]
  congr 1
  · refine sm_congr fun m _ => ?_
    rw [r0, q, show 2 * m * 2 ^ K = m * 2 ^ (K + 1) by rw [Nat.pow_succ, Nat.mul_comm 2 m, Nat.mul_assoc, Nat.mul_comm 2]]
  · refine sm_congr fun m _ => ?_
    rw [r1, show (2 * m + 1) * J = 2 * m * J + J by rw [Nat.add_mul, Nat.one_mul], fpow_add, q, show (2 * m + 1) * 2 ^ K + rv K b = m * 2 ^ (K + 1) + (2 ^ K + rv K b) by rw [Nat.pow_succ, Nat.add_mul, Nat.one_mul, Nat.mul_comm 2 m, Nat.mul_assoc, Nat.mul_comm 2]; omega]
    grind

theorem bf_st (k o : Nat) (c : Nat → F) (ho : o < k) (hk : k ≤ 32) (p : Nat) :
    bf (· + ·) (· - ·) (· * ·) (2 ^ o) (rootOf (o + 1)) (st k o c) p = st k (o + 1) c p := by
  have h0 : 0 < 2 ^ o := Nat.two_pow_pos o
  have hw := root_half o (by omega)
  have ha := root_all o (by omega)
  have hp : p = 2 ^ (o + 1) * (p / 2 ^ (o + 1)) + p % 2 ^ (o + 1) := (Nat.div_add_mod _ _).symm
  have hlt : p % 2 ^ (o + 1) < 2 ^ (o + 1) := Nat.mod_lt _ (Nat.two_pow_pos _)
  have e2 : 2 * 2 ^ o = 2 ^ (o + 1) := by rw [Nat.pow_succ, Nat.mul_comm]
  unfold bf
  rw [e2]
  generalize hb : p / 2 ^ (o + 1) = b at *
  generalize hj : p % 2 ^ (o + 1) = j at *
  rw [← e2] at hp hlt
  have dm : ∀ r i, r < 2 → i < 2 ^ o → (2 * 2 ^ o * b + (r * 2 ^ o + i)) / 2 ^ o = 2 * b + r ∧ (2 * 2 ^ o * b + (r * 2 ^ o + i)) % 2 ^ o = i := by
    intro r i hr hi
    have : 2 * 2 ^ o * b + (r * 2 ^ o + i) = 2 ^ o * (2 * b + r) + i := by
      rw [Nat.mul_add, Nat.mul_comm 2 (2 ^ o), Nat.mul_assoc, Nat.mul_comm r]; omega
    rw [this, Nat.mul_add_div h0, Nat.mul_add_mod, Nat.div_eq_of_lt hi, Nat.mod_eq_of_lt hi]
    exact ⟨rfl, rfl⟩
  by_cases c1 : j < 2 ^ o
  · rw [if_pos c1]
    have d0 := dm 0 j (by omega) c1
    have d1 := dm 1 j (by omega) c1
    rw [show 0 * 2 ^ o + j = j by omega, ← hp] at d0
    rw [show 2 * 2 ^ o * b + (1 * 2 ^ o + j) = p + 2 ^ o by omega] at d1
    have main := st_half k o b j j c ho hk rfl
    unfold st
    rw [hb, hj, d0.1, d0.2, d1.1, d1.2, main, Nat.add_zero]
    grind
  · rw [if_neg c1]
    obtain ⟨i, rfl⟩ : ∃ i, j = 2 ^ o + i := ⟨j - 2 ^ o, by omega⟩
    have d0 := dm 0 i (by omega) (by omega)
    have d1 := dm 1 i (by omega) (by omega)
    rw [show 2 * 2 ^ o * b + (1 * 2 ^ o + i) = p by omega] at d1
    rw [show 2 * 2 ^ o * b + (0 * 2 ^ o + i) = p - 2 ^ o by omega] at d0
    have hJ : fpow (rootOf o) (2 ^ o + i) = fpow (rootOf o) i := by rw [fpow_add, ha]; grind
    have main := st_half k o b i (2 ^ o + i) c ho hk hJ
    unfold st
    rw [hb, hj, d0.1, d0.2, d1.1, d1.2, main, fpow_add, hw, Nat.add_zero, show 2 ^ o + i - 2 ^ o = i by omega]
    grind

/-- A stage under way: done where the place in its half is below j, or is j in the first t blocks. -/
def bfp {M : Type} (add sub : M → M → M) (sc : M → F → M) (h : Nat) (w : F) (x : Nat → M) (j t p : Nat) : M :=
  if p % h < j ∨ (p % h = j ∧ p / (2 * h) < t) then bf add sub sc h w x p else x p
theorem bfp_start {M : Type} (add sub : M → M → M) (sc : M → F → M) (h : Nat) (w : F) (x : Nat → M) (p : Nat) : bfp add sub sc h w x 0 0 p = x p := by
  unfold bfp; rw [if_neg (by rintro (h1 | ⟨_, h1⟩) <;> exact absurd h1 (Nat.not_lt_zero _))]
theorem bfp_end {M : Type} (add sub : M → M → M) (sc : M → F → M) (h : Nat) (w : F) (x : Nat → M) (p : Nat) (h0 : 0 < h) : bfp add sub sc h w x h 0 p = bf add sub sc h w x p := by
  unfold bfp; rw [if_pos (Or.inl (Nat.mod_lt _ h0))]
theorem bfp_next {M : Type} (add sub : M → M → M) (sc : M → F → M) (h : Nat) (w : F) (x : Nat → M) (j T p : Nat) (hp : p < T * (2 * h)) : bfp add sub sc h w x j T p = bfp add sub sc h w x (j + 1) 0 p := by
  have : p / (2 * h) < T := by
    rcases Nat.eq_zero_or_pos h with rfl | h0
    · simp at hp
    · exact (Nat.div_lt_iff_lt_mul (by omega)).2 hp
  unfold bfp
  generalize p / (2 * h) = q at *
  by_cases c1 : p % h < j + 1
  · rw [if_pos (by omega), if_pos (by omega)]
  · rw [if_neg (by omega), if_neg (by omega)]
/-- Where p stands: its block, its half and its place there. -/
theorem place (h p : Nat) (h0 : 0 < h) : ∃ r, r < 2 ∧ p % (2 * h) = r * h + p % h ∧ p = p / (2 * h) * (2 * h) + (r * h + p % h) := by
  refine ⟨p / h % 2, Nat.mod_lt _ (by decide), ?_, ?_⟩
  · rw [Nat.mul_comm 2 h, Nat.mod_mul, Nat.mul_comm (p / h % 2)]; omega
  · have e : p % (2 * h) = p / h % 2 * h + p % h := by rw [Nat.mul_comm 2 h, Nat.mod_mul, Nat.mul_comm (p / h % 2)]; omega
    rw [← e, Nat.mul_comm (p / (2 * h))]; exact (Nat.div_add_mod _ _).symm
theorem place_at (h j t r : Nat) (hj : j < h) (hr : r < 2) : (j + t * (2 * h) + r * h) % h = j ∧ (j + t * (2 * h) + r * h) / (2 * h) = t ∧ (j + t * (2 * h) + r * h) % (2 * h) = r * h + j := by
  have h0 : 0 < h := by omega
  have e1 : j + t * (2 * h) + r * h = h * (2 * t + r) + j := by
    rw [Nat.mul_add, Nat.mul_comm h (2 * t), Nat.mul_assoc 2 t h, ← Nat.mul_assoc t 2 h, Nat.mul_comm t 2, Nat.mul_assoc 2 t h, Nat.mul_comm h r]; omega
  have e2 : j + t * (2 * h) + r * h = 2 * h * t + (r * h + j) := by rw [Nat.mul_comm t]; omega
  have lt : r * h + j < 2 * h := by
    have : r = 0 ∨ r = 1 := by omega
    rcases this with rfl | rfl <;> omega
  refine ⟨by rw [e1, Nat.mul_add_mod, Nat.mod_eq_of_lt hj], ?_, ?_⟩
  · rw [e2, Nat.mul_add_div (by omega), Nat.div_eq_of_lt lt, Nat.add_zero]
  · rw [e2, Nat.mul_add_mod, Nat.mod_eq_of_lt lt]
/-- One exchange. -/
theorem bfp_step {M : Type} (add sub : M → M → M) (sc : M → F → M) (h : Nat) (w : F) (x : Nat → M) (j t : Nat) (hj : j < h) (p : Nat) :
    bfp add sub sc h w x j (t + 1) p = if p = j + t * (2 * h) + h then sub (x (j + t * (2 * h))) (sc (x (j + t * (2 * h) + h)) (fpow w j)) else if p = j + t * (2 * h) then add (x (j + t * (2 * h))) (sc (x (j + t * (2 * h) + h)) (fpow w j)) else bfp add sub sc h w x j t p := by
  have h0 : 0 < h := by omega
  by_cases c1 : p = j + t * (2 * h) + h
  · have a := place_at h j t 1 hj (by omega)
    rw [Nat.one_mul, ← c1] at a
    rw [if_pos c1]
    unfold bfp bf
    rw [if_pos (Or.inr ⟨a.1, by omega⟩), if_neg (by omega), a.2.2, show p - h = j + t * (2 * h) by omega, show h + j - h = j by omega, c1]
  · rw [if_neg c1]
    by_cases c2 : p = j + t * (2 * h)
    · have a := place_at h j t 0 hj (by omega)
      rw [Nat.zero_mul, Nat.add_zero, ← c2] at a
      rw [if_pos c2]
      unfold bfp bf
      rw [if_pos (Or.inr ⟨a.1, by omega⟩), if_pos (by omega), a.2.2, Nat.zero_add, c2]
    · rw [if_neg c2]
      unfold bfp
      by_cases c3 : p % h < j ∨ (p % h = j ∧ p / (2 * h) < t)
      · rw [if_pos c3, if_pos (by omega)]
      · rw [if_neg c3, if_neg]
        intro c4
        obtain ⟨r, hr, _, e⟩ := place h p h0
        have e1 : p % h = j := by omega
        have e2 : p / (2 * h) = t := by omega
        rw [e1, e2] at e
        have : r = 0 ∨ r = 1 := by omega
        rcases this with rfl | rfl <;> omega
/-- Just that step's two places were as they came. -/
theorem bfp_fresh {M : Type} (add sub : M → M → M) (sc : M → F → M) (h : Nat) (w : F) (x : Nat → M) (j t : Nat) (hj : j < h) : bfp add sub sc h w x j t (j + t * (2 * h)) = x (j + t * (2 * h)) ∧ bfp add sub sc h w x j t (j + t * (2 * h) + h) = x (j + t * (2 * h) + h) := by
  have a := place_at h j t 0 hj (by omega)
  have b := place_at h j t 1 hj (by omega)
  rw [Nat.zero_mul, Nat.add_zero] at a
  rw [Nat.one_mul] at b
  exact ⟨if_neg (by omega), if_neg (by omega)⟩

/-- Places that change with their bits the other way round: those below i, and theirs, have. -/
def tu {M : Type} (k : Nat) (x : Nat → M) (i p : Nat) : M := if p < i ∨ rv k p < i then x (rv k p) else x p
theorem rv_self (k p : Nat) (hp : p < 2 ^ k) : rv k (rv k p) = p := by rw [rv_rv, Nat.mod_eq_of_lt hp]
theorem tu_start {M : Type} (k : Nat) (x : Nat → M) (p : Nat) : tu k x 0 p = x p := by unfold tu; rw [if_neg (by omega)]
theorem tu_end {M : Type} (k : Nat) (x : Nat → M) (p : Nat) (hp : p < 2 ^ k) : tu k x (2 ^ k) p = x (rv k p) := by unfold tu; rw [if_pos (Or.inl hp)]
theorem tu_stay {M : Type} (k : Nat) (x : Nat → M) (i p : Nat) (hi : i < 2 ^ k) (hp : p < 2 ^ k) (h : rv k i ≤ i) : tu k x (i + 1) p = tu k x i p := by
  unfold tu
  by_cases c1 : p < i ∨ rv k p < i
  · rw [if_pos c1, if_pos (by omega)]
  · rw [if_neg c1]
    by_cases c2 : p < i + 1 ∨ rv k p < i + 1
    · rw [if_pos c2]
      rcases (by omega : p = i ∨ rv k p = i) with e | e
      · subst e; rw [show rv k p = p by omega]
      · have e2 := rv_self k p hp
        rw [e] at e2 ⊢
        rw [show p = i by omega]
    · rw [if_neg c2]
theorem tu_swap {M : Type} (k : Nat) (x : Nat → M) (i p : Nat) (hi : i < 2 ^ k) (hp : p < 2 ^ k) (h : i < rv k i) : tu k x (i + 1) p = if p = rv k i then x i else if p = i then x (rv k i) else tu k x i p := by
  by_cases c1 : p = rv k i
  · rw [if_pos c1]
    unfold tu
    rw [c1, rv_self k i hi, if_pos (by omega)]
  · rw [if_neg c1]
    by_cases c2 : p = i
    · rw [if_pos c2, c2]; unfold tu; rw [if_pos (by omega)]
    · rw [if_neg c2]
      unfold tu
      by_cases c3 : p < i ∨ rv k p < i
      · rw [if_pos c3, if_pos (by omega)]
      · rw [if_neg c3, if_neg]
        intro c4
        have e : rv k p = i := by omega
        have := rv_self k p hp
        rw [e] at this
        exact c1 this.symm
theorem tu_fresh {M : Type} (k : Nat) (x : Nat → M) (i : Nat) (hi : i < 2 ^ k) (h : i < rv k i) : tu k x i i = x i ∧ tu k x i (rv k i) = x (rv k i) := by
  unfold tu
  rw [if_neg (by omega), rv_self k i hi, if_neg (by omega)]
  exact ⟨rfl, rfl⟩

/-- All stages. -/
def ar {M : Type} (add sub : M → M → M) (sc : M → F → M) (k : Nat) (x : Nat → M) : Nat → Nat → M
  | 0 => fun p => x (rv k p)
  | o + 1 => bf add sub sc (2 ^ o) (rootOf (o + 1)) (ar add sub sc k x o)
theorem bf_congr {M : Type} {add sub : M → M → M} {sc : M → F → M} {h : Nat} {w : F} {x y : Nat → M} (p : Nat) (hxy : ∀ p, x p = y p) : bf add sub sc h w x p = bf add sub sc h w y p := by
  unfold bf; rw [hxy, hxy, hxy]
theorem ar_st (k : Nat) (hk : k ≤ 32) (c : Nat → F) : ∀ o, o ≤ k → ∀ p, ar (· + ·) (· - ·) (· * ·) k c o p = st k o c p
  | 0, _, p => (st_zero k c p).symm
  | o + 1, ho, p => by
    show bf _ _ _ _ _ _ p = _
    rw [bf_congr p (ar_st k hk c o (by omega)), bf_st k o c (by omega) hk p]
theorem ar_ev (k : Nat) (hk : k ≤ 32) (c : Nat → F) (p : Nat) (hp : p < 2 ^ k) : ar (· + ·) (· - ·) (· * ·) k c k p = ev (2 ^ k) c (fpow (rootOf k) p) := by
  rw [ar_st k hk c k (Nat.le_refl _) p, st_last k c p hp]
/-- Pairs: part by part. -/
theorem ar_a (k : Nat) (x : Nat → F2) : ∀ o p, (ar (· + ·) (· - ·) scale k x o p).a = ar (· + ·) (· - ·) (· * ·) k (fun i => (x i).a) o p
  | 0, p => rfl
  | o + 1, p => by
    show F2.a (bf _ _ _ _ _ _ p) = bf _ _ _ _ _ _ p
    unfold bf
    rw [← ar_a k x o p, ← ar_a k x o (p + _), ← ar_a k x o (p - _)]
    split <;> rfl
theorem ar_b (k : Nat) (x : Nat → F2) : ∀ o p, (ar (· + ·) (· - ·) scale k x o p).b = ar (· + ·) (· - ·) (· * ·) k (fun i => (x i).b) o p
  | 0, p => rfl
  | o + 1, p => by
    show F2.b (bf _ _ _ _ _ _ p) = bf _ _ _ _ _ _ p
    unfold bf
    rw [← ar_b k x o p, ← ar_b k x o (p + _), ← ar_b k x o (p - _)]
    split <;> rfl
end Go.Proofs.YtflabonifbhmnaaDoor
