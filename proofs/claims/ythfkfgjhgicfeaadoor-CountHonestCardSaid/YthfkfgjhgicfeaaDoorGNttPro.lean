/-
  Butter: Butterflies: what 2^k coefficients, their places' bits the other way round, come to stage by stage, as plain mathematics (no Go in sight).
  NttTurn: What ntt.turn comes to: each number, and each pair, where the bits of its place, the other way round, tell.
  NttRise: What the method rise comes to: each number, and each pair, times a first number and as many of another as stand ahead of it.
  LibRow: What slices.Clone and slices.Reverse come to, of numbers and of pairs.
  NttFly: What the method butterflies comes to: one stage.
  NttAround: What the method around comes to: all stages.
  Repeat: What slices.Repeat comes to, of one 1.
  NttMath: Forth and back by stages are what the document says, as plain mathematics (no Go in sight).
  NttAny: What the program's calls of layer 4 come to: Points, Forth, Back, ForthPairs, BackPairs.
-/
import Derived.Test.YthfkfgjhgicfeaaDoorGNtt
import Derived.Test.YthfkfgjhgicfeaaDoorGRow
import Derived.Test.YthfkfgjhgicfeaaDoorGRoot
import Derived.RegionTactic
import Derived.Test.YthfkfgjhgicfeaaDoorGNum
import Derived.Lib.SliceRun
import Derived.Test.YthfkfgjhgicfeaaDoorGFold
import Derived.Deep.QuietTactic
import Derived.BigQuiet
import Derived.IntWalk
import Derived.Deep.RegionHeld3
import Derived.Deep.DeepCutAuto
namespace Go.Proofs.YthfkfgjhgicfeaaDoor
set_option linter.unusedVariables false

theorem rv_twice : ∀ (K b r : Nat), r < 2 → rv (K + 1) (2 * b + r) = r * 2 ^ K + rv K b
  | 0, b, r, h => by simp only [rv, Nat.pow_zero]; omega
  | K + 1, b, r, h => by
    have ih := rv_twice K b r h
    have e : (2 * b + r) / 2 ^ (K + 1) = b / 2 ^ K := by
      rw [Nat.pow_succ, Nat.mul_comm (2 ^ K) 2, ← Nat.div_div_eq_div_mul]
      congr 1; omega
    rw [rv_succ (K + 1), ih, rv_succ K b, e, Nat.pow_succ]
    generalize 2 ^ K = p
    have : r = 0 ∨ r = 1 := by omega
    rcases this with rfl | rfl <;> omega
theorem rv_zero' : ∀ K, rv K 0 = 0
  | 0 => rfl
  | K + 1 => by rw [rv_succ, rv_zero' K]; simp

/-- What stands at a place behind o stages. -/
def st (k o : Nat) (c : Nat → F) (p : Nat) : F := sm (2 ^ o) (fun m => c (m * 2 ^ (k - o) + rv (k - o) (p / 2 ^ o)) * fpow (rootOf o) (m * (p % 2 ^ o)))
theorem st_zero (k : Nat) (c : Nat → F) (p : Nat) : st k 0 c p = c (rv k p) := by
  unfold st
  simp only [Nat.pow_zero, Nat.div_one, Nat.sub_zero, sm, Nat.zero_mul, Nat.zero_add, fpow]
  grind
theorem st_last (k : Nat) (c : Nat → F) (p : Nat) (hp : p < 2 ^ k) : st k k c p = ev (2 ^ k) c (fpow (rootOf k) p) := by
  unfold st ev
  refine sm_congr fun m _ => ?_
  rw [Nat.sub_self, Nat.div_eq_of_lt hp, rv_zero', Nat.mod_eq_of_lt hp, Nat.pow_zero, Nat.mul_one, Nat.add_zero, Nat.mul_comm m p, fpow_mul]

/-- One stage, at all places: halves of h values, by powers of w. -/
def bf {M : Type} (add sub : M → M → M) (sc : M → F → M) (h : Nat) (w : F) (x : Nat → M) (p : Nat) : M :=
  if p % (2 * h) < h then add (x p) (sc (x (p + h)) (fpow w (p % (2 * h)))) else sub (x (p - h)) (sc (x p) (fpow w (p % (2 * h) - h)))

theorem st_half (k o b j J : Nat) (c : Nat → F) (ho : o < k) (hk : k ≤ 32) (hJ : fpow (rootOf o) J = fpow (rootOf o) j) :
    sm (2 ^ (o + 1)) (fun m => c (m * 2 ^ (k - (o + 1)) + rv (k - (o + 1)) b) * fpow (rootOf (o + 1)) (m * J)) =
      sm (2 ^ o) (fun m => c (m * 2 ^ (k - o) + rv (k - o) (2 * b)) * fpow (rootOf o) (m * j)) +
      fpow (rootOf (o + 1)) J * sm (2 ^ o) (fun m => c (m * 2 ^ (k - o) + rv (k - o) (2 * b + 1)) * fpow (rootOf o) (m * j)) := by
  obtain ⟨K, hK⟩ : ∃ K, k = o + 1 + K := ⟨k - (o + 1), by omega⟩
  have e1 : k - (o + 1) = K := by omega
  have e2 : k - o = K + 1 := by omega
  rw [e1, e2, Nat.pow_succ, Nat.mul_comm (2 ^ o) 2, sm_two, ← sm_mul]
  have r0 := rv_twice K b 0 (by omega)
  have r1 := rv_twice K b 1 (by omega)
  simp only [Nat.add_zero, Nat.zero_mul, Nat.zero_add, Nat.one_mul] at r0 r1
  have q : ∀ m, fpow (rootOf (o + 1)) (2 * m * J) = fpow (rootOf o) (m * j) := by
    intro m
    rw [show 2 * m * J = 2 * (J * m) by rw [Nat.mul_assoc, Nat.mul_comm m J], fpow_mul, show fpow (rootOf (o + 1)) 2 = rootOf (o + 1) * rootOf (o + 1) by simp only [fpow]; grind, root_sq o (by omega), fpow_mul, hJ, ← fpow_mul, Nat.mul_comm]
  congr 1
  · refine sm_congr fun m _ => ?_
    rw [r0, q, show 2 * m * 2 ^ K = m * 2 ^ (K + 1) by rw [Nat.pow_succ, Nat.mul_comm 2 m, Nat.mul_assoc, Nat.mul_comm 2]]
  · refine sm_congr fun m _ => ?_
    rw [r1, show (2 * m + 1) * J = 2 * m * J + J by rw [Nat.add_mul, Nat.one_mul], fpow_add, q, show (2 * m + 1) * 2 ^ K + rv K b = m * 2 ^ (K + 1) + (2 ^ K + rv K b) by rw [Nat.pow_succ, Nat.add_mul, Nat.one_mul, Nat.mul_comm 2 m, Nat.mul_assoc, Nat.mul_comm 2]; omega]
    grind

theorem bf_st (k o : Nat) (c : Nat → F) (ho : o < k) (hk : k ≤ 32) (p : Nat) :
    bf (· + ·) (· - ·) (· * ·) (2 ^ o) (rootOf (o + 1)) (st k o c) p = st k (o + 1) c p := by
  have h0 : 0 < 2 ^ o := Nat.two_pow_pos o
  have hw := root_half o (by omega)
  have ha := root_all o (by omega)
  have hp : p = 2 ^ (o + 1) * (p / 2 ^ (o + 1)) + p % 2 ^ (o + 1) := (Nat.div_add_mod _ _).symm
  have hlt : p % 2 ^ (o + 1) < 2 ^ (o + 1) := Nat.mod_lt _ (Nat.two_pow_pos _)
  have e2 : 2 * 2 ^ o = 2 ^ (o + 1) := by rw [Nat.pow_succ, Nat.mul_comm]
  unfold bf
  rw [e2]
  generalize hb : p / 2 ^ (o + 1) = b at *
  generalize hj : p % 2 ^ (o + 1) = j at *
  rw [← e2] at hp hlt
  have dm : ∀ r i, r < 2 → i < 2 ^ o → (2 * 2 ^ o * b + (r * 2 ^ o + i)) / 2 ^ o = 2 * b + r ∧ (2 * 2 ^ o * b + (r * 2 ^ o + i)) % 2 ^ o = i := by
    intro r i hr hi
    have : 2 * 2 ^ o * b + (r * 2 ^ o + i) = 2 ^ o * (2 * b + r) + i := by
      rw [Nat.mul_add, Nat.mul_comm 2 (2 ^ o), Nat.mul_assoc, Nat.mul_comm r]; omega
    rw [this, Nat.mul_add_div h0, Nat.mul_add_mod, Nat.div_eq_of_lt hi, Nat.mod_eq_of_lt hi]
    exact ⟨rfl, rfl⟩
  by_cases c1 : j < 2 ^ o
  · rw [if_pos c1]
    have d0 := dm 0 j (by omega) c1
    have d1 := dm 1 j (by omega) c1
    rw [show 0 * 2 ^ o + j = j by omega, ← hp] at d0
    rw [show 2 * 2 ^ o * b + (1 * 2 ^ o + j) = p + 2 ^ o by omega] at d1
    have main := st_half k o b j j c ho hk rfl
    unfold st
    rw [hb, hj, d0.1, d0.2, d1.1, d1.2, main, Nat.add_zero]
    grind
  · rw [if_neg c1]
    obtain ⟨i, rfl⟩ : ∃ i, j = 2 ^ o + i := ⟨j - 2 ^ o, by omega⟩
    have d0 := dm 0 i (by omega) (by omega)
    have d1 := dm 1 i (by omega) (by omega)
    rw [show 2 * 2 ^ o * b + (1 * 2 ^ o + i) = p by omega] at d1
    rw [show 2 * 2 ^ o * b + (0 * 2 ^ o + i) = p - 2 ^ o by omega] at d0
    have hJ : fpow (rootOf o) (2 ^ o + i) = fpow (rootOf o) i := by rw [fpow_add, ha]; grind
    have main := st_half k o b i (2 ^ o + i) c ho hk hJ
    unfold st
    rw [hb, hj, d0.1, d0.2, d1.1, d1.2, main, fpow_add, hw, Nat.add_zero, show 2 ^ o + i - 2 ^ o = i by omega]
    grind

/-- A stage under way: done where the place in its half is below j, or is j in the first t blocks. -/
def bfp {M : Type} (add sub : M → M → M) (sc : M → F → M) (h : Nat) (w : F) (x : Nat → M) (j t p : Nat) : M :=
  if p % h < j ∨ (p % h = j ∧ p / (2 * h) < t) then bf add sub sc h w x p else x p
theorem bfp_start {M : Type} (add sub : M → M → M) (sc : M → F → M) (h : Nat) (w : F) (x : Nat → M) (p : Nat) : bfp add sub sc h w x 0 0 p = x p := by
  unfold bfp; rw [if_neg (by rintro (h1 | ⟨_, h1⟩) <;> exact absurd h1 (Nat.not_lt_zero _))]
theorem bfp_end {M : Type} (add sub : M → M → M) (sc : M → F → M) (h : Nat) (w : F) (x : Nat → M) (p : Nat) (h0 : 0 < h) : bfp add sub sc h w x h 0 p = bf add sub sc h w x p := by
  unfold bfp; rw [if_pos (Or.inl (Nat.mod_lt _ h0))]
theorem bfp_next {M : Type} (add sub : M → M → M) (sc : M → F → M) (h : Nat) (w : F) (x : Nat → M) (j T p : Nat) (hp : p < T * (2 * h)) : bfp add sub sc h w x j T p = bfp add sub sc h w x (j + 1) 0 p := by
  have : p / (2 * h) < T := by
    rcases Nat.eq_zero_or_pos h with rfl | h0
    · simp at hp
    · exact (Nat.div_lt_iff_lt_mul (by omega)).2 hp
  unfold bfp
  generalize p / (2 * h) = q at *
  by_cases c1 : p % h < j + 1
  · rw [if_pos (by omega), if_pos (by omega)]
  · rw [if_neg (by omega), if_neg (by omega)]
/-- Where p stands: its block, its half and its place there. -/
theorem place (h p : Nat) (h0 : 0 < h) : ∃ r, r < 2 ∧ p % (2 * h) = r * h + p % h ∧ p = p / (2 * h) * (2 * h) + (r * h + p % h) := by
  refine ⟨p / h % 2, Nat.mod_lt _ (by decide), ?_, ?_⟩
  · rw [Nat.mul_comm 2 h, Nat.mod_mul, Nat.mul_comm (p / h % 2)]; omega
  · have e : p % (2 * h) = p / h % 2 * h + p % h := by rw [Nat.mul_comm 2 h, Nat.mod_mul, Nat.mul_comm (p / h % 2)]; omega
    rw [← e, Nat.mul_comm (p / (2 * h))]; exact (Nat.div_add_mod _ _).symm
theorem place_at (h j t r : Nat) (hj : j < h) (hr : r < 2) : (j + t * (2 * h) + r * h) % h = j ∧ (j + t * (2 * h) + r * h) / (2 * h) = t ∧ (j + t * (2 * h) + r * h) % (2 * h) = r * h + j := by
  have h0 : 0 < h := by omega
  have e1 : j + t * (2 * h) + r * h = h * (2 * t + r) + j := by
    rw [Nat.mul_add, Nat.mul_comm h (2 * t), Nat.mul_assoc 2 t h, ← Nat.mul_assoc t 2 h, Nat.mul_comm t 2, Nat.mul_assoc 2 t h, Nat.mul_comm h r]; omega
  have e2 : j + t * (2 * h) + r * h = 2 * h * t + (r * h + j) := by rw [Nat.mul_comm t]; omega
  have lt : r * h + j < 2 * h := by
    have : r = 0 ∨ r = 1 := by omega
    rcases this with rfl | rfl <;> omega
  refine ⟨by rw [e1, Nat.mul_add_mod, Nat.mod_eq_of_lt hj], ?_, ?_⟩
  · rw [e2, Nat.mul_add_div (by omega), Nat.div_eq_of_lt lt, Nat.add_zero]
  · rw [e2, Nat.mul_add_mod, Nat.mod_eq_of_lt lt]
/-- One exchange. -/
theorem bfp_step {M : Type} (add sub : M → M → M) (sc : M → F → M) (h : Nat) (w : F) (x : Nat → M) (j t : Nat) (hj : j < h) (p : Nat) :
    bfp add sub sc h w x j (t + 1) p = if p = j + t * (2 * h) + h then sub (x (j + t * (2 * h))) (sc (x (j + t * (2 * h) + h)) (fpow w j)) else if p = j + t * (2 * h) then add (x (j + t * (2 * h))) (sc (x (j + t * (2 * h) + h)) (fpow w j)) else bfp add sub sc h w x j t p := by
  have h0 : 0 < h := by omega
  by_cases c1 : p = j + t * (2 * h) + h
  · have a := place_at h j t 1 hj (by omega)
    rw [Nat.one_mul, ← c1] at a
    rw [if_pos c1]
    unfold bfp bf
    rw [if_pos (Or.inr ⟨a.1, by omega⟩), if_neg (by omega), a.2.2, show p - h = j + t * (2 * h) by omega, show h + j - h = j by omega, c1]
  · rw [if_neg c1]
    by_cases c2 : p = j + t * (2 * h)
    · have a := place_at h j t 0 hj (by omega)
      rw [Nat.zero_mul, Nat.add_zero, ← c2] at a
      rw [if_pos c2]
      unfold bfp bf
      rw [if_pos (Or.inr ⟨a.1, by omega⟩), if_pos (by omega), a.2.2, Nat.zero_add, c2]
    · rw [if_neg c2]
      unfold bfp
      by_cases c3 : p % h < j ∨ (p % h = j ∧ p / (2 * h) < t)
      · rw [if_pos c3, if_pos (by omega)]
      · rw [if_neg c3, if_neg]
        intro c4
        obtain ⟨r, hr, _, e⟩ := place h p h0
        have e1 : p % h = j := by omega
        have e2 : p / (2 * h) = t := by omega
        rw [e1, e2] at e
        have : r = 0 ∨ r = 1 := by omega
        rcases this with rfl | rfl <;> omega
/-- Just that step's two places were as they came. -/
theorem bfp_fresh {M : Type} (add sub : M → M → M) (sc : M → F → M) (h : Nat) (w : F) (x : Nat → M) (j t : Nat) (hj : j < h) : bfp add sub sc h w x j t (j + t * (2 * h)) = x (j + t * (2 * h)) ∧ bfp add sub sc h w x j t (j + t * (2 * h) + h) = x (j + t * (2 * h) + h) := by
  have a := place_at h j t 0 hj (by omega)
  have b := place_at h j t 1 hj (by omega)
  rw [Nat.zero_mul, Nat.add_zero] at a
  rw [Nat.one_mul] at b
  exact ⟨if_neg (by omega), if_neg (by omega)⟩

/-- Places that change with their bits the other way round: those below i, and theirs, have. -/
def tu {M : Type} (k : Nat) (x : Nat → M) (i p : Nat) : M := if p < i ∨ rv k p < i then x (rv k p) else x p
theorem rv_self (k p : Nat) (hp : p < 2 ^ k) : rv k (rv k p) = p := by rw [rv_rv, Nat.mod_eq_of_lt hp]
theorem tu_start {M : Type} (k : Nat) (x : Nat → M) (p : Nat) : tu k x 0 p = x p := by unfold tu; rw [if_neg (by omega)]
theorem tu_end {M : Type} (k : Nat) (x : Nat → M) (p : Nat) (hp : p < 2 ^ k) : tu k x (2 ^ k) p = x (rv k p) := by unfold tu; rw [if_pos (Or.inl hp)]
theorem tu_stay {M : Type} (k : Nat) (x : Nat → M) (i p : Nat) (hi : i < 2 ^ k) (hp : p < 2 ^ k) (h : rv k i ≤ i) : tu k x (i + 1) p = tu k x i p := by
  unfold tu
  by_cases c1 : p < i ∨ rv k p < i
  · rw [if_pos c1, if_pos (by omega)]
  · rw [if_neg c1]
    by_cases c2 : p < i + 1 ∨ rv k p < i + 1
    · rw [if_pos c2]
      rcases (by omega : p = i ∨ rv k p = i) with e | e
      · subst e; rw [show rv k p = p by omega]
      · have e2 := rv_self k p hp
        rw [e] at e2 ⊢
        rw [show p = i by omega]
    · rw [if_neg c2]
theorem tu_swap {M : Type} (k : Nat) (x : Nat → M) (i p : Nat) (hi : i < 2 ^ k) (hp : p < 2 ^ k) (h : i < rv k i) : tu k x (i + 1) p = if p = rv k i then x i else if p = i then x (rv k i) else tu k x i p := by
  by_cases c1 : p = rv k i
  · rw [if_pos c1]
    unfold tu
    rw [c1, rv_self k i hi, if_pos (by omega)]
  · rw [if_neg c1]
    by_cases c2 : p = i
    · rw [if_pos c2, c2]; unfold tu; rw [if_pos (by omega)]
    · rw [if_neg c2]
      unfold tu
      by_cases c3 : p < i ∨ rv k p < i
      · rw [if_pos c3, if_pos (by omega)]
      · rw [if_neg c3, if_neg]
        intro c4
        have e : rv k p = i := by omega
        have := rv_self k p hp
        rw [e] at this
        exact c1 this.symm
theorem tu_fresh {M : Type} (k : Nat) (x : Nat → M) (i : Nat) (hi : i < 2 ^ k) (h : i < rv k i) : tu k x i i = x i ∧ tu k x i (rv k i) = x (rv k i) := by
  unfold tu
  rw [if_neg (by omega), rv_self k i hi, if_neg (by omega)]
  exact ⟨rfl, rfl⟩

/-- All stages. -/
def ar {M : Type} (add sub : M → M → M) (sc : M → F → M) (k : Nat) (x : Nat → M) : Nat → Nat → M
  | 0 => fun p => x (rv k p)
  | o + 1 => bf add sub sc (2 ^ o) (rootOf (o + 1)) (ar add sub sc k x o)
theorem bf_congr {M : Type} {add sub : M → M → M} {sc : M → F → M} {h : Nat} {w : F} {x y : Nat → M} (p : Nat) (hxy : ∀ p, x p = y p) : bf add sub sc h w x p = bf add sub sc h w y p := by
  unfold bf; rw [hxy, hxy, hxy]
theorem ar_st (k : Nat) (hk : k ≤ 32) (c : Nat → F) : ∀ o, o ≤ k → ∀ p, ar (· + ·) (· - ·) (· * ·) k c o p = st k o c p
  | 0, _, p => (st_zero k c p).symm
  | o + 1, ho, p => by
    show bf _ _ _ _ _ _ p = _
    rw [bf_congr p (ar_st k hk c o (by omega)), bf_st k o c (by omega) hk p]
theorem ar_ev (k : Nat) (hk : k ≤ 32) (c : Nat → F) (p : Nat) (hp : p < 2 ^ k) : ar (· + ·) (· - ·) (· * ·) k c k p = ev (2 ^ k) c (fpow (rootOf k) p) := by
  rw [ar_st k hk c k (Nat.le_refl _) p, st_last k c p hp]
/-- Pairs: part by part. -/
theorem ar_a (k : Nat) (x : Nat → F2) : ∀ o p, (ar (· + ·) (· - ·) scale k x o p).a = ar (· + ·) (· - ·) (· * ·) k (fun i => (x i).a) o p
  | 0, p => rfl
  | o + 1, p => by
    show F2.a (bf _ _ _ _ _ _ p) = bf _ _ _ _ _ _ p
    unfold bf
    rw [← ar_a k x o p, ← ar_a k x o (p + _), ← ar_a k x o (p - _)]
    split <;> rfl
theorem ar_b (k : Nat) (x : Nat → F2) : ∀ o p, (ar (· + ·) (· - ·) scale k x o p).b = ar (· + ·) (· - ·) (· * ·) k (fun i => (x i).b) o p
  | 0, p => rfl
  | o + 1, p => by
    show F2.b (bf _ _ _ _ _ _ p) = bf _ _ _ _ _ _ p
    unfold bf
    rw [← ar_b k x o p, ← ar_b k x o (p + _), ← ar_b k x o (p - _)]
    split <;> rfl
end Go.Proofs.YthfkfgjhgicfeaaDoor
namespace Go.Proofs.YthfkfgjhgicfeaaDoor
open Go.RowKit
set_option linter.unusedVariables false

theorem tv_rv (k i : Nat) (hk : k ≤ 20) (hi : i < 2 ^ k) : tv i k = (rv k i : Int) := by
  have h1 : 2 ^ k ≤ 2 ^ 20 := Nat.pow_le_pow_right (by decide) hk
  unfold tv
  rw [Int.toNat_natCast, show min k 62 = k by omega, Int.emod_eq_of_lt (by omega) (by omega), Int.toNat_natCast]
def TurnRel (w : World) (g k n : Nat) (z : Nat → Int) (i : Value) (W : World) : Prop :=
  ∃ m : Nat, m ≤ n ∧ i = .int .i64 m ∧ But g w W ∧ Arr W g n (fun j => .int .u64 (tu k z m j))

def TurnRelQ (w : World) (g k n : Nat) (z : Nat → Int × Int) (i : Value) (W : World) : Prop :=
  ∃ m : Nat, m ≤ n ∧ i = .int .i64 m ∧ But g w W ∧ Arr W g (n * 2) (pc (tu k z m))

end Go.Proofs.YthfkfgjhgicfeaaDoor
namespace Go.Proofs.YthfkfgjhgicfeaaDoor
open Go.RowKit
set_option linter.unusedVariables false

abbrev addU : Value := .func (.func 85) #[] #[]
abbrev subU : Value := .func (.func 77) #[] #[]
abbrev mulU' : Value := .func (.func 78) #[] #[]
abbrev kindU : Value := .agg #[addU, subU, mulU']
abbrev addQ : Value := .func (.func 88) #[] #[]
abbrev subQ : Value := .func (.func 44) #[] #[]
abbrev scaleQ : Value := .func (.func 47) #[] #[]
abbrev kindQ : Value := .agg #[addQ, subQ, scaleQ]

/-- Numbers under way: the first m are done. -/
def RiseRel (w : World) (g n : Nat) (z : Nat → Int) (r : Nat → Int) (f b : F) (i0 i : Value) (W : World) : Prop :=
  ∃ (m : Nat) (y : Int), m ≤ n ∧ i = .int .i64 m ∧ i0 = .int .u64 y ∧ U y ∧ toF y = f * fpow b m ∧ But g w W ∧ W.cell? ⟨w.heap.size, 2, none⟩ = some mulU' ∧ Arr W g n (fun j => .int .u64 (if j < m then r j else z j))
theorem rise_fin {n m : Nat} {z r : Nat → Int} {v : Int} (hv : r m = v) : ∀ j, j < n → (if j = m then Value.int .u64 v else .int .u64 (if j < m then r j else z j)) = .int .u64 (if j < m + 1 then r j else z j) := by
  intro j hj
  by_cases h : j = m
  · subst h; rw [if_pos rfl, if_pos (by omega), hv]
  · rw [if_neg h]
    by_cases h2 : j < m
    · rw [if_pos h2, if_pos (by omega)]
    · rw [if_neg h2, if_neg (by omega)]

/-- Pairs under way: the first m are done. -/
def RiseRelQ (w : World) (g n : Nat) (z : Nat → Int × Int) (r : Nat → F2) (f b : F) (i0 i : Value) (W : World) : Prop :=
  ∃ (m : Nat) (y : Int), m ≤ n ∧ i = .int .i64 m ∧ i0 = .int .u64 y ∧ U y ∧ toF y = f * fpow b m ∧ But g w W ∧ w.heap.size < W.heap.size ∧ W.cell? ⟨w.heap.size, 2, none⟩ = some scaleQ ∧ Arr W g (n * 2) (pc fun j => if j < m then encP (r j) else z j)
theorem riseq_fin {n m : Nat} {z : Nat → Int × Int} {r : Nat → F2} {v : F2} (hv : r m = v) : ∀ j, j < n → (if j = m then (enc v.a, enc v.b) else if j < m then encP (r j) else z j) = if j < m + 1 then encP (r j) else z j := by
  intro j hj
  by_cases h : j = m
  · subst h; rw [if_pos rfl, if_pos (by omega), ← hv]; rfl
  · rw [if_neg h]
    by_cases h2 : j < m
    · rw [if_pos h2, if_pos (by omega)]
    · rw [if_neg h2, if_neg (by omega)]

end Go.Proofs.YthfkfgjhgicfeaaDoor
namespace Go.Proofs.YthfkfgjhgicfeaaDoor
open Go.RowKit
set_option linter.unusedVariables false

/-- Places o to o + n, the other way round. -/
def rx (o n j : Nat) : Nat := if o ≤ j ∧ j < o + n then 2 * o + n - 1 - j else j
/-- .. under way: the first m, and the last m. -/
def rxm (o n m j : Nat) : Nat := if o ≤ j ∧ j < o + n ∧ (j < o + m ∨ o + n ≤ j + m) then 2 * o + n - 1 - j else j
theorem rxm_zero (o n j : Nat) : rxm o n 0 j = j := if_neg (by omega)
theorem rxm_end (o n m j : Nat) (h : n ≤ 2 * m + 1) : rxm o n m j = rx o n j := by
  unfold rxm rx
  by_cases c : o ≤ j ∧ j < o + n
  · rw [if_pos c]
    by_cases d : j < o + m ∨ o + n ≤ j + m
    · rw [if_pos ⟨c.1, c.2, d⟩]
    · rw [if_neg (fun h => d h.2.2)]; omega
  · rw [if_neg c, if_neg (fun h => c ⟨h.1, h.2.1⟩)]
theorem rxm_step (o n m r j : Nat) (h : m < r) (hr : r + 1 + m = n) : rxm o n (m + 1) j = if j = o + r then o + m else if j = o + m then o + r else rxm o n m j := by
  unfold rxm
  by_cases c1 : j = o + r
  · rw [if_pos c1, if_pos (by omega)]; omega
  · rw [if_neg c1]
    by_cases c2 : j = o + m
    · rw [if_pos c2, if_pos (by omega)]; omega
    · rw [if_neg c2]
      by_cases c3 : o ≤ j ∧ j < o + n ∧ (j < o + m ∨ o + n ≤ j + m)
      · rw [if_pos c3, if_pos (by omega)]
      · rw [if_neg c3, if_neg (by omega)]
theorem rxm_fresh (o n m r : Nat) (h : m < r) (hr : r + 1 + m = n) : rxm o n m (o + m) = o + m ∧ rxm o n m (o + r) = o + r := ⟨if_neg (by omega), if_neg (by omega)⟩

set_option maxHeartbeats 4000000 in
theorem clone_q (a : Option Addr) (len cap : Nat) (zs : List (Int × Int)) (w : World) (hr : QRowA w a len zs) (h0 : 0 < len) (hl : len ≤ 4294967296) :
    Calls Tryd.prog 72 #[.slice a len cap] w fun e w' => ∃ g c, e = .returned (.slice (some ⟨g, 0, none⟩) len c) ∧ w.heap.size ≤ g ∧ len ≤ c ∧ c ≤ maxLen ∧ Below w.heap.size w w' ∧ Arr w' g (len * 2) (pc fun j => zs.getD j (0, 0)) := by
  obtain ⟨i0, hi, hz0, hz1, hz2⟩ := info_parts infoQ'
  have q := fun (w : World) (a : Option Addr) (n c n' c' : Nat) => Lib.run_eql_slice_nil (P := Tryd.prog) w 22 31 a n c n' c' Tryd.underlying22
  obtain ⟨hz, hm, hc⟩ := hr
  obtain ⟨b, off, rfl, g0⟩ := hc 0 h0
  have A : Aside (∀ j u, (flat zs)[j]? = some u → w.cell? ⟨b, off + j, none⟩ = some u) := by
    intro j u hj
    have hj2 : j < len * 2 := by have := (List.getElem?_eq_some_iff.1 hj).1; rw [flat_length] at this; omega
    obtain ⟨b', off', e, h, h'⟩ := hc (j / 2) (by omega)
    cases e
    obtain ⟨f0, f1⟩ := flat_at zs (j / 2) (by omega)
    rcases (by omega : j = j / 2 * 2 ∨ j = j / 2 * 2 + 1) with e | e
    · rw [← e] at h f0; rw [h, ← hj, f0]
    · rw [← e] at f1; rw [Nat.add_assoc, ← e] at h'; rw [h', ← hj, f1]
  have L1 : (flat zs).length = len * 2 := by rw [flat_length, hz]
  clear hc g0
  obtain ⟨news, hnews⟩ : ∃ l, flat zs = l := ⟨_, rfl⟩
  have HN := Lib.hid hnews
  rw [hnews] at A L1
  clear hnews
  have hon : ∀ u ∈ news, u.oneCell' = true := by rw [← HN.out]; intro u hu; obtain ⟨x, _, hx⟩ := List.mem_flatMap.1 hu; simp at hx; rcases hx with rfl | rfl <;> rfl
  have HM := Lib.hid hm
  go_enter Tryd.func72, Tryd.ntmps72
  go_wp2_with (at_builtin; refine wpList_append_own _ rfl _ _ 22 rfl w.heap.size 31 i0 (.agg #[.int .u64 0, .int .u64 0]) 2 16 Tryd.underlying22 hi hz0 hz1 hz2 rfl (by decide) _ _ _ rfl (World.ownsRow_made w #[] 0 (Nat.le_refl _) (Nat.zero_le _) (by simp)) ⟨b, off, none⟩ len cap news rfl ?qc1 ?qc2 ?qc3 ?qc4 ?qc5 ?qc6 ?_)
  case qc1 => exact L1
  case qc2 =>
    intro j u hj
    rw [Addr.add_lit]
    exact Lib.cell?_alloc_some _ (A.out j u hj)
  case qc3 => exact hon
  case qc4 => rw [Nat.zero_add]; exact HM.out
  case qc5 => rw [Nat.zero_add]; omega
  case qc6 => simp
  intro v' w1 hown hgrow hnil
  try simp only [Nat.zero_add, List.nil_append] at hown
  obtain ⟨g, c, rfl, hb, hnc, hcm, hA⟩ := own_arr hown h0
  have HA : Hid (Arr w1 g (len * 2) (pc fun j => zs.getD j (0, 0))) := Lib.hid (by
    rw [← HN.out] at hA
    exact (hA.same (fun j hj => by
      obtain ⟨f0, f1⟩ := flat_at zs (j / 2) (by omega)
      unfold pc
      rcases (by omega : j = j / 2 * 2 ∨ j = j / 2 * 2 + 1) with e | e
      · rw [if_pos (by omega)]; rw [← e] at f0; rw [List.getD, f0]; rfl
      · rw [if_neg (by omega)]; rw [← e] at f1; rw [List.getD, f1]; rfl)))
  have HB := Lib.hid (((Below.refl _ w).alloc (Nat.le_refl _) _).grown hgrow (by simp) (by intro k hk; simp [Value.ownBlock] at hk; omega))
  clear hA hown hgrow hnil
  go_wp2
  go_ret
  exact ⟨g, c, rfl, hb, hnc, hcm, HB.out, HA.out⟩

def RevRel (w : World) (g N o n : Nat) (z : Nat → Int) (i j : Value) (W : World) : Prop :=
  ∃ m : Nat, 2 * m ≤ n + 1 ∧ i = .int .i64 m ∧ j = .int .i64 ((n : Int) - 1 - m) ∧ But g w W ∧ Arr W g N (fun i => .int .u64 (z (rxm o n m i)))
def RevRelQ (w : World) (g N o n : Nat) (z : Nat → Int × Int) (i j : Value) (W : World) : Prop :=
  ∃ m : Nat, 2 * m ≤ n + 1 ∧ i = .int .i64 m ∧ j = .int .i64 ((n : Int) - 1 - m) ∧ But g w W ∧ Arr W g (N * 2) (pc fun i => z (rxm o n m i))
end Go.Proofs.YthfkfgjhgicfeaaDoor
namespace Go.Proofs.YthfkfgjhgicfeaaDoor
open Go.RowKit
set_option linter.unusedVariables false

/-- The three functions of a kind, in their cells. -/
def K3 (W : World) (b : Nat) (f0 f1 f2 : Value) : Prop := W.cell? ⟨b, 0, none⟩ = some f0 ∧ W.cell? ⟨b, 1, none⟩ = some f1 ∧ W.cell? ⟨b, 2, none⟩ = some f2
theorem K3.keep {W w1 : World} {b : Nat} {f0 f1 f2 : Value} (h : K3 W b f0 f1 f2) (hb : Below W.heap.size W w1) : K3 w1 b f0 f1 f2 := ⟨bkeep hb h.1, bkeep hb h.2.1, bkeep hb h.2.2⟩
theorem K3.far {W : World} {b g : Nat} {f0 f1 f2 : Value} (h : K3 W b f0 f1 f2) (hg : g ≠ b) (o : Nat) (v : Value) : K3 (W.setCell ⟨g, o, none⟩ v) b f0 f1 f2 :=
  ⟨(World.cell?_setCell_far _ _ _ _ hg).trans h.1, (World.cell?_setCell_far _ _ _ _ hg).trans h.2.1, (World.cell?_setCell_far _ _ _ _ hg).trans h.2.2⟩
theorem K3.but {W w1 : World} {b g : Nat} {f0 f1 f2 : Value} (h : K3 W b f0 f1 f2) (hB : But g W w1) (hg : b ≠ g) : K3 w1 b f0 f1 f2 := ⟨hB.keep h.1 hg, hB.keep h.2.1 hg, hB.keep h.2.2 hg⟩
theorem K3.new (W : World) (f0 f1 f2 : Value) (t : TypeId) : K3 (W.alloc (.cells #[f0, f1, f2] t)) W.heap.size f0 f1 f2 := by simp [K3, go_sem]

/-- A stage under way, of numbers and of pairs. -/
abbrev bfU (h : Nat) (c : F) (x : Nat → F) (j t : Nat) : Nat → F := bfp (· + ·) (· - ·) (· * ·) h c x j t
abbrev bfQ (h : Nat) (c : F) (x : Nat → F2) (j t : Nat) : Nat → F2 := bfp (· + ·) (· - ·) scale h c x j t
theorem fly_set {cc : Bool} {W : World} {g n h j t p q : Nat} {c : F} {x : Nat → F} {z : Nat → Int} (hA : Arr W g n (fun i => .int .u64 (z i))) (hz : ∀ i, i < n → Num cc (z i) (bfU h c x j t i)) (hj : j < h) (hp : p = j + t * (2 * h)) (hq : q = p + h) (hn : q < n) :
    ArrF cc ((W.setCell ⟨g, p, none⟩ (.int .u64 (enc (x p + x q * fpow c j)))).setCell ⟨g, q, none⟩ (.int .u64 (enc (x p - x q * fpow c j)))) g n (bfU h c x j (t + 1)) := by
  subst hp hq
  refine ⟨fun i => if i = j + t * (2 * h) + h then enc (x (j + t * (2 * h)) - x (j + t * (2 * h) + h) * fpow c j) else if i = j + t * (2 * h) then enc (x (j + t * (2 * h)) + x (j + t * (2 * h) + h) * fpow c j) else z i, ((hA.set _ _ (by omega)).set _ _ hn).same (fun i hi => ?_), fun i hi => ?_⟩
  · dsimp only
    split
    · rfl
    · split <;> rfl
  · have := bfp_step (· + ·) (· - ·) (· * ·) h c x j t hj i
    show Num _ _ (bfp _ _ _ _ _ _ _ _ _)
    rw [this]
    dsimp only
    by_cases c1 : i = j + t * (2 * h) + h
    · rw [if_pos c1, if_pos c1]; exact num_enc _ _
    · rw [if_neg c1, if_neg c1]
      by_cases c2 : i = j + t * (2 * h)
      · rw [if_pos c2, if_pos c2]; exact num_enc _ _
      · rw [if_neg c2, if_neg c2]; exact hz i hi
theorem fly_setq {cc : Bool} {W : World} {g n h j t p q : Nat} {c : F} {x : Nat → F2} {z : Nat → Int × Int} {a s : F2} (hA : Arr W g (n * 2) (pc fun i => if true = true ∧ i = p then (enc a.a, enc a.b) else z i)) (hz : ∀ i, i < n → NumQ cc (z i) (bfQ h c x j t i)) (hj : j < h) (hp : p = j + t * (2 * h)) (hq : q = p + h) (hn : q < n)
    (ha : x p + scale (x q) (fpow c j) = a) (hs : x p - scale (x q) (fpow c j) = s) :
    ArrQ cc ((W.setCell ⟨g, q * 2, none⟩ (.int .u64 (enc s.a))).setCell ⟨g, q * 2 + 1, none⟩ (.int .u64 (enc s.b))) g n (bfQ h c x j (t + 1)) := by
  subst hp hq ha hs
  refine ⟨_, hA.setq _ _ _ hn, fun i hi => ?_⟩
  have := bfp_step (· + ·) (· - ·) scale h c x j t hj i
  show NumQ _ _ (bfp _ _ _ _ _ _ _ _ _)
  rw [this]
  by_cases c1 : i = j + t * (2 * h) + h
  · simp only [if_pos c1]; exact numq_enc _ _
  · simp only [if_neg c1]
    by_cases c2 : i = j + t * (2 * h)
    · simp only [c2, and_self, if_true]; exact numq_enc _ _
    · simp only [c2, and_false, if_false]; exact hz i hi

def FlyOut (cc : Bool) (w : World) (g n h : Nat) (c : F) (x : Nat → F) (y i : Value) (W : World) : Prop :=
  ∃ j : Nat, j ≤ h ∧ i = .int .i64 j ∧ y = .int .u64 (enc (fpow c j)) ∧ But g w W ∧ w.heap.size < W.heap.size ∧ K3 W w.heap.size addU subU mulU' ∧ ArrF cc W g n (bfU h c x j 0)
def FlyIn (cc : Bool) (w : World) (g n h T : Nat) (c : F) (x : Nat → F) (j : Nat) (i : Value) (W : World) : Prop :=
  ∃ t p : Nat, t ≤ T ∧ p = j + t * (2 * h) ∧ i = .int .i64 p ∧ But g w W ∧ w.heap.size < W.heap.size ∧ K3 W w.heap.size addU subU mulU' ∧ ArrF cc W g n (bfU h c x j t)
def FlyOutQ (cc : Bool) (w : World) (g n h : Nat) (c : F) (x : Nat → F2) (y i : Value) (W : World) : Prop :=
  ∃ j : Nat, j ≤ h ∧ i = .int .i64 j ∧ y = .int .u64 (enc (fpow c j)) ∧ But g w W ∧ w.heap.size < W.heap.size ∧ K3 W w.heap.size addQ subQ scaleQ ∧ ArrQ cc W g n (bfQ h c x j 0)
def FlyInQ (cc : Bool) (w : World) (g n h T : Nat) (c : F) (x : Nat → F2) (j : Nat) (i : Value) (W : World) : Prop :=
  ∃ t p : Nat, t ≤ T ∧ p = j + t * (2 * h) ∧ i = .int .i64 p ∧ But g w W ∧ w.heap.size < W.heap.size ∧ K3 W w.heap.size addQ subQ scaleQ ∧ ArrQ cc W g n (bfQ h c x j t)
/-- Where a round stands. -/
theorem fly_in {n h T j t p : Nat} (hn : n = T * (2 * h)) (hj : j < h) (hp : p = j + t * (2 * h)) (ht : t < T) : p + h < n ∧ p + 2 * h = j + (t + 1) * (2 * h) := by
  have : (t + 1) * (2 * h) ≤ T * (2 * h) := Nat.mul_le_mul_right _ ht
  rw [Nat.add_mul, Nat.one_mul] at this
  rw [Nat.add_mul, Nat.one_mul]
  omega
theorem fly_out {n h T j t p : Nat} (hn : n = T * (2 * h)) (hp : p = j + t * (2 * h)) (ht : t ≤ T) (h' : ¬ t < T) : n ≤ p ∧ p = j + n := by
  have : t = T := by omega
  subst this; omega
theorem same_below' {w : World} {P : Program} {f : Nat} {args : Array Value} {v : Value} (h : Calls P f args w fun e w' => e = .returned v ∧ w = w') : Calls P f args w fun e w' => e = .returned v ∧ Below w.heap.size w w' :=
  h.mono fun e w' h => ⟨h.1, h.2 ▸ Below.refl _ _⟩
def FlyR9 (B g n cap p q hh : Nat) (zp zq pw y : Int) (sl : Nat) (v : Value) (W : World) : Prop :=
  match sl with
  | 33 => v = .slice (some ⟨g, 0, none⟩) n cap
  | 34 => v = .int .i64 p
  | 35 => v = .pointer (some ⟨g, p, none⟩)
  | 36 => v = .int .u64 zp
  | 37 => v = .pointer (some ⟨B, 2, none⟩)
  | 38 => v = mulU'
  | 39 => v = .slice (some ⟨g, 0, none⟩) n cap
  | 40 => v = .int .i64 p
  | 41 => v = .int .i64 hh
  | 42 => v = .int .i64 q
  | 43 => v = .pointer (some ⟨g, q, none⟩)
  | 44 => v = .int .u64 zq
  | 45 => v = .int .u64 pw
  | 46 => v = .int .u64 y
  | 12 => v = .int .u64 zp
  | _ => v = .int .u64 y
theorem FlyR9.keep {B g n cap p q hh : Nat} {zp zq pw y : Int} {sl : Nat} {v : Value} {W W' : World} (h : FlyR9 B g n cap p q hh zp zq pw y sl v W) (hb : Below W.heap.size W W') : FlyR9 B g n cap p q hh zp zq pw y sl v W' := h
def FlyR10 (B g n cap p q hh : Nat) (zp y a s : Int) (sl : Nat) (v : Value) (W : World) : Prop :=
  match sl with
  | 47 => v = .slice (some ⟨g, 0, none⟩) n cap
  | 48 => v = .int .i64 p
  | 49 => v = .slice (some ⟨g, 0, none⟩) n cap
  | 50 => v = .int .i64 p
  | 51 => v = .int .i64 hh
  | 52 => v = .int .i64 q
  | 53 => v = .pointer (some ⟨B, 0, none⟩)
  | 54 => v = addU
  | 55 => v = .int .u64 zp
  | 56 => v = .int .u64 y
  | 57 => v = .int .u64 a
  | 58 => v = .pointer (some ⟨B, 1, none⟩)
  | 59 => v = subU
  | 60 => v = .int .u64 zp
  | 61 => v = .int .u64 y
  | 62 => v = .int .u64 s
  | _ => v = .pointer (some ⟨g, p, none⟩)
theorem FlyR10.keep {B g n cap p q hh : Nat} {zp y a s : Int} {sl : Nat} {v : Value} {W W' : World} (h : FlyR10 B g n cap p q hh zp y a s sl v W) (hb : Below W.heap.size W W') : FlyR10 B g n cap p q hh zp y a s sl v W' := h
/-- A step of a stage, of pairs: before the first store, and behind it. -/
def FlyWd (w : World) (g n p gx gy : Nat) (x0 x1 y0 y1 a0 a1 : Int) (z : Nat → Int × Int) (st : Bool) (W : World) : Prop :=
  But g w W ∧ w.heap.size < W.heap.size ∧ K3 W w.heap.size addQ subQ scaleQ ∧ Var W gx x0 x1 ∧ Var W gy y0 y1 ∧ Arr W g (n * 2) (pc fun i => if st = true ∧ i = p then (a0, a1) else z i)
theorem FlyWd.keep {w : World} {g n p gx gy : Nat} {x0 x1 y0 y1 a0 a1 : Int} {z : Nat → Int × Int} {st : Bool} {W W' : World} (h : FlyWd w g n p gx gy x0 x1 y0 y1 a0 a1 z st W) (hb : Below W.heap.size W W') : FlyWd w g n p gx gy x0 x1 y0 y1 a0 a1 z st W' :=
  ⟨h.1.then hb, Nat.lt_of_lt_of_le h.2.1 hb.size, h.2.2.1.keep hb, h.2.2.2.1.keep hb, h.2.2.2.2.1.keep hb, h.2.2.2.2.2.keep hb⟩
theorem FlyWd.drew {w : World} {g n p gx gy : Nat} {x0 x1 y0 y1 a0 a1 : Int} {z : Nat → Int × Int} {st : Bool} {W : World} (h : FlyWd w g n p gx gy x0 x1 y0 y1 a0 a1 z st W) : FlyWd w g n p gx gy x0 x1 y0 y1 a0 a1 z st W.drew := h.keep (Below.refl _ _).drew
theorem FlyWd.store {w : World} {g n p gx gy : Nat} {x0 x1 y0 y1 a0 a1 : Int} {z : Nat → Int × Int} {W : World} (h : FlyWd w g n p gx gy x0 x1 y0 y1 a0 a1 z false W) (hp : p < n) (hg : g ≠ w.heap.size) (hx : g ≠ gx) (hy : g ≠ gy) :
    FlyWd w g n p gx gy x0 x1 y0 y1 a0 a1 z true ((W.setCell ⟨g, p * 2, none⟩ (.int .u64 a0)).setCell ⟨g, p * 2 + 1, none⟩ (.int .u64 a1)) := by
  obtain ⟨h1, h2, h3, h4, h5, h6⟩ := h
  refine ⟨(h1.setCell (Or.inl rfl) _).setCell (Or.inl rfl) _, by simp; exact h2, (h3.far hg _ _).far hg _ _, (h4.far hx _ _).far hx _ _, (h5.far hy _ _).far hy _ _, (h6.setq p a0 a1 hp).same (pc_same fun i hi => ?_)⟩
  by_cases c : i = p
  · rw [if_pos c, if_pos ⟨rfl, c⟩]
  · rw [if_neg c, if_neg (fun h => by cases h.1), if_neg (fun h => c h.2)]
def FlyQ9 (H B g n cap p q hh : Nat) (zp zp' zq zq' pw y y' : Int) (sl : Nat) (v : Value) (W : World) : Prop :=
  match sl with
  | 33 => v = .slice (some ⟨g, 0, none⟩) n cap
  | 34 => v = .int .i64 p
  | 35 => v = .pointer (some ⟨g, p * 2, none⟩)
  | 36 => v = .agg #[.int .u64 zp, .int .u64 zp']
  | 37 => v = .pointer (some ⟨B, 2, none⟩)
  | 38 => v = scaleQ
  | 39 => v = .slice (some ⟨g, 0, none⟩) n cap
  | 40 => v = .int .i64 p
  | 41 => v = .int .i64 hh
  | 42 => v = .int .i64 q
  | 43 => v = .pointer (some ⟨g, q * 2, none⟩)
  | 44 => v = .agg #[.int .u64 zq, .int .u64 zq']
  | 45 => v = .int .u64 pw
  | 46 => v = .agg #[.int .u64 y, .int .u64 y']
  | _ => ∃ gg : Nat, v = .pointer (some ⟨gg, 0, none⟩) ∧ H ≤ gg ∧ Var W gg 0 0
theorem FlyQ9.keep {H B g n cap p q hh : Nat} {zp zp' zq zq' pw y y' : Int} {sl : Nat} {v : Value} {W W' : World} (h : FlyQ9 H B g n cap p q hh zp zp' zq zq' pw y y' sl v W) (hb : Below W.heap.size W W') : FlyQ9 H B g n cap p q hh zp zp' zq zq' pw y y' sl v W' := by
  unfold FlyQ9 at *
  split at h
  all_goals first | exact h | (obtain ⟨gg, h1, h2, h3⟩ := h; exact ⟨gg, h1, h2, h3.keep hb⟩)
def FlyQ10 (B g n cap p q hh : Nat) (zp zp' y y' a a' s s' : Int) (sl : Nat) (v : Value) : Prop :=
  match sl with
  | 47 => v = .slice (some ⟨g, 0, none⟩) n cap
  | 48 => v = .int .i64 p
  | 49 => v = .slice (some ⟨g, 0, none⟩) n cap
  | 50 => v = .int .i64 p
  | 51 => v = .int .i64 hh
  | 52 => v = .int .i64 q
  | 53 => v = .pointer (some ⟨B, 0, none⟩)
  | 54 => v = addQ
  | 55 => v = .agg #[.int .u64 zp, .int .u64 zp']
  | 56 => v = .agg #[.int .u64 y, .int .u64 y']
  | 57 => v = .agg #[.int .u64 a, .int .u64 a']
  | 58 => v = .pointer (some ⟨B, 1, none⟩)
  | 59 => v = subQ
  | 60 => v = .agg #[.int .u64 zp, .int .u64 zp']
  | 61 => v = .agg #[.int .u64 y, .int .u64 y']
  | 62 => v = .agg #[.int .u64 s, .int .u64 s']
  | 63 => v = .pointer (some ⟨g, p * 2, none⟩)
  | _ => v = .pointer (some ⟨g, q * 2, none⟩)
end Go.Proofs.YthfkfgjhgicfeaaDoor
namespace Go.Proofs.YthfkfgjhgicfeaaDoor
open Go.RowKit
set_option linter.unusedVariables false

def ArRel (cc : Bool) (w : World) (g n k : Nat) (x : Nat → F) (i : Value) (W : World) : Prop :=
  ∃ r : Nat, 1 ≤ r ∧ r ≤ k + 1 ∧ i = .int .i64 r ∧ But g w W ∧ w.heap.size < W.heap.size ∧ K3 W w.heap.size addU subU mulU' ∧ ArrF cc W g n (ar (· + ·) (· - ·) (· * ·) k x (r - 1))
def ArRelQ (cc : Bool) (w : World) (g n k : Nat) (x : Nat → F2) (i : Value) (W : World) : Prop :=
  ∃ r : Nat, 1 ≤ r ∧ r ≤ k + 1 ∧ i = .int .i64 r ∧ But g w W ∧ w.heap.size < W.heap.size ∧ K3 W w.heap.size addQ subQ scaleQ ∧ ArrQ cc W g n (ar (· + ·) (· - ·) scale k x (r - 1))
end Go.Proofs.YthfkfgjhgicfeaaDoor
namespace Go.Proofs.YthfkfgjhgicfeaaDoor
open Go.RowKit
set_option linter.unusedVariables false

def ones (n : Nat) (j : Nat) : Value := .int .u64 (if j < n then 1 else 0)
theorem ones_cop (n m j : Nat) : cop (ones n) n (List.replicate m (.int .u64 1)) j = ones (n + m) j := by
  unfold cop ones
  rw [List.length_replicate]
  by_cases c : n ≤ j ∧ j < n + m
  · rw [if_pos c, if_pos c.2, List.getD, List.getElem?_replicate, if_pos (by omega)]; rfl
  · rw [if_neg c]
    by_cases d : j < n
    · rw [if_pos d, if_pos (by omega)]
    · rw [if_neg d, if_neg (by omega)]
def RepRel (w : World) (g N : Nat) (i : Value) (W : World) : Prop :=
  ∃ n : Nat, 1 ≤ n ∧ n ≤ N ∧ i = .int .i64 n ∧ Below w.heap.size w W ∧ Arr W g N (ones n)
def RepWd (w : World) (g N n m : Nat) (s : Bool) (W : World) : Prop := Below w.heap.size w W ∧ Arr W g N (ones (if s = true then n + m else n))
def RepR (g N n m : Nat) (sl : Nat) (v : Value) : Prop :=
  match sl with
  | 38 => v = .int .i64 n
  | 39 => v = .slice (some ⟨g, 0, none⟩) N N
  | 40 => v = .int .i64 n
  | 41 => v = .slice (some ⟨g, n, none⟩) (N - n) (N - n)
  | 42 => v = .slice (some ⟨g, 0, none⟩) N N
  | 43 => v = .int .i64 n
  | 44 => v = .slice (some ⟨g, 0, none⟩) n N
  | 45 => v = .int .i64 m
  | _ => v = .int .i64 ((n + m : Nat) : Int)

end Go.Proofs.YthfkfgjhgicfeaaDoor
namespace Go.Proofs.YthfkfgjhgicfeaaDoor
set_option linter.unusedVariables false

theorem forth_stages (zs : List Int) (s : F) (k p : Nat) (hk : k ≤ 20) (hl : zs.length ≤ 2 ^ k) (hp : p < 2 ^ k) :
    ar (· + ·) (· - ·) (· * ·) k (fun j => co zs j * (1 * fpow s j)) k p = ev zs.length (co zs) (pt s k p) := by
  rw [ar_ev k (by omega) _ p hp, ev_congr (d := fun j => co zs j * fpow s j) (fun j _ => by grind), ev_shift, ← ev_more (n := zs.length) (m := 2 ^ k) _ hl (fun j hj => co_out zs j hj)]
  rfl
theorem root_back (k j : Nat) (hk : k ≤ 20) (h0 : 0 < j) (hj : j < 2 ^ k) : fpow (rootOf k) (2 ^ k - j) = fpow (finv (rootOf k)) j := by
  have h1 := fpow_finv (root_ne k (by omega)) j
  have h2 : fpow (rootOf k) (2 ^ k - j) * fpow (rootOf k) j = 1 := by
    rw [← fpow_add, show 2 ^ k - j + j = 2 ^ k by omega]; exact root_all k (by omega)
  generalize fpow (rootOf k) (2 ^ k - j) = a at *
  generalize fpow (finv (rootOf k)) j = b at *
  generalize fpow (rootOf k) j = c at *
  calc a = a * (c * b) := by rw [h1]; grind
    _ = (a * c) * b := by grind
    _ = b := by rw [h2]; grind
/-- The others, the other way round. -/
def rvx (k j : Nat) : Nat := if 1 ≤ j ∧ j < 2 ^ k then 2 ^ k - j else j
theorem back_stages (v : Nat → F) (s : F) (k j : Nat) (hk : k ≤ 20) (hj : j < 2 ^ k) :
    ar (· + ·) (· - ·) (· * ·) k v k (rvx k j) * (finv (nat (2 ^ k)) * fpow (finv s) j) = bk s k v j := by
  unfold bk rvx
  by_cases h : 1 ≤ j ∧ j < 2 ^ k
  · rw [if_pos h, ar_ev k (by omega) _ _ (by omega), root_back k j hk (by omega) hj]
  · rw [if_neg h]
    obtain rfl : j = 0 := by omega
    rw [ar_ev k (by omega) _ _ hj]
    simp only [fpow]
theorem fsts_getD (zs : List (Int × Int)) (j : Nat) : (fsts zs).getD j 0 = (zs.getD j (0, 0)).1 := by
  unfold fsts
  rw [List.getD, List.getD, List.getElem?_map]
  cases zs[j]? <;> rfl
theorem snds_getD (zs : List (Int × Int)) (j : Nat) : (snds zs).getD j 0 = (zs.getD j (0, 0)).2 := by
  unfold snds
  rw [List.getD, List.getD, List.getElem?_map]
  cases zs[j]? <;> rfl
/-- A row's pair at a place; 0 behind its end. -/
def coQ (zs : List (Int × Int)) (j : Nat) : F2 := ⟨co (fsts zs) j, co (snds zs) j⟩
theorem enc_join (a b : F) : encP (toQ (enc a, enc b)) = (enc a, enc b) := by
  show (enc (toF (enc a)), enc (toF (enc b))) = _
  rw [toF_enc, toF_enc]
theorem forth_stagesQ (zs : List (Int × Int)) (s : F) (k p : Nat) (hk : k ≤ 20) (hl : zs.length ≤ 2 ^ k) (hp : p < 2 ^ k) :
    encP (ar (· + ·) (· - ·) scale k (fun j => scale (coQ zs j) (1 * fpow s j)) k p) = (forthQ zs s k).getD p (0, 0) := by
  have e1 : (ar (· + ·) (· - ·) scale k (fun j => scale (coQ zs j) (1 * fpow s j)) k p).a = ev (fsts zs).length (co (fsts zs)) (pt s k p) := by
    rw [ar_a]; exact forth_stages (fsts zs) s k p hk (by rw [fsts_len]; exact hl) hp
  have e2 : (ar (· + ·) (· - ·) scale k (fun j => scale (coQ zs j) (1 * fpow s j)) k p).b = ev (snds zs).length (co (snds zs)) (pt s k p) := by
    rw [ar_b]; exact forth_stages (snds zs) s k p hk (by rw [snds_len]; exact hl) hp
  unfold forthQ
  rw [joinL_at _ _ _ (by rw [forthL_len]; exact hp), forthL_at _ _ _ _ hp, forthL_at _ _ _ _ hp, enc_join, ← e1, ← e2]
  rfl
theorem back_stagesQ (zs : List (Int × Int)) (s : F) (k j : Nat) (hk : k ≤ 20) (hj : j < 2 ^ k) :
    encP (scale (ar (· + ·) (· - ·) scale k (coQ zs) k (rvx k j)) (finv (nat (2 ^ k)) * fpow (finv s) j)) = (backQ zs s k).getD j (0, 0) := by
  have e1 : (scale (ar (· + ·) (· - ·) scale k (coQ zs) k (rvx k j)) (finv (nat (2 ^ k)) * fpow (finv s) j)).a = bk s k (co (fsts zs)) j := by
    rw [← back_stages (co (fsts zs)) s k j hk hj]
    show F2.a (ar _ _ _ _ _ _ _) * _ = _
    rw [ar_a]; rfl
  have e2 : (scale (ar (· + ·) (· - ·) scale k (coQ zs) k (rvx k j)) (finv (nat (2 ^ k)) * fpow (finv s) j)).b = bk s k (co (snds zs)) j := by
    rw [← back_stages (co (snds zs)) s k j hk hj]
    show F2.b (ar _ _ _ _ _ _ _) * _ = _
    rw [ar_b]; rfl
  unfold backQ
  rw [joinL_at _ _ _ (by rw [backL_len]; exact hj), backL_at _ _ _ _ hj, backL_at _ _ _ _ hj, enc_join, ← e1, ← e2]
  rfl
end Go.Proofs.YthfkfgjhgicfeaaDoor
namespace Go.Proofs.YthfkfgjhgicfeaaDoor
open Go.RowKit
set_option linter.unusedVariables false

theorem finv_is (a z : Int) (ha : U a) (h : toF a ≠ 0) (hz : enc (finv (toF a)) = z) (w : World) : Calls Tryd.prog 73 #[.int .u64 a] w fun e w' => e = .returned (.tuple #[.int .u64 z, .bool true]) ∧ w = w' := by
  subst hz; exact inv_yes a ha h w

theorem RowA.src {W : World} {a : Option Addr} {len : Nat} {zs : List Int} (h : RowA W a len zs) (h0 : 0 < len) : ∃ ad, a = some ad ∧ ∀ j v, (zs.map (Value.int .u64))[j]? = some v → W.cell? (ad.add j) = some v := by
  obtain ⟨hz, hm, hc⟩ := h
  obtain ⟨b, off, rfl, _⟩ := hc 0 h0
  refine ⟨_, rfl, fun j v hv => ?_⟩
  have hj : j < zs.length := by have := (List.getElem?_eq_some_iff.1 hv).1; simpa using this
  obtain ⟨b', off', e, h⟩ := hc j (by omega)
  cases e
  rw [Addr.add_lit, h, ← hv]; simp [List.getD, hj]
theorem QRowA.src {W : World} {a : Option Addr} {len : Nat} {zs : List (Int × Int)} (h : QRowA W a len zs) (h0 : 0 < len) : ∃ ad, a = some ad ∧ ∀ j v, (flat zs)[j]? = some v → W.cell? (ad.add j) = some v := by
  obtain ⟨hz, hm, hc⟩ := h
  obtain ⟨b, off, rfl, _⟩ := hc 0 h0
  refine ⟨_, rfl, fun j v hv => ?_⟩
  have hj2 : j < len * 2 := by have := (List.getElem?_eq_some_iff.1 hv).1; rw [flat_length] at this; omega
  obtain ⟨b', off', e, h, h'⟩ := hc (j / 2) (by omega)
  cases e
  obtain ⟨f0, f1⟩ := flat_at zs (j / 2) (by omega)
  rw [Addr.add_lit]
  rcases (by omega : j = j / 2 * 2 ∨ j = j / 2 * 2 + 1) with e | e
  · rw [← e] at h f0; rw [h, ← hv, f0]
  · rw [← e] at f1; rw [Nat.add_assoc, ← e] at h'; rw [h', ← hv, f1]
theorem cop_u (zs : List Int) (j : Nat) : cop (fun j => (#[Value.int .u64 0])[j % (#[Value.int .u64 0]).size]!) 0 (zs.map (Value.int .u64)) j = .int .u64 (zs.getD j 0) := by
  unfold cop
  rw [List.length_map]
  by_cases h : j < zs.length
  · rw [if_pos ⟨Nat.zero_le _, by omega⟩]; simp [List.getD, h]
  · rw [if_neg (by omega)]; simp [List.getD, h, Nat.mod_one]
theorem cop_q (zs : List (Int × Int)) (j : Nat) : cop (pc fun _ => (0, 0)) 0 (flat zs) j = pc (fun i => zs.getD i (0, 0)) j := by
  unfold cop
  rw [flat_length]
  by_cases h : j < zs.length * 2
  · rw [if_pos ⟨Nat.zero_le _, by omega⟩, Nat.sub_zero]
    obtain ⟨f0, f1⟩ := flat_at zs (j / 2) (by omega)
    unfold pc
    rcases (by omega : j = j / 2 * 2 ∨ j = j / 2 * 2 + 1) with e | e
    · rw [if_pos (by omega)]; rw [← e] at f0; rw [List.getD, f0]; rfl
    · rw [if_neg (by omega)]; rw [← e] at f1; rw [List.getD, f1]; rfl
  · rw [if_neg (by omega)]
    unfold pc
    have : zs.getD (j / 2) (0, 0) = (0, 0) := by
      rw [List.getD, List.getElem?_eq_none (by omega)]; rfl
    simp only [this]
theorem Arr.rowc {W : World} {g n c : Nat} {zs : List Int} (h : Arr W g n (fun j => .int .u64 (zs.getD j 0))) (hz : zs.length = n) (h1 : n ≤ c) (h2 : c ≤ maxLen) : Row W (.slice (some ⟨g, 0, none⟩) n c) zs :=
  Or.inr (Or.inr ⟨g, 0, c, by rw [hz], by omega, h2, fun i hi => by rw [Nat.zero_add]; exact (h i (by omega)).1⟩)
theorem Arr.qrowc {W : World} {g n c : Nat} {zs : List (Int × Int)} (h : Arr W g (n * 2) (pc fun j => zs.getD j (0, 0))) (hz : zs.length = n) (h1 : n ≤ c) (h2 : c ≤ maxLen) : QRow W (.slice (some ⟨g, 0, none⟩) n c) zs :=
  Or.inr (Or.inr ⟨g, 0, c, by rw [hz], by omega, h2, fun i hi => by rw [Nat.zero_add]; exact ⟨(h.cells i (by omega)).1, (h.cells i (by omega)).2.1⟩⟩)
theorem Arr.qrow' {W : World} {g n : Nat} {zs : List (Int × Int)} (h : Arr W g (n * 2) (pc fun j => zs.getD j (0, 0))) (hz : zs.length = n) (hn : n ≤ maxLen) : QRow W (.slice (some ⟨g, 0, none⟩) n n) zs := h.qrowc hz (Nat.le_refl _) hn
theorem ArrF.keep {c : Bool} {w w1 : World} {g n : Nat} {x : Nat → F} (h : ArrF c w g n x) (hb : Below w.heap.size w w1) : ArrF c w1 g n x := by
  obtain ⟨z, h1, h2⟩ := h
  exact ⟨z, h1.keep hb, h2⟩
theorem getD_U {zs : List Int} (h : ∀ n ∈ zs, U n) (j : Nat) : U (zs.getD j 0) := by
  by_cases hj : j < zs.length
  · exact U_getD h j hj
  · rw [List.getD, List.getElem?_eq_none (by omega)]; exact U_lit _ rfl rfl
theorem num_co {zs : List Int} (h : ∀ n ∈ zs, U n) (j : Nat) : Num false (zs.getD j 0) (co zs j) := ⟨getD_U h j, rfl, fun h => by cases h⟩
theorem numq_co {zs : List (Int × Int)} (h : ∀ n ∈ zs, U n.1 ∧ U n.2) (j : Nat) : NumQ false (zs.getD j (0, 0)) (coQ zs j) := by
  have h1 := getD_U (fsts_U h) j
  have h2 := getD_U (snds_U h) j
  rw [fsts_getD] at h1
  rw [snds_getD] at h2
  refine ⟨⟨h1, h2, ?_, ?_⟩, fun h => by cases h⟩
  · show _ = co (fsts zs) j
    unfold co; rw [fsts_getD]
  · show _ = co (snds zs) j
    unfold co; rw [snds_getD]

end Go.Proofs.YthfkfgjhgicfeaaDoor
