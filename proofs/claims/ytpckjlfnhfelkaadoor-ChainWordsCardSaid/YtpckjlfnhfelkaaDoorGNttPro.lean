/-
  Butter: Butterflies: what 2^k coefficients, their places' bits the other way round, come to stage by stage, as plain mathematics (no Go in sight).
  NttTurn: What ntt.turn comes to: each number, and each pair, where the bits of its place, the other way round, tell.
  NttRise: What the method rise comes to: each number, and each pair, times a first number and as many of another as stand ahead of it.
  LibRow: What slices.Clone and slices.Reverse come to, of numbers and of pairs.
  NttFly: What the method butterflies comes to: one stage.
  NttAround: What the method around comes to: all stages.
  Repeat: What slices.Repeat comes to, of one 1.
  NttMath: Forth and back by stages are what the document says, as plain mathematics (no Go in sight).
  NttAny: What the program's calls of layer 4 come to: Points, Forth, Back, ForthPairs, BackPairs.
-/
import Derived.Test.YtpckjlfnhfelkaaDoorGNtt
import Derived.Test.YtpckjlfnhfelkaaDoorGRow
import Derived.Test.YtpckjlfnhfelkaaDoorGRoot
import Derived.RegionTactic
import Derived.Test.YtpckjlfnhfelkaaDoorGNum
import Derived.Lib.SliceRun
import Derived.Test.YtpckjlfnhfelkaaDoorGFold
import Derived.Deep.QuietTactic
import Derived.BigQuiet
import Derived.IntWalk
import Derived.Deep.RegionHeld3
import Derived.Deep.DeepCutAuto
namespace Go.Proofs.YtpckjlfnhfelkaaDoor
set_option linter.unusedVariables false

theorem rv_twice : ∀ (K b r : Nat), r < 2 → rv (K + 1) (2 * b + r) = r * 2 ^ K + rv K b
  | 0, b, r, h => by simp only [rv, Nat.pow_zero]; omega
  | K + 1, b, r, h => by
    have ih := rv_twice K b r h
    have e : (2 * b + r) / 2 ^ (K + 1) = b / 2 ^ K := by
      rw [Nat.pow_succ, Nat.mul_comm (2 ^ K) 2, ← Nat.div_div_eq_div_mul]
      congr 1; omega
    rw [rv_succ (K + 1), ih, rv_succ K b, e, Nat.pow_succ]
    generalize 2 ^ K = p
    have : r = 0 ∨ r = 1 := by omega
    rcases this with rfl | rfl <;> omega
theorem rv_zero' : ∀ K, rv K 0 = 0
  | 0 => rfl
  | K + 1 => by rw [rv_succ, rv_zero' K]; simp

/-- What stands at a place behind o stages. -/
def st (k o : Nat) (c : Nat → F) (p : Nat) : F := sm (2 ^ o) (fun m => c (m * 2 ^ (k - o) + rv (k - o) (p / 2 ^ o)) * fpow (rootOf o) (m * (p % 2 ^ o)))
theorem st_zero (k : Nat) (c : Nat → F) (p : Nat) : st k 0 c p = c (rv k p) := by
  unfold st
  simp only [Nat.pow_zero, Nat.div_one, Nat.sub_zero, sm, Nat.zero_mul, Nat.zero_add, fpow]
  grind
theorem st_last (k : Nat) (c : Nat → F) (p : Nat) (hp : p < 2 ^ k) : st k k c p = ev (2 ^ k) c (fpow (rootOf k) p) := by
  unfold st ev
  refine sm_congr fun m _ => ?_
  rw [Nat.sub_self, Nat.div_eq_of_lt hp, rv_zero', Nat.mod_eq_of_lt hp, Nat.pow_zero, Nat.mul_one, Nat.add_zero, Nat.mul_comm m p, fpow_mul]

/-- One stage, at all places: halves of h values, by powers of w. -/
def bf {M : Type} (add sub : M → M → M) (sc : M → F → M) (h : Nat) (w : F) (x : Nat → M) (p : Nat) : M :=
  if p % (2 * h) < h then add (x p) (sc (x (p + h)) (fpow w (p % (2 * h)))) else sub (x (p - h)) (sc (x p) (fpow w (p % (2 * h) - h)))

theorem st_half (k o b j J : Nat) (c : Nat → F) (ho : o < k) (hk : k ≤ 32) (hJ : fpow (rootOf o) J = fpow (rootOf o) j) :
    sm (2 ^ (o + 1)) (fun m => c (m * 2 ^ (k - (o + 1)) + rv (k - (o + 1)) b) * fpow (rootOf (o + 1)) (m * J)) =
      sm (2 ^ o) (fun m => c (m * 2 ^ (k - o) + rv (k - o) (2 * b)) * fpow (rootOf o) (m * j)) +
      fpow (rootOf (o + 1)) J * sm (2 ^ o) (fun m => c (m * 2 ^ (k - o) + rv (k - o) (2 * b + 1)) * fpow (rootOf o) (m * j)) := by
  obtain ⟨K, hK⟩ : ∃ K, k = o + 1 + K := ⟨k - (o + 1), by omega⟩
  have e1 : k - (o + 1) = K := by omega
  have e2 : k - o = K + 1 := by omega
  rw [e1, e2, Nat.pow_succ, Nat.mul_comm (2 ^ o) 2, sm_two, ← sm_mul]
  have r0 := rv_twice K b 0 (by omega)
  have r1 := rv_twice K b 1 (by omega)
  simp only [Nat.add_zero, Nat.zero_mul, Nat.zero_add, Nat.one_mul] at r0 r1
  have q : ∀ m, fpow (rootOf (o + 1)) (2 * m * J) = fpow (rootOf o) (m * j) := by
    intro m
    rw [show 2 * m * J = 2 * (J * m) by rw [Nat.mul_assoc, Nat.mul_comm m J], fpow_mul, show fpow (rootOf (o + 1)) 2 = rootOf (o + 1) * rootOf (o + 1) by simp only [fpow]; grind, root_sq o (by omega), fpow_mul, hJ, ← fpow_mul, Nat.mul_comm]
  congr 1
  · refine sm_congr fun m _ => ?_
    rw [r0, q, show 2 * m * 2 ^ K = m * 2 ^ (K + 1) by rw [Nat.pow_succ, Nat.mul_comm 2 m, Nat.mul_assoc, Nat.mul_comm 2]]
  · refine sm_congr fun m _ => ?_
    rw [r1, show (2 * m + 1) * J = 2 * m * J + J by rw [Nat.add_mul, Nat.one_mul], fpow_add, q, show (2 * m + 1) * 2 ^ K + rv K b = m * 2 ^ (K + 1) + (2 ^ K + rv K b) by rw [Nat.pow_succ, Nat.add_mul, Nat.one_mul, Nat.mul_comm 2 m, Nat.mul_assoc, Nat.mul_comm 2]; omega]
    grind

theorem bf_st (k o : Nat) (c : Nat → F) (ho : o < k) (hk : k ≤ 32) (p : Nat) :
    bf (· + ·) (· - ·) (· * ·) (2 ^ o) (rootOf (o + 1)) (st k o c) p = st k (o + 1) c p := by
  have h0 : 0 < 2 ^ o := Nat.two_pow_pos o
  have hw := root_half o (by omega)
  have ha := root_all o (by omega)
  have hp : p = 2 ^ (o + 1) * (p / 2 ^ (o + 1)) + p % 2 ^ (o + 1) := (Nat.div_add_mod _ _).symm
  have hlt : p % 2 ^ (o + 1) < 2 ^ (o + 1) := Nat.mod_lt _ (Nat.two_pow_pos _)
  have e2 : 2 * 2 ^ o = 2 ^ (o + 1) := by rw [Nat.pow_succ, Nat.mul_comm]
  unfold bf
  rw [e2]
  generalize hb : p / 2 ^ (o + 1) = b at *
  generalize hj : p % 2 ^ (o + 1) = j at *
  rw [← e2] at hp hlt
  have dm : ∀ r i, r < 2 → i < 2 ^ o → (2 * 2 ^ o * b + (r * 2 ^ o + i)) / 2 ^ o = 2 * b + r ∧ (2 * 2 ^ o * b + (r * 2 ^ o + i)) % 2 ^ o = i := by
    intro r i hr hi
    have : 2 * 2 ^ o * b + (r * 2 ^ o + i) = 2 ^ o * (2 * b + r) + i := by
      rw [Nat.mul_add, Nat.mul_comm 2 (2 ^ o), Nat.mul_assoc, Nat.mul_comm r]; omega
    rw [this, Nat.mul_add_div h0, Nat.mul_add_mod, Nat.div_eq_of_lt hi, Nat.mod_eq_of_lt hi]
    exact ⟨rfl, rfl⟩
  by_cases c1 : j < 2 ^ o
  · rw [if_pos c1]
    have d0 := dm 0 j (by omega) c1
    have d1 := dm 1 j (by omega) c1
    rw [show 0 * 2 ^ o + j = j by omega, ← hp] at d0
    rw [show 2 * 2 ^ o * b + (1 * 2 ^ o + j) = p + 2 ^ o by omega] at d1
    have main := st_half k o b j j c ho hk rfl
    unfold st
    rw [hb, hj, d0.1, d0.2, d1.1, d1.2, main, Nat.add_zero]
    grind
  · rw [if_neg c1]
    obtain ⟨i, rfl⟩ : ∃ i, j = 2 ^ o + i := ⟨j - 2 ^ o, by omega⟩
    have d0 := dm 0 i (by omega) (by omega)
    have d1 := dm 1 i (by omega) (by omega)
    rw [show 2 * 2 ^ o * b + (1 * 2 ^ o + i) = p by omega] at d1
    rw [show 2 * 2 ^ o * b + (0 * 2 ^ o + i) = p - 2 ^ o by omega] at d0
    have hJ : fpow (rootOf o) (2 ^ o + i) = fpow (rootOf o) i := by rw [fpow_add, ha]; grind
    have main := st_half k o b i (2 ^ o + i) c ho hk hJ
    unfold st
    rw [hb, hj, d0.1, d0.2, d1.1, d1.2, main, fpow_add, hw, Nat.add_zero, show 2 ^ o + i - 2 ^ o = i by omega]
    grind

/-- A stage under way: done where the place in its half is below j, or is j in the first t blocks. -/
def bfp {M : Type} (add sub : M → M → M) (sc : M → F → M) (h : Nat) (w : F) (x : Nat → M) (j t p : Nat) : M :=
  if p % h < j ∨ (p % h = j ∧ p / (2 * h) < t) then bf add sub sc h w x p else x p
theorem bfp_start {M : Type} (add sub : M → M → M) (sc : M → F → M) (h : Nat) (w : F) (x : Nat → M) (p : Nat) : bfp add sub sc h w x 0 0 p = x p := by
  unfold bfp; rw [if_neg (by rintro (h1 | ⟨_, h1⟩) <;> exact absurd h1 (Nat.not_lt_zero _))]
theorem bfp_end {M : Type} (add sub : M → M → M) (sc : M → F → M) (h : Nat) (w : F) (x : Nat → M) (p : Nat) (h0 : 0 < h) : bfp add sub sc h w x h 0 p = bf add sub sc h w x p := by
  unfold bfp; rw [if_pos (Or.inl (Nat.mod_lt _ h0))]
theorem bfp_next {M : Type} (add sub : M → M → M) (sc : M → F → M) (h : Nat) (w : F) (x : Nat → M) (j T p : Nat) (hp : p < T * (2 * h)) : bfp add sub sc h w x j T p = bfp add sub sc h w x (j + 1) 0 p := by
  have : p / (2 * h) < T := by
    rcases Nat.eq_zero_or_pos h with rfl | h0
    · simp at hp
    · exact (Nat.div_lt_iff_lt_mul (by omega)).2 hp
  unfold bfp
  generalize p / (2 * h) = q at *
  by_cases c1 : p % h < j + 1
  · rw [if_pos (by omega), if_pos (by omega)]
  · rw [if_neg (by omega), if_neg (by omega)]
/-- Where p stands: its block, its half and its place there. -/
theorem place (h p : Nat) (h0 : 0 < h) : ∃ r, r < 2 ∧ p % (2 * h) = r * h + p % h ∧ p = p / (2 * h) * (2 * h) + (r * h + p % h) := by
  refine ⟨p / h % 2, Nat.mod_lt _ (by decide), ?_, ?_⟩
  · rw [Nat.mul_comm 2 h, Nat.mod_mul, Nat.mul_comm (p / h % 2)]; omega
  · have e : p % (2 * h) = p / h % 2 * h + p % h := by rw [Nat.mul_comm 2 h, Nat.mod_mul, Nat.mul_comm (p / h % 2)]; omega
    rw [← e, Nat.mul_comm (p / (2 * h))]; exact (Nat.div_add_mod _ _).symm
theorem place_at (h j t r : Nat) (hj : j < h) (hr : r < 2) : (j + t * (2 * h) + r * h) % h = j ∧ (j + t * (2 * h) + r * h) / (2 * h) = t ∧ (j + t * (2 * h) + r * h) % (2 * h) = r * h + j := by
  have h0 : 0 < h := by omega
  have e1 : j + t * (2 * h) + r * h = h * (2 * t + r) + j := by
    rw [Nat.mul_add, Nat.mul_comm h (2 * t), Nat.mul_assoc 2 t h, ← Nat.mul_assoc t 2 h, Nat.mul_comm t 2, Nat.mul_assoc 2 t h, Nat.mul_comm h r]; omega
  have e2 : j + t * (2 * h) + r * h = 2 * h * t + (r * h + j) := by rw [Nat.mul_comm t]; omega
  have lt : r * h + j < 2 * h := by
    have : r = 0 ∨ r = 1 := by omega
    rcases this with rfl | rfl <;> omega
  refine ⟨by rw [e1, Nat.mul_add_mod, Nat.mod_eq_of_lt hj], ?_, ?_⟩
  · rw [e2, Nat.mul_add_div (by omega), Nat.div_eq_of_lt lt, Nat.add_zero]
  · rw [e2, Nat.mul_add_mod, Nat.mod_eq_of_lt lt]
/-- One exchange. -/
theorem bfp_step {M : Type} (add sub : M → M → M) (sc : M → F → M) (h : Nat) (w : F) (x : Nat → M) (j t : Nat) (hj : j < h) (p : Nat) :
    bfp add sub sc h w x j (t + 1) p = if p = j + t * (2 * h) + h then sub (x (j + t * (2 * h))) (sc (x (j + t * (2 * h) + h)) (fpow w j)) else if p = j + t * (2 * h) then add (x (j + t * (2 * h))) (sc (x (j + t * (2 * h) + h)) (fpow w j)) else bfp add sub sc h w x j t p := by
  have h0 : 0 < h := by omega
  by_cases c1 : p = j + t * (2 * h) + h
  · have a := place_at h j t 1 hj (by omega)
    rw [Nat.one_mul, ← c1] at a
    rw [if_pos c1]
    unfold bfp bf
    rw [if_pos (Or.inr ⟨a.1, by omega⟩), if_neg (by omega), a.2.2, show p - h = j + t * (2 * h) by omega, show h + j - h = j by omega, c1]
  · rw [if_neg c1]
    by_cases c2 : p = j + t * (2 * h)
    · have a := place_at h j t 0 hj (by omega)
      rw [Nat.zero_mul, Nat.add_zero, ← c2] at a
      rw [if_pos c2]
      unfold bfp bf
      rw [if_pos (Or.inr ⟨a.1, by omega⟩), if_pos (by omega), a.2.2, Nat.zero_add, c2]
    · rw [if_neg c2]
      unfold bfp
      by_cases c3 : p % h < j ∨ (p % h = j ∧ p / (2 * h) < t)
      · rw [if_pos c3, if_pos (by omega)]
      · rw [if_neg c3, if_neg]
        intro c4
        obtain ⟨r, hr, _, e⟩ := place h p h0
        have e1 : p % h = j := by omega
        have e2 : p / (2 * h) = t := by omega
        rw [e1, e2] at e
        have : r = 0 ∨ r = 1 := by omega
        rcases this with rfl | rfl <;> omega
/-- Just that step's two places were as they came. -/
theorem bfp_fresh {M : Type} (add sub : M → M → M) (sc : M → F → M) (h : Nat) (w : F) (x : Nat → M) (j t : Nat) (hj : j < h) : bfp add sub sc h w x j t (j + t * (2 * h)) = x (j + t * (2 * h)) ∧ bfp add sub sc h w x j t (j + t * (2 * h) + h) = x (j + t * (2 * h) + h) := by
  have a := place_at h j t 0 hj (by omega)
  have b := place_at h j t 1 hj (by omega)
  rw [Nat.zero_mul, Nat.add_zero] at a
  rw [Nat.one_mul] at b
  exact ⟨if_neg (by omega), if_neg (by omega)⟩

/-- Places that change with their bits the other way round: those below i, and theirs, have. -/
def tu {M : Type} (k : Nat) (x : Nat → M) (i p : Nat) : M := if p < i ∨ rv k p < i then x (rv k p) else x p
theorem rv_self (k p : Nat) (hp : p < 2 ^ k) : rv k (rv k p) = p := by rw [rv_rv, Nat.mod_eq_of_lt hp]
theorem tu_start {M : Type} (k : Nat) (x : Nat → M) (p : Nat) : tu k x 0 p = x p := by unfold tu; rw [if_neg (by omega)]
theorem tu_end {M : Type} (k : Nat) (x : Nat → M) (p : Nat) (hp : p < 2 ^ k) : tu k x (2 ^ k) p = x (rv k p) := by unfold tu; rw [if_pos (Or.inl hp)]
theorem tu_stay {M : Type} (k : Nat) (x : Nat → M) (i p : Nat) (hi : i < 2 ^ k) (hp : p < 2 ^ k) (h : rv k i ≤ i) : tu k x (i + 1) p = tu k x i p := by
  unfold tu
  by_cases c1 : p < i ∨ rv k p < i
  · rw [if_pos c1, if_pos (by omega)]
  · rw [if_neg c1]
    by_cases c2 : p < i + 1 ∨ rv k p < i + 1
    · rw [if_pos c2]
      rcases (by omega : p = i ∨ rv k p = i) with e | e
      · subst e; rw [show rv k p = p by omega]
      · have e2 := rv_self k p hp
        rw [e] at e2 ⊢
        rw [show p = i by omega]
    · rw [if_neg c2]
theorem tu_swap {M : Type} (k : Nat) (x : Nat → M) (i p : Nat) (hi : i < 2 ^ k) (hp : p < 2 ^ k) (h : i < rv k i) : tu k x (i + 1) p = if p = rv k i then x i else if p = i then x (rv k i) else tu k x i p := by
  by_cases c1 : p = rv k i
  · rw [if_pos c1]
    unfold tu
    rw [c1, rv_self k i hi, if_pos (by omega)]
  · rw [if_neg c1]
    by_cases c2 : p = i
    · rw [if_pos c2, c2]; unfold tu; rw [if_pos (by omega)]
    · rw [if_neg c2]
      unfold tu
      by_cases c3 : p < i ∨ rv k p < i
      · rw [if_pos c3, if_pos (by omega)]
      · rw [if_neg c3, if_neg]
        intro c4
        have e : rv k p = i := by omega
        have := rv_self k p hp
        rw [e] at this
        exact c1 this.symm
theorem tu_fresh {M : Type} (k : Nat) (x : Nat → M) (i : Nat) (hi : i < 2 ^ k) (h : i < rv k i) : tu k x i i = x i ∧ tu k x i (rv k i) = x (rv k i) := by
  unfold tu
  rw [if_neg (by omega), rv_self k i hi, if_neg (by omega)]
  exact ⟨rfl, rfl⟩

/-- All stages. -/
def ar {M : Type} (add sub : M → M → M) (sc : M → F → M) (k : Nat) (x : Nat → M) : Nat → Nat → M
  | 0 => fun p => x (rv k p)
  | o + 1 => bf add sub sc (2 ^ o) (rootOf (o + 1)) (ar add sub sc k x o)
theorem bf_congr {M : Type} {add sub : M → M → M} {sc : M → F → M} {h : Nat} {w : F} {x y : Nat → M} (p : Nat) (hxy : ∀ p, x p = y p) : bf add sub sc h w x p = bf add sub sc h w y p := by
  unfold bf; rw [hxy, hxy, hxy]
theorem ar_st (k : Nat) (hk : k ≤ 32) (c : Nat → F) : ∀ o, o ≤ k → ∀ p, ar (· + ·) (· - ·) (· * ·) k c o p = st k o c p
  | 0, _, p => (st_zero k c p).symm
  | o + 1, ho, p => by
    show bf _ _ _ _ _ _ p = _
    rw [bf_congr p (ar_st k hk c o (by omega)), bf_st k o c (by omega) hk p]
theorem ar_ev (k : Nat) (hk : k ≤ 32) (c : Nat → F) (p : Nat) (hp : p < 2 ^ k) : ar (· + ·) (· - ·) (· * ·) k c k p = ev (2 ^ k) c (fpow (rootOf k) p) := by
  rw [ar_st k hk c k (Nat.le_refl _) p, st_last k c p hp]
/-- Pairs: part by part. -/
theorem ar_a (k : Nat) (x : Nat → F2) : ∀ o p, (ar (· + ·) (· - ·) scale k x o p).a = ar (· + ·) (· - ·) (· * ·) k (fun i => (x i).a) o p
  | 0, p => rfl
  | o + 1, p => by
    show F2.a (bf _ _ _ _ _ _ p) = bf _ _ _ _ _ _ p
    unfold bf
    rw [← ar_a k x o p, ← ar_a k x o (p + _), ← ar_a k x o (p - _)]
    split <;> rfl
theorem ar_b (k : Nat) (x : Nat → F2) : ∀ o p, (ar (· + ·) (· - ·) scale k x o p).b = ar (· + ·) (· - ·) (· * ·) k (fun i => (x i).b) o p
  | 0, p => rfl
  | o + 1, p => by
    show F2.b (bf _ _ _ _ _ _ p) = bf _ _ _ _ _ _ p
    unfold bf
    rw [← ar_b k x o p, ← ar_b k x o (p + _), ← ar_b k x o (p - _)]
    split <;> rfl
end Go.Proofs.YtpckjlfnhfelkaaDoor
namespace Go.Proofs.YtpckjlfnhfelkaaDoor
open Go.RowKit
set_option linter.unusedVariables false

theorem tv_rv (k i : Nat) (hk : k ≤ 20) (hi : i < 2 ^ k) : tv i k = (rv k i : Int) := by
  have h1 : 2 ^ k ≤ 2 ^ 20 := Nat.pow_le_pow_right (by decide) hk
  unfold tv
  rw [Int.toNat_natCast, show min k 62 = k by omega, Int.emod_eq_of_lt (by omega) (by omega), Int.toNat_natCast]
def TurnRel (w : World) (g k n : Nat) (z : Nat → Int) (i : Value) (W : World) : Prop :=
  ∃ m : Nat, m ≤ n ∧ i = .int .i64 m ∧ But g w W ∧ Arr W g n (fun j => .int .u64 (tu k z m j))

def TurnRelQ (w : World) (g k n : Nat) (z : Nat → Int × Int) (i : Value) (W : World) : Prop :=
  ∃ m : Nat, m ≤ n ∧ i = .int .i64 m ∧ But g w W ∧ Arr W g (n * 2) (pc (tu k z m))

set_option maxHeartbeats 4000000 in
theorem turn_q (g cap k : Nat) (hk : k ≤ 20) (z : Nat → Int × Int) (w : World) (hA : Arr w g (2 ^ k * 2) (pc z)) :
    Calls Tryd.prog 69 #[.slice (some ⟨g, 0, none⟩) (2 ^ k) cap, .int .i64 k] w fun e w' => e = .returned (.tuple #[]) ∧ But g w w' ∧ Arr w' g (2 ^ k * 2) (pc fun j => z (rv k j)) := by
  have hN : 2 ^ k ≤ 2 ^ 20 := Nat.pow_le_pow_right (by decide) hk
  have hT := Lib.hid (tv_rv k · hk)
  have hS := Lib.hid (tu_start k z); have hE := Lib.hid (tu_end k z); have hL := Lib.hid (rv_lt k)
  have hst := Lib.hid (fun i p => tu_stay k z i p); have hsw := Lib.hid (fun i p => tu_swap k z i p); have hfr := Lib.hid (tu_fresh k z)
  have H0 := Lib.hid (hA.same (pc_same (y := tu k z 0) (fun j hj => by rw [hS.out j])))
  clear hA
  generalize hn : 2 ^ k = n at *
  clear hn
  go_enter Tryd.func69, Tryd.ntmps69
  go_wp2_with fail
  go_loopw [8] (TurnRelQ w g k n z) (fun i _ => n - (intOf i).toNat)
  case atStart => exact ⟨0, Nat.zero_le _, rfl, But.refl _ _, H0.out⟩
  case round =>
    obtain ⟨m, hm, rfl, hB, hA⟩ := hrel
    by_cases hlt : m < n
    · have K := turn_is m k (rv k m) (by unfold I64; omega) (by unfold I64; omega) (hT.out m hlt)
      have hl : rv k m < n := hL.out m
      by_cases h2 : m < rv k m
      · obtain ⟨e0, e1⟩ := hfr.out m hlt h2
        have hA2 := (hA.setq m (z (rv k m)).1 (z (rv k m)).2 hlt).setq (rv k m) (z m).1 (z m).2 hl
        obtain ⟨c0, d0, f0, k0⟩ := hA.cells m hlt
        obtain ⟨c1, d1, f1, k1⟩ := hA.cells (rv k m) hl
        rw [e0] at c0 d0
        rw [e1] at c1 d1
        have HA2 := Lib.hid (hA2.same (pc_same (y := tu k z (m + 1)) (fun j hj => by
          have := hsw.out m j hlt hj h2
          rw [this])))
        have HB := Lib.hid hB
        clear hA hB e0 e1 hA2
        have h3 : (m : Int) < (rv k m : Int) := by omega
        generalize rv k m = r at *
        go_wp2_with (go_at_call 75; ((with_reducible refine (K _).mono ?_); rintro e w' ⟨rfl, rfl⟩))
        go_region
        all_goals
          go_wp2_with fail
          go_roundw
          case rel => exact ⟨m + 1, by omega, by go_num, ((((HB.out.setCell (Or.inl rfl) _).setCell (Or.inl rfl) _).setCell (Or.inl rfl) _).setCell (Or.inl rfl) _).drew, HA2.out⟩
          case measure => simp [intOf]; omega
      · have HA2 := Lib.hid (hA.same (pc_same (y := tu k z (m + 1)) (fun j hj => by
          rw [hst.out m j hlt hj (by omega)])))
        have HB := Lib.hid hB
        clear hA hB
        have h3 : ¬ (m : Int) < (rv k m : Int) := by omega
        generalize rv k m = r at *
        go_wp2_with (go_at_call 75; ((with_reducible refine (K _).mono ?_); rintro e w' ⟨rfl, rfl⟩))
        go_roundw
        case rel => exact ⟨m + 1, by omega, by go_num, HB.out, HA2.out⟩
        case measure => simp [intOf]; omega
    · have : m = n := by omega
      subst this
      have HA2 := Lib.hid (hA.same (pc_same (y := fun j => z (rv k j)) (fun j hj => by
        rw [hE.out j hj])))
      have HB := Lib.hid hB
      clear hA hB
      go_wp2_with fail
      go_end0
      exact ⟨rfl, HB.out, HA2.out⟩
end Go.Proofs.YtpckjlfnhfelkaaDoor
namespace Go.Proofs.YtpckjlfnhfelkaaDoor
open Go.RowKit
set_option linter.unusedVariables false

abbrev addU : Value := .func (.func 62) #[] #[]
abbrev subU : Value := .func (.func 63) #[] #[]
abbrev mulU' : Value := .func (.func 38) #[] #[]
abbrev kindU : Value := .agg #[addU, subU, mulU']
abbrev addQ : Value := .func (.func 55) #[] #[]
abbrev subQ : Value := .func (.func 57) #[] #[]
abbrev scaleQ : Value := .func (.func 34) #[] #[]
abbrev kindQ : Value := .agg #[addQ, subQ, scaleQ]

/-- Numbers under way: the first m are done. -/
def RiseRel (w : World) (g n : Nat) (z : Nat → Int) (r : Nat → Int) (f b : F) (i0 i : Value) (W : World) : Prop :=
  ∃ (m : Nat) (y : Int), m ≤ n ∧ i = .int .i64 m ∧ i0 = .int .u64 y ∧ U y ∧ toF y = f * fpow b m ∧ But g w W ∧ W.cell? ⟨w.heap.size, 2, none⟩ = some mulU' ∧ Arr W g n (fun j => .int .u64 (if j < m then r j else z j))
theorem rise_fin {n m : Nat} {z r : Nat → Int} {v : Int} (hv : r m = v) : ∀ j, j < n → (if j = m then Value.int .u64 v else .int .u64 (if j < m then r j else z j)) = .int .u64 (if j < m + 1 then r j else z j) := by
  intro j hj
  by_cases h : j = m
  · subst h; rw [if_pos rfl, if_pos (by omega), hv]
  · rw [if_neg h]
    by_cases h2 : j < m
    · rw [if_pos h2, if_pos (by omega)]
    · rw [if_neg h2, if_neg (by omega)]

/-- Pairs under way: the first m are done. -/
def RiseRelQ (w : World) (g n : Nat) (z : Nat → Int × Int) (r : Nat → F2) (f b : F) (i0 i : Value) (W : World) : Prop :=
  ∃ (m : Nat) (y : Int), m ≤ n ∧ i = .int .i64 m ∧ i0 = .int .u64 y ∧ U y ∧ toF y = f * fpow b m ∧ But g w W ∧ w.heap.size < W.heap.size ∧ W.cell? ⟨w.heap.size, 2, none⟩ = some scaleQ ∧ Arr W g (n * 2) (pc fun j => if j < m then encP (r j) else z j)
theorem riseq_fin {n m : Nat} {z : Nat → Int × Int} {r : Nat → F2} {v : F2} (hv : r m = v) : ∀ j, j < n → (if j = m then (enc v.a, enc v.b) else if j < m then encP (r j) else z j) = if j < m + 1 then encP (r j) else z j := by
  intro j hj
  by_cases h : j = m
  · subst h; rw [if_pos rfl, if_pos (by omega), ← hv]; rfl
  · rw [if_neg h]
    by_cases h2 : j < m
    · rw [if_pos h2, if_pos (by omega)]
    · rw [if_neg h2, if_neg (by omega)]

set_option maxHeartbeats 4000000 in
theorem rise_q (g n cap : Nat) (hn : n ≤ 1048576) (h0 : 0 < n) (x : Nat → F2) (fi bi : Int) (hf : U fi) (hb : U bi) (f b : F) (hf2 : toF fi = f) (hb2 : toF bi = b) (cc : Bool) (w : World) (h : ArrQ cc w g n x) :
    Calls Tryd.prog 61 #[kindQ, .slice (some ⟨g, 0, none⟩) n cap, .int .u64 fi, .int .u64 bi] w fun e w' => e = .returned (.tuple #[]) ∧ But g w w' ∧ Arr w' g (n * 2) (pc fun j => encP (scale (x j) (f * fpow b j))) := by
  obtain ⟨z, hA, hz⟩ := h
  have hg := hA.lt (by omega)
  have HZ := Lib.hid hz
  have H0 := Lib.hid (hA.alloc (.cells #[addQ, subQ, scaleQ] 64))
  have HF := Lib.hid hf2; have HB2 := Lib.hid hb2
  clear hA hz hf2 hb2
  go_enter Tryd.func61, Tryd.ntmps61
  go_wp2_with fail
  go_loopw [2, 12] (RiseRelQ w g n z (fun j => scale (x j) (f * fpow b j)) f b) (fun _ i _ => n - (intOf i).toNat)
  case atStart => exact ⟨0, fi, Nat.zero_le _, rfl, rfl, hf, by rw [HF.out, fpow_zero]; grind, (But.refl _ _).alloc _, by simp, by simp [go_sem], H0.out.same (pc_same fun j hj => by rw [if_neg (Nat.not_lt_zero _)])⟩
  case round =>
    obtain ⟨m, y, hm, rfl, rfl, hU, hy, hB, hs, hc, hA⟩ := hrel
    by_cases hlt : m < n
    · have hz := HZ.out m hlt
      have m1 := pscale_q (z m).1 (z m).2 y (x m) (scale (x m) (f * fpow b m)) hz.1 hU (by rw [hy])
      have m2 := mul_is y bi (enc (f * fpow b (m + 1))) hU hb (by rw [hy, HB2.out, fpow_succ]; congr 1; grind)
      obtain ⟨c0, c1, f0, f1⟩ := hA.cells m hlt
      rw [if_neg (Nat.lt_irrefl _)] at c0 c1
      clear hz hy
      generalize hZ : z m = zm at *
      obtain ⟨z0, z1⟩ := zm
      dsimp only at c0 c1 m1
      go_upto_region 4 with fail
      refine wp_gen (fun W => But g w W ∧ w.heap.size < W.heap.size ∧ W.cell? ⟨w.heap.size, 2, none⟩ = some scaleQ ∧ Arr W g (n * 2) (pc fun j => if j < m then encP (scale (x j) (f * fpow b j)) else z j) ∧ Var W wr.heap.size z0 z1) ⟨hB.alloc _, by simp; omega, by simp [go_sem, hc, hs], hA.alloc _, Var.new _ _ _ _⟩ ?_
      clear hB hs hc hA c0 c1 f0 f1
      rintro W ⟨hB, hs, hc, hA, ⟨v0, v1, w0, w1⟩⟩
      go_upto_region 5 with ((go_at_call 34; ((with_reducible refine (m1 _).mono ?_); rintro e W1 ⟨rfl, hb1⟩; replace hA := hA.keep hb1; replace hc := bkeep hb1 hc; replace hs := Nat.lt_of_lt_of_le hs hb1.size; replace hB := hB.then hb1; obtain ⟨c0, c1, f0, f1⟩ := hA.cells m hlt; clear hb1 v0 v1 w0 w1)))
      refine wp_gen (fun W => But g w W ∧ w.heap.size < W.heap.size ∧ W.cell? ⟨w.heap.size, 2, none⟩ = some scaleQ ∧ Arr W g (n * 2) (pc fun j => if j < m + 1 then encP (scale (x j) (f * fpow b j)) else z j)) ⟨(hB.setCell (Or.inl rfl) _).setCell (Or.inl rfl) _, by simp; exact hs, (World.cell?_setCell_far _ _ _ _ (by show g ≠ w.heap.size; omega)).trans ((World.cell?_setCell_far _ _ _ _ (by show g ≠ w.heap.size; omega)).trans hc), (hA.setq m _ _ hlt).same (pc_same (riseq_fin (r := fun j => scale (x j) (f * fpow b j)) rfl))⟩ ?_
      clear hB hs hc hA c0 c1 f0 f1
      rintro W2 ⟨hB, hs, hc, hA⟩
      go_wp2_with (go_at_call 38; ((with_reducible refine (m2 _).mono ?_); rintro e w' ⟨rfl, rfl⟩))
      go_roundw
      case rel => exact ⟨m + 1, _, by omega, by go_num, rfl, enc_U _, toF_enc _, hB, hs, hc, hA⟩
      case measure => simp [intOf]; omega
    · have : m = n := by omega
      subst this
      have HA := Lib.hid (hA.same (pc_same (y := fun j => encP (scale (x j) (f * fpow b j))) (fun j hj => by rw [if_pos hj])))
      have HB := Lib.hid hB
      clear hA hB
      go_wp2_with fail
      go_end0
      exact ⟨rfl, HB.out, HA.out⟩
end Go.Proofs.YtpckjlfnhfelkaaDoor
namespace Go.Proofs.YtpckjlfnhfelkaaDoor
open Go.RowKit
set_option linter.unusedVariables false

/-- Places o to o + n, the other way round. -/
def rx (o n j : Nat) : Nat := if o ≤ j ∧ j < o + n then 2 * o + n - 1 - j else j
/-- .. under way: the first m, and the last m. -/
def rxm (o n m j : Nat) : Nat := if o ≤ j ∧ j < o + n ∧ (j < o + m ∨ o + n ≤ j + m) then 2 * o + n - 1 - j else j
theorem rxm_zero (o n j : Nat) : rxm o n 0 j = j := if_neg (by omega)
theorem rxm_end (o n m j : Nat) (h : n ≤ 2 * m + 1) : rxm o n m j = rx o n j := by
  unfold rxm rx
  by_cases c : o ≤ j ∧ j < o + n
  · rw [if_pos c]
    by_cases d : j < o + m ∨ o + n ≤ j + m
    · rw [if_pos ⟨c.1, c.2, d⟩]
    · rw [if_neg (fun h => d h.2.2)]; omega
  · rw [if_neg c, if_neg (fun h => c ⟨h.1, h.2.1⟩)]
theorem rxm_step (o n m r j : Nat) (h : m < r) (hr : r + 1 + m = n) : rxm o n (m + 1) j = if j = o + r then o + m else if j = o + m then o + r else rxm o n m j := by
  unfold rxm
  by_cases c1 : j = o + r
  · rw [if_pos c1, if_pos (by omega)]; omega
  · rw [if_neg c1]
    by_cases c2 : j = o + m
    · rw [if_pos c2, if_pos (by omega)]; omega
    · rw [if_neg c2]
      by_cases c3 : o ≤ j ∧ j < o + n ∧ (j < o + m ∨ o + n ≤ j + m)
      · rw [if_pos c3, if_pos (by omega)]
      · rw [if_neg c3, if_neg (by omega)]
theorem rxm_fresh (o n m r : Nat) (h : m < r) (hr : r + 1 + m = n) : rxm o n m (o + m) = o + m ∧ rxm o n m (o + r) = o + r := ⟨if_neg (by omega), if_neg (by omega)⟩

set_option maxHeartbeats 4000000 in
theorem clone_q (a : Option Addr) (len cap : Nat) (zs : List (Int × Int)) (w : World) (hr : QRowA w a len zs) (h0 : 0 < len) (hl : len ≤ 4294967296) :
    Calls Tryd.prog 17 #[.slice a len cap] w fun e w' => ∃ g c, e = .returned (.slice (some ⟨g, 0, none⟩) len c) ∧ w.heap.size ≤ g ∧ len ≤ c ∧ c ≤ maxLen ∧ Below w.heap.size w w' ∧ Arr w' g (len * 2) (pc fun j => zs.getD j (0, 0)) := by
  obtain ⟨i0, hi, hz0, hz1, hz2⟩ := info_parts infoQ'
  have q := fun (w : World) (a : Option Addr) (n c n' c' : Nat) => Lib.run_eql_slice_nil (P := Tryd.prog) w 22 41 a n c n' c' Tryd.underlying22
  obtain ⟨hz, hm, hc⟩ := hr
  obtain ⟨b, off, rfl, g0⟩ := hc 0 h0
  have A : Aside (∀ j u, (flat zs)[j]? = some u → w.cell? ⟨b, off + j, none⟩ = some u) := by
    intro j u hj
    have hj2 : j < len * 2 := by have := (List.getElem?_eq_some_iff.1 hj).1; rw [flat_length] at this; omega
    obtain ⟨b', off', e, h, h'⟩ := hc (j / 2) (by omega)
    cases e
    obtain ⟨f0, f1⟩ := flat_at zs (j / 2) (by omega)
    rcases (by omega : j = j / 2 * 2 ∨ j = j / 2 * 2 + 1) with e | e
    · rw [← e] at h f0; rw [h, ← hj, f0]
    · rw [← e] at f1; rw [Nat.add_assoc, ← e] at h'; rw [h', ← hj, f1]
  have L1 : (flat zs).length = len * 2 := by rw [flat_length, hz]
  clear hc g0
  obtain ⟨news, hnews⟩ : ∃ l, flat zs = l := ⟨_, rfl⟩
  have HN := Lib.hid hnews
  rw [hnews] at A L1
  clear hnews
  have hon : ∀ u ∈ news, u.oneCell' = true := by rw [← HN.out]; intro u hu; obtain ⟨x, _, hx⟩ := List.mem_flatMap.1 hu; simp at hx; rcases hx with rfl | rfl <;> rfl
  have HM := Lib.hid hm
  go_enter Tryd.func17, Tryd.ntmps17
  go_wp2_with (at_builtin; refine wpList_append_own _ rfl _ _ 22 rfl w.heap.size 41 i0 (.agg #[.int .u64 0, .int .u64 0]) 2 16 Tryd.underlying22 hi hz0 hz1 hz2 rfl (by decide) _ _ _ rfl (World.ownsRow_made w #[] 0 (Nat.le_refl _) (Nat.zero_le _) (by simp)) ⟨b, off, none⟩ len cap news rfl ?qc1 ?qc2 ?qc3 ?qc4 ?qc5 ?qc6 ?_)
  case qc1 => exact L1
  case qc2 =>
    intro j u hj
    rw [Addr.add_lit]
    exact Lib.cell?_alloc_some _ (A.out j u hj)
  case qc3 => exact hon
  case qc4 => rw [Nat.zero_add]; exact HM.out
  case qc5 => rw [Nat.zero_add]; omega
  case qc6 => simp
  intro v' w1 hown hgrow hnil
  try simp only [Nat.zero_add, List.nil_append] at hown
  obtain ⟨g, c, rfl, hb, hnc, hcm, hA⟩ := own_arr hown h0
  have HA : Hid (Arr w1 g (len * 2) (pc fun j => zs.getD j (0, 0))) := Lib.hid (by
    rw [← HN.out] at hA
    exact (hA.same (fun j hj => by
      obtain ⟨f0, f1⟩ := flat_at zs (j / 2) (by omega)
      unfold pc
      rcases (by omega : j = j / 2 * 2 ∨ j = j / 2 * 2 + 1) with e | e
      · rw [if_pos (by omega)]; rw [← e] at f0; rw [List.getD, f0]; rfl
      · rw [if_neg (by omega)]; rw [← e] at f1; rw [List.getD, f1]; rfl)))
  have HB := Lib.hid (((Below.refl _ w).alloc (Nat.le_refl _) _).grown hgrow (by simp) (by intro k hk; simp [Value.ownBlock] at hk; omega))
  clear hA hown hgrow hnil
  go_wp2
  go_ret
  exact ⟨g, c, rfl, hb, hnc, hcm, HB.out, HA.out⟩

def RevRel (w : World) (g N o n : Nat) (z : Nat → Int) (i j : Value) (W : World) : Prop :=
  ∃ m : Nat, 2 * m ≤ n + 1 ∧ i = .int .i64 m ∧ j = .int .i64 ((n : Int) - 1 - m) ∧ But g w W ∧ Arr W g N (fun i => .int .u64 (z (rxm o n m i)))
def RevRelQ (w : World) (g N o n : Nat) (z : Nat → Int × Int) (i j : Value) (W : World) : Prop :=
  ∃ m : Nat, 2 * m ≤ n + 1 ∧ i = .int .i64 m ∧ j = .int .i64 ((n : Int) - 1 - m) ∧ But g w W ∧ Arr W g (N * 2) (pc fun i => z (rxm o n m i))
set_option maxHeartbeats 4000000 in
theorem reverse_q (g N o n cap : Nat) (hN : N ≤ 4294967296) (hn : o + n ≤ N) (z : Nat → Int × Int) (w : World) (hA : Arr w g (N * 2) (pc z)) (a : Nat) (ha : a = o * 2) :
    Calls Tryd.prog 60 #[.slice (some ⟨g, a, none⟩) n cap] w fun e w' => e = .returned (.tuple #[]) ∧ But g w w' ∧ Arr w' g (N * 2) (pc fun i => z (rx o n i)) := by
  have hst := Lib.hid (rxm_zero o n); have hsw := Lib.hid (rxm_step o n); have hfr := Lib.hid (rxm_fresh o n); have hE := Lib.hid (rxm_end o n)
  have H0 := Lib.hid (hA.same (pc_same (y := fun i => z (rxm o n 0 i)) (fun j hj => by rw [hst.out j])))
  have HN := Lib.hid hn
  have HAA := Lib.hid ha
  clear ha
  have hn1 : (n : Int) ≤ 4294967296 := by omega
  have hn0 : (0 : Int) ≤ (n : Int) := by omega
  clear hA
  go_enter Tryd.func60, Tryd.ntmps60
  go_wp2_with fail
  go_loopw [2, 3] (RevRelQ w g N o n z) (fun i _ _ => n - (intOf i).toNat)
  case atStart => exact ⟨0, by omega, rfl, by simp, But.refl _ _, H0.out⟩
  case round =>
    obtain ⟨m, hm, rfl, rfl, hB, hA⟩ := hrel
    by_cases hlt : 2 * m + 1 < n
    · obtain ⟨r, hr⟩ : ∃ r : Nat, (n : Int) - 1 - m = (r : Int) := ⟨n - 1 - m, by omega⟩
      have h3 : (m : Int) < (r : Int) := by omega
      have hrn : r + 1 + m = n := by omega
      obtain ⟨e0, e1⟩ := hfr.out m r (by omega) hrn
      have HA2 := Lib.hid ((hA.setq (o + m) (z (o + r)).1 (z (o + r)).2 (by omega)).setq (o + r) (z (o + m)).1 (z (o + m)).2 (by omega))
      obtain ⟨c0, d0, f0, k0⟩ := hA.cells (o + m) (by omega)
      obtain ⟨c1, d1, f1, k1⟩ := hA.cells (o + r) (by omega)
      rw [e0] at c0 d0
      rw [e1] at c1 d1
      clear e0 e1
      rw [show (o + m) * 2 = a + m * 2 by have := HAA.out; omega] at c0 d0 f0 k0 HA2
      rw [show (o + r) * 2 = a + r * 2 by have := HAA.out; omega] at c1 d1 f1 k1 HA2
      have HS : Hid (∀ j, rxm o n (m + 1) j = if j = o + r then o + m else if j = o + m then o + r else rxm o n m j) := Lib.hid (fun j => hsw.out m r j (by omega) hrn)
      have HR := Lib.hid hrn
      have HB := Lib.hid hB
      rw [hr]
      clear hA hB hr hrn
      have q1 : (m : Int) < (n : Int) := by have := HR.out; omega
      have q2 : (r : Int) < (n : Int) := by have := HR.out; omega
      have q3 : m < n := by have := HR.out; omega
      have q4 : r < n := by have := HR.out; omega
      have q5 : r ≠ m := by omega
      have q6 : m ≠ r := by omega
      go_wp2_with fail
      go_region
      all_goals
        go_wp2_with fail
        go_roundw
        case rel => exact ⟨m + 1, by have := HR.out; omega, by go_num, by have := HR.out; exact congrArg (Value.int .i64) (by omega), ((((HB.out.setCell (Or.inl rfl) _).setCell (Or.inl rfl) _).setCell (Or.inl rfl) _).setCell (Or.inl rfl) _).drew, HA2.out.same (pc_same (y := fun i => z (rxm o n (m + 1) i)) (fun j hj => by
          rw [HS.out j]
          by_cases a1 : j = o + r
          · rw [if_pos a1, if_pos a1]
          · rw [if_neg a1, if_neg a1]
            by_cases a2 : j = o + m
            · rw [if_pos a2, if_pos a2]
            · rw [if_neg a2, if_neg a2]))⟩
        case measure => have := HR.out; simp [intOf]; omega
    · have h3 : ¬ (m : Int) < (n : Int) - 1 - m := by omega
      have HA2 := Lib.hid (hA.same (pc_same (y := fun i => z (rx o n i)) (fun j hj => by rw [hE.out m j (by omega)])))
      have HB := Lib.hid hB
      clear hA hB
      go_wp2_with fail
      go_end0
      exact ⟨rfl, HB.out, HA2.out⟩
end Go.Proofs.YtpckjlfnhfelkaaDoor
namespace Go.Proofs.YtpckjlfnhfelkaaDoor
open Go.RowKit
set_option linter.unusedVariables false

/-- The three functions of a kind, in their cells. -/
def K3 (W : World) (b : Nat) (f0 f1 f2 : Value) : Prop := W.cell? ⟨b, 0, none⟩ = some f0 ∧ W.cell? ⟨b, 1, none⟩ = some f1 ∧ W.cell? ⟨b, 2, none⟩ = some f2
theorem K3.keep {W w1 : World} {b : Nat} {f0 f1 f2 : Value} (h : K3 W b f0 f1 f2) (hb : Below W.heap.size W w1) : K3 w1 b f0 f1 f2 := ⟨bkeep hb h.1, bkeep hb h.2.1, bkeep hb h.2.2⟩
theorem K3.far {W : World} {b g : Nat} {f0 f1 f2 : Value} (h : K3 W b f0 f1 f2) (hg : g ≠ b) (o : Nat) (v : Value) : K3 (W.setCell ⟨g, o, none⟩ v) b f0 f1 f2 :=
  ⟨(World.cell?_setCell_far _ _ _ _ hg).trans h.1, (World.cell?_setCell_far _ _ _ _ hg).trans h.2.1, (World.cell?_setCell_far _ _ _ _ hg).trans h.2.2⟩
theorem K3.but {W w1 : World} {b g : Nat} {f0 f1 f2 : Value} (h : K3 W b f0 f1 f2) (hB : But g W w1) (hg : b ≠ g) : K3 w1 b f0 f1 f2 := ⟨hB.keep h.1 hg, hB.keep h.2.1 hg, hB.keep h.2.2 hg⟩
theorem K3.new (W : World) (f0 f1 f2 : Value) (t : TypeId) : K3 (W.alloc (.cells #[f0, f1, f2] t)) W.heap.size f0 f1 f2 := by simp [K3, go_sem]

/-- A stage under way, of numbers and of pairs. -/
abbrev bfU (h : Nat) (c : F) (x : Nat → F) (j t : Nat) : Nat → F := bfp (· + ·) (· - ·) (· * ·) h c x j t
abbrev bfQ (h : Nat) (c : F) (x : Nat → F2) (j t : Nat) : Nat → F2 := bfp (· + ·) (· - ·) scale h c x j t
theorem fly_set {cc : Bool} {W : World} {g n h j t p q : Nat} {c : F} {x : Nat → F} {z : Nat → Int} (hA : Arr W g n (fun i => .int .u64 (z i))) (hz : ∀ i, i < n → Num cc (z i) (bfU h c x j t i)) (hj : j < h) (hp : p = j + t * (2 * h)) (hq : q = p + h) (hn : q < n) :
    ArrF cc ((W.setCell ⟨g, p, none⟩ (.int .u64 (enc (x p + x q * fpow c j)))).setCell ⟨g, q, none⟩ (.int .u64 (enc (x p - x q * fpow c j)))) g n (bfU h c x j (t + 1)) := by
  subst hp hq
  refine ⟨fun i => if i = j + t * (2 * h) + h then enc (x (j + t * (2 * h)) - x (j + t * (2 * h) + h) * fpow c j) else if i = j + t * (2 * h) then enc (x (j + t * (2 * h)) + x (j + t * (2 * h) + h) * fpow c j) else z i, ((hA.set _ _ (by omega)).set _ _ hn).same (fun i hi => ?_), fun i hi => ?_⟩
  · dsimp only
    split
    · rfl
    · split <;> rfl
  · have := bfp_step (· + ·) (· - ·) (· * ·) h c x j t hj i
    show Num _ _ (bfp _ _ _ _ _ _ _ _ _)
    rw [this]
    dsimp only
    by_cases c1 : i = j + t * (2 * h) + h
    · rw [if_pos c1, if_pos c1]; exact num_enc _ _
    · rw [if_neg c1, if_neg c1]
      by_cases c2 : i = j + t * (2 * h)
      · rw [if_pos c2, if_pos c2]; exact num_enc _ _
      · rw [if_neg c2, if_neg c2]; exact hz i hi
theorem fly_setq {cc : Bool} {W : World} {g n h j t p q : Nat} {c : F} {x : Nat → F2} {z : Nat → Int × Int} {a s : F2} (hA : Arr W g (n * 2) (pc fun i => if true = true ∧ i = p then (enc a.a, enc a.b) else z i)) (hz : ∀ i, i < n → NumQ cc (z i) (bfQ h c x j t i)) (hj : j < h) (hp : p = j + t * (2 * h)) (hq : q = p + h) (hn : q < n)
    (ha : x p + scale (x q) (fpow c j) = a) (hs : x p - scale (x q) (fpow c j) = s) :
    ArrQ cc ((W.setCell ⟨g, q * 2, none⟩ (.int .u64 (enc s.a))).setCell ⟨g, q * 2 + 1, none⟩ (.int .u64 (enc s.b))) g n (bfQ h c x j (t + 1)) := by
  subst hp hq ha hs
  refine ⟨_, hA.setq _ _ _ hn, fun i hi => ?_⟩
  have := bfp_step (· + ·) (· - ·) scale h c x j t hj i
  show NumQ _ _ (bfp _ _ _ _ _ _ _ _ _)
  rw [this]
  by_cases c1 : i = j + t * (2 * h) + h
  · simp only [if_pos c1]; exact numq_enc _ _
  · simp only [if_neg c1]
    by_cases c2 : i = j + t * (2 * h)
    · simp only [c2, and_self, if_true]; exact numq_enc _ _
    · simp only [c2, and_false, if_false]; exact hz i hi

def FlyOut (cc : Bool) (w : World) (g n h : Nat) (c : F) (x : Nat → F) (y i : Value) (W : World) : Prop :=
  ∃ j : Nat, j ≤ h ∧ i = .int .i64 j ∧ y = .int .u64 (enc (fpow c j)) ∧ But g w W ∧ w.heap.size < W.heap.size ∧ K3 W w.heap.size addU subU mulU' ∧ ArrF cc W g n (bfU h c x j 0)
def FlyIn (cc : Bool) (w : World) (g n h T : Nat) (c : F) (x : Nat → F) (j : Nat) (i : Value) (W : World) : Prop :=
  ∃ t p : Nat, t ≤ T ∧ p = j + t * (2 * h) ∧ i = .int .i64 p ∧ But g w W ∧ w.heap.size < W.heap.size ∧ K3 W w.heap.size addU subU mulU' ∧ ArrF cc W g n (bfU h c x j t)
def FlyOutQ (cc : Bool) (w : World) (g n h : Nat) (c : F) (x : Nat → F2) (y i : Value) (W : World) : Prop :=
  ∃ j : Nat, j ≤ h ∧ i = .int .i64 j ∧ y = .int .u64 (enc (fpow c j)) ∧ But g w W ∧ w.heap.size < W.heap.size ∧ K3 W w.heap.size addQ subQ scaleQ ∧ ArrQ cc W g n (bfQ h c x j 0)
def FlyInQ (cc : Bool) (w : World) (g n h T : Nat) (c : F) (x : Nat → F2) (j : Nat) (i : Value) (W : World) : Prop :=
  ∃ t p : Nat, t ≤ T ∧ p = j + t * (2 * h) ∧ i = .int .i64 p ∧ But g w W ∧ w.heap.size < W.heap.size ∧ K3 W w.heap.size addQ subQ scaleQ ∧ ArrQ cc W g n (bfQ h c x j t)
/-- Where a round stands. -/
theorem fly_in {n h T j t p : Nat} (hn : n = T * (2 * h)) (hj : j < h) (hp : p = j + t * (2 * h)) (ht : t < T) : p + h < n ∧ p + 2 * h = j + (t + 1) * (2 * h) := by
  have : (t + 1) * (2 * h) ≤ T * (2 * h) := Nat.mul_le_mul_right _ ht
  rw [Nat.add_mul, Nat.one_mul] at this
  rw [Nat.add_mul, Nat.one_mul]
  omega
theorem fly_out {n h T j t p : Nat} (hn : n = T * (2 * h)) (hp : p = j + t * (2 * h)) (ht : t ≤ T) (h' : ¬ t < T) : n ≤ p ∧ p = j + n := by
  have : t = T := by omega
  subst this; omega
theorem same_below' {w : World} {P : Program} {f : Nat} {args : Array Value} {v : Value} (h : Calls P f args w fun e w' => e = .returned v ∧ w = w') : Calls P f args w fun e w' => e = .returned v ∧ Below w.heap.size w w' :=
  h.mono fun e w' h => ⟨h.1, h.2 ▸ Below.refl _ _⟩
def FlyR9 (B g n cap p q hh : Nat) (zp zq pw y : Int) (sl : Nat) (v : Value) (W : World) : Prop :=
  match sl with
  | 33 => v = .slice (some ⟨g, 0, none⟩) n cap
  | 34 => v = .int .i64 p
  | 35 => v = .pointer (some ⟨g, p, none⟩)
  | 36 => v = .int .u64 zp
  | 37 => v = .pointer (some ⟨B, 2, none⟩)
  | 38 => v = mulU'
  | 39 => v = .slice (some ⟨g, 0, none⟩) n cap
  | 40 => v = .int .i64 p
  | 41 => v = .int .i64 hh
  | 42 => v = .int .i64 q
  | 43 => v = .pointer (some ⟨g, q, none⟩)
  | 44 => v = .int .u64 zq
  | 45 => v = .int .u64 pw
  | 46 => v = .int .u64 y
  | 12 => v = .int .u64 zp
  | _ => v = .int .u64 y
theorem FlyR9.keep {B g n cap p q hh : Nat} {zp zq pw y : Int} {sl : Nat} {v : Value} {W W' : World} (h : FlyR9 B g n cap p q hh zp zq pw y sl v W) (hb : Below W.heap.size W W') : FlyR9 B g n cap p q hh zp zq pw y sl v W' := h
def FlyR10 (B g n cap p q hh : Nat) (zp y a s : Int) (sl : Nat) (v : Value) (W : World) : Prop :=
  match sl with
  | 47 => v = .slice (some ⟨g, 0, none⟩) n cap
  | 48 => v = .int .i64 p
  | 49 => v = .slice (some ⟨g, 0, none⟩) n cap
  | 50 => v = .int .i64 p
  | 51 => v = .int .i64 hh
  | 52 => v = .int .i64 q
  | 53 => v = .pointer (some ⟨B, 0, none⟩)
  | 54 => v = addU
  | 55 => v = .int .u64 zp
  | 56 => v = .int .u64 y
  | 57 => v = .int .u64 a
  | 58 => v = .pointer (some ⟨B, 1, none⟩)
  | 59 => v = subU
  | 60 => v = .int .u64 zp
  | 61 => v = .int .u64 y
  | 62 => v = .int .u64 s
  | _ => v = .pointer (some ⟨g, p, none⟩)
theorem FlyR10.keep {B g n cap p q hh : Nat} {zp y a s : Int} {sl : Nat} {v : Value} {W W' : World} (h : FlyR10 B g n cap p q hh zp y a s sl v W) (hb : Below W.heap.size W W') : FlyR10 B g n cap p q hh zp y a s sl v W' := h
/-- A step of a stage, of pairs: before the first store, and behind it. -/
def FlyWd (w : World) (g n p gx gy : Nat) (x0 x1 y0 y1 a0 a1 : Int) (z : Nat → Int × Int) (st : Bool) (W : World) : Prop :=
  But g w W ∧ w.heap.size < W.heap.size ∧ K3 W w.heap.size addQ subQ scaleQ ∧ Var W gx x0 x1 ∧ Var W gy y0 y1 ∧ Arr W g (n * 2) (pc fun i => if st = true ∧ i = p then (a0, a1) else z i)
theorem FlyWd.keep {w : World} {g n p gx gy : Nat} {x0 x1 y0 y1 a0 a1 : Int} {z : Nat → Int × Int} {st : Bool} {W W' : World} (h : FlyWd w g n p gx gy x0 x1 y0 y1 a0 a1 z st W) (hb : Below W.heap.size W W') : FlyWd w g n p gx gy x0 x1 y0 y1 a0 a1 z st W' :=
  ⟨h.1.then hb, Nat.lt_of_lt_of_le h.2.1 hb.size, h.2.2.1.keep hb, h.2.2.2.1.keep hb, h.2.2.2.2.1.keep hb, h.2.2.2.2.2.keep hb⟩
theorem FlyWd.drew {w : World} {g n p gx gy : Nat} {x0 x1 y0 y1 a0 a1 : Int} {z : Nat → Int × Int} {st : Bool} {W : World} (h : FlyWd w g n p gx gy x0 x1 y0 y1 a0 a1 z st W) : FlyWd w g n p gx gy x0 x1 y0 y1 a0 a1 z st W.drew := h.keep (Below.refl _ _).drew
theorem FlyWd.store {w : World} {g n p gx gy : Nat} {x0 x1 y0 y1 a0 a1 : Int} {z : Nat → Int × Int} {W : World} (h : FlyWd w g n p gx gy x0 x1 y0 y1 a0 a1 z false W) (hp : p < n) (hg : g ≠ w.heap.size) (hx : g ≠ gx) (hy : g ≠ gy) :
    FlyWd w g n p gx gy x0 x1 y0 y1 a0 a1 z true ((W.setCell ⟨g, p * 2, none⟩ (.int .u64 a0)).setCell ⟨g, p * 2 + 1, none⟩ (.int .u64 a1)) := by
  obtain ⟨h1, h2, h3, h4, h5, h6⟩ := h
  refine ⟨(h1.setCell (Or.inl rfl) _).setCell (Or.inl rfl) _, by simp; exact h2, (h3.far hg _ _).far hg _ _, (h4.far hx _ _).far hx _ _, (h5.far hy _ _).far hy _ _, (h6.setq p a0 a1 hp).same (pc_same fun i hi => ?_)⟩
  by_cases c : i = p
  · rw [if_pos c, if_pos ⟨rfl, c⟩]
  · rw [if_neg c, if_neg (fun h => by cases h.1), if_neg (fun h => c h.2)]
def FlyQ9 (H B g n cap p q hh : Nat) (zp zp' zq zq' pw y y' : Int) (sl : Nat) (v : Value) (W : World) : Prop :=
  match sl with
  | 33 => v = .slice (some ⟨g, 0, none⟩) n cap
  | 34 => v = .int .i64 p
  | 35 => v = .pointer (some ⟨g, p * 2, none⟩)
  | 36 => v = .agg #[.int .u64 zp, .int .u64 zp']
  | 37 => v = .pointer (some ⟨B, 2, none⟩)
  | 38 => v = scaleQ
  | 39 => v = .slice (some ⟨g, 0, none⟩) n cap
  | 40 => v = .int .i64 p
  | 41 => v = .int .i64 hh
  | 42 => v = .int .i64 q
  | 43 => v = .pointer (some ⟨g, q * 2, none⟩)
  | 44 => v = .agg #[.int .u64 zq, .int .u64 zq']
  | 45 => v = .int .u64 pw
  | 46 => v = .agg #[.int .u64 y, .int .u64 y']
  | _ => ∃ gg : Nat, v = .pointer (some ⟨gg, 0, none⟩) ∧ H ≤ gg ∧ Var W gg 0 0
theorem FlyQ9.keep {H B g n cap p q hh : Nat} {zp zp' zq zq' pw y y' : Int} {sl : Nat} {v : Value} {W W' : World} (h : FlyQ9 H B g n cap p q hh zp zp' zq zq' pw y y' sl v W) (hb : Below W.heap.size W W') : FlyQ9 H B g n cap p q hh zp zp' zq zq' pw y y' sl v W' := by
  unfold FlyQ9 at *
  split at h
  all_goals first | exact h | (obtain ⟨gg, h1, h2, h3⟩ := h; exact ⟨gg, h1, h2, h3.keep hb⟩)
def FlyQ10 (B g n cap p q hh : Nat) (zp zp' y y' a a' s s' : Int) (sl : Nat) (v : Value) : Prop :=
  match sl with
  | 47 => v = .slice (some ⟨g, 0, none⟩) n cap
  | 48 => v = .int .i64 p
  | 49 => v = .slice (some ⟨g, 0, none⟩) n cap
  | 50 => v = .int .i64 p
  | 51 => v = .int .i64 hh
  | 52 => v = .int .i64 q
  | 53 => v = .pointer (some ⟨B, 0, none⟩)
  | 54 => v = addQ
  | 55 => v = .agg #[.int .u64 zp, .int .u64 zp']
  | 56 => v = .agg #[.int .u64 y, .int .u64 y']
  | 57 => v = .agg #[.int .u64 a, .int .u64 a']
  | 58 => v = .pointer (some ⟨B, 1, none⟩)
  | 59 => v = subQ
  | 60 => v = .agg #[.int .u64 zp, .int .u64 zp']
  | 61 => v = .agg #[.int .u64 y, .int .u64 y']
  | 62 => v = .agg #[.int .u64 s, .int .u64 s']
  | 63 => v = .pointer (some ⟨g, p * 2, none⟩)
  | _ => v = .pointer (some ⟨g, q * 2, none⟩)
set_option maxHeartbeats 4000000 in
theorem fly_core_q (g cap r n h T wh : Nat) (c : F) (hr1 : (1 : Int) ≤ r) (hr2 : (r : Int) ≤ 20) (hN : n = T * (2 * h)) (hwh : 2 * h = wh) (hk2 : n ≤ 1048576) (ho2 : h ≤ 1048576) (h0 : 0 < h) (h0n : 0 < n)
    (w1 : wrap64 (2 ^ r) = (wh : Int)) (w2 : wrap64 (2 ^ (r - 1)) = (h : Int)) (hc : rootOf r = c) (x : Nat → F2) (cc : Bool) (w : World) (ha : ArrQ cc w g n x) :
    Calls Tryd.prog 70 #[kindQ, .slice (some ⟨g, 0, none⟩) n cap, .int .i64 r] w fun e w' => e = .returned (.tuple #[]) ∧ But g w w' ∧ ArrQ cc w' g n (bf (· + ·) (· - ·) scale h c x) := by
  obtain ⟨hg, H0⟩ : g < w.heap.size ∧ Hid (ArrQ cc (w.alloc (.cells #[addQ, subQ, scaleQ] 64)) g n x) := by
    obtain ⟨z, hA, hz⟩ := ha
    exact ⟨hA.lt (by omega), Lib.hid ⟨z, hA.alloc _, hz⟩⟩
  have O1 := of_is r (enc c) (by rw [ofv_in (by omega) (by omega), ← hc]; rfl)
  have HN := Lib.hid hN
  have HWH := Lib.hid hwh
  have ht0 : (0 : Int) ≤ T := by omega
  have hwh2 : wh ≤ 2097152 := by omega
  have hwh0 : 0 < wh := by omega
  clear hN hc hwh ha
  go_enter Tryd.func70, Tryd.ntmps70
  go_wp2_with fail
  go_quiet (fail)
  simp only [w1, w2]
  clear w1 w2
  go_wp2_with (go_at_call 33; ((with_reducible refine (O1 _).mono ?_); rintro e w' ⟨rfl, rfl⟩))
  go_loopw [9, 22] (FlyOutQ cc w g n h c x) (fun _ i _ => h - (intOf i).toNat)
  case atStart =>
    obtain ⟨z, hA, hz⟩ := H0.out
    refine ⟨0, Nat.zero_le _, rfl, rfl, ((But.refl _ _).alloc _).drewN _, by simp, ?_, ⟨z, hA, fun i hi => ?_⟩⟩
    · exact K3.new _ _ _ _ _
    · show NumQ cc (z i) (bfp _ _ _ _ _ _ _ _ _)
      rw [bfp_start]; exact hz i hi
  case round =>
    obtain ⟨j, hj, rfl, rfl, hB, hs, hK3, hA⟩ := hrel
    by_cases hlt : j < h
    · have hlt' : (j : Int) < (h : Int) := by omega
      go_upto_region 7 with fail
      go_loopw [11] (FlyInQ cc w g n h T c x j) (fun i _ => n - (intOf i).toNat)
      case atStart => exact ⟨0, j, Nat.zero_le _, by omega, rfl, hB, hs, hK3, hA⟩
      case round =>
        clear hB hs hK3 hA
        obtain ⟨t, p, ht, hp, rfl, hB, hs, hK3, ⟨z, hA, hz⟩⟩ := hrel
        by_cases hlt2 : t < T
        · obtain ⟨a1, a2⟩ := fly_in HN.out hlt hp hlt2
          obtain ⟨e1, e2⟩ := bfp_fresh (· + ·) (· - ·) scale h c x j t hlt
          rw [← hp] at e1 e2
          obtain ⟨q, hq⟩ : ∃ q, p + h = q := ⟨_, rfl⟩
          rw [hq] at a1 e2
          have zp := hz p (by omega)
          have zq := hz q a1
          rw [show bfQ h c x j t p = x p from e1] at zp
          rw [show bfQ h c x j t q = x q from e2] at zq
          obtain ⟨y, hy⟩ : ∃ v : F2, scale (x q) (fpow c j) = v := ⟨_, rfl⟩
          obtain ⟨a, ha⟩ : ∃ v : F2, x p + y = v := ⟨_, rfl⟩
          obtain ⟨s, hs'⟩ : ∃ v : F2, x p - y = v := ⟨_, rfl⟩
          have m1 := pscale_q (z q).1 (z q).2 (enc (fpow c j)) (x q) y zq.1 (enc_U _) (by rw [toF_enc, hy])
          have d1' := padd_q (z p).1 (z p).2 (enc y.a) (enc y.b) (x p) y a zp.1 (rep_enc y) ha
          have d2' := psub_q (z p).1 (z p).2 (enc y.a) (enc y.b) (x p) y s zp.1 (rep_enc y) hs'
          have HAA : Hid (x p + scale (x q) (fpow c j) = a) := Lib.hid (by rw [hy, ha])
          have HSS : Hid (x p - scale (x q) (fpow c j) = s) := Lib.hid (by rw [hy, hs'])
          obtain ⟨c0, c1, f0, f1⟩ := hA.cells p (by omega)
          obtain ⟨d0, d1, g0, g1⟩ := hA.cells q a1
          have HA := Lib.hid hA; have HB := Lib.hid hB; have HZ := Lib.hid hz; have HK := Lib.hid hK3; have HS := Lib.hid hs
          have HP := Lib.hid hp; have HQN := Lib.hid hq; have HNX := Lib.hid a2
          have HQ : Hid (IntKind.i64.wrap ((p : Int) + (h : Int)) = (q : Int)) := Lib.hid (by rw [IntWalk.i64_in _ (by omega)]; omega)
          have p7 : p ≠ q := by omega
          have p8 : q ≠ p := by omega
          have p1 : (p : Int) < (n : Int) := by omega
          have p2 : (q : Int) < (n : Int) := by omega
          have p3 : p < n := by omega
          have p4 : (n : Int) ≤ 1048576 := by omega
          have p5 : (h : Int) ≤ 1048576 := by omega
          have p6 : (wh : Int) ≤ 2097152 := by omega
          have n1 : (0 : Int) ≤ (p : Int) := by omega
          have n2 : (0 : Int) ≤ (q : Int) := by omega
          have n3 : (0 : Int) ≤ (h : Int) := by omega
          obtain ⟨k0, k1, k2⟩ := hK3
          clear hA hB hz hs hp hq a2 e1 e2 zp zq
          clear hy ha hs'
          generalize hzp : z p = zzp at *
          generalize hzq : z q = zzq at *
          obtain ⟨z0, z1⟩ := zzp
          obtain ⟨q0, q1⟩ := zzq
          dsimp only at m1 d1' d2' c0 c1 d0 d1
          clear hzp hzq
          have hne1 : g ≠ w.heap.size := by omega
          obtain ⟨pw, hpw⟩ : ∃ v, enc (fpow c j) = v := ⟨_, rfl⟩
          rw [hpw] at m1
          rw [hpw]
          have HPW := Lib.hid hpw
          clear hpw
          go_upto_region 9 with fail
          refine wp_loose [(33, []), (34, []), (35, [33, 34]), (36, [35]), (37, []), (38, [37]), (39, []), (40, []), (41, []), (42, [40, 41]), (43, [39, 42]), (44, [43]), (45, []), (46, [38, 44, 45]), (12, []), (13, [])]
            (FlyQ9 wr.heap.size w.heap.size g n cap p q h z0 z1 q0 q1 pw (enc y.a) (enc y.b)) (fun d => d == 12 || d == 13) (by kernel_rfl) (by kernel_rfl) (fun _ _ _ _ h hb => h.keep hb) ?_ ?_
          · refine opsrun_cons ?_ (opsrun_cons ?_ (opsrun_cons ?_ (opsrun_cons ?_ (opsrun_cons ?_ (opsrun_cons ?_ (opsrun_cons ?_ (opsrun_cons ?_ (opsrun_cons ?_ (opsrun_cons ?_ (opsrun_cons ?_ (opsrun_cons ?_ (opsrun_cons ?_ (opsrun_cons ?_ (opsrun_cons ?_ (opsrun_cons ?_ opsrun_nil)))))))))))))))
            all_goals
              refine OpRuns.any ?_
              intro Q0 σ W' K hb hn hK
              simp only [fill, List.map, Act.put, List.setIfInBounds_toArray, List.set_cons_zero, List.set_cons_succ] at hK ⊢
            · clear hn
              go_simp
              exact hK _ _ rfl (Below.refl _ _) (fun h => absurd h (by decide))
            · clear hn
              go_simp
              exact hK _ _ rfl (Below.refl _ _) (fun h => absurd h (by decide))
            · have h33 : σ 33 = _ := hn 33 (by decide)
              have h34 : σ 34 = _ := hn 34 (by decide)
              clear hn
              simp only [h33, h34] at hK
              go_simp
              exact hK _ _ rfl (Below.refl _ _) (fun h => absurd h (by decide))
            · have h35 : σ 35 = _ := hn 35 (by decide)
              clear hn
              simp only [h35] at hK
              have c0' := bkeep hb c0
              have c1' := bkeep hb c1
              clear c0 c1
              go_simp
              exact hK _ _ rfl (Below.refl _ _) (fun h => absurd h (by decide))
            · clear hn
              go_simp
              exact hK _ _ rfl (Below.refl _ _) (fun h => absurd h (by decide))
            · have h37 : σ 37 = _ := hn 37 (by decide)
              clear hn
              simp only [h37] at hK
              have k2' := bkeep hb k2
              clear k2
              go_simp
              exact hK _ _ rfl (Below.refl _ _) (fun h => absurd h (by decide))
            · clear hn
              go_simp
              exact hK _ _ rfl (Below.refl _ _) (fun h => absurd h (by decide))
            · clear hn
              go_simp
              exact hK _ _ rfl (Below.refl _ _) (fun h => absurd h (by decide))
            · clear hn
              go_simp
              exact hK _ _ rfl (Below.refl _ _) (fun h => absurd h (by decide))
            · have h40 : σ 40 = _ := hn 40 (by decide)
              have h41 : σ 41 = _ := hn 41 (by decide)
              clear hn
              simp only [h40, h41] at hK
              go_simp
              exact hK _ _ (congrArg (Value.int .i64) HQ.out) (Below.refl _ _) (fun h => absurd h (by decide))
            · have h39 : σ 39 = _ := hn 39 (by decide)
              have h42 : σ 42 = _ := hn 42 (by decide)
              clear hn
              simp only [h39, h42] at hK
              go_simp
              exact hK _ _ rfl (Below.refl _ _) (fun h => absurd h (by decide))
            · have h43 : σ 43 = _ := hn 43 (by decide)
              clear hn
              simp only [h43] at hK
              have d0' := bkeep hb d0
              have d1' := bkeep hb d1
              clear d0 d1
              go_simp
              exact hK _ _ rfl (Below.refl _ _) (fun h => absurd h (by decide))
            · clear hn
              go_simp
              exact hK _ _ rfl (Below.refl _ _) (fun h => absurd h (by decide))
            · have h38 : σ 38 = _ := hn 38 (by decide)
              have h44 : σ 44 = _ := hn 44 (by decide)
              have h45 : σ 45 = _ := hn 45 (by decide)
              clear hn
              simp only [h38, h44, h45] at hK
              go_simp
              go_at_call 34
              refine (m1 _).mono ?_
              rintro e w1 ⟨rfl, hb1⟩
              exact hK _ _ rfl hb1 (fun h => absurd h (by decide))
            · clear hn
              go_simp
              exact hK _ _ ⟨_, rfl, hb.size, Var.new _ _ _ _⟩ ((Below.refl _ _).alloc (Nat.le_refl _) _) (fun _ => ⟨_, rfl, Nat.le_refl _, by simp⟩)
            · clear hn
              go_simp
              exact hK _ _ ⟨_, rfl, hb.size, Var.new _ _ _ _⟩ ((Below.refl _ _).alloc (Nat.le_refl _) _) (fun _ => ⟨_, rfl, Nat.le_refl _, by simp⟩)
          · intro σ W' hb hR' hF
            have h36 : σ 36 = _ := hR' 36 (by decide)
            have h46 : σ 46 = _ := hR' 46 (by decide)
            obtain ⟨gx, ex, lx, vx⟩ : ∃ gg : Nat, σ 12 = .pointer (some ⟨gg, 0, none⟩) ∧ wr.heap.size ≤ gg ∧ Var W' gg 0 0 := hR' 12 (by decide)
            obtain ⟨gy, ey, ly, vy⟩ : ∃ gg : Nat, σ 13 = .pointer (some ⟨gg, 0, none⟩) ∧ wr.heap.size ≤ gg ∧ Var W' gg 0 0 := hR' 13 (by decide)
            have hne := hF 12 (by decide) 13 (by decide) rfl rfl (by decide)
            rw [ex, ey] at hne
            have hxy : gx ≠ gy := fun h => hne (by rw [h])
            have hyx : gy ≠ gx := Ne.symm hxy
            replace HB := Lib.hid (HB.out.then hb)
            replace HK := Lib.hid (HK.out.keep hb)
            have hlw : w.heap.size < wr.heap.size := HS.out
            have hgw : g < wr.heap.size := by omega
            have hww : w.heap.size < W'.heap.size := Nat.lt_of_lt_of_le hlw hb.size
            have HA2 := HA.out.keep hb
            clear hR' hF c0 c1 f0 f1 d0 d1 g0 g1 hb k0 k1 k2 hne
            simp only [fill, List.map, Act.put, List.setIfInBounds_toArray, List.set_cons_zero, List.set_cons_succ, List.length_cons, List.length_nil, List.drop_succ_cons, List.drop_zero, Nat.reduceAdd, h36, h46, ex, ey]
            clear h36 h46 ex ey
            have HVX := Lib.hid vx; have HVY := Lib.hid vy
            have HA3 := Lib.hid HA2
            clear HA2
            obtain ⟨vx0, vx1, vx2, vx3⟩ := vx
            obtain ⟨vy0, vy1, vy2, vy3⟩ := vy
            have hgx : g ≠ gx := by omega
            have hgy : g ≠ gy := by omega
            have hwx : w.heap.size ≤ gx := by omega
            have hwy : w.heap.size ≤ gy := by omega
            have hwx2 : gx ≠ w.heap.size := by omega
            have hwy2 : gy ≠ w.heap.size := by omega
            go_upto_region 10 with fail
            refine wp_gen (FlyWd w g n p gx gy z0 z1 (enc y.a) (enc y.b) (enc a.a) (enc a.b) z false) ⟨(((HB.out.setCell (Or.inr hwx) _).setCell (Or.inr hwx) _).setCell (Or.inr hwy) _).setCell (Or.inr hwy) _, by simp; exact hww, (((HK.out.far hwx2 _ _).far hwx2 _ _).far hwy2 _ _).far hwy2 _ _, ((HVX.out.set _ _).far hyx _ _).far hyx _ _, ((HVY.out.far hxy _ _).far hxy _ _).set _ _, ((((HA3.out.far (Ne.symm hgx) _ _).far (Ne.symm hgx) _ _).far (Ne.symm hgy) _ _).far (Ne.symm hgy) _ _).same (pc_same fun i hi => by rw [if_neg (fun h => by cases h.1)])⟩ ?_
            clear HB HK hww HA3 HVX HVY vx0 vx1 vx2 vx3 vy0 vy1 vy2 vy3 HS
            intro W3 hW3
            have h0W : FlyWd w g n p gx gy z0 z1 (enc y.a) (enc y.b) (enc a.a) (enc a.b) z false { W3 with drawn := W3.drawn + 1 } := hW3.drew
            clear hW3
            refine wp_two [(some 47, [], true), (some 48, [], true), (some 49, [], false), (some 50, [], false), (some 51, [], false), (some 52, [50, 51], false), (some 53, [], true), (some 54, [53], true), (some 55, [], true), (some 56, [], true), (some 57, [54, 55, 56], true), (some 58, [], false), (some 59, [58], false), (some 60, [], false), (some 61, [], false), (some 62, [59, 60, 61], true), (some 63, [47, 48], true), (none, [57, 63], false), (some 64, [49, 52], false)]
              17 (FlyQ10 w.heap.size g n cap p q h z0 z1 (enc y.a) (enc y.b) (enc a.a) (enc a.b) (enc s.a) (enc s.b)) (FlyWd w g n p gx gy z0 z1 (enc y.a) (enc y.b) (enc a.a) (enc a.b) z) (by kernel_rfl) (by kernel_rfl) h0W ?_ ?_
            · refine ops2_one ?_ (ops2_one ?_ (ops2_one ?_ (ops2_one ?_ (ops2_one ?_ (ops2_one ?_ (ops2_one ?_ (ops2_one ?_ (ops2_one ?_ (ops2_one ?_ (ops2_one ?_ (ops2_one ?_ (ops2_one ?_ (ops2_one ?_ (ops2_one ?_ (ops2_one ?_ (ops2_one ?_ (ops2_st ?_ (ops2_one ?_ ops2_nil))))))))))))))))))
              all_goals
                first | refine OpRuns1.any ?_ | refine StRuns.any ?_
              · intro Q0 σ s W K hs1 hW hn hK
                simp only [fill, List.filterMap, Act.put, List.setIfInBounds_toArray, List.set_cons_zero, List.set_cons_succ] at hK ⊢
                obtain rfl := hs1 rfl
                clear hn
                have HW := Lib.hid hW
                clear hW
                go_simp
                exact hK _ _ rfl HW.out
              · intro Q0 σ s W K hs1 hW hn hK
                simp only [fill, List.filterMap, Act.put, List.setIfInBounds_toArray, List.set_cons_zero, List.set_cons_succ] at hK ⊢
                obtain rfl := hs1 rfl
                clear hn
                have HW := Lib.hid hW
                clear hW
                go_simp
                exact hK _ _ rfl HW.out
              · intro Q0 σ s W K hs1 hW hn hK
                simp only [fill, List.filterMap, Act.put, List.setIfInBounds_toArray, List.set_cons_zero, List.set_cons_succ] at hK ⊢
                clear hn
                have HW := Lib.hid hW
                clear hW
                go_simp
                exact hK _ _ rfl HW.out
              · intro Q0 σ s W K hs1 hW hn hK
                simp only [fill, List.filterMap, Act.put, List.setIfInBounds_toArray, List.set_cons_zero, List.set_cons_succ] at hK ⊢
                clear hn
                have HW := Lib.hid hW
                clear hW
                go_simp
                exact hK _ _ rfl HW.out
              · intro Q0 σ s W K hs1 hW hn hK
                simp only [fill, List.filterMap, Act.put, List.setIfInBounds_toArray, List.set_cons_zero, List.set_cons_succ] at hK ⊢
                clear hn
                have HW := Lib.hid hW
                clear hW
                go_simp
                exact hK _ _ rfl HW.out
              · intro Q0 σ s W K hs1 hW hn hK
                simp only [fill, List.filterMap, Act.put, List.setIfInBounds_toArray, List.set_cons_zero, List.set_cons_succ] at hK ⊢
                have h50 : σ 50 = _ := hn 50 (by decide)
                have h51 : σ 51 = _ := hn 51 (by decide)
                clear hn
                simp only [h50, h51] at hK
                have HW := Lib.hid hW
                clear hW
                go_simp
                exact hK _ _ (congrArg (Value.int .i64) HQ.out) HW.out
              · intro Q0 σ s W K hs1 hW hn hK
                simp only [fill, List.filterMap, Act.put, List.setIfInBounds_toArray, List.set_cons_zero, List.set_cons_succ] at hK ⊢
                obtain rfl := hs1 rfl
                clear hn
                have HW := Lib.hid hW
                clear hW
                go_simp
                exact hK _ _ rfl HW.out
              · intro Q0 σ s W K hs1 hW hn hK
                simp only [fill, List.filterMap, Act.put, List.setIfInBounds_toArray, List.set_cons_zero, List.set_cons_succ] at hK ⊢
                obtain rfl := hs1 rfl
                have h53 : σ 53 = _ := hn 53 (by decide)
                clear hn
                simp only [h53] at hK
                obtain ⟨k0, _, _⟩ := hW.2.2.1
                have HW := Lib.hid hW
                clear hW
                go_simp
                exact hK _ _ rfl HW.out
              · intro Q0 σ s W K hs1 hW hn hK
                simp only [fill, List.filterMap, Act.put, List.setIfInBounds_toArray, List.set_cons_zero, List.set_cons_succ] at hK ⊢
                obtain rfl := hs1 rfl
                clear hn
                obtain ⟨v0, v1, _, _⟩ := hW.2.2.2.1
                have HW := Lib.hid hW
                clear hW
                go_simp
                exact hK _ _ rfl HW.out
              · intro Q0 σ s W K hs1 hW hn hK
                simp only [fill, List.filterMap, Act.put, List.setIfInBounds_toArray, List.set_cons_zero, List.set_cons_succ] at hK ⊢
                obtain rfl := hs1 rfl
                clear hn
                obtain ⟨v0, v1, _, _⟩ := hW.2.2.2.2.1
                have HW := Lib.hid hW
                clear hW
                go_simp
                exact hK _ _ rfl HW.out
              · intro Q0 σ s W K hs1 hW hn hK
                simp only [fill, List.filterMap, Act.put, List.setIfInBounds_toArray, List.set_cons_zero, List.set_cons_succ] at hK ⊢
                obtain rfl := hs1 rfl
                have h54 : σ 54 = _ := hn 54 (by decide)
                have h55 : σ 55 = _ := hn 55 (by decide)
                have h56 : σ 56 = _ := hn 56 (by decide)
                clear hn
                simp only [h54, h55, h56] at hK
                go_simp
                go_at_call 55
                refine (d1' _).mono ?_
                rintro e W1 ⟨rfl, hb1⟩
                exact hK _ _ rfl (hW.keep hb1)
              · intro Q0 σ s W K hs1 hW hn hK
                simp only [fill, List.filterMap, Act.put, List.setIfInBounds_toArray, List.set_cons_zero, List.set_cons_succ] at hK ⊢
                clear hn
                have HW := Lib.hid hW
                clear hW
                go_simp
                exact hK _ _ rfl HW.out
              · intro Q0 σ s W K hs1 hW hn hK
                simp only [fill, List.filterMap, Act.put, List.setIfInBounds_toArray, List.set_cons_zero, List.set_cons_succ] at hK ⊢
                have h58 : σ 58 = _ := hn 58 (by decide)
                clear hn
                simp only [h58] at hK
                obtain ⟨_, k1, _⟩ := hW.2.2.1
                have HW := Lib.hid hW
                clear hW
                go_simp
                exact hK _ _ rfl HW.out
              · intro Q0 σ s W K hs1 hW hn hK
                simp only [fill, List.filterMap, Act.put, List.setIfInBounds_toArray, List.set_cons_zero, List.set_cons_succ] at hK ⊢
                clear hn
                obtain ⟨v0, v1, _, _⟩ := hW.2.2.2.1
                have HW := Lib.hid hW
                clear hW
                go_simp
                exact hK _ _ rfl HW.out
              · intro Q0 σ s W K hs1 hW hn hK
                simp only [fill, List.filterMap, Act.put, List.setIfInBounds_toArray, List.set_cons_zero, List.set_cons_succ] at hK ⊢
                clear hn
                obtain ⟨v0, v1, _, _⟩ := hW.2.2.2.2.1
                have HW := Lib.hid hW
                clear hW
                go_simp
                exact hK _ _ rfl HW.out
              · intro Q0 σ s W K hs1 hW hn hK
                simp only [fill, List.filterMap, Act.put, List.setIfInBounds_toArray, List.set_cons_zero, List.set_cons_succ] at hK ⊢
                obtain rfl := hs1 rfl
                have h59 : σ 59 = _ := hn 59 (by decide)
                have h60 : σ 60 = _ := hn 60 (by decide)
                have h61 : σ 61 = _ := hn 61 (by decide)
                clear hn
                simp only [h59, h60, h61] at hK
                go_simp
                go_at_call 57
                refine (d2' _).mono ?_
                rintro e W1 ⟨rfl, hb1⟩
                exact hK _ _ rfl (hW.keep hb1)
              · intro Q0 σ s W K hs1 hW hn hK
                simp only [fill, List.filterMap, Act.put, List.setIfInBounds_toArray, List.set_cons_zero, List.set_cons_succ] at hK ⊢
                obtain rfl := hs1 rfl
                have h47 : σ 47 = _ := hn 47 (by decide)
                have h48 : σ 48 = _ := hn 48 (by decide)
                clear hn
                simp only [h47, h48] at hK
                have HW := Lib.hid hW
                clear hW
                go_simp
                exact hK _ _ rfl HW.out
              · intro Q0 σ W K hW hn hK
                simp only [fill, List.filterMap, Act.put, List.setIfInBounds_toArray, List.set_cons_zero, List.set_cons_succ] at hK ⊢
                have h57 : σ 57 = _ := hn 57 (by decide)
                have h63 : σ 63 = _ := hn 63 (by decide)
                clear hn
                simp only [h57, h63] at hK
                obtain ⟨e0, e1, e2, e3⟩ := hW.2.2.2.2.2.cells p p3
                have HW := Lib.hid hW
                clear hW
                go_simp
                exact hK undef _ (fun k hk => by cases hk) (HW.out.store p3 hne1 hgx hgy)
              · intro Q0 σ s W K hs1 hW hn hK
                simp only [fill, List.filterMap, Act.put, List.setIfInBounds_toArray, List.set_cons_zero, List.set_cons_succ] at hK ⊢
                have h49 : σ 49 = _ := hn 49 (by decide)
                have h52 : σ 52 = _ := hn 52 (by decide)
                clear hn
                simp only [h49, h52] at hK
                have HW := Lib.hid hW
                clear hW
                go_simp
                exact hK _ _ rfl HW.out
            · intro σ2 W2 hW hR'
              have h62 : σ2 62 = _ := hR' 62 (by decide)
              have h64 : σ2 64 = _ := hR' 64 (by decide)
              obtain ⟨e0, e1, e2, e3⟩ := hW.2.2.2.2.2.cells q a1
              have HW := Lib.hid hW
              clear hR' hW m1 d1' d2' h0W
              simp only [fill, List.filterMap, Act.put, List.setIfInBounds_toArray, List.set_cons_zero, List.set_cons_succ, List.length_cons, List.length_nil, List.drop_succ_cons, List.drop_zero, Nat.reduceAdd, h62, h64]
              clear h62 h64
              go_wp2_with fail
              go_roundw
              case rel =>
                obtain ⟨b1, b2, b3, b4, b5, b6⟩ := HW.out
                exact ⟨t + 1, p + wh, by omega, by rw [← HWH.out]; exact HNX.out, by go_num, (b1.setCell (Or.inl rfl) _).setCell (Or.inl rfl) _, by simp; exact b2, (b3.far hne1 _ _).far hne1 _ _, fly_setq b6 HZ.out hlt HP.out HQN.out.symm a1 HAA.out HSS.out⟩
              case measure => simp [intOf]; omega
        · obtain ⟨a1, a2⟩ := fly_out HN.out hp ht hlt2
          have m2 := mul_is (enc (fpow c j)) (enc c) (enc (fpow c (j + 1))) (enc_U _) (enc_U _) (by rw [toF_enc, toF_enc, fpow_succ])
          have a3 : (n : Int) ≤ (p : Int) := by omega
          have HA := Lib.hid hA; have HB := Lib.hid hB; have HZ := Lib.hid hz; have HK := Lib.hid hK3; have HS := Lib.hid hs
          have HT : Hid (∀ i, i < n → bfQ h c x j t i = bfQ h c x (j + 1) 0 i) := Lib.hid (fun i hi => by
            show bfp _ _ _ _ _ _ _ _ _ = _
            have : t = T := by omega
            subst this
            exact bfp_next _ _ _ h c x j t i (by rw [← HN.out]; exact hi))
          clear hA hB hz hs hK3 hp a1 a2
          go_wp2_with (go_at_call 38; ((with_reducible refine (m2 _).mono ?_); rintro e w' ⟨rfl, rfl⟩))
          go_roundw
          case rel => exact ⟨j + 1, by omega, by go_num, rfl, HB.out, HS.out, HK.out, ⟨z, HA.out, fun i hi => by rw [← HT.out i hi]; exact HZ.out i hi⟩⟩
          case measure => simp [intOf]; omega
    · have : j = h := by omega
      subst this
      obtain ⟨z, hA, hz⟩ := hA
      have HA := Lib.hid hA; have HB := Lib.hid hB; have HZ := Lib.hid hz
      clear hA hB hz
      go_wp2_with fail
      go_end0
      refine ⟨rfl, HB.out, z, HA.out, fun i hi => ?_⟩
      rw [← bfp_end _ _ _ _ _ _ _ h0]; exact HZ.out i hi

theorem fly_q (g k cap r o : Nat) (hr : r = o + 1) (hk : k ≤ 20) (ho : r ≤ k) (x : Nat → F2) (cc : Bool) (w : World) (h : ArrQ cc w g (2 ^ k) x) :
    Calls Tryd.prog 70 #[kindQ, .slice (some ⟨g, 0, none⟩) (2 ^ k) cap, .int .i64 r] w fun e w' => e = .returned (.tuple #[]) ∧ But g w w' ∧ ArrQ cc w' g (2 ^ k) (bf (· + ·) (· - ·) scale (2 ^ o) (rootOf r) x) :=
  fly_core_q g cap r (2 ^ k) (2 ^ o) (2 ^ (k - r)) (2 * 2 ^ o) (rootOf r) (by omega) (by omega)
    (by rw [show 2 * 2 ^ o = 2 ^ r by rw [hr, Nat.pow_succ, Nat.mul_comm], ← Nat.pow_add]; congr 1; omega) rfl
    (Nat.pow_le_pow_right (i := _) (j := 20) (by decide) hk) (Nat.pow_le_pow_right (i := _) (j := 20) (by decide) (by omega)) (Nat.two_pow_pos o) (Nat.two_pow_pos k)
    (by rw [wrap64_pow r (by omega), hr, Nat.pow_succ, Nat.mul_comm]) (by rw [wrap64_pow (r - 1) (by omega), show r - 1 = o by omega]) rfl x cc w h
end Go.Proofs.YtpckjlfnhfelkaaDoor
namespace Go.Proofs.YtpckjlfnhfelkaaDoor
open Go.RowKit
set_option linter.unusedVariables false

def ArRel (cc : Bool) (w : World) (g n k : Nat) (x : Nat → F) (i : Value) (W : World) : Prop :=
  ∃ r : Nat, 1 ≤ r ∧ r ≤ k + 1 ∧ i = .int .i64 r ∧ But g w W ∧ w.heap.size < W.heap.size ∧ K3 W w.heap.size addU subU mulU' ∧ ArrF cc W g n (ar (· + ·) (· - ·) (· * ·) k x (r - 1))
def ArRelQ (cc : Bool) (w : World) (g n k : Nat) (x : Nat → F2) (i : Value) (W : World) : Prop :=
  ∃ r : Nat, 1 ≤ r ∧ r ≤ k + 1 ∧ i = .int .i64 r ∧ But g w W ∧ w.heap.size < W.heap.size ∧ K3 W w.heap.size addQ subQ scaleQ ∧ ArrQ cc W g n (ar (· + ·) (· - ·) scale k x (r - 1))
set_option maxHeartbeats 4000000 in
theorem around_q (g cap k : Nat) (hk : k ≤ 20) (x : Nat → F2) (cc : Bool) (w : World) (h : ArrQ cc w g (2 ^ k) x) :
    Calls Tryd.prog 59 #[kindQ, .slice (some ⟨g, 0, none⟩) (2 ^ k) cap, .int .i64 k] w fun e w' => e = .returned (.tuple #[]) ∧ But g w w' ∧ ArrQ cc w' g (2 ^ k) (ar (· + ·) (· - ·) scale k x k) := by
  have hp := Nat.two_pow_pos k
  have hL := rv_lt k
  obtain ⟨z, hA, hz⟩ := h
  have T := fun W => turn_q g cap k hk z W
  have FL : ∀ (r : Nat), 1 ≤ r → r ≤ k → ∀ (x : Nat → F2) (W : World), ArrQ cc W g (2 ^ k) x → Calls Tryd.prog 70 #[kindQ, .slice (some ⟨g, 0, none⟩) (2 ^ k) cap, .int .i64 r] W fun e w' => e = .returned (.tuple #[]) ∧ But g W w' ∧ ArrQ cc w' g (2 ^ k) (bf (· + ·) (· - ·) scale (2 ^ (r - 1)) (rootOf r) x) :=
    fun r h1 h2 x W hx => fly_q g k cap r (r - 1) (by omega) hk h2 x cc W hx
  obtain ⟨n, hn⟩ : ∃ n, 2 ^ k = n := ⟨_, rfl⟩
  rw [hn] at hp hA T hL hz FL ⊢
  have hg : g < w.heap.size := hA.lt (by omega)
  have HZ := Lib.hid hz; have HFL := Lib.hid FL; have HL := Lib.hid hL
  have T1 := T _ (hA.alloc (.cells #[addQ, subQ, scaleQ] 64))
  have H0 := Lib.hid hA
  have hk1 : (k : Int) ≤ 20 := by omega
  clear hn hA hz T FL hL
  go_enter Tryd.func59, Tryd.ntmps59
  go_upto_region 2 with ((go_at_call 69; ((with_reducible refine T1.mono ?_); rintro e W1 ⟨rfl, hb, hA⟩)))
  have HB := Lib.hid hb
  have HA := Lib.hid hA
  clear T1 hb hA
  go_wp2_with fail
  go_loopw [6] (ArRelQ cc w g n k x) (fun i _ => k + 1 - (intOf i).toNat)
  case atStart =>
    refine ⟨1, Nat.le_refl _, by omega, rfl, ((But.refl _ _).alloc _).trans HB.out, ?_, (K3.new _ _ _ _ _).but HB.out (by omega), z ∘ rv k, HA.out, fun j hj => ?_⟩
    · have := HB.out.size
      simp at this; omega
    · exact HZ.out (rv k j) (HL.out j)
  case round =>
    clear HB HA
    obtain ⟨r, h1, h2, rfl, hB, hs, hK, hA⟩ := hrel
    by_cases hlt : r ≤ k
    · have F1 := HFL.out r h1 hlt _ _ hA
      have hlt' : (r : Int) ≤ (k : Int) := by omega
      obtain ⟨k0, k1, k2⟩ := hK
      have HB := Lib.hid hB; have HK : Hid (K3 wr w.heap.size addQ subQ scaleQ) := Lib.hid ⟨k0, k1, k2⟩
      have HS := Lib.hid hs
      clear hA hB
      go_upto_region 4 with ((go_at_call 70; ((with_reducible refine F1.mono ?_); rintro e W1 ⟨rfl, hb, hA⟩)))
      replace HK := Lib.hid (HK.out.but hb (by omega))
      replace HB := Lib.hid (HB.out.trans hb)
      replace HS := Lib.hid (Nat.lt_of_lt_of_le HS.out hb.size)
      have HA := Lib.hid hA
      clear hb hA k0 k1 k2 F1 hs
      go_wp2_with fail
      go_roundw
      case rel => exact ⟨r + 1, by omega, by omega, by go_num, HB.out, HS.out, HK.out, by
        have := HA.out
        obtain ⟨o, rfl⟩ : ∃ o, r = o + 1 := ⟨r - 1, by omega⟩
        exact this⟩
      case measure => simp [intOf]; omega
    · have hlt' : ¬ (r : Int) ≤ (k : Int) := by omega
      have e : r - 1 = k := by omega
      rw [e] at hA
      have HA := Lib.hid hA; have HB := Lib.hid hB
      clear hA hB hK e
      go_wp2_with fail
      go_end0
      exact ⟨rfl, HB.out, HA.out⟩
end Go.Proofs.YtpckjlfnhfelkaaDoor
namespace Go.Proofs.YtpckjlfnhfelkaaDoor
open Go.RowKit
set_option linter.unusedVariables false

def ones (n : Nat) (j : Nat) : Value := .int .u64 (if j < n then 1 else 0)
theorem ones_cop (n m j : Nat) : cop (ones n) n (List.replicate m (.int .u64 1)) j = ones (n + m) j := by
  unfold cop ones
  rw [List.length_replicate]
  by_cases c : n ≤ j ∧ j < n + m
  · rw [if_pos c, if_pos c.2, List.getD, List.getElem?_replicate, if_pos (by omega)]; rfl
  · rw [if_neg c]
    by_cases d : j < n
    · rw [if_pos d, if_pos (by omega)]
    · rw [if_neg d, if_neg (by omega)]
def RepRel (w : World) (g N : Nat) (i : Value) (W : World) : Prop :=
  ∃ n : Nat, 1 ≤ n ∧ n ≤ N ∧ i = .int .i64 n ∧ Below w.heap.size w W ∧ Arr W g N (ones n)
def RepWd (w : World) (g N n m : Nat) (s : Bool) (W : World) : Prop := Below w.heap.size w W ∧ Arr W g N (ones (if s = true then n + m else n))
def RepR (g N n m : Nat) (sl : Nat) (v : Value) : Prop :=
  match sl with
  | 38 => v = .int .i64 n
  | 39 => v = .slice (some ⟨g, 0, none⟩) N N
  | 40 => v = .int .i64 n
  | 41 => v = .slice (some ⟨g, n, none⟩) (N - n) (N - n)
  | 42 => v = .slice (some ⟨g, 0, none⟩) N N
  | 43 => v = .int .i64 n
  | 44 => v = .slice (some ⟨g, 0, none⟩) n N
  | 45 => v = .int .i64 m
  | _ => v = .int .i64 ((n + m : Nat) : Int)

end Go.Proofs.YtpckjlfnhfelkaaDoor
namespace Go.Proofs.YtpckjlfnhfelkaaDoor
set_option linter.unusedVariables false

theorem forth_stages (zs : List Int) (s : F) (k p : Nat) (hk : k ≤ 20) (hl : zs.length ≤ 2 ^ k) (hp : p < 2 ^ k) :
    ar (· + ·) (· - ·) (· * ·) k (fun j => co zs j * (1 * fpow s j)) k p = ev zs.length (co zs) (pt s k p) := by
  rw [ar_ev k (by omega) _ p hp, ev_congr (d := fun j => co zs j * fpow s j) (fun j _ => by grind), ev_shift, ← ev_more (n := zs.length) (m := 2 ^ k) _ hl (fun j hj => co_out zs j hj)]
  rfl
theorem root_back (k j : Nat) (hk : k ≤ 20) (h0 : 0 < j) (hj : j < 2 ^ k) : fpow (rootOf k) (2 ^ k - j) = fpow (finv (rootOf k)) j := by
  have h1 := fpow_finv (root_ne k (by omega)) j
  have h2 : fpow (rootOf k) (2 ^ k - j) * fpow (rootOf k) j = 1 := by
    rw [← fpow_add, show 2 ^ k - j + j = 2 ^ k by omega]; exact root_all k (by omega)
  generalize fpow (rootOf k) (2 ^ k - j) = a at *
  generalize fpow (finv (rootOf k)) j = b at *
  generalize fpow (rootOf k) j = c at *
  calc a = a * (c * b) := by rw [h1]; grind
    _ = (a * c) * b := by grind
    _ = b := by rw [h2]; grind
/-- The others, the other way round. -/
def rvx (k j : Nat) : Nat := if 1 ≤ j ∧ j < 2 ^ k then 2 ^ k - j else j
theorem back_stages (v : Nat → F) (s : F) (k j : Nat) (hk : k ≤ 20) (hj : j < 2 ^ k) :
    ar (· + ·) (· - ·) (· * ·) k v k (rvx k j) * (finv (nat (2 ^ k)) * fpow (finv s) j) = bk s k v j := by
  unfold bk rvx
  by_cases h : 1 ≤ j ∧ j < 2 ^ k
  · rw [if_pos h, ar_ev k (by omega) _ _ (by omega), root_back k j hk (by omega) hj]
  · rw [if_neg h]
    obtain rfl : j = 0 := by omega
    rw [ar_ev k (by omega) _ _ hj]
    simp only [fpow]
theorem fsts_getD (zs : List (Int × Int)) (j : Nat) : (fsts zs).getD j 0 = (zs.getD j (0, 0)).1 := by
  unfold fsts
  rw [List.getD, List.getD, List.getElem?_map]
  cases zs[j]? <;> rfl
theorem snds_getD (zs : List (Int × Int)) (j : Nat) : (snds zs).getD j 0 = (zs.getD j (0, 0)).2 := by
  unfold snds
  rw [List.getD, List.getD, List.getElem?_map]
  cases zs[j]? <;> rfl
/-- A row's pair at a place; 0 behind its end. -/
def coQ (zs : List (Int × Int)) (j : Nat) : F2 := ⟨co (fsts zs) j, co (snds zs) j⟩
theorem enc_join (a b : F) : encP (toQ (enc a, enc b)) = (enc a, enc b) := by
  show (enc (toF (enc a)), enc (toF (enc b))) = _
  rw [toF_enc, toF_enc]
theorem forth_stagesQ (zs : List (Int × Int)) (s : F) (k p : Nat) (hk : k ≤ 20) (hl : zs.length ≤ 2 ^ k) (hp : p < 2 ^ k) :
    encP (ar (· + ·) (· - ·) scale k (fun j => scale (coQ zs j) (1 * fpow s j)) k p) = (forthQ zs s k).getD p (0, 0) := by
  have e1 : (ar (· + ·) (· - ·) scale k (fun j => scale (coQ zs j) (1 * fpow s j)) k p).a = ev (fsts zs).length (co (fsts zs)) (pt s k p) := by
    rw [ar_a]; exact forth_stages (fsts zs) s k p hk (by rw [fsts_len]; exact hl) hp
  have e2 : (ar (· + ·) (· - ·) scale k (fun j => scale (coQ zs j) (1 * fpow s j)) k p).b = ev (snds zs).length (co (snds zs)) (pt s k p) := by
    rw [ar_b]; exact forth_stages (snds zs) s k p hk (by rw [snds_len]; exact hl) hp
  unfold forthQ
  rw [joinL_at _ _ _ (by rw [forthL_len]; exact hp), forthL_at _ _ _ _ hp, forthL_at _ _ _ _ hp, enc_join, ← e1, ← e2]
  rfl
theorem back_stagesQ (zs : List (Int × Int)) (s : F) (k j : Nat) (hk : k ≤ 20) (hj : j < 2 ^ k) :
    encP (scale (ar (· + ·) (· - ·) scale k (coQ zs) k (rvx k j)) (finv (nat (2 ^ k)) * fpow (finv s) j)) = (backQ zs s k).getD j (0, 0) := by
  have e1 : (scale (ar (· + ·) (· - ·) scale k (coQ zs) k (rvx k j)) (finv (nat (2 ^ k)) * fpow (finv s) j)).a = bk s k (co (fsts zs)) j := by
    rw [← back_stages (co (fsts zs)) s k j hk hj]
    show F2.a (ar _ _ _ _ _ _ _) * _ = _
    rw [ar_a]; rfl
  have e2 : (scale (ar (· + ·) (· - ·) scale k (coQ zs) k (rvx k j)) (finv (nat (2 ^ k)) * fpow (finv s) j)).b = bk s k (co (snds zs)) j := by
    rw [← back_stages (co (snds zs)) s k j hk hj]
    show F2.b (ar _ _ _ _ _ _ _) * _ = _
    rw [ar_b]; rfl
  unfold backQ
  rw [joinL_at _ _ _ (by rw [backL_len]; exact hj), backL_at _ _ _ _ hj, backL_at _ _ _ _ hj, enc_join, ← e1, ← e2]
  rfl
end Go.Proofs.YtpckjlfnhfelkaaDoor
namespace Go.Proofs.YtpckjlfnhfelkaaDoor
open Go.RowKit
set_option linter.unusedVariables false

theorem fits_yes (k : Int) (h0 : 0 ≤ k) (h1 : k ≤ 20) (w : World) : Calls Tryd.prog 58 #[.int .i64 k] w fun e w' => e = .returned (.bool true) ∧ w = w' := by
  go_enter Tryd.func58, Tryd.ntmps58
  go_wp2
  go_ret
  exact ⟨by simp, rfl⟩
theorem fits_no (k : Int) (h : ¬ (0 ≤ k ∧ k ≤ 20)) (w : World) : Calls Tryd.prog 58 #[.int .i64 k] w fun e w' => e = .returned (.bool false) ∧ w = w' := by
  by_cases c : 0 ≤ k
  · have d : ¬ k ≤ 20 := fun d => h ⟨c, d⟩
    clear h
    go_enter Tryd.func58, Tryd.ntmps58
    go_wp2
    go_ret
    exact ⟨by simp, rfl⟩
  · clear h
    go_enter Tryd.func58, Tryd.ntmps58
    go_wp2
    go_ret
    exact ⟨by simp, rfl⟩
theorem finv_is (a z : Int) (ha : U a) (h : toF a ≠ 0) (hz : enc (finv (toF a)) = z) (w : World) : Calls Tryd.prog 32 #[.int .u64 a] w fun e w' => e = .returned (.tuple #[.int .u64 z, .bool true]) ∧ w = w' := by
  subst hz; exact inv_yes a ha h w

theorem RowA.src {W : World} {a : Option Addr} {len : Nat} {zs : List Int} (h : RowA W a len zs) (h0 : 0 < len) : ∃ ad, a = some ad ∧ ∀ j v, (zs.map (Value.int .u64))[j]? = some v → W.cell? (ad.add j) = some v := by
  obtain ⟨hz, hm, hc⟩ := h
  obtain ⟨b, off, rfl, _⟩ := hc 0 h0
  refine ⟨_, rfl, fun j v hv => ?_⟩
  have hj : j < zs.length := by have := (List.getElem?_eq_some_iff.1 hv).1; simpa using this
  obtain ⟨b', off', e, h⟩ := hc j (by omega)
  cases e
  rw [Addr.add_lit, h, ← hv]; simp [List.getD, hj]
theorem QRowA.src {W : World} {a : Option Addr} {len : Nat} {zs : List (Int × Int)} (h : QRowA W a len zs) (h0 : 0 < len) : ∃ ad, a = some ad ∧ ∀ j v, (flat zs)[j]? = some v → W.cell? (ad.add j) = some v := by
  obtain ⟨hz, hm, hc⟩ := h
  obtain ⟨b, off, rfl, _⟩ := hc 0 h0
  refine ⟨_, rfl, fun j v hv => ?_⟩
  have hj2 : j < len * 2 := by have := (List.getElem?_eq_some_iff.1 hv).1; rw [flat_length] at this; omega
  obtain ⟨b', off', e, h, h'⟩ := hc (j / 2) (by omega)
  cases e
  obtain ⟨f0, f1⟩ := flat_at zs (j / 2) (by omega)
  rw [Addr.add_lit]
  rcases (by omega : j = j / 2 * 2 ∨ j = j / 2 * 2 + 1) with e | e
  · rw [← e] at h f0; rw [h, ← hv, f0]
  · rw [← e] at f1; rw [Nat.add_assoc, ← e] at h'; rw [h', ← hv, f1]
theorem cop_u (zs : List Int) (j : Nat) : cop (fun j => (#[Value.int .u64 0])[j % (#[Value.int .u64 0]).size]!) 0 (zs.map (Value.int .u64)) j = .int .u64 (zs.getD j 0) := by
  unfold cop
  rw [List.length_map]
  by_cases h : j < zs.length
  · rw [if_pos ⟨Nat.zero_le _, by omega⟩]; simp [List.getD, h]
  · rw [if_neg (by omega)]; simp [List.getD, h, Nat.mod_one]
theorem cop_q (zs : List (Int × Int)) (j : Nat) : cop (pc fun _ => (0, 0)) 0 (flat zs) j = pc (fun i => zs.getD i (0, 0)) j := by
  unfold cop
  rw [flat_length]
  by_cases h : j < zs.length * 2
  · rw [if_pos ⟨Nat.zero_le _, by omega⟩, Nat.sub_zero]
    obtain ⟨f0, f1⟩ := flat_at zs (j / 2) (by omega)
    unfold pc
    rcases (by omega : j = j / 2 * 2 ∨ j = j / 2 * 2 + 1) with e | e
    · rw [if_pos (by omega)]; rw [← e] at f0; rw [List.getD, f0]; rfl
    · rw [if_neg (by omega)]; rw [← e] at f1; rw [List.getD, f1]; rfl
  · rw [if_neg (by omega)]
    unfold pc
    have : zs.getD (j / 2) (0, 0) = (0, 0) := by
      rw [List.getD, List.getElem?_eq_none (by omega)]; rfl
    simp only [this]
theorem Arr.rowc {W : World} {g n c : Nat} {zs : List Int} (h : Arr W g n (fun j => .int .u64 (zs.getD j 0))) (hz : zs.length = n) (h1 : n ≤ c) (h2 : c ≤ maxLen) : Row W (.slice (some ⟨g, 0, none⟩) n c) zs :=
  Or.inr (Or.inr ⟨g, 0, c, by rw [hz], by omega, h2, fun i hi => by rw [Nat.zero_add]; exact (h i (by omega)).1⟩)
theorem Arr.qrowc {W : World} {g n c : Nat} {zs : List (Int × Int)} (h : Arr W g (n * 2) (pc fun j => zs.getD j (0, 0))) (hz : zs.length = n) (h1 : n ≤ c) (h2 : c ≤ maxLen) : QRow W (.slice (some ⟨g, 0, none⟩) n c) zs :=
  Or.inr (Or.inr ⟨g, 0, c, by rw [hz], by omega, h2, fun i hi => by rw [Nat.zero_add]; exact ⟨(h.cells i (by omega)).1, (h.cells i (by omega)).2.1⟩⟩)
theorem Arr.qrow' {W : World} {g n : Nat} {zs : List (Int × Int)} (h : Arr W g (n * 2) (pc fun j => zs.getD j (0, 0))) (hz : zs.length = n) (hn : n ≤ maxLen) : QRow W (.slice (some ⟨g, 0, none⟩) n n) zs := h.qrowc hz (Nat.le_refl _) hn
theorem ArrF.keep {c : Bool} {w w1 : World} {g n : Nat} {x : Nat → F} (h : ArrF c w g n x) (hb : Below w.heap.size w w1) : ArrF c w1 g n x := by
  obtain ⟨z, h1, h2⟩ := h
  exact ⟨z, h1.keep hb, h2⟩
theorem getD_U {zs : List Int} (h : ∀ n ∈ zs, U n) (j : Nat) : U (zs.getD j 0) := by
  by_cases hj : j < zs.length
  · exact U_getD h j hj
  · rw [List.getD, List.getElem?_eq_none (by omega)]; exact U_lit _ rfl rfl
theorem num_co {zs : List Int} (h : ∀ n ∈ zs, U n) (j : Nat) : Num false (zs.getD j 0) (co zs j) := ⟨getD_U h j, rfl, fun h => by cases h⟩
theorem numq_co {zs : List (Int × Int)} (h : ∀ n ∈ zs, U n.1 ∧ U n.2) (j : Nat) : NumQ false (zs.getD j (0, 0)) (coQ zs j) := by
  have h1 := getD_U (fsts_U h) j
  have h2 := getD_U (snds_U h) j
  rw [fsts_getD] at h1
  rw [snds_getD] at h2
  refine ⟨⟨h1, h2, ?_, ?_⟩, fun h => by cases h⟩
  · show _ = co (fsts zs) j
    unfold co; rw [fsts_getD]
  · show _ = co (snds zs) j
    unfold co; rw [snds_getD]

theorem kind_q (w : World) : Calls Tryd.prog 36 #[] w fun e w' => e = .returned kindQ ∧ Below w.heap.size w w' := by
  go_enter Tryd.func36, Tryd.ntmps36
  have hsf := fun (a : Addr) (n : Nat) (w : World) => run_store Tryd.prog w a (.func (.func n) #[] #[]) .plain rfl
  go_wp2
  exact bodyPost_ret (v := kindQ) (by simp [results, Tryd.results36, go_sem]) rfl ⟨rfl, (Below.refl _ _).alloc (Nat.le_refl _) _⟩

theorem rev_tail_q (g n c : Nat) (hc : n ≤ c) (h0 : 0 < n) (hn : n ≤ 1048576) (z : Nat → (Int × Int)) (w : World) (hA : Arr w g (n * 2) (pc z)) :
    Calls Tryd.prog 60 #[.slice (if c = 1 then some ⟨g, 0, none⟩ else some ⟨g, 2, none⟩) (n - 1) (c - 1)] w fun e w' => e = .returned (.tuple #[]) ∧ But g w w' ∧ Arr w' g (n * 2) (pc fun j => z (rx 1 (n - 1) j)) := by
  by_cases e : c = 1
  · rw [if_pos e]
    have e2 : n - 1 = 0 := by omega
    rw [e2]
    exact (reverse_q g n 0 0 (c - 1) (by omega) (by omega) z w hA 0 rfl).mono fun e w' ⟨h1, h2, h3⟩ => ⟨h1, h2, h3.same (pc_same fun j hj => by unfold rx; rw [if_neg (by omega), if_neg (by omega)])⟩
  · rw [if_neg e]
    exact reverse_q g n 1 (n - 1) (c - 1) (by omega) (by omega) z w hA 2 rfl

set_option maxHeartbeats 4000000 in
theorem back_yes_q (a : Option Addr) (len cap : Nat) (zs : List (Int × Int)) (zi : Int) (hz : U zi) (s : F) (hs : toF zi = s) (hs0 : s ≠ 0) (k : Nat) (hk : k ≤ 20) (w : World) (hr : QRowA w a len zs) (hu : ∀ n ∈ zs, U n.1 ∧ U n.2) (hl : len = 2 ^ k) (ht : Tab w) :
    Calls Tryd.prog 37 #[kindQ, .slice a len cap, .int .u64 zi] w (NewOkQ w (2 ^ k) (backQ zs s k)) := by
  have hp := Nat.two_pow_pos k
  have P2 : 2 ^ k ≤ 2 ^ 20 := Nat.pow_le_pow_right (by decide) hk
  have L1 := fun (W : World) (h : Tab W) => log_is (len : Int) k (by unfold I64; omega) (by rw [hl]; exact lg_pow k) W h
  have I1 := finv_is zi (enc (finv s)) hz (by rw [hs]; exact hs0) (by rw [hs])
  have I2 := finv_is (((2 ^ k : Nat) : Int)) (enc (finv (nat (2 ^ k)))) (by unfold U; omega) (by rw [toF_nat]; exact nat_pow_ne k (by omega)) (by rw [toF_nat])
  have F1 := fits_yes k (by omega) (by omega)
  have AR := fun (g c : Nat) (W : World) (h : ArrQ false W g (2 ^ k) (coQ zs)) => around_q g c k hk _ false W h
  have RI := fun (g c : Nat) (W : World) (x : Nat → F2) (h : ArrQ false W g (2 ^ k) x) => rise_q g (2 ^ k) c (by omega) hp x (enc (finv (nat (2 ^ k)))) (enc (finv s)) (enc_U _) (enc_U _) (finv (nat (2 ^ k))) (finv s) (toF_enc _) (toF_enc _) false W h
  have RV := fun (g c : Nat) (hc : 2 ^ k ≤ c) (z : Nat → (Int × Int)) (W : World) (h : Arr W g (2 ^ k * 2) (pc z)) => rev_tail_q g (2 ^ k) c hc hp (by omega) z W h
  have hrx : ∀ j, j < 2 ^ k → rx 1 (2 ^ k - 1) j = rvx k j ∧ rvx k j < 2 ^ k := fun j hj => by
    unfold rx rvx
    by_cases h : 1 ≤ j ∧ j < 2 ^ k
    · rw [if_pos h, if_pos (by omega)]; omega
    · rw [if_neg h, if_neg (by omega)]; omega
  have FIN : Hid (∀ (W : World) (g c : Nat), 2 ^ k ≤ c → c ≤ maxLen → Arr W g (2 ^ k * 2) (pc fun j => encP (scale (ar (· + ·) (· - ·) scale k (coQ zs) k (rvx k j)) (finv (nat (2 ^ k)) * fpow (finv s) j))) → QRow W (.slice (some ⟨g, 0, none⟩) (2 ^ k) c) (backQ zs s k)) := Lib.hid (fun W g c h1 h2 h => by
    refine (h.same (pc_same fun j hj => back_stagesQ zs s k j hk hj)).qrowc (backQ_len zs s k) h1 h2)
  have w1 : IntKind.u64.wrap (2 ^ k) = ((2 ^ k : Nat) : Int) := by
    rw [IntKind.wrap_u64]
    have : ((2 : Int) ^ k) = ((2 ^ k : Nat) : Int) := by norm_cast
    rw [this]; omega
  subst hl
  obtain ⟨n, hn⟩ : ∃ n, 2 ^ k = n := ⟨_, rfl⟩
  rw [hn] at hp P2 L1 I2 AR RI RV hrx FIN w1 hr ⊢
  have hk0 : (0 : Int) ≤ (k : Int) := by omega
  have hk1 : (k : Int) ≤ 20 := by omega
  have CL := fun (W : World) (h : QRowA W a n zs) => clone_q a n cap zs W h hp (by omega)
  have HN := Lib.hid hn
  have HU := Lib.hid hu; have HR := Lib.hid hr; have HT := Lib.hid ht
  have HAR := Lib.hid AR; have HRI := Lib.hid RI; have HRV := Lib.hid RV; have HX := Lib.hid hrx; have HCL := Lib.hid CL
  clear hn hs hs0 hz hu hr ht AR RI RV hrx CL
  have hB0 := ((Below.refl w.heap.size w).alloc (Nat.le_refl _) (.cells #[addQ, subQ, scaleQ] 64))
  have L2 := L1 _ (HT.out.keep hB0)
  have C2 := HCL.out _ (HR.out.keep hB0)
  have hK := K3.new w addQ subQ scaleQ 64
  have HB0 := Lib.hid hB0
  clear hB0 L1
  go_enter Tryd.func37, Tryd.ntmps37
  go_upto_region 5 with (first
    | (go_at_call 31; ((with_reducible refine L2.mono ?_); rintro e w' ⟨rfl, rfl⟩))
    | (go_at_call 32; ((with_reducible refine (I1 _).mono ?_); rintro e w' ⟨rfl, rfl⟩))
    | (go_at_call 58; ((with_reducible refine (F1 _).mono ?_); rintro e w' ⟨rfl, rfl⟩)))
  go_upto_region 7 with (first
    | (go_at_call 32; ((with_reducible refine (I2 _).mono ?_); rintro e w' ⟨rfl, rfl⟩))
    | (go_at_call 17; ((with_reducible refine C2.mono ?_); rintro e w2 ⟨g, c, rfl, hg, hc, hcm, hb2, hA2⟩)))
  have hg1 : w.heap.size < g := by simp only [World.size_alloc] at hg; omega
  have hAF : ArrQ false w2 g n (coQ zs) := ⟨_, hA2, fun j _ => numq_co HU.out j⟩
  have R1 := HAR.out g c w2 hAF
  have hlt : g < w2.heap.size := hA2.lt (by omega)
  have hKK := hK.keep hb2
  have HK := Lib.hid hKK
  have HB := Lib.hid (HB0.out.trans (hb2.mono (by simp)))
  have HS : Hid (w.heap.size ≤ w2.heap.size) := Lib.hid (by omega)
  have hn1 : (1 : Int) ≤ (n : Int) := by omega
  have hn2 : n ≤ c := hc
  have hcm2 : c ≤ 9223372036854775807 := hcm
  obtain ⟨k0, k1, k2⟩ := hKK
  clear hA2 hb2 hAF hK C2 L2 I1 I2 w1
  go_upto_region 8 with (go_at_call 59; ((with_reducible refine R1.mono ?_); rintro e w3 ⟨rfl, hb3, hA3⟩))
  obtain ⟨z, hz1, hz2⟩ := hA3
  have R2 := HRV.out g c hc z w3 hz1
  replace HB := Lib.hid (But.below HB.out hb3 (by omega) HS.out)
  replace HS := Lib.hid (Nat.le_trans HS.out hb3.size)
  replace HK := Lib.hid (HK.out.but hb3 (by omega))
  have HZ := Lib.hid hz2
  clear R1 hb3 hz1 hz2 k0 k1 k2 hlt
  go_upto_region 9 with (go_at_call 60; ((with_reducible refine R2.mono ?_); rintro e w4 ⟨rfl, hb4, hA4⟩))
  have hAF : ArrQ false w4 g n (fun j => ar (· + ·) (· - ·) scale k (coQ zs) k (rvx k j)) := ⟨_, hA4, fun j hj => by
    have hx := HX.out j hj
    rw [hx.1]; exact HZ.out _ hx.2⟩
  have R3 := HRI.out g c w4 _ hAF
  replace HB := Lib.hid (But.below HB.out hb4 (by omega) HS.out)
  replace HS := Lib.hid (Nat.le_trans HS.out hb4.size)
  replace HK := Lib.hid (HK.out.but hb4 (by omega))
  obtain ⟨k0, k1, k2⟩ := HK.out
  clear R2 hb4 hA4 hAF
  go_upto_region 10 with (go_at_call 61; ((with_reducible refine R3.mono ?_); rintro e w5 ⟨rfl, hb5, hA5⟩))
  have HROW := Lib.hid (FIN.out w5 g c hc hcm hA5)
  have HBE := Lib.hid (But.below HB.out hb5 (by omega) HS.out)
  clear R3 hb5 hA5 k0 k1 k2 HB HK FIN
  go_wp2_with fail
  all_goals
    go_ret2
    first
      | exact ⟨_, _, rfl, HBE.out, HROW.out⟩
      | (have e1 : c = 1 := by assumption
         rw [e1] at HROW
         exact ⟨_, _, rfl, HBE.out, HROW.out⟩)

set_option maxHeartbeats 4000000 in
theorem back_no_q (a : Option Addr) (len cap : Nat) (zi : Int) (hz : U zi) (s : F) (hs : toF zi = s) (w : World) (hm : len ≤ 4294967296) (h : ¬ okB len s) (ht : Tab w) :
    Calls Tryd.prog 37 #[kindQ, .slice a len cap, .int .u64 zi] w (ErrArg w) := by
  have L1 := log_is (len : Int) (lg len) (by unfold I64; omega) rfl _ (ht.keep ((Below.refl w.heap.size w).alloc (Nat.le_refl _) (.cells #[addQ, subQ, scaleQ] 64)))
  by_cases c : 0 ≤ lg len ∧ lg len ≤ 20
  · have hs0 : toF zi = 0 := by rw [hs]; exact Classical.byContradiction fun h1 => h ⟨c.1, c.2, h1⟩
    have F1 := fits_yes _ c.1 c.2
    have I1 := inv_no zi hz hs0
    clear h hs hs0 c
    generalize lg len = m at *
    go_enter Tryd.func37, Tryd.ntmps37
    go_wp2_with (first
      | (go_at_call 31; ((with_reducible refine L1.mono ?_); rintro e w' ⟨rfl, rfl⟩))
      | (go_at_call 32; ((with_reducible refine (I1 _).mono ?_); rintro e w' ⟨rfl, rfl⟩))
      | (go_at_call 58; ((with_reducible refine (F1 _).mono ?_); rintro e w' ⟨rfl, rfl⟩)))
    go_ret2
    exact ⟨rfl, (Below.refl _ _).alloc (Nat.le_refl _) _⟩
  · have F1 := fits_no _ c
    have I1 : ∃ (v : Int) (b : Bool), ∀ W, Calls Tryd.prog 32 #[.int .u64 zi] W fun e w' => e = .returned (.tuple #[.int .u64 v, .bool b]) ∧ W = w' := by
      by_cases h0 : toF zi = 0
      · exact ⟨_, _, inv_no zi hz h0⟩
      · exact ⟨_, _, inv_yes zi hz h0⟩
    obtain ⟨v, b, I1⟩ := I1
    clear h c hs
    generalize lg len = m at *
    go_enter Tryd.func37, Tryd.ntmps37
    go_wp2_with (first
      | (go_at_call 31; ((with_reducible refine L1.mono ?_); rintro e w' ⟨rfl, rfl⟩))
      | (go_at_call 32; ((with_reducible refine (I1 _).mono ?_); rintro e w' ⟨rfl, rfl⟩))
      | (go_at_call 58; ((with_reducible refine (F1 _).mono ?_); rintro e w' ⟨rfl, rfl⟩)))
    go_ret2
    exact ⟨rfl, (Below.refl _ _).alloc (Nat.le_refl _) _⟩

theorem ask_backq : AskBackQ := by
  intro a len cap zs zi s w hz hs hr hu hm ht
  have hl := hr.at.1
  have M : ∀ W, Below w.heap.size w W → Calls Tryd.prog 37 #[kindQ, .slice a len cap, .int .u64 zi] W (OneLQ (errB zs.length s) (resBQ zs s) W) := by
    intro W hb
    by_cases h : okB zs.length s
    · obtain ⟨k, hk, hk2, hk3⟩ := lg_cases zs.length (by omega) h.1 h.2.1
      exact (back_yes_q a len cap zs zi hz s hs h.2.2 k hk W (hr.at.keep hb) hu (by omega) (ht.keep hb)).mono fun e w' h' => OneLQ.yes h' (by unfold resBQ; rw [if_pos h, hk3, Int.toNat_natCast]) (by unfold errB; rw [if_pos h])
    · exact (back_no_q a len cap zi hz s hs W hm (by rw [← hl]; exact h) (ht.keep hb)).mono fun e w' h' => OneLQ.no h' (by unfold resBQ; rw [if_neg h]) (by unfold errB; rw [if_neg h])
  generalize errB zs.length s = err at *
  generalize resBQ zs s = res at *
  have HM := Lib.hid M
  clear M hr hu ht hl hs hz
  go_enter Tryd.func19, Tryd.ntmps19
  go_wp2_with (first
    | (go_at_call 36; ((with_reducible refine (kind_q _).mono ?_); rintro e w1 ⟨rfl, hb1⟩; have HB := Lib.hid hb1; have M1 := HM.out w1 hb1; clear hb1))
    | (go_at_call 37; ((with_reducible refine M1.mono ?_); rintro e w2 ⟨a', n', c', rfl, hb2, hrow⟩; have HB2 := Lib.hid hb2; have HROW := Lib.hid hrow; clear hb2 hrow M1)))
  go_ret2
  exact ⟨_, _, _, rfl, bthen HB.out HB2.out, HROW.out⟩

end Go.Proofs.YtpckjlfnhfelkaaDoor
