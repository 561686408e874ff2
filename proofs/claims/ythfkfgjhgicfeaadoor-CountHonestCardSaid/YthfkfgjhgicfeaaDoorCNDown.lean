/-
  The walk of ChainDown: it answers true, where the program's calls do what is asked of them.
-/
import Derived.Test.YthfkfgjhgicfeaaDoorGChain
import Derived.Test.YthfkfgjhgicfeaaDoorSame
import Derived.Test.YthfkfgjhgicfeaaDoorGRows
import Derived.BigQuiet
namespace Go.Proofs.YthfkfgjhgicfeaaDoor
open Go Go.RowKit Go.Sort Go.BigFrame
set_option linter.unusedVariables false

theorem cn_pow (M : Nat) (h : M ≤ 6) : wrap64 ((2 : Int) ^ M) = ((2 ^ M : Nat) : Int) := by
  have : M = 0 ∨ M = 1 ∨ M = 2 ∨ M = 3 ∨ M = 4 ∨ M = 5 ∨ M = 6 := by omega
  rcases this with rfl | rfl | rfl | rfl | rfl | rfl | rfl <;> decide +kernel
theorem cn_sub (a b : Nat) (h : b ≤ a) (ha : a ≤ 100) : IntKind.i64.wrap ((a : Int) - (b : Int)) = ((a - b : Nat) : Int) ∧ wrap64 ((a : Int) - (b : Int)) = ((a - b : Nat) : Int) :=
  ⟨by rw [IntWalk.i64_in _ (by omega)]; omega, by rw [IntWalk.wrap64_in _ (by omega)]; omega⟩
theorem cn_add (a b : Nat) (ha : a ≤ 100) (hb : b ≤ 100) : IntKind.i64.wrap ((a : Int) + (b : Int)) = ((a + b : Nat) : Int) ∧ wrap64 ((a : Int) + (b : Int)) = ((a + b : Nat) : Int) :=
  ⟨by rw [IntWalk.i64_in _ (by omega)]; omega, by rw [IntWalk.wrap64_in _ (by omega)]; omega⟩
theorem cn_one (a : Nat) (ha : a ≤ 100) : IntKind.i64.wrap ((a : Int) + 1) = ((a + 1 : Nat) : Int) ∧ wrap64 ((a : Int) + 1) = ((a + 1 : Nat) : Int) :=
  ⟨by rw [IntWalk.i64_in _ (by omega)]; omega, by rw [IntWalk.wrap64_in _ (by omega)]; omega⟩
theorem cn_id (a : Nat) (ha : a ≤ 100) : IntKind.i64.wrap (a : Int) = (a : Int) ∧ IntKind.u8.wrap (a : Int) = (a : Int) ∧ IntKind.u64.wrap (a : Int) = (a : Int) :=
  ⟨IntWalk.i64_in _ (by omega), by rw [IntKind.wrap_u8]; omega, by rw [IntKind.wrap_u64]; omega⟩
theorem cn_mod {t : Int} (h : 0 ≤ t) (n : Nat) (hn : 0 < n) : ∃ k : Nat, k < n ∧ t.tmod (n : Int) = (k : Int) := by
  have h1 := Int.emod_nonneg t (show (n : Int) ≠ 0 by omega)
  have h2 := Int.emod_lt_of_pos t (show (0 : Int) < (n : Int) by omega)
  refine ⟨(t % (n : Int)).toNat, by omega, ?_⟩
  rw [Int.tmod_eq_emod_of_nonneg h]
  omega
structure CnN (k n2 M : Nat) : Prop where
  k4 : k ≤ 4
  n4 : n2 ≤ 4
  nk : n2 ≤ k
  kM : k < M
  M6 : M ≤ 6
  M20 : M ≤ 20
  Mn : n2 ≤ M
  Md : M - n2 ≤ 20
  Md6 : M - n2 ≤ 6
  kd6 : k - n2 ≤ 6
  k100 : k ≤ 100
  M100 : M ≤ 100
  n100 : n2 ≤ 100
  kd100 : k - n2 ≤ 100
  Md100 : M - n2 ≤ 100
  n1000 : n2 ≤ 1000
  p1 : 2 ^ k ≤ 2 ^ M
  p2 : 2 ^ M ≤ 4294967296
  p3 : 2 ^ (k - n2) ≤ 2 ^ (M - n2)
  p4 : 2 ^ (M - n2) ≤ 4294967296
  p5 : I64 ((2 ^ (k - n2) : Nat) : Int)
  i64 : I64 (n2 : Int)
theorem cn_all {k n2 M : Nat} (hk : k < 5) (hn : n2 ≤ k) (hkM : k < M) (hM : M ≤ 6) : CnN k n2 M := by
  have h1 : 2 ^ M ≤ 2 ^ 6 := Nat.pow_le_pow_right (by decide) hM
  have h2 : 2 ^ (M - n2) ≤ 2 ^ 6 := Nat.pow_le_pow_right (by decide) (by omega)
  have h3 : 2 ^ (k - n2) ≤ 2 ^ 6 := Nat.pow_le_pow_right (by decide) (by omega)
  have h4 : 2 ^ 6 = 64 := rfl
  rw [h4] at h1 h2 h3
  refine ⟨by omega, by omega, hn, hkM, hM, by omega, by omega, by omega, by omega, by omega, by omega, by omega, by omega, by omega, by omega, by omega, Nat.pow_le_pow_right (by decide) (by omega), Nat.le_trans h1 (by decide), Nat.pow_le_pow_right (by decide) (by omega), Nat.le_trans h2 (by decide), ?_, by unfold I64; omega⟩
  generalize 2 ^ (k - n2) = x at *
  unfold I64
  omega
theorem cn_len {l : QL} {n1 K : Nat} (h : l.length = n1) (hK : K ≤ n1) : (l.take K).length = K := by rw [List.length_take]; omega
theorem cn_step {k mo M : Nat} (h1 : k < 5) (h2 : mo < 2) (h3 : k + 1 + mo = M) : k < M ∧ M ≤ 6 ∧ k ≤ 100 ∧ k + 1 ≤ 100 ∧ mo ≤ 100 ∧ k ≤ 6 := by omega
theorem cn_neg {a b : Nat} (h : ¬ (a : Int) < (b : Int)) : b ≤ a := by omega
theorem cn_K16 {k : Nat} (h : k < 5) : 2 ^ k ≤ 16 := Nat.le_trans (Nat.pow_le_pow_right (by decide) (show k ≤ 4 by omega)) (by decide)
end Go.Proofs.YthfkfgjhgicfeaaDoor
