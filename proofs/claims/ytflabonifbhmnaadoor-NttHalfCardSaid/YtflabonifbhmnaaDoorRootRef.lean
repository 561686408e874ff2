/-
  What the document's Log and Turn come to: contracts for the walk.
-/
import Derived.Test.YtflabonifbhmnaaDoorRootLog
namespace Go.Proofs.YtflabonifbhmnaaDoor
open Go.RowKit
set_option linter.unusedVariables false

def NoPow (n : Int) (k : Nat) : Prop := ∀ j : Nat, j < k → n ≠ (2 ^ j : Nat)
theorem NoPow.zero (n : Int) : NoPow n 0 := fun j h => by omega
theorem NoPow.succ {n : Int} {k : Nat} (h : NoPow n k) (hn : ¬ n = (2 ^ k : Nat)) : NoPow n (k + 1) := fun j hj => by
  by_cases e : j = k
  · subst e; exact hn
  · exact h j (by omega)

theorem wrap64_pow (k : Nat) (h : k < 63) : wrap64 (2 ^ k) = ((2 ^ k : Nat) : Int) := by
  have : ∀ k, k < 63 → wrap64 (2 ^ k) = ((2 ^ k : Nat) : Int) := by decide +kernel
  exact this k h

theorem reflog_is (n z : Int) (hn : I64 n) (hz : lg n = z) (w : World) : Calls Tryd.prog 27 #[.int .i64 n] w fun e w' => e = .returned (.int .i64 z) ∧ w = w' := by
  have HZ := Lib.hid hz
  have HN := Lib.hid hn
  clear hz hn
  go_enter Tryd.func27, Tryd.ntmps27
  go_wp2
  go_loop [3] (fun i => ∃ k : Nat, k ≤ 63 ∧ i = .int .i64 k ∧ NoPow n k) (fun i => 63 - (intOf i).toNat)
  case atStart => exact ⟨0, by omega, rfl, NoPow.zero n⟩
  case round =>
    obtain ⟨k, hk, rfl, hp⟩ := hrel
    by_cases h : k < 63
    · have e := wrap64_pow k h
      by_cases hq : n = ((2 ^ k : Nat) : Int)
      · have ez : (k : Int) = z := by rw [← HZ.out, hq]; exact (lg_pow k).symm
        have EZ := Lib.hid ez
        have b : (n == ((2 ^ k : Nat) : Int)) = true := by simpa using hq
        clear hp hq ez
        generalize ((2 ^ k : Nat) : Int) = P at *
        go_wp2
        go_ret
        exact ⟨ret_int EZ.out, rfl⟩
      · have HP := Lib.hid (hp.succ hq)
        have b : (n == ((2 ^ k : Nat) : Int)) = false := by simpa using hq
        clear hp hq
        generalize ((2 ^ k : Nat) : Int) = P at *
        go_wp2
        go_round
        case rel => exact ⟨k + 1, by omega, by go_num, HP.out⟩
        case measure => simp [intOf]; omega
    · obtain rfl : k = 63 := by omega
      have ez : -1 = z := by rw [← HZ.out]; exact (lg_none HN.out.2 hp).symm
      have EZ := Lib.hid ez
      clear ez hp
      go_wp2
      go_ret
      exact ⟨ret_int EZ.out, rfl⟩

theorem bit_mod (n : Int) (j : Nat) (hj : j < 64) : n / 2 ^ j % 2 = (((n % 18446744073709551616).toNat / 2 ^ j % 2 : Nat) : Int) := by
  obtain ⟨N, hN⟩ : ∃ N : Nat, (N : Int) = n % 18446744073709551616 := ⟨(n % 18446744073709551616).toNat, by omega⟩
  rw [← hN, Int.toNat_natCast]
  have e : n = (N : Int) + 2 ^ j * (2 ^ (63 - j) * (2 * (n / 18446744073709551616))) := by
    have : (2 : Int) ^ j * (2 ^ (63 - j) * (2 * (n / 18446744073709551616))) = 18446744073709551616 * (n / 18446744073709551616) := by
      rw [← Int.mul_assoc, ← Int.pow_add, show j + (63 - j) = 63 by omega, ← Int.mul_assoc]; rfl
    rw [this]; omega
  have h2 : (2 : Int) ^ j ≠ 0 := Int.ne_of_gt (Int.pow_pos (by decide))
  rw [e, Int.add_mul_ediv_left _ _ h2, show (2 : Int) ^ (63 - j) * (2 * (n / 18446744073709551616)) = 2 * (2 ^ (63 - j) * (n / 18446744073709551616)) by rw [Int.mul_left_comm]]
  rw [Int.add_mul_emod_self_left]
  rw [Int.natCast_emod, Int.natCast_ediv, Int.natCast_pow]; rfl

/-- The lowest j bits, the other way round, step by step. -/
def tj (n : Int) (j : Nat) : Int := (rv j (n % 18446744073709551616).toNat : Int)
theorem tj_zero (n : Int) : tj n 0 = 0 := rfl
theorem tj_succ (n : Int) (j : Nat) (hj : j < 64) : tj n j * 2 + n / 2 ^ j % 2 = tj n (j + 1) := by
  rw [bit_mod n j hj]; unfold tj; rw [rv_succ]; omega
theorem tj_bd (n : Int) (j : Nat) (hj : j < 62) : 0 ≤ tj n j ∧ tj n j < 2305843009213693952 := by
  unfold tj
  have := rv_lt j (n % 18446744073709551616).toNat
  have h2 : 2 ^ j ≤ 2 ^ 61 := Nat.pow_le_pow_right (by decide) (by omega)
  omega
theorem tj_end (n k : Int) (j : Nat) (h : j = min k.toNat 62) : tj n j = tv n k := by subst h; rfl

end Go.Proofs.YtflabonifbhmnaaDoor
