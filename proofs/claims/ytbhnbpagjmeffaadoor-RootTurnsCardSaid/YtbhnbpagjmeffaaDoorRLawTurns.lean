/-
  The walk of RootTurns: it answers true.
-/
import Derived.Test.YtbhnbpagjmeffaaDoorRAwake
import Derived.Deep.QuietTactic
import Derived.BigQuiet
namespace Go.Proofs.YtbhnbpagjmeffaaDoor
open Go.RowKit Go.Sort Go.BigFrame
set_option linter.unusedVariables false

theorem tv_nat (x j : Nat) (hx : x < 4294967296) (hj : j < 32) : tv (x : Int) (j : Int) = (rv j x : Int) := by
  unfold tv
  rw [show min (j : Int).toNat 62 = j by omega, show ((x : Int) % 18446744073709551616).toNat = x by omega]
theorem rv_small (x j : Nat) (hj : j < 32) : rv j x < 4294967296 := by
  have h1 := rv_lt j x
  have : 2 ^ j ≤ 2 ^ 32 := Nat.pow_le_pow_right (by decide) (by omega)
  omega

set_option maxHeartbeats 4000000 in
theorem rturns_walk (n m k : Int) (hn : 0 ≤ n ∧ n ≤ 4294967295) (hm : 0 ≤ m ∧ m ≤ 4294967295) (hk : 0 ≤ k ∧ k ≤ 255) (w : World) (ht : Tab w) : Calls Tryd.prog 6 #[.int .u32 n, .int .u32 m, .int .u8 k] w fun e w' => e = .returned (.bool true) ∧ Below w.heap.size w w' := by
  obtain ⟨n0, n1⟩ := hn
  obtain ⟨m0, m1⟩ := hm
  obtain ⟨k0, k1⟩ := hk
  obtain ⟨j, hkj⟩ : ∃ j : Nat, k % 32 = j := ⟨(k % 32).toNat, by omega⟩
  have hj : j < 32 := by omega
  have hB := Below.refl w.heap.size w
  have e := wrap64_pow j (by omega)
  have P0 := Nat.two_pow_pos j
  have P2 : 2 ^ j ≤ 2 ^ 31 := Nat.pow_le_pow_right (by decide) (by omega)
  obtain ⟨x, hx⟩ : ∃ x : Nat, n % (2 ^ j : Nat) = x := ⟨(n % (2 ^ j : Nat)).toNat, by have := Int.emod_nonneg n (show ((2 ^ j : Nat) : Int) ≠ 0 by omega); omega⟩
  obtain ⟨y, hy⟩ : ∃ y : Nat, m % (2 ^ j : Nat) = y := ⟨(m % (2 ^ j : Nat)).toNat, by have := Int.emod_nonneg m (show ((2 ^ j : Nat) : Int) ≠ 0 by omega); omega⟩
  have xl : x < 2 ^ j := by have := Int.emod_lt_of_pos n (show (0 : Int) < ((2 ^ j : Nat) : Int) by omega); omega
  have yl : y < 2 ^ j := by have := Int.emod_lt_of_pos m (show (0 : Int) < ((2 ^ j : Nat) : Int) by omega); omega
  have t1 : n.tmod ((2 ^ j : Nat) : Int) = x := by rw [Int.tmod_eq_emod_of_nonneg n0, hx]
  have t2 : m.tmod ((2 ^ j : Nat) : Int) = y := by rw [Int.tmod_eq_emod_of_nonneg m0, hy]
  have rx : rv j (rv j x) = x := by rw [rv_rv, Nat.mod_eq_of_lt xl]
  have ry : rv j (rv j y) = y := by rw [rv_rv, Nat.mod_eq_of_lt yl]
  have same : (((rv j x : Int) == (rv j y : Int)) == ((x : Int) == (y : Int))) = true := by
    by_cases h : x = y
    · subst h; simp
    · have : rv j x ≠ rv j y := fun h' => h (by rw [← rx, ← ry, h'])
      have b1 : ((rv j x : Int) == (rv j y : Int)) = false := by simp; omega
      have b2 : ((x : Int) == (y : Int)) = false := by simp; omega
      rw [b1, b2]; rfl
  have lt : ((rv j x : Int) < ((2 ^ j : Nat) : Int)) := by have := rv_lt j x; omega
  have sx := rv_small x j hj
  have ix : I64 (x : Int) := by unfold I64; omega
  have iy : I64 (y : Int) := by unfold I64; omega
  have ij : I64 (j : Int) := by unfold I64; omega
  have ir : I64 (rv j x : Int) := by unfold I64; omega
  have k1' := turn_is x j (rv j x : Int) ix ij (tv_nat x j (by omega) hj)
  have k2' := turn_is y j (rv j y : Int) iy ij (tv_nat y j (by omega) hj)
  have k3' := turn_is (rv j x : Int) j x ir ij (by rw [tv_nat _ j sx hj, rx])
  obtain ⟨b1, hb1⟩ : ∃ b, ((rv j x : Int) == (rv j y : Int)) = b := ⟨_, rfl⟩
  rw [hb1] at same
  generalize (rv j x : Int) = X at *
  generalize (rv j y : Int) = Y at *
  obtain ⟨P, hP⟩ : ∃ P : Int, ((2 ^ j : Nat) : Int) = P := ⟨_, rfl⟩
  have P4 : 0 < P := by rw [← hP]; omega
  have P3 : P ≠ 0 := by rw [← hP]; omega
  have P1 : (P == 0) = false := by simpa using P3
  have lt2 : decide (X < P) = true := by rw [← hP]; simpa using lt
  rw [hP] at e t1 t2
  clear P3 rx ry sx ix iy ij ir xl yl hx hy P0 P2 lt hP
  generalize (x : Int) = x' at *
  generalize (y : Int) = y' at *
  go_enter Tryd.func6, Tryd.ntmps6
  go_upto_region 2 with (fail)
  refine wp_region_quiet_lit (by kernel_rfl) (by kernel_rfl) ?_
  repeat (first | go_big_quiet_step (fail) | quiet_step (fail))
  refine wpQuiet_nil ?_
  rintro _ ⟨nq, rfl⟩
  replace ht : Tab (w.drewN nq) := ht
  replace hB := below_drewN hB nq
  clear t1 t2
  generalize w.drewN nq = W at *
  go_wp2_with (first
    | (go_at_call 9; ((with_reducible refine (rawake_any _ ht).mono ?_); rintro e w1 ⟨rfl, hb⟩; replace hB := bthen hB hb; clear hb))
    | (go_at_call 14; ((with_reducible first | refine (k1' _).mono ?_ | refine (k2' _).mono ?_ | refine (k3' _).mono ?_); rintro e w' ⟨rfl, rfl⟩)))
  go_ret
  exact ⟨rfl, hB⟩
end Go.Proofs.YtbhnbpagjmeffaaDoor
