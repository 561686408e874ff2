/-
  What root.Of, root.Log come to, and what the document's answers for them do: contracts for the walk.
-/
import Derived.Test.YteleepblfipncaaRoots
import Derived.Test.YteleepblfipncaaPairRefB
import Derived.Lib.LaidTab
namespace Go.Proofs.Yteleepblfipncaa
open Go.RowKit
set_option linter.unusedVariables false

/-- Which power of two a number is; -1: none. -/
def lg (n : Int) : Int := if 1 ≤ n ∧ n.toNat &&& (n.toNat - 1) = 0 then (n.toNat.log2 : Int) else -1
theorem lg_pow (k : Nat) : lg (2 ^ k : Nat) = (k : Int) := by
  unfold lg
  have h0 : 0 < 2 ^ k := Nat.two_pow_pos k
  rw [if_pos ⟨by omega, by rw [Int.toNat_natCast]; exact two_pow_and k⟩, Int.toNat_natCast, Nat.log2_two_pow]
theorem lg_none {n : Int} (hn : n ≤ 9223372036854775807) (h : ∀ k : Nat, k < 63 → n ≠ (2 ^ k : Nat)) : lg n = -1 := by
  unfold lg
  refine if_neg fun ⟨h1, h2⟩ => ?_
  have e := and_pred (by omega) h2
  have hk : n.toNat.log2 < 63 := by
    refine Nat.lt_of_not_le fun hle => ?_
    have : 2 ^ 63 ≤ 2 ^ n.toNat.log2 := Nat.pow_le_pow_right (by decide) hle
    omega
  exact h _ hk (by omega)

/-- The root of any order; 0: there is none. -/
def ofv (k : Int) : F := if 0 ≤ k ∧ k ≤ 32 then rootOf k.toNat else 0
theorem ofv_in {k : Int} (h0 : 0 ≤ k) (h1 : k ≤ 32) : ofv k = rootOf k.toNat := if_pos ⟨h0, h1⟩
theorem ofv_out {k : Int} (h : ¬ (0 ≤ k ∧ k ≤ 32)) : ofv k = 0 := if_neg h

theorem of_is (k z : Int) (hz : enc (ofv k) = z) (w : World) : Calls Try.prog 35 #[.int .i64 k] w fun e w' => e = .returned (.int .u64 z) ∧ w = w' := by
  by_cases c : 0 ≤ k ∧ k ≤ 32
  · rw [ofv_in c.1 c.2] at hz
    obtain ⟨c0, c1⟩ := c
    have e1 : ((18446744069414584320 / 2 ^ k.toNat : Nat) : Int) = 18446744069414584320 / 2 ^ k.toNat := by rw [Int.natCast_ediv, Int.natCast_pow]; rfl
    have le := Nat.div_le_self 18446744069414584320 (2 ^ k.toNat)
    have eU : U (18446744069414584320 / 2 ^ k.toNat : Int) := by
      rw [← e1]
      generalize 18446744069414584320 / 2 ^ k.toNat = q at le
      unfold U; omega
    have K := pow_is 7 (18446744069414584320 / 2 ^ k.toNat) z (U_lit _ rfl rfl) eU (by rw [← e1, Int.toNat_natCast, ← hz]; rfl)
    clear hz le e1 eU
    go_enter Try.func35, Try.ntmps35
    go_wp2_with (go_at_call 34; ((with_reducible refine (K _).mono ?_); rintro e w' ⟨rfl, rfl⟩))
    go_ret
    exact ⟨rfl, rfl⟩
  · rw [ofv_out c] at hz
    have e0 : z = 0 := by rw [← hz]; rfl
    subst e0
    clear hz
    by_cases d : k < 0
    · clear c
      go_enter Try.func35, Try.ntmps35
      go_wp2
      go_ret
      exact ⟨rfl, rfl⟩
    · have d2 : 32 < k := by omega
      clear c
      go_enter Try.func35, Try.ntmps35
      go_wp2
      go_ret
      exact ⟨rfl, rfl⟩

theorem refof_is (k z : Int) (hz : enc (ofv k) = z) (w : World) : Calls Try.prog 21 #[.int .i64 k] w fun e w' => e = .returned (.int .u64 z) ∧ ∃ n, w' = w.drewN n := by
  by_cases c : 0 ≤ k ∧ k ≤ 32
  · rw [ofv_in c.1 c.2] at hz
    obtain ⟨c0, c1⟩ := c
    have e1 : ((18446744069414584320 / 2 ^ k.toNat : Nat) : Int) = 18446744069414584320 / 2 ^ k.toNat := by rw [Int.natCast_ediv, Int.natCast_pow]; rfl
    have le := Nat.div_le_self 18446744069414584320 (2 ^ k.toNat)
    have eU : U (18446744069414584320 / 2 ^ k.toNat : Int) := by
      rw [← e1]
      generalize 18446744069414584320 / 2 ^ k.toNat = q at le
      unfold U; omega
    have K := fun w => refpow_any 7 (18446744069414584320 / 2 ^ k.toNat) (U_lit _ rfl rfl) eU w
    rw [show enc (fpow (toF 7) (18446744069414584320 / 2 ^ k.toNat : Int).toNat) = z by rw [← e1, Int.toNat_natCast, ← hz]; rfl] at K
    clear hz le e1 eU
    go_enter Try.func21, Try.ntmps21
    go_wp2_with (go_at_call 36; ((with_reducible refine (K _).mono ?_); rintro e w' ⟨rfl, _, rfl⟩))
    go_ret
    exact ⟨rfl, _, rfl⟩
  · rw [ofv_out c] at hz
    have e0 : z = 0 := by rw [← hz]; rfl
    subst e0
    clear hz
    by_cases d : k < 0
    · clear c
      go_enter Try.func21, Try.ntmps21
      go_wp2
      go_ret
      exact ⟨rfl, 0, rfl⟩
    · have d2 : 32 < k := by omega
      clear c
      go_enter Try.func21, Try.ntmps21
      go_wp2
      go_ret
      exact ⟨rfl, 0, rfl⟩
end Go.Proofs.Yteleepblfipncaa
