/-
  The walk of ZeroSteps: it answers true. (Written by gen_zlaws.py.)
-/
import Derived.Test.YteleepblfipncaaZAwake
import Derived.Test.YteleepblfipncaaZRef
import Derived.Test.YteleepblfipncaaZLaw
namespace Go.Proofs.Yteleepblfipncaa
open Go.RowKit Go.Sort Go.BigFrame
set_option linter.unusedVariables false

set_option maxHeartbeats 2000000 in
theorem zsteps_walk (k i : Int) (hk : 0 ≤ k ∧ k ≤ 255) (hi : 0 ≤ i ∧ i ≤ 65535) (w : World) : Calls Try.prog 6 #[.int .u8 k, .int .u16 i] w fun e w' => e = .returned (.bool true) ∧ Below w.heap.size w w' := by
  obtain ⟨n, hn, hlt⟩ := mod_nat k 12 hk.1 (by decide)
  have hq : Int.tmod k 12 = (n : Int) := by rw [Int.tmod_eq_emod_of_nonneg hk.1]; exact hn
  obtain ⟨I, rfl⟩ : ∃ I : Nat, i = (I : Int) := ⟨i.toNat, by omega⟩
  obtain ⟨hi0, hi1⟩ := hi
  have hn32 : n ≤ 32 := by omega
  obtain ⟨M, hM⟩ : ∃ M, ((2 ^ n : Nat) : Int) = M := ⟨_, rfl⟩
  have hp := Nat.pow_le_pow_right (n := 2) (by decide) (by omega : n ≤ 11)
  have hp0 := Nat.two_pow_pos n
  have m0 : 1 ≤ M := by omega
  have m1 : M ≤ 2048 := by omega
  have e2 := wrapi_pow' hn32
  rw [hM] at e2
  obtain ⟨r, hr⟩ : ∃ r, rw' n I = r := ⟨_, rfl⟩
  obtain ⟨g, hg⟩ : ∃ g, rootOf n = g := ⟨_, rfl⟩
  have c1 := fun W => ref_below (refof_is n (enc g) (by rw [ofv_in (by omega) (by omega), Int.toNat_natCast, hg]) W)
  have c2 := fun W => is_below (zrow_is n (I + 1) (enc (g * r)) ⟨by omega, by omega⟩ (by rw [show (I : Int) + 1 = ((I + 1 : Nat) : Int) by omega, rowv_nat n (I + 1) hn32, rw_succ, hg, hr]) W)
  have c3 := fun W => is_below (zrow_is n I (enc r) ⟨by omega, by omega⟩ (by rw [rowv_nat n I hn32, hr]) W)
  have c4 := fun W => ref_below (refmul_is (enc g) (enc r) (enc (g * r)) (enc_U _) (enc_U _) (by rw [toF_enc, toF_enc]) W)
  have c5 := fun W => is_below (zplace_is n (I + 1) (enc (g * (7 * r))) ⟨by omega, by omega⟩ (by rw [show (I : Int) + 1 = ((I + 1 : Nat) : Int) by omega, rowv_nat n (I + 1) hn32, rw_succ, hg, hr]; congr 1; grind) W)
  have c6 := fun W => is_below (zplace_is n I (enc (7 * r)) ⟨by omega, by omega⟩ (by rw [rowv_nat n I hn32, hr]) W)
  have c7 := fun W => ref_below (refmul_is (enc g) (enc (7 * r)) (enc (g * (7 * r))) (enc_U _) (enc_U _) (by rw [toF_enc, toF_enc]) W)
  have c8 := fun W => is_below (zrow_is n (I + M) (enc r) ⟨by omega, by omega⟩ (by rw [← hM, show (I : Int) + ((2 ^ n : Nat) : Int) = ((I + 2 ^ n : Nat) : Int) by omega, rowv_nat n _ hn32, rw_round n I hn32, hr]) W)
  generalize enc (g * (7 * r)) = v1 at *
  generalize enc (g * r) = v2 at *
  generalize enc (7 * r) = v3 at *
  generalize enc r = v4 at *
  generalize enc g = v5 at *
  clear hp hp0 hr hg hM hn hn32 hk
  generalize (I : Int) = i at *
  have hB := Below.refl w.heap.size w
  go_enter Try.func6, Try.ntmps6
  go_wp2_with ((first
    | (go_at_call 9; (with_reducible refine (zawake_any _).mono ?_))
    | (go_at_call 21; (with_reducible refine (c1 _).mono ?_))
    | (go_at_call 12; (first | with_reducible refine (c2 _).mono ?_ | with_reducible refine (c3 _).mono ?_ | with_reducible refine (c8 _).mono ?_))
    | (go_at_call 14; (first | with_reducible refine (c5 _).mono ?_ | with_reducible refine (c6 _).mono ?_))
    | (go_at_call 22; (first | with_reducible refine (c4 _).mono ?_ | with_reducible refine (c7 _).mono ?_))); rintro e w1 ⟨rfl, hb⟩; replace hB := bthen hB hb; clear hb)
  go_ret
  exact ⟨rfl, hB⟩
end Go.Proofs.Yteleepblfipncaa
