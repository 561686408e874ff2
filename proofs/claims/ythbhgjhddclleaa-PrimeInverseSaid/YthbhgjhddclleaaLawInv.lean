/-
  The walk of PrimeInverse: it answers true.
-/
import Derived.Test.YthbhgjhddclleaaIs
import Derived.Test.YthbhgjhddclleaaFermat
namespace Go.Proofs.Ythbhgjhddclleaa
open Go.RowKit
set_option linter.unusedVariables false

theorem U32_wf {a : Int} (h : (Lit.int .u32 a).wf = true) : 0 ≤ a ∧ a ≤ 4294967295 := Go.bounds_u32 h
theorem fpow_toNat (x : F) (n m : Int) (hn : 0 ≤ n) (hm : 0 ≤ m) : fpow x n.toNat * fpow x m.toNat = fpow x (n + m).toNat := by
  rw [← fpow_add]; congr 1; omega

set_option maxHeartbeats 4000000 in
theorem inverse_walk (a n m : Int) (ha : U a) (hn : 0 ≤ n ∧ n ≤ 4294967295) (hm : 0 ≤ m ∧ m ≤ 4294967295) (w : World) :
    Calls Try.prog 7 #[.int .u64 a, .int .u32 n, .int .u32 m] w fun e w' => e = .returned (.bool true) ∧ Grown w w' := by
  obtain ⟨hn0, hn1⟩ := hn
  obtain ⟨hm0, hm1⟩ := hm
  have nU : U n := ⟨hn0, by omega⟩
  have mU : U m := ⟨hm0, by omega⟩
  have nmU : U (n + m) := ⟨by omega, by omega⟩
  obtain ⟨pn, hpn⟩ : ∃ s, enc (fpow (toF a) n.toNat) = s := ⟨_, rfl⟩
  obtain ⟨pm, hpm⟩ : ∃ s, enc (fpow (toF a) m.toNat) = s := ⟨_, rfl⟩
  obtain ⟨pnm, hpnm⟩ : ∃ s, enc (fpow (toF a) (n + m).toNat) = s := ⟨_, rfl⟩
  have k1 := pow_is a n pn ha nU hpn
  have k2 := pow_is a m pm ha mU hpm
  have k3 := pow_is a (n + m) pnm ha nmU hpnm
  have k4 := mul_is pn pm pnm (hpn ▸ enc_U _) (hpm ▸ enc_U _) (by rw [← hpn, ← hpm, toF_enc, toF_enc, fpow_toNat _ _ _ hn0 hm0, hpnm])
  have e3 := rem_toF a ha
  have e4 := mod_toF a ha
  have ha0 := ha.1
  clear hpn hpm hpnm nU mU nmU
  by_cases hz : toF a = 0
  · have i := inv_no a ha hz
    rw [hz, enc_zero] at e3 e4
    clear hz ha
    go_enter Try.func7, Try.ntmps7
    go_wp2_with (first
      | (go_at_call 9; ((with_reducible refine (awake_any _).mono ?_); rintro e w' ⟨rfl, o1, o2, rfl⟩))
      | (go_at_call 20; ((with_reducible refine (i _).mono ?_); rintro e w' ⟨rfl, rfl⟩))
      | (go_at_call 22; ((with_reducible first | refine (k1 _).mono ?_ | refine (k2 _).mono ?_ | refine (k3 _).mono ?_); rintro e w' ⟨rfl, rfl⟩))
      | (go_at_call 14; ((with_reducible refine (k4 _).mono ?_); rintro e w' ⟨rfl, rfl⟩)))
    go_ret
    exact ⟨rfl, (Grown.refl _).alloc _ _⟩
  · obtain ⟨x, hx⟩ : ∃ s, enc (finv (toF a)) = s := ⟨_, rfl⟩
    have i := inv_yes a ha hz
    rw [show fpow (toF a) 18446744069414584319 = finv (toF a) from rfl, hx] at i
    have k5 := mul_is a x 1 ha (hx ▸ enc_U _) (by rw [← hx, toF_enc, mul_finv _ hz, enc_one])
    have k6 := pow_is a 18446744069414584320 1 ha (U_lit _ rfl rfl) (by rw [show (18446744069414584320 : Int).toNat = 18446744069414584320 from rfl, fermat _ hz, enc_one])
    obtain ⟨y, hy⟩ : ∃ s, enc (toF a) = s := ⟨_, rfl⟩
    have hy0 : (y == 0) = false := by
      have : ¬ y = 0 := fun h => hz (enc_inj.mp (by rw [hy, h, enc_zero]))
      simpa using this
    have hy1 : (y != 0) = true := by simp [bne, hy0]
    rw [hy] at e3 e4
    clear hz ha hx hy
    go_enter Try.func7, Try.ntmps7
    go_wp2_with (first
      | (go_at_call 9; ((with_reducible refine (awake_any _).mono ?_); rintro e w' ⟨rfl, o1, o2, rfl⟩))
      | (go_at_call 20; ((with_reducible refine (i _).mono ?_); rintro e w' ⟨rfl, rfl⟩))
      | (go_at_call 22; ((with_reducible first | refine (k1 _).mono ?_ | refine (k2 _).mono ?_ | refine (k3 _).mono ?_ | refine (k6 _).mono ?_); rintro e w' ⟨rfl, rfl⟩))
      | (go_at_call 14; ((with_reducible first | refine (k4 _).mono ?_ | refine (k5 _).mono ?_); rintro e w' ⟨rfl, rfl⟩)))
    go_ret
    exact ⟨rfl, (Grown.refl _).alloc _ _⟩
end Go.Proofs.Ythbhgjhddclleaa
