/-
  The walk of PrimeTimes: it answers true.
-/
import Derived.Test.YthbhgjhddclleabIs
namespace Go.Proofs.Ythbhgjhddclleab
open Go.RowKit
set_option linter.unusedVariables false

theorem U16_wf {a : Int} (h : (Lit.int .u16 a).wf = true) : 0 ≤ a ∧ a ≤ 65535 := Go.bounds_u16 h

set_option maxHeartbeats 4000000 in
theorem times_walk (a b n : Int) (ha : U a) (hb : U b) (hn : 0 ≤ n ∧ n ≤ 65535) (w : World) :
    Calls Try.prog 3 #[.int .u64 a, .int .u64 b, .int .u16 n] w fun e w' => e = .returned (.bool true) ∧ Grown w w' := by
  obtain ⟨hn0, hn1⟩ := hn
  have nU : U n := ⟨hn0, by omega⟩
  have nU3 : U (3 * n) := ⟨by omega, by omega⟩
  obtain ⟨m, hm⟩ : ∃ s, enc (toF a * toF b) = s := ⟨_, rfl⟩
  obtain ⟨pm, hpm⟩ : ∃ s, enc (fpow (toF a * toF b) n.toNat) = s := ⟨_, rfl⟩
  obtain ⟨pa, hpa⟩ : ∃ s, enc (fpow (toF a) n.toNat) = s := ⟨_, rfl⟩
  obtain ⟨pb, hpb⟩ : ∃ s, enc (fpow (toF b) n.toNat) = s := ⟨_, rfl⟩
  obtain ⟨p3, hp3⟩ : ∃ s, enc (fpow (toF a) (3 * n).toNat) = s := ⟨_, rfl⟩
  have k1 := mul_is a b m ha hb hm
  have k2 := pow_is m n pm (hm ▸ enc_U _) nU (by rw [← hm, toF_enc, hpm])
  have k3 := pow_is a n pa ha nU hpa
  have k4 := pow_is b n pb hb nU hpb
  have k5 := mul_is pa pb pm (hpa ▸ enc_U _) (hpb ▸ enc_U _) (by rw [← hpa, ← hpb, toF_enc, toF_enc, ← mul_fpow, hpm])
  have k6 := pow_is pa 3 p3 (hpa ▸ enc_U _) (U_lit _ rfl rfl) (by rw [← hpa, toF_enc, ← fpow_mul, ← hp3]; congr 2; rw [show (3 : Int).toNat = 3 from rfl]; omega)
  have k7 := pow_is a (3 * n) p3 ha nU3 hp3
  clear hm hpm hpa hpb hp3 nU nU3 ha hb
  go_enter Try.func3, Try.ntmps3
  go_wp2_with (first
    | (go_at_call 4; ((with_reducible refine (awake_any _).mono ?_); rintro e w' ⟨rfl, o1, o2, rfl⟩))
    | (go_at_call 5; ((with_reducible first | refine (k2 _).mono ?_ | refine (k3 _).mono ?_ | refine (k4 _).mono ?_ | refine (k6 _).mono ?_ | refine (k7 _).mono ?_); rintro e w' ⟨rfl, rfl⟩))
    | (go_at_call 6; ((with_reducible first | refine (k1 _).mono ?_ | refine (k5 _).mono ?_); rintro e w' ⟨rfl, rfl⟩)))
  go_ret
  exact ⟨rfl, (Grown.refl _).alloc _ _⟩
end Go.Proofs.Ythbhgjhddclleab
