/-
  The walk of PrimeField: it answers true.
-/
import Derived.Test.YthbhgjhddclleaaIs
namespace Go.Proofs.Ythbhgjhddclleaa
open Go.RowKit
set_option linter.unusedVariables false

set_option maxHeartbeats 4000000 in
theorem field_walk (a b c : Int) (ha : U a) (hb : U b) (hc : U c) (w : World) :
    Calls Try.prog 6 #[.int .u64 a, .int .u64 b, .int .u64 c] w fun e w' => e = .returned (.bool true) ∧ Grown w w' := by
  obtain ⟨s, hs⟩ : ∃ s, enc (toF a + toF b) = s := ⟨_, rfl⟩
  obtain ⟨m, hm⟩ : ∃ m, enc (toF a * toF b) = m := ⟨_, rfl⟩
  obtain ⟨s3, hs3⟩ : ∃ s, enc (toF a + toF b + toF c) = s := ⟨_, rfl⟩
  obtain ⟨m3, hm3⟩ : ∃ s, enc (toF a * toF b * toF c) = s := ⟨_, rfl⟩
  obtain ⟨bc, hbc⟩ : ∃ s, enc (toF b + toF c) = s := ⟨_, rfl⟩
  obtain ⟨bmc, hbmc⟩ : ∃ s, enc (toF b * toF c) = s := ⟨_, rfl⟩
  obtain ⟨cs, hcs⟩ : ∃ s, enc (toF c * (toF a + toF b)) = s := ⟨_, rfl⟩
  obtain ⟨ca, hca⟩ : ∃ s, enc (toF c * toF a) = s := ⟨_, rfl⟩
  obtain ⟨cb, hcb⟩ : ∃ s, enc (toF c * toF b) = s := ⟨_, rfl⟩
  obtain ⟨na, hna⟩ : ∃ s, enc (-toF a) = s := ⟨_, rfl⟩
  obtain ⟨x, hx⟩ : ∃ s, enc (toF a) = s := ⟨_, rfl⟩
  have k1 := add_is a b s ha hb hs
  have k2 := mul_is a b m ha hb hm
  have k3 := add_is b a s hb ha (by rw [← hs]; congr 1; grind)
  have k4 := mul_is b a m hb ha (by rw [← hm]; congr 1; grind)
  have k5 := add_is s c s3 (hs ▸ enc_U _) hc (by rw [← hs, toF_enc, hs3])
  have k6 := add_is b c bc hb hc hbc
  have k7 := add_is a bc s3 ha (hbc ▸ enc_U _) (by rw [← hbc, toF_enc, ← hs3]; congr 1; grind)
  have k8 := mul_is m c m3 (hm ▸ enc_U _) hc (by rw [← hm, toF_enc, hm3])
  have k9 := mul_is b c bmc hb hc hbmc
  have k10 := mul_is a bmc m3 ha (hbmc ▸ enc_U _) (by rw [← hbmc, toF_enc, ← hm3]; congr 1; grind)
  have k11 := mul_is c s cs hc (hs ▸ enc_U _) (by rw [← hs, toF_enc, hcs])
  have k12 := mul_is c a ca hc ha hca
  have k13 := mul_is c b cb hc hb hcb
  have k14 := add_is ca cb cs (hca ▸ enc_U _) (hcb ▸ enc_U _) (by rw [← hca, ← hcb, toF_enc, toF_enc, ← hcs]; congr 1; grind)
  have k15 := sub_is s b x (hs ▸ enc_U _) hb (by rw [← hs, toF_enc, ← hx]; congr 1; grind)
  have k16 := neg_is a na ha hna
  have k17 := add_is a na 0 ha (hna ▸ enc_U _) (by rw [← hna, toF_enc, ← enc_zero]; congr 1; grind)
  have e1 : s < 18446744069414584321 := hs ▸ enc_lt _
  have e2 : m < 18446744069414584321 := hm ▸ enc_lt _
  have e3 := rem_toF a ha
  have e4 := mod_toF a ha
  rw [hx] at e3 e4
  clear hs hm hs3 hm3 hbc hbmc hcs hca hcb hna hx hb hc
  have ha0 := ha.1
  go_enter Try.func6, Try.ntmps6
  go_wp2_with (first
    | (go_at_call 9; ((with_reducible refine (awake_any _).mono ?_); rintro e w' ⟨rfl, o1, o2, rfl⟩))
    | (go_at_call 10; ((with_reducible first | refine (k1 _).mono ?_ | refine (k3 _).mono ?_ | refine (k5 _).mono ?_ | refine (k6 _).mono ?_ | refine (k7 _).mono ?_ | refine (k14 _).mono ?_ | refine (k17 _).mono ?_); rintro e w' ⟨rfl, rfl⟩))
    | (go_at_call 14; ((with_reducible first | refine (k2 _).mono ?_ | refine (k4 _).mono ?_ | refine (k8 _).mono ?_ | refine (k9 _).mono ?_ | refine (k10 _).mono ?_ | refine (k11 _).mono ?_ | refine (k12 _).mono ?_ | refine (k13 _).mono ?_); rintro e w' ⟨rfl, rfl⟩))
    | (go_at_call 12; ((with_reducible refine (k15 _).mono ?_); rintro e w' ⟨rfl, rfl⟩))
    | (go_at_call 16; ((with_reducible refine (k16 _).mono ?_); rintro e w' ⟨rfl, rfl⟩)))
  go_ret
  exact ⟨rfl, (Grown.refl _).alloc _ _⟩
end Go.Proofs.Ythbhgjhddclleaa
