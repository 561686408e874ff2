/-
  The walk of PrimeNegs: it answers true.
-/
import Derived.Test.YthbhgjhddclleaaIs
namespace Go.Proofs.Ythbhgjhddclleaa
open Go.RowKit
set_option linter.unusedVariables false

set_option maxHeartbeats 4000000 in
theorem negs_walk (a b : Int) (ha : U a) (hb : U b) (w : World) :
    Calls Try.prog 8 #[.int .u64 a, .int .u64 b] w fun e w' => e = .returned (.bool true) ∧ Grown w w' := by
  obtain ⟨n, hn⟩ : ∃ s, enc (-toF a) = s := ⟨_, rfl⟩
  obtain ⟨x, hx⟩ : ∃ s, enc (toF a) = s := ⟨_, rfl⟩
  obtain ⟨d, hd⟩ : ∃ s, enc (toF a - toF b) = s := ⟨_, rfl⟩
  obtain ⟨nd, hnd⟩ : ∃ s, enc (toF b - toF a) = s := ⟨_, rfl⟩
  obtain ⟨nm, hnm⟩ : ∃ s, enc (-toF a * toF b) = s := ⟨_, rfl⟩
  obtain ⟨m, hm⟩ : ∃ s, enc (toF a * toF b) = s := ⟨_, rfl⟩
  obtain ⟨nb, hnb⟩ : ∃ s, enc (-toF b) = s := ⟨_, rfl⟩
  have k1 := neg_is a n ha hn
  have k2 := neg_is n x (hn ▸ enc_U _) (by rw [← hn, toF_enc, ← hx]; congr 1; grind)
  have k3 := sub_is a b d ha hb hd
  have k4 := neg_is d nd (hd ▸ enc_U _) (by rw [← hd, toF_enc, ← hnd]; congr 1; grind)
  have k5 := sub_is b a nd hb ha hnd
  have k6 := mul_is n b nm (hn ▸ enc_U _) hb (by rw [← hn, toF_enc, hnm])
  have k7 := mul_is a b m ha hb hm
  have k8 := neg_is m nm (hm ▸ enc_U _) (by rw [← hm, toF_enc, ← hnm]; congr 1; grind)
  have k9 := neg_is b nb hb hnb
  have k10 := add_is a nb d ha (hnb ▸ enc_U _) (by rw [← hnb, toF_enc, ← hd]; congr 1; grind)
  have e3 := rem_toF a ha
  have e4 := mod_toF a ha
  rw [hx] at e3 e4
  clear hn hx hd hnd hnm hm hnb hb
  have ha0 := ha.1
  go_enter Try.func8, Try.ntmps8
  go_wp2_with (first
    | (go_at_call 9; ((with_reducible refine (awake_any _).mono ?_); rintro e w' ⟨rfl, o1, o2, rfl⟩))
    | (go_at_call 16; ((with_reducible first | refine (k1 _).mono ?_ | refine (k2 _).mono ?_ | refine (k4 _).mono ?_ | refine (k8 _).mono ?_ | refine (k9 _).mono ?_); rintro e w' ⟨rfl, rfl⟩))
    | (go_at_call 12; ((with_reducible first | refine (k3 _).mono ?_ | refine (k5 _).mono ?_); rintro e w' ⟨rfl, rfl⟩))
    | (go_at_call 14; ((with_reducible first | refine (k6 _).mono ?_ | refine (k7 _).mono ?_); rintro e w' ⟨rfl, rfl⟩))
    | (go_at_call 10; ((with_reducible refine (k10 _).mono ?_); rintro e w' ⟨rfl, rfl⟩)))
  go_ret
  exact ⟨rfl, (Grown.refl _).alloc _ _⟩
end Go.Proofs.Ythbhgjhddclleaa
