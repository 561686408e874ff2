/-
  The walks of PrimeTells and PrimePowers: they answer true.
-/
import Derived.Test.YthbhgjhddclleaaRef
namespace Go.Proofs.Ythbhgjhddclleaa
open Go.RowKit
set_option linter.unusedVariables false

theorem Grown_drewN {W w : World} (h : Grown W w) (n : Nat) : Grown W (w.drewN n) := h

set_option maxHeartbeats 4000000 in
theorem tells_walk (a b : Int) (ha : U a) (hb : U b) (w : World) :
    Calls Try.prog 3 #[.int .u64 a, .int .u64 b] w fun e w' => e = .returned (.bool true) ∧ Grown w w' := by
  have k1 := fun w => add_any a b ha hb w
  have k2 := fun w => refadd_any a b ha hb w
  have k3 := fun w => sub_any a b ha hb w
  have k4 := fun w => refsub_any a b ha hb w
  have k5 := fun w => mul_any a b ha hb w
  have k6 := fun w => refmul_any a b ha hb w
  have k7 := fun w => neg_any a ha w
  have k8 := fun w => refneg_any a ha w
  have k9 := fun w => right_any a w
  have k10 := fun w => refright_any a w
  generalize enc (toF a + toF b) = z1 at *
  generalize enc (toF a - toF b) = z2 at *
  generalize enc (toF a * toF b) = z3 at *
  generalize enc (-toF a) = z4 at *
  generalize decide (a < 18446744069414584321) = z5 at *
  clear ha hb
  go_enter Try.func3, Try.ntmps3
  go_wp2_with (first
    | (go_at_call 9; ((with_reducible refine (awake_any _).mono ?_); rintro e w' ⟨rfl, o1, o2, rfl⟩))
    | (go_at_call 10; ((with_reducible refine (k1 _).mono ?_); rintro e w' ⟨rfl, rfl⟩))
    | (go_at_call 11; ((with_reducible refine (k2 _).mono ?_); rintro e w' ⟨rfl, rfl⟩))
    | (go_at_call 12; ((with_reducible refine (k3 _).mono ?_); rintro e w' ⟨rfl, rfl⟩))
    | (go_at_call 13; ((with_reducible refine (k4 _).mono ?_); rintro e w' ⟨rfl, rfl⟩))
    | (go_at_call 14; ((with_reducible refine (k5 _).mono ?_); rintro e w' ⟨rfl, rfl⟩))
    | (go_at_call 15; ((with_reducible refine (k6 _).mono ?_); rintro e w' ⟨rfl, _, rfl⟩))
    | (go_at_call 16; ((with_reducible refine (k7 _).mono ?_); rintro e w' ⟨rfl, rfl⟩))
    | (go_at_call 17; ((with_reducible refine (k8 _).mono ?_); rintro e w' ⟨rfl, rfl⟩))
    | (go_at_call 18; ((with_reducible refine (k9 _).mono ?_); rintro e w' ⟨rfl, rfl⟩))
    | (go_at_call 19; ((with_reducible refine (k10 _).mono ?_); rintro e w' ⟨rfl, rfl⟩)))
  go_ret
  exact ⟨rfl, Grown_drewN ((Grown.refl _).alloc _ _) _⟩

set_option maxHeartbeats 4000000 in
theorem powers_walk (a n : Int) (ha : U a) (hn : U n) (w : World) :
    Calls Try.prog 4 #[.int .u64 a, .int .u64 n] w fun e w' => e = .returned (.bool true) ∧ Grown w w' := by
  have k1 := fun w => pow_any a n ha hn w
  have k2 := fun w => refpow_any a n ha hn w
  generalize enc (fpow (toF a) n.toNat) = z1 at *
  by_cases hz : toF a = 0
  · have i1 := fun w => inv_no a ha hz w
    have i2 := fun w => refinv_no a ha hz w
    clear ha hn hz
    go_enter Try.func4, Try.ntmps4
    go_wp2_with (first
      | (go_at_call 9; ((with_reducible refine (awake_any _).mono ?_); rintro e w' ⟨rfl, o1, o2, rfl⟩))
      | (go_at_call 20; ((with_reducible refine (i1 _).mono ?_); rintro e w' ⟨rfl, rfl⟩))
      | (go_at_call 21; ((with_reducible refine (i2 _).mono ?_); rintro e w' ⟨rfl, _, rfl⟩))
      | (go_at_call 22; ((with_reducible refine (k1 _).mono ?_); rintro e w' ⟨rfl, rfl⟩))
      | (go_at_call 23; ((with_reducible refine (k2 _).mono ?_); rintro e w' ⟨rfl, _, rfl⟩)))
    go_ret
    exact ⟨rfl, Grown_drewN ((Grown_drewN (Grown.refl _) _).alloc _ _) _⟩
  · have i1 := fun w => inv_yes a ha hz w
    have i2 := fun w => refinv_yes a ha hz w
    generalize enc (fpow (toF a) 18446744069414584319) = z2 at *
    clear ha hn hz
    go_enter Try.func4, Try.ntmps4
    go_wp2_with (first
      | (go_at_call 9; ((with_reducible refine (awake_any _).mono ?_); rintro e w' ⟨rfl, o1, o2, rfl⟩))
      | (go_at_call 20; ((with_reducible refine (i1 _).mono ?_); rintro e w' ⟨rfl, rfl⟩))
      | (go_at_call 21; ((with_reducible refine (i2 _).mono ?_); rintro e w' ⟨rfl, _, rfl⟩))
      | (go_at_call 22; ((with_reducible refine (k1 _).mono ?_); rintro e w' ⟨rfl, rfl⟩))
      | (go_at_call 23; ((with_reducible refine (k2 _).mono ?_); rintro e w' ⟨rfl, _, rfl⟩)))
    go_ret
    exact ⟨rfl, Grown_drewN ((Grown_drewN (Grown.refl _) _).alloc _ _) _⟩
end Go.Proofs.Ythbhgjhddclleaa
