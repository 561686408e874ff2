/-
  The walk of RootOrders: it answers true.
-/
import Derived.Test.YtbhnbpagjmeffaaDoorRAwake
namespace Go.Proofs.YtbhnbpagjmeffaaDoor
open Go.RowKit Go.Sort Go.BigFrame
set_option linter.unusedVariables false

theorem wrap_pow_u64 (k : Nat) (h : k < 64) : IntKind.u64.wrap (2 ^ k) = ((2 ^ k : Nat) : Int) := by
  have : ∀ k, k < 64 → IntKind.u64.wrap (2 ^ k) = ((2 ^ k : Nat) : Int) := by decide +kernel
  exact this k h
theorem pow_U (k : Nat) (h : k < 64) : U ((2 ^ k : Nat) : Int) := by
  have : 2 ^ k < 2 ^ 64 := Nat.pow_lt_pow_right (by decide) h
  generalize 2 ^ k = q at *
  unfold U; omega

set_option maxHeartbeats 4000000 in
theorem rorders_walk (n : Int) (hn : 0 ≤ n ∧ n ≤ 255) (w : World) (ht : Tab w) : Calls Tryd.prog 5 #[.int .u8 n] w fun e w' => e = .returned (.bool true) ∧ Below w.heap.size w w' := by
  obtain ⟨n0, n1⟩ := hn
  have hB := Below.refl w.heap.size w
  obtain ⟨k, hk⟩ : ∃ k, n % 32 = k := ⟨_, rfl⟩
  have m0 : 0 ≤ k := by omega
  have m1 : k < 32 := by omega
  obtain ⟨m, hm⟩ : ∃ m : Nat, k = m := ⟨k.toNat, by omega⟩
  have e1 := wrap_pow_u64 (1 + k).toNat (by omega)
  have e2 := wrap_pow_u64 (1 + k - 1).toNat (by omega)
  have e3 : (1 + k - 1).toNat = (1 + k).toNat - 1 := by omega
  rw [e3] at e2
  have u1 := pow_U (1 + k).toNat (by omega)
  have u2 := pow_U ((1 + k).toNat - 1) (by omega)
  have r1 : ofv (1 + k) = rootOf (m + 1) := by rw [ofv_in (by omega) (by omega)]; congr 1; omega
  have r2 : ofv (1 + k - 1) = rootOf m := by rw [ofv_in (by omega) (by omega)]; congr 1; omega
  obtain ⟨x, hx⟩ : ∃ x, enc (rootOf (m + 1)) = x := ⟨_, rfl⟩
  obtain ⟨y, hy⟩ : ∃ x, enc (rootOf m) = x := ⟨_, rfl⟩
  have xU : U x := hx ▸ enc_U _
  have o1 := of_is (1 + k) x (by rw [r1, hx])
  have o2 := of_is (1 + k - 1) y (by rw [r2, hy])
  have q1 := fun W => ref_below (refmul_any x x xU xU W)
  rw [show enc (toF x * toF x) = y by rw [← hx, toF_enc, root_sq m (by omega), hy]] at q1
  have q2 := fun W => ref_below (refpow_any x ((2 ^ (1 + k).toNat : Nat) : Int) xU u1 W)
  rw [show enc (fpow (toF x) ((2 ^ (1 + k).toNat : Nat) : Int).toNat) = 1 by rw [← hx, toF_enc, Int.toNat_natCast, show (1 + k).toNat = m + 1 by omega, root_all (m + 1) (by omega)]; rfl] at q2
  have q3 := fun W => ref_below (refpow_any x ((2 ^ ((1 + k).toNat - 1) : Nat) : Int) xU u2 W)
  rw [show enc (fpow (toF x) ((2 ^ ((1 + k).toNat - 1) : Nat) : Int).toNat) = 18446744069414584320 by rw [← hx, toF_enc, Int.toNat_natCast, show (1 + k).toNat - 1 = m by omega, root_half m (by omega)]; decide +kernel] at q3
  generalize ((2 ^ (1 + k).toNat : Nat) : Int) = A at *
  generalize ((2 ^ ((1 + k).toNat - 1) : Nat) : Int) = B at *
  clear e3 r1 r2 hx hy xU u1 u2 hm
  go_enter Tryd.func5, Tryd.ntmps5
  go_wp2_with (first
    | (go_at_call 10; ((with_reducible first | refine (o1 _).mono ?_ | refine (o2 _).mono ?_); rintro e w' ⟨rfl, rfl⟩))
    | ((first
        | (go_at_call 9; (with_reducible refine (rawake_any _ ht).mono ?_))
        | (go_at_call 22; (with_reducible refine (q1 _).mono ?_))
        | (go_at_call 23; (with_reducible first | refine (q2 _).mono ?_ | refine (q3 _).mono ?_)))
       rintro e w1 ⟨rfl, hb⟩; replace hB := bthen hB hb; clear hb))
  go_ret
  exact ⟨rfl, hB⟩
end Go.Proofs.YtbhnbpagjmeffaaDoor
