/-
  What the document's Gap, Out come to: contracts for the walk. (Written by gen_zpt.py.)
-/
import Derived.Test.YtgnnliablgbgkaaDoorZOut
import Derived.Lib.QuietBelow
import Derived.BigQuiet
import Derived.Test.YtgnnliablgbgkaaDoorGNum
namespace Go.Proofs.YtgnnliablgbgkaaDoor
open Go.RowKit Go.Sort Go.BigFrame
set_option linter.unusedVariables false


theorem wrapi_pow {k : Nat} (hk : k ≤ 32) : wrap64 (2 ^ k) = ((2 ^ k : Nat) : Int) := by
  have : ∀ k, k ≤ 32 → wrap64 (2 ^ k) = ((2 ^ k : Nat) : Int) := by decide +kernel
  exact this k hk

/-- Seven times less. -/
def sev : F := finv 7
theorem sev_mul : 7 * sev = 1 := mul_finv 7 seven_ne0
theorem outv_ref (x : F2) (k m : Nat) : outv x k m = (!decide (x = 0) && (!decide (qpow x (2 ^ k) = 1) && !decide (qpow (scale x sev) (2 ^ m) = 1))) := by
  have e : qpow (scale x sev) (2 ^ m) = 1 ↔ qpow x (2 ^ m) = lift (fpow 7 (2 ^ m)) := by
    have h : lift (fpow 7 (2 ^ m)) * lift (fpow sev (2 ^ m)) = 1 := by rw [← lift_mul, ← mul_fpow, sev_mul, one_fpow]; rfl
    rw [scale_lift, mul_qpow, lift_qpow]
    generalize qpow x (2 ^ m) = y
    generalize lift (fpow 7 (2 ^ m)) = u at *
    generalize lift (fpow sev (2 ^ m)) = v at *
    constructor
    · intro h1
      calc y = y * (u * v) := by rw [h, F2.mul_one]
        _ = (y * v) * u := by rw [F2.mul_comm u v, F2.mul_assoc]
        _ = u := by rw [h1, F2.one_mul]
    · rintro rfl; exact h
  unfold outv
  rw [show decide (qpow x (2 ^ m) = lift (fpow 7 (2 ^ m))) = decide (qpow (scale x sev) (2 ^ m) = 1) from decide_eq_decide.mpr e.symm]
theorem eqB_one (x : F2) (r : Bool) (h : decide (x = 1) = r) : EqB (enc x.a) (enc x.b) 1 0 r := eqB_enc x 1 r h

set_option maxHeartbeats 2000000 in
theorem rzout_is (k m : Nat) (a b : Int) (x : F2) (r : Bool) (hk : k ≤ 32) (hm : m ≤ 32) (hx : Rep a b x) (hr : outv x k m = r) (w : World) : Calls Tryd.prog 17 #[.agg #[.int .u64 a, .int .u64 b], .int .i64 k, .int .i64 m] w fun e w' => e = .returned (.bool r) ∧ Below w.heap.size w w' := by
  rw [outv_ref] at hr
  obtain ⟨M, hM⟩ : ∃ M, ((2 ^ k : Nat) : Int) = M := ⟨_, rfl⟩
  obtain ⟨L, hL⟩ : ∃ L, ((2 ^ m : Nat) : Int) = L := ⟨_, rfl⟩
  have e1 := wrapu_pow hk
  have e2 := wrapu_pow hm
  rw [hM] at e1; rw [hL] at e2
  obtain ⟨y, hy⟩ : ∃ y, qpow x (2 ^ k) = y := ⟨_, rfl⟩
  obtain ⟨u, hu⟩ : ∃ u, scale x sev = u := ⟨_, rfl⟩
  obtain ⟨v, hv⟩ : ∃ v, qpow u (2 ^ m) = v := ⟨_, rfl⟩
  have k0 := fun W => ref_below (refinv_yes 7 (U_lit _ rfl rfl) (by decide +kernel) W)
  rw [show enc (fpow (toF 7) 18446744069414584319) = enc sev by rw [show toF 7 = 7 by decide +kernel]; rfl] at k0
  have k1 := rpow_q a b M x hx (by rw [← hM]; exact pow2_U hk)
  rw [show M.toNat = 2 ^ k by rw [← hM, Int.toNat_natCast], hy] at k1
  have k2 := rscale_q a b (enc sev) x u hx (enc_U _) (by rw [toF_enc]; exact hu)
  have k3 := rpow_q (enc u.a) (enc u.b) L u (rep_enc u) (by rw [← hL]; exact pow2_U hm)
  rw [show L.toNat = 2 ^ m by rw [← hL, Int.toNat_natCast], hv] at k3
  rw [hy, hu, hv] at hr
  obtain ⟨r1, hr1⟩ : ∃ r1, decide (y = 1) = r1 := ⟨_, rfl⟩
  obtain ⟨r2, hr2⟩ : ∃ r2, decide (v = 1) = r2 := ⟨_, rfl⟩
  have E1 := eqB_one y r1 hr1
  have E2 := eqB_one v r2 hr2
  rw [hr1, hr2] at hr
  have z := zero_cases x
  have q1 := rem_toF a hx.1; have q2 := mod_toF a hx.1
  have q3 := rem_toF b hx.2.1; have q4 := mod_toF b hx.2.1
  have a0 := hx.1.1; have b0 := hx.2.1.1
  rw [hx.2.2.1] at q1 q2
  rw [hx.2.2.2] at q3 q4
  generalize enc sev = sv at *
  generalize enc y.a = ya at *
  generalize enc y.b = yb at *
  generalize enc u.a = ua at *
  generalize enc u.b = ub at *
  generalize enc v.a = va at *
  generalize enc v.b = vb at *
  generalize enc x.a = xa at *
  generalize enc x.b = xb at *
  clear hx hy hu hv hr1 hr2 hM hL
  rcases z with ⟨h0, rfl, rfl⟩ | ⟨h0, hz⟩ | ⟨h0, rfl, hz⟩
  · have hr' : r = false := by rw [← hr, h0]; rfl
    subst hr'
    clear hr h0 k1 k2 k0 k3 E1 E2
    go_enter Tryd.func17, Tryd.ntmps17
    go_upto_region 1 with fail
    refine wp_gen (fun W => Below w.heap.size w W ∧ Var W w.heap.size a b) ⟨(Below.refl _ _).alloc (Nat.le_refl _) _, by simp [Var, go_sem]⟩ ?_
    rintro W ⟨hB, hX⟩
    go_upto_region 2 with fail
    refine wp_gen (fun W => Below w.heap.size w W ∧ Var W w.heap.size a b) ⟨hB.alloc hB.size _, hX.alloc _⟩ ?_
    clear hB hX
    rintro W2 ⟨hB, ⟨c0, c1, f0, f1⟩⟩
    go_wp2
    go_ret
    exact ⟨rfl, hB⟩
  all_goals
    have hr' : r = (!r1 && !r2) := by rw [← hr, show decide (x = 0) = false by simpa using h0]; rfl
    subst hr'
    clear hr h0
    go_enter Tryd.func17, Tryd.ntmps17
    go_upto_region 1 with fail
    refine wp_gen (fun W => Below w.heap.size w W ∧ Var W w.heap.size a b) ⟨(Below.refl _ _).alloc (Nat.le_refl _) _, by simp [Var, go_sem]⟩ ?_
    rintro W ⟨hB, hX⟩
    go_upto_region 2 with fail
    refine wp_gen (fun W' => Below w.heap.size w W' ∧ Var W' w.heap.size a b ∧ Var W' W.heap.size 1 0) ⟨hB.alloc hB.size _, hX.alloc _, Var.new _ _ _ _⟩ ?_
    generalize W.heap.size = g7 at *
    clear hB hX
    rintro W2 ⟨hB, ⟨c0, c1, f0, f1⟩, ⟨o0, o1, _, _⟩⟩
    go_upto_region 5 with (go_at_call 27; ((with_reducible refine (k0 _).mono ?_); rintro e w1 ⟨rfl, hb⟩; replace c0 := bkeep hb c0; replace c1 := bkeep hb c1; replace o0 := bkeep hb o0; replace o1 := bkeep hb o1; replace hB := bthen hB hb; clear hb))
    clear q1 q2 q3 q4 a0 b0 hz k0 f0 f1
    rcases E1 with ⟨rfl, rfl, rfl⟩ | ⟨rfl, h⟩ | ⟨rfl, rfl, h⟩
    · clear E2
      replace c0 := fun q : Regrown => cell_regrown c0 q.d q.os
      replace c1 := fun q : Regrown => cell_regrown c1 q.d q.os
      replace o0 := fun q : Regrown => cell_regrown o0 q.d q.os
      replace o1 := fun q : Regrown => cell_regrown o1 q.d q.os
      refine wp_region_quiet_below (by kernel_rfl) (by kernel_rfl) ?_
      repeat (first | go_big_quiet_step (first
        | (go_at_call 28; (first | with_reducible exact Calls.regrown_of (k1 _) | with_reducible exact Calls.regrown_of (k3 _)))
        | (go_at_call 29; (with_reducible exact Calls.regrown_of (k2 _)))) | quiet_step (fail))
      refine wpQuiet_nil ?_
      rintro _ ⟨pq, rfl⟩
      go_wp2
      go_ret
      exact ⟨by simp, bthen hB (below_regrown _ _ _)⟩
    all_goals
      rcases E2 with ⟨rfl, rfl, rfl⟩ | ⟨rfl, h'⟩ | ⟨rfl, rfl, h'⟩
      all_goals
        replace c0 := fun q : Regrown => cell_regrown c0 q.d q.os
        replace c1 := fun q : Regrown => cell_regrown c1 q.d q.os
        replace o0 := fun q : Regrown => cell_regrown o0 q.d q.os
        replace o1 := fun q : Regrown => cell_regrown o1 q.d q.os
        refine wp_region_quiet_below (by kernel_rfl) (by kernel_rfl) ?_
        repeat (first | go_big_quiet_step (first
          | (go_at_call 28; (first | with_reducible exact Calls.regrown_of (k1 _) | with_reducible exact Calls.regrown_of (k3 _)))
          | (go_at_call 29; (with_reducible exact Calls.regrown_of (k2 _)))) | quiet_step (fail))
        refine wpQuiet_nil ?_
        rintro _ ⟨pq, rfl⟩
        go_wp2
        go_ret
        exact ⟨by simp, bthen hB (below_regrown _ _ _)⟩
end Go.Proofs.YtgnnliablgbgkaaDoor
