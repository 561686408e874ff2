/-
  What the document's Gap, Out come to: contracts for the walk. (Written by gen_zpt.py.)
-/
import Derived.Test.YteleepblfipncaaZOut
import Derived.Lib.QuietBelow
import Derived.BigQuiet
import Derived.Test.YteleepblfipncaaLoose
namespace Go.Proofs.Yteleepblfipncaa
open Go.RowKit Go.Sort Go.BigFrame
set_option linter.unusedVariables false


theorem wrapi_pow {k : Nat} (hk : k ≤ 32) : wrap64 (2 ^ k) = ((2 ^ k : Nat) : Int) := by
  have : ∀ k, k ≤ 32 → wrap64 (2 ^ k) = ((2 ^ k : Nat) : Int) := by decide +kernel
  exact this k hk

set_option maxHeartbeats 1000000 in
theorem rzgap_no (k : Nat) (a b : Int) (x : F2) (hk : k ≤ 32) (hx : Rep a b x) (h : x - lift (last k) = 0) (w : World) : Calls Try.prog 11 #[.agg #[.int .u64 a, .int .u64 b], .int .i64 k] w fun e w' => e = .returned (.tuple #[.agg #[.int .u64 0, .int .u64 0], .bool false]) ∧ Below w.heap.size w w' := by
  obtain ⟨M, hM⟩ : ∃ M, ((2 ^ k : Nat) : Int) = M := ⟨_, rfl⟩
  have m0 := pow2_lt hk
  rw [hM] at m0
  obtain ⟨m0, m1⟩ := m0
  have e1 := wrapu_pow hk
  have e2 := wrapi_pow hk
  rw [hM] at e1 e2
  obtain ⟨d, hd⟩ : ∃ d, x - lift (last k) = d := ⟨_, rfl⟩
  obtain ⟨y, hy⟩ : ∃ y, qpow x (2 ^ k) = y := ⟨_, rfl⟩
  obtain ⟨n, hn⟩ : ∃ n, y - 1 = n := ⟨_, rfl⟩
  obtain ⟨l, hl⟩ : ∃ l, lift (last k) = l := ⟨_, rfl⟩
  have k1 := rpow_q a b M x hx (by rw [← hM]; exact pow2_U hk)
  rw [show M.toNat = 2 ^ k by rw [← hM, Int.toNat_natCast], hy] at k1
  have k2 := rsub_q (enc y.a) (enc y.b) 1 0 y 1 n (rep_enc y) rep_one hn
  have k3 := fun W => ref_below (rzrow_is k (M - 1) (enc (last k)) ⟨by omega, by omega⟩ (by rw [rowv_last k M hk hM]) W)
  have k4 := rlift_q (enc (last k)) l (enc_U _) (by rw [toF_enc]; exact hl)
  have k5 := rsub_q a b (enc l.a) (enc l.b) x l d hx (rep_enc l) (by rw [← hl]; exact hd)
  have k6 := rinv_no (enc d.a) (enc d.b) d (rep_enc d) (by rw [← hd]; exact h)
  generalize enc y.a = ya at *
  generalize enc y.b = yb at *
  generalize enc n.a = na at *
  generalize enc n.b = nb at *
  generalize enc l.a = la at *
  generalize enc l.b = lb at *
  generalize enc (last k) = r at *
  generalize enc d.a = da at *
  generalize enc d.b = db at *
  clear hx h hd hy hn hl hM
  go_enter Try.func11, Try.ntmps11
  go_upto_region 1 with fail
  refine wp_gen (fun W => Below w.heap.size w W ∧ Var W w.heap.size a b ∧ Var W (w.heap.size + 1) 0 0) ⟨((Below.refl _ _).alloc (Nat.le_refl _) _).alloc (by simp) _, by simp [Var, go_sem], by simp [Var, go_sem]⟩ ?_
  rintro W ⟨hB, hX, hR⟩
  have HX := Lib.hid hX; have HR := Lib.hid hR; have HB := Lib.hid hB
  obtain ⟨c0, c1, _, _⟩ := hX
  clear hB hR
  go_upto_region 2 with ((first
    | (go_at_call 26; (with_reducible refine (k1 _).mono ?_))
    | (go_at_call 25; (with_reducible refine (k2 _).mono ?_))); rintro e w1 ⟨rfl, hb⟩; replace HX := Lib.hid (HX.out.keep hb); replace HR := Lib.hid (HR.out.keep hb); replace HB := Lib.hid (bthen HB.out hb); clear hb)
  refine wp_gen (fun W => Below w.heap.size w W ∧ Var W w.heap.size a b ∧ Var W (w.heap.size + 1) 0 0 ∧ Var W w1.heap.size na nb) ⟨HB.out.alloc HB.out.size _, HX.out.alloc _, HR.out.alloc _, Var.new _ _ _ _⟩ ?_
  generalize w1.heap.size = g6 at *
  clear HX HR HB k1 k2
  rintro W2 ⟨hB, hX, hR, hN⟩
  go_upto_region 3 with ((first
    | (go_at_call 13; (with_reducible refine (k3 _).mono ?_))
    | (go_at_call 20; (with_reducible refine (k4 _).mono ?_))); rintro e w2 ⟨rfl, hb⟩; replace hX := hX.keep hb; replace hR := hR.keep hb; replace hB := bthen hB hb; replace hN := hN.keep hb; clear hb)
  refine wp_gen (fun W => Below w.heap.size w W ∧ Var W w.heap.size a b ∧ Var W (w.heap.size + 1) 0 0 ∧ Var W g6 na nb ∧ Var W w2.heap.size la lb) ⟨hB.alloc hB.size _, hX.alloc _, hR.alloc _, hN.alloc _, Var.new _ _ _ _⟩ ?_
  generalize w2.heap.size = g7 at *
  clear hX hR hB hN k3 k4
  rintro W3 ⟨hB, ⟨c0, c1, _, _⟩, hR, hN, ⟨l0, l1, _, _⟩⟩

  go_upto_region 4 with ((first
    | (go_at_call 25; (with_reducible refine (k5 _).mono ?_))
    | (go_at_call 33; (with_reducible refine (k6 _).mono ?_))); rintro e w3 ⟨rfl, hb⟩; replace hR := hR.keep hb; replace hB := bthen hB hb; clear hb)
  refine wp_gen (fun W => Below w.heap.size w W ∧ Var W (w.heap.size + 1) 0 0) ⟨hB.alloc hB.size _, hR.alloc _⟩ ?_
  clear hR hB hN k5 k6
  rintro W4 ⟨hB, d0, d1, q0, q1⟩
  go_wp2
  exact bodyPost_ret (v := .tuple #[.agg #[.int .u64 0, .int .u64 0], .bool false]) (by simp [results, Try.results11, go_sem, d0, d1]) rfl ⟨rfl, (hB.setCell (by simp) _).setCell (by simp) _⟩

set_option maxHeartbeats 1000000 in
theorem rzgap_yes (k : Nat) (a b : Int) (x z : F2) (hk : k ≤ 32) (hx : Rep a b x) (h : x - lift (last k) ≠ 0) (hz : gapv x k = z) (w : World) : Calls Try.prog 11 #[.agg #[.int .u64 a, .int .u64 b], .int .i64 k] w fun e w' => e = .returned (.tuple #[.agg #[.int .u64 (enc z.a), .int .u64 (enc z.b)], .bool true]) ∧ Below w.heap.size w w' := by
  obtain ⟨M, hM⟩ : ∃ M, ((2 ^ k : Nat) : Int) = M := ⟨_, rfl⟩
  have m0 := pow2_lt hk
  rw [hM] at m0
  obtain ⟨m0, m1⟩ := m0
  have e1 := wrapu_pow hk
  have e2 := wrapi_pow hk
  rw [hM] at e1 e2
  obtain ⟨d, hd⟩ : ∃ d, x - lift (last k) = d := ⟨_, rfl⟩
  obtain ⟨y, hy⟩ : ∃ y, qpow x (2 ^ k) = y := ⟨_, rfl⟩
  obtain ⟨n, hn⟩ : ∃ n, y - 1 = n := ⟨_, rfl⟩
  obtain ⟨l, hl⟩ : ∃ l, lift (last k) = l := ⟨_, rfl⟩
  have k1 := rpow_q a b M x hx (by rw [← hM]; exact pow2_U hk)
  rw [show M.toNat = 2 ^ k by rw [← hM, Int.toNat_natCast], hy] at k1
  have k2 := rsub_q (enc y.a) (enc y.b) 1 0 y 1 n (rep_enc y) rep_one hn
  have k3 := fun W => ref_below (rzrow_is k (M - 1) (enc (last k)) ⟨by omega, by omega⟩ (by rw [rowv_last k M hk hM]) W)
  have k4 := rlift_q (enc (last k)) l (enc_U _) (by rw [toF_enc]; exact hl)
  have k5 := rsub_q a b (enc l.a) (enc l.b) x l d hx (rep_enc l) (by rw [← hl]; exact hd)
  obtain ⟨i, hi⟩ : ∃ i, qinv d = i := ⟨_, rfl⟩
  have k6 := rinv_yes (enc d.a) (enc d.b) d i (rep_enc d) (by rw [← hd]; exact h) hi
  have k7 := rmul_q (enc n.a) (enc n.b) (enc i.a) (enc i.b) n i z (rep_enc n) (rep_enc i) (by rw [← hz]; unfold gapv; rw [hy, hn, hd, hi])
  generalize enc y.a = ya at *
  generalize enc y.b = yb at *
  generalize enc n.a = na at *
  generalize enc n.b = nb at *
  generalize enc l.a = la at *
  generalize enc l.b = lb at *
  generalize enc (last k) = r at *
  generalize enc d.a = da at *
  generalize enc d.b = db at *
  generalize enc z.a = za at *
  generalize enc z.b = zb at *
  generalize enc i.a = ia at *
  generalize enc i.b = ib at *
  clear hx h hz hd hi hy hn hl hM
  go_enter Try.func11, Try.ntmps11
  go_upto_region 1 with fail
  refine wp_gen (fun W => Below w.heap.size w W ∧ Var W w.heap.size a b ∧ Var W (w.heap.size + 1) 0 0) ⟨((Below.refl _ _).alloc (Nat.le_refl _) _).alloc (by simp) _, by simp [Var, go_sem], by simp [Var, go_sem]⟩ ?_
  rintro W ⟨hB, hX, hR⟩
  have HX := Lib.hid hX; have HR := Lib.hid hR; have HB := Lib.hid hB
  obtain ⟨c0, c1, _, _⟩ := hX
  clear hB hR
  go_upto_region 2 with ((first
    | (go_at_call 26; (with_reducible refine (k1 _).mono ?_))
    | (go_at_call 25; (with_reducible refine (k2 _).mono ?_))); rintro e w1 ⟨rfl, hb⟩; replace HX := Lib.hid (HX.out.keep hb); replace HR := Lib.hid (HR.out.keep hb); replace HB := Lib.hid (bthen HB.out hb); clear hb)
  refine wp_gen (fun W => Below w.heap.size w W ∧ Var W w.heap.size a b ∧ Var W (w.heap.size + 1) 0 0 ∧ Var W w1.heap.size na nb) ⟨HB.out.alloc HB.out.size _, HX.out.alloc _, HR.out.alloc _, Var.new _ _ _ _⟩ ?_
  generalize w1.heap.size = g6 at *
  clear HX HR HB k1 k2
  rintro W2 ⟨hB, hX, hR, hN⟩
  go_upto_region 3 with ((first
    | (go_at_call 13; (with_reducible refine (k3 _).mono ?_))
    | (go_at_call 20; (with_reducible refine (k4 _).mono ?_))); rintro e w2 ⟨rfl, hb⟩; replace hX := hX.keep hb; replace hR := hR.keep hb; replace hB := bthen hB hb; replace hN := hN.keep hb; clear hb)
  refine wp_gen (fun W => Below w.heap.size w W ∧ Var W w.heap.size a b ∧ Var W (w.heap.size + 1) 0 0 ∧ Var W g6 na nb ∧ Var W w2.heap.size la lb) ⟨hB.alloc hB.size _, hX.alloc _, hR.alloc _, hN.alloc _, Var.new _ _ _ _⟩ ?_
  generalize w2.heap.size = g7 at *
  clear hX hR hB hN k3 k4
  rintro W3 ⟨hB, ⟨c0, c1, _, _⟩, hR, hN, ⟨l0, l1, _, _⟩⟩

  go_upto_region 4 with ((first
    | (go_at_call 25; (with_reducible refine (k5 _).mono ?_))
    | (go_at_call 33; (with_reducible refine (k6 _).mono ?_))); rintro e w3 ⟨rfl, hb⟩; replace hR := hR.keep hb; replace hN := hN.keep hb; replace hB := bthen hB hb; clear hb)
  refine wp_gen (fun W => Below w.heap.size w W ∧ Var W (w.heap.size + 1) 0 0 ∧ Var W g6 na nb ∧ Var W w3.heap.size ia ib) ⟨hB.alloc hB.size _, hR.alloc _, hN.alloc _, Var.new _ _ _ _⟩ ?_
  generalize w3.heap.size = g8 at *
  clear hR hB hN k5 k6
  rintro W4 ⟨hB, ⟨d0, d1, q0, q1⟩, ⟨n0, n1, _, _⟩, ⟨i0, i1, _, _⟩⟩
  go_wp2_with (go_at_call 24; ((with_reducible refine (k7 _).mono ?_); rintro e w4 ⟨rfl, hb⟩; replace q0 := bfree hb d0 q0; replace q1 := bfree hb d1 q1; replace d0 := bkeep hb d0; replace d1 := bkeep hb d1; replace hB := bthen hB hb; clear hb n0 n1 i0 i1))
  exact bodyPost_ret (v := .tuple #[.agg #[.int .u64 za, .int .u64 zb], .bool true]) (by simp [results, Try.results11, go_sem, d0, d1]) rfl ⟨rfl, (hB.setCell (by simp) _).setCell (by simp) _⟩

/-- Seven times less. -/
def sev : F := finv 7
theorem sev_mul : 7 * sev = 1 := mul_finv 7 seven_ne0
theorem outv_ref (x : F2) (k m : Nat) : outv x k m = (!decide (x = 0) && (!decide (qpow x (2 ^ k) = 1) && !decide (qpow (scale x sev) (2 ^ m) = 1))) := by
  have e : qpow (scale x sev) (2 ^ m) = 1 ↔ qpow x (2 ^ m) = lift (fpow 7 (2 ^ m)) := by
    have h : lift (fpow 7 (2 ^ m)) * lift (fpow sev (2 ^ m)) = 1 := by rw [← lift_mul, ← mul_fpow, sev_mul, one_fpow]; rfl
    rw [scale_lift, mul_qpow, lift_qpow]
    generalize qpow x (2 ^ m) = y
    generalize lift (fpow 7 (2 ^ m)) = u at *
    generalize lift (fpow sev (2 ^ m)) = v at *
    constructor
    · intro h1
      calc y = y * (u * v) := by rw [h, F2.mul_one]
        _ = (y * v) * u := by rw [F2.mul_comm u v, F2.mul_assoc]
        _ = u := by rw [h1, F2.one_mul]
    · rintro rfl; exact h
  unfold outv
  rw [show decide (qpow x (2 ^ m) = lift (fpow 7 (2 ^ m))) = decide (qpow (scale x sev) (2 ^ m) = 1) from decide_eq_decide.mpr e.symm]
theorem eqB_one (x : F2) (r : Bool) (h : decide (x = 1) = r) : EqB (enc x.a) (enc x.b) 1 0 r := eqB_enc x 1 r h

set_option maxHeartbeats 2000000 in
theorem rzout_is (k m : Nat) (a b : Int) (x : F2) (r : Bool) (hk : k ≤ 32) (hm : m ≤ 32) (hx : Rep a b x) (hr : outv x k m = r) (w : World) : Calls Try.prog 19 #[.agg #[.int .u64 a, .int .u64 b], .int .i64 k, .int .i64 m] w fun e w' => e = .returned (.bool r) ∧ Below w.heap.size w w' := by
  rw [outv_ref] at hr
  obtain ⟨M, hM⟩ : ∃ M, ((2 ^ k : Nat) : Int) = M := ⟨_, rfl⟩
  obtain ⟨L, hL⟩ : ∃ L, ((2 ^ m : Nat) : Int) = L := ⟨_, rfl⟩
  have e1 := wrapu_pow hk
  have e2 := wrapu_pow hm
  rw [hM] at e1; rw [hL] at e2
  obtain ⟨y, hy⟩ : ∃ y, qpow x (2 ^ k) = y := ⟨_, rfl⟩
  obtain ⟨u, hu⟩ : ∃ u, scale x sev = u := ⟨_, rfl⟩
  obtain ⟨v, hv⟩ : ∃ v, qpow u (2 ^ m) = v := ⟨_, rfl⟩
  have k0 := fun W => ref_below (refinv_yes 7 (U_lit _ rfl rfl) (by decide +kernel) W)
  rw [show enc (fpow (toF 7) 18446744069414584319) = enc sev by rw [show toF 7 = 7 by decide +kernel]; rfl] at k0
  have k1 := rpow_q a b M x hx (by rw [← hM]; exact pow2_U hk)
  rw [show M.toNat = 2 ^ k by rw [← hM, Int.toNat_natCast], hy] at k1
  have k2 := rscale_q a b (enc sev) x u hx (enc_U _) (by rw [toF_enc]; exact hu)
  have k3 := rpow_q (enc u.a) (enc u.b) L u (rep_enc u) (by rw [← hL]; exact pow2_U hm)
  rw [show L.toNat = 2 ^ m by rw [← hL, Int.toNat_natCast], hv] at k3
  rw [hy, hu, hv] at hr
  obtain ⟨r1, hr1⟩ : ∃ r1, decide (y = 1) = r1 := ⟨_, rfl⟩
  obtain ⟨r2, hr2⟩ : ∃ r2, decide (v = 1) = r2 := ⟨_, rfl⟩
  have E1 := eqB_one y r1 hr1
  have E2 := eqB_one v r2 hr2
  rw [hr1, hr2] at hr
  have z := zero_cases x
  have q1 := rem_toF a hx.1; have q2 := mod_toF a hx.1
  have q3 := rem_toF b hx.2.1; have q4 := mod_toF b hx.2.1
  have a0 := hx.1.1; have b0 := hx.2.1.1
  rw [hx.2.2.1] at q1 q2
  rw [hx.2.2.2] at q3 q4
  generalize enc sev = sv at *
  generalize enc y.a = ya at *
  generalize enc y.b = yb at *
  generalize enc u.a = ua at *
  generalize enc u.b = ub at *
  generalize enc v.a = va at *
  generalize enc v.b = vb at *
  generalize enc x.a = xa at *
  generalize enc x.b = xb at *
  clear hx hy hu hv hr1 hr2 hM hL
  rcases z with ⟨h0, rfl, rfl⟩ | ⟨h0, hz⟩ | ⟨h0, rfl, hz⟩
  · have hr' : r = false := by rw [← hr, h0]; rfl
    subst hr'
    clear hr h0 k1 k2 k0 k3 E1 E2
    go_enter Try.func19, Try.ntmps19
    go_upto_region 1 with fail
    refine wp_gen (fun W => Below w.heap.size w W ∧ Var W w.heap.size a b) ⟨(Below.refl _ _).alloc (Nat.le_refl _) _, by simp [Var, go_sem]⟩ ?_
    rintro W ⟨hB, hX⟩
    go_upto_region 2 with fail
    refine wp_gen (fun W => Below w.heap.size w W ∧ Var W w.heap.size a b) ⟨hB.alloc hB.size _, hX.alloc _⟩ ?_
    clear hB hX
    rintro W2 ⟨hB, ⟨c0, c1, f0, f1⟩⟩
    go_wp2
    go_ret
    exact ⟨rfl, hB⟩
  all_goals
    have hr' : r = (!r1 && !r2) := by rw [← hr, show decide (x = 0) = false by simpa using h0]; rfl
    subst hr'
    clear hr h0
    go_enter Try.func19, Try.ntmps19
    go_upto_region 1 with fail
    refine wp_gen (fun W => Below w.heap.size w W ∧ Var W w.heap.size a b) ⟨(Below.refl _ _).alloc (Nat.le_refl _) _, by simp [Var, go_sem]⟩ ?_
    rintro W ⟨hB, hX⟩
    go_upto_region 2 with fail
    refine wp_gen (fun W' => Below w.heap.size w W' ∧ Var W' w.heap.size a b ∧ Var W' W.heap.size 1 0) ⟨hB.alloc hB.size _, hX.alloc _, Var.new _ _ _ _⟩ ?_
    generalize W.heap.size = g7 at *
    clear hB hX
    rintro W2 ⟨hB, ⟨c0, c1, f0, f1⟩, ⟨o0, o1, _, _⟩⟩
    go_upto_region 5 with (go_at_call 40; ((with_reducible refine (k0 _).mono ?_); rintro e w1 ⟨rfl, hb⟩; replace c0 := bkeep hb c0; replace c1 := bkeep hb c1; replace o0 := bkeep hb o0; replace o1 := bkeep hb o1; replace hB := bthen hB hb; clear hb))
    clear q1 q2 q3 q4 a0 b0 hz k0 f0 f1
    rcases E1 with ⟨rfl, rfl, rfl⟩ | ⟨rfl, h⟩ | ⟨rfl, rfl, h⟩
    · clear E2
      replace c0 := fun q : Regrown => cell_regrown c0 q.d q.os
      replace c1 := fun q : Regrown => cell_regrown c1 q.d q.os
      replace o0 := fun q : Regrown => cell_regrown o0 q.d q.os
      replace o1 := fun q : Regrown => cell_regrown o1 q.d q.os
      refine wp_region_quiet_below (by kernel_rfl) (by kernel_rfl) ?_
      repeat (first | go_big_quiet_step (first
        | (go_at_call 26; (first | with_reducible exact Calls.regrown_of (k1 _) | with_reducible exact Calls.regrown_of (k3 _)))
        | (go_at_call 41; (with_reducible exact Calls.regrown_of (k2 _)))) | quiet_step (fail))
      refine wpQuiet_nil ?_
      rintro _ ⟨pq, rfl⟩
      go_wp2
      go_ret
      exact ⟨by simp, bthen hB (below_regrown _ _ _)⟩
    all_goals
      rcases E2 with ⟨rfl, rfl, rfl⟩ | ⟨rfl, h'⟩ | ⟨rfl, rfl, h'⟩
      all_goals
        replace c0 := fun q : Regrown => cell_regrown c0 q.d q.os
        replace c1 := fun q : Regrown => cell_regrown c1 q.d q.os
        replace o0 := fun q : Regrown => cell_regrown o0 q.d q.os
        replace o1 := fun q : Regrown => cell_regrown o1 q.d q.os
        refine wp_region_quiet_below (by kernel_rfl) (by kernel_rfl) ?_
        repeat (first | go_big_quiet_step (first
          | (go_at_call 26; (first | with_reducible exact Calls.regrown_of (k1 _) | with_reducible exact Calls.regrown_of (k3 _)))
          | (go_at_call 41; (with_reducible exact Calls.regrown_of (k2 _)))) | quiet_step (fail))
        refine wpQuiet_nil ?_
        rintro _ ⟨pq, rfl⟩
        go_wp2
        go_ret
        exact ⟨by simp, bthen hB (below_regrown _ _ _)⟩
end Go.Proofs.Yteleepblfipncaa
