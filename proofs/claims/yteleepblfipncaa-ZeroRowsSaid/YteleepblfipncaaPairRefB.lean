/-
  What the calls of the document's answer for layer 2 come to, the rest: contracts for the walk.
-/
import Derived.Test.YteleepblfipncaaPairRef
namespace Go.Proofs.Yteleepblfipncaa
open Go.RowKit Go.Sort Go.BigFrame
set_option linter.unusedVariables false

@[go_sem] theorem field_a (x y : Value) (w : World) : (Instr.field 24 (.agg #[x, y]) 0).run Try.prog w = .ok x w := by kernel_rfl
@[go_sem] theorem field_b (x y : Value) (w : World) : (Instr.field 24 (.agg #[x, y]) 1).run Try.prog w = .ok y w := by kernel_rfl

theorem rnorm_q (a b : Int) (x : F2) (z : F) (hx : Rep a b x) (hz : norm x = z) (w : World) : Calls Try.prog 55 #[.agg #[.int .u64 a, .int .u64 b]] w fun e w' => e = .returned (.int .u64 (enc z)) ∧ Below w.heap.size w w' := by
  obtain ⟨t, ht⟩ : ∃ t, turn x = t := ⟨_, rfl⟩
  have k1 := rturn_q a b x t hx ht
  have k2 := rmul_q a b (enc t.a) (enc t.b) x t (lift z) hx (rep_enc t) (by rw [← ht, ← hz, mul_turn])
  rw [show enc (lift z).a = enc z from rfl] at k2
  generalize enc z = s at *
  generalize enc (lift z).b = u at *
  clear hx hz ht
  go_enter Try.func55, Try.ntmps55
  go_upto_region 1 with fail
  refine wp_gen (fun W => Below w.heap.size w W ∧ Var W w.heap.size a b) ⟨(Below.refl _ _).alloc (Nat.le_refl _) _, by simp [Var, go_sem]⟩ ?_
  rintro W ⟨hB, ⟨c0, c1, f0, f1⟩⟩
  clear f0 f1
  replace c0 := fun q : Regrown => cell_regrown c0 q.d q.os
  replace c1 := fun q : Regrown => cell_regrown c1 q.d q.os
  refine wp_region_quiet_below (by kernel_rfl) (by kernel_rfl) ?_
  repeat (first | go_big_quiet_step (first
    | (go_at_call 56; (with_reducible exact Calls.regrown_of (k1 _)))
    | (go_at_call 24; (with_reducible exact Calls.regrown_of (k2 _)))) | quiet_step (fail))
  refine wpQuiet_nil ?_
  rintro _ ⟨pq, rfl⟩
  go_wp2
  go_ret
  exact ⟨rfl, bthen hB (below_regrown _ _ _)⟩

theorem rinv_no (a b : Int) (x : F2) (hx : Rep a b x) (h : x = 0) (w : World) : Calls Try.prog 33 #[.agg #[.int .u64 a, .int .u64 b]] w fun e w' => e = .returned (.tuple #[.agg #[.int .u64 0, .int .u64 0], .bool false]) ∧ Below w.heap.size w w' := by
  have k1 := rnorm_q a b x 0 hx (by rw [h]; exact norm_zero)
  have k2 := fun W => ref_below (refinv_no (enc 0) (enc_U _) (toF_enc 0) W)
  clear hx h
  go_enter Try.func33, Try.ntmps33
  go_upto_region 1 with fail
  refine wp_gen (fun W => Below w.heap.size w W ∧ Var W w.heap.size a b ∧ Var W (w.heap.size + 1) 0 0) ⟨((Below.refl _ _).alloc (Nat.le_refl _) _).alloc (by simp) _, by simp [Var, go_sem], by simp [Var, go_sem]⟩ ?_
  rintro W ⟨hB, hV, hR⟩
  obtain ⟨c0, c1, f0, f1⟩ := hV
  obtain ⟨d0, d1, e0, e1⟩ := hR
  go_wp2_with (first | (go_at_call 55; ((with_reducible refine (k1 _).mono ?_); rintro e w1 ⟨rfl, hb⟩; replace e0 := bfree hb d0 e0; replace e1 := bfree hb d1 e1; replace d0 := bkeep hb d0; replace d1 := bkeep hb d1; replace hB := bthen hB hb; clear hb c0 c1 f0 f1)) | (go_at_call 40; ((with_reducible refine (k2 _).mono ?_); rintro e w1 ⟨rfl, hb⟩; replace e0 := bfree hb d0 e0; replace e1 := bfree hb d1 e1; replace d0 := bkeep hb d0; replace d1 := bkeep hb d1; replace hB := bthen hB hb; clear hb)))
  exact bodyPost_ret (v := .tuple #[.agg #[.int .u64 0, .int .u64 0], .bool false]) (by simp [results, Try.results33, go_sem, d0, d1]) rfl ⟨rfl, (hB.setCell (by simp) _).setCell (by simp) _⟩

theorem rinv_yes (a b : Int) (x z : F2) (hx : Rep a b x) (h : x ≠ 0) (hz : qinv x = z) (w : World) : Calls Try.prog 33 #[.agg #[.int .u64 a, .int .u64 b]] w fun e w' => e = .returned (.tuple #[.agg #[.int .u64 (enc z.a), .int .u64 (enc z.b)], .bool true]) ∧ Below w.heap.size w w' := by
  obtain ⟨n, hn⟩ : ∃ n, norm x = n := ⟨_, rfl⟩
  have hn0 : n ≠ 0 := fun h0 => h (norm_eq_zero (hn.trans h0))
  obtain ⟨i, hi⟩ : ∃ i, finv n = i := ⟨_, rfl⟩
  obtain ⟨t, ht⟩ : ∃ t, turn x = t := ⟨_, rfl⟩
  have k1 := rnorm_q a b x n hx hn
  have k2 := fun W => ref_below (refinv_yes (enc n) (enc_U _) (by rw [toF_enc]; exact hn0) W)
  rw [toF_enc, show fpow n 18446744069414584319 = i from hi] at k2
  have k3 := rturn_q a b x t hx ht
  have k4 := rscale_q (enc t.a) (enc t.b) (enc i) t z (rep_enc t) (enc_U _) (by rw [toF_enc, ← hz, ← ht, ← hi, ← hn]; rfl)
  clear hx h hz hn hn0 hi ht
  go_enter Try.func33, Try.ntmps33
  go_upto_region 1 with fail
  refine wp_gen (fun W => Below w.heap.size w W ∧ Var W w.heap.size a b ∧ Var W (w.heap.size + 1) 0 0) ⟨((Below.refl _ _).alloc (Nat.le_refl _) _).alloc (by simp) _, by simp [Var, go_sem], by simp [Var, go_sem]⟩ ?_
  rintro W ⟨hB, hV, hR⟩
  obtain ⟨c0, c1, f0, f1⟩ := hV
  obtain ⟨d0, d1, e0, e1⟩ := hR
  go_wp2_with (first
    | ((first
        | (go_at_call 55; (with_reducible refine (k1 _).mono ?_))
        | (go_at_call 40; (with_reducible refine (k2 _).mono ?_))
        | (go_at_call 56; (with_reducible refine (k3 _).mono ?_))
        | (go_at_call 41; (with_reducible refine (k4 _).mono ?_)))
       rintro e w1 ⟨rfl, hb⟩; replace e0 := bfree hb d0 e0; replace e1 := bfree hb d1 e1; replace d0 := bkeep hb d0; replace d1 := bkeep hb d1; replace c0 := bkeep hb c0; replace c1 := bkeep hb c1; replace hB := bthen hB hb; clear hb))
  exact bodyPost_ret (v := .tuple #[.agg #[.int .u64 (enc z.a), .int .u64 (enc z.b)], .bool true]) (by simp [results, Try.results33, go_sem, d0, d1]) rfl ⟨rfl, (hB.setCell (by simp) _).setCell (by simp) _⟩


set_option maxHeartbeats 1000000 in
theorem rpow_q (a b n : Int) (x : F2) (hx : Rep a b x) (hn : U n) (w : World) : Calls Try.prog 26 #[.agg #[.int .u64 a, .int .u64 b], .int .u64 n] w fun e w' => e = .returned (.agg #[.int .u64 (enc (qpow x n.toNat).a), .int .u64 (enc (qpow x n.toNat).b)]) ∧ Below w.heap.size w w' := by
  have hs := qpowInv_start x n
  have k1 := radd_q a b 0 0 x 0 x hx rep_zero (F2.add_zero x)
  go_enter Try.func26, Try.ntmps26
  go_upto_region 1 with fail
  refine wp_gen (fun W => Below w.heap.size w W ∧ Var W w.heap.size a b ∧ Var W (w.heap.size + 1) 0 0) ⟨((Below.refl _ _).alloc (Nat.le_refl _) _).alloc (by simp) _, by simp [Var, go_sem], by simp [Var, go_sem]⟩ ?_
  rintro W ⟨hB, hV, hR⟩
  go_upto_region 2 with fail
  refine wp_gen (fun W' => Below w.heap.size w W' ∧ Var W' w.heap.size a b ∧ Var W' (w.heap.size + 1) 0 0 ∧ Var W' W.heap.size (enc (1 : F2).a) (enc (1 : F2).b)) ⟨hB.alloc hB.size _, hV.alloc _, hR.alloc _, Var.new _ _ _ _⟩ ?_
  have lt5 := hB.size
  have l4 := hR.lt
  generalize W.heap.size = g5 at *
  clear hB hV hR
  rintro W ⟨hB, ⟨c0, c1, f0, f1⟩, hR, hO⟩
  go_upto_region 3 with ((go_at_call 23; ((with_reducible refine (k1 _).mono ?_); rintro e w1 ⟨rfl, hb⟩; replace hR := hR.keep hb; replace hO := hO.keep hb; replace hB := bthen hB hb; clear hb c0 c1 f0 f1)))
  have hlt := hO.lt
  go_loopw [1, 6] (PowHead w x n (w.heap.size + 1) g5) (fun i _ _ => (intOf i).toNat)
  case atStart => exact ⟨n, w1.heap.size, _, _, 1, x, hn, hs, rep_enc x, rfl, rfl, hB.alloc hB.size _, hR.alloc _, hO.alloc _, Var.new _ _ _ _, by omega, by omega, hB.size⟩
  case round =>
    clear hB hR hO hs hx hn k1
    obtain ⟨k, g6, ba, bb, o, q, hk, hp, hq, rfl, rfl, hB, h4, h5, h6, n4, n5, n0⟩ := hrel
    have m1 := rmul_q (enc o.a) (enc o.b) ba bb o q _ (rep_enc o) hq rfl
    have m2 := rmul_q ba bb ba bb q q _ hq hq rfl
    have hk0 := hk.1
    have hq1 : IntKind.u64.wrap (k.tdiv 2) = k / 2 := by rw [IntKind.wrap_u64, Int.tdiv_eq_ediv_of_nonneg hk0]; unfold U at hk; omega
    have hb1 : k.tmod 2 = k % 2 := Int.tmod_eq_emod_of_nonneg hk0
    have l5 := h5.lt
    have l6 := h6.lt
    by_cases h0 : 0 < k
    · have hk2 : U (k / 2) := by unfold U at *; omega
      by_cases h1 : k % 2 = 1
      · have HP := Lib.hid (qpowInv_odd h0 h1 hp)
        rw [h1] at hb1
        clear hp
        obtain ⟨c0, c1, f0, f1⟩ := h5
        obtain ⟨d0, d1, e0, e1⟩ := h6
        go_upto_region 7 with ((go_at_call 24; ((with_reducible refine (m1 _).mono ?_); rintro e w1 ⟨rfl, hb⟩; replace f0 := bfree hb c0 f0; replace f1 := bfree hb c1 f1; replace c0 := bkeep hb c0; replace c1 := bkeep hb c1; replace e0 := bfree hb d0 e0; replace e1 := bfree hb d1 e1; replace d0 := bkeep hb d0; replace d1 := bkeep hb d1; replace h4 := h4.keep hb; replace hB := bthen hB hb; clear hb)))
        refine wp_gen (fun W => Below w.heap.size w W ∧ Var W (w.heap.size + 1) 0 0 ∧ Var W g5 (enc (o * q).a) (enc (o * q).b) ∧ Var W g6 ba bb) ⟨(hB.setCell (by simp; omega) _).setCell (by simp; omega) _, (h4.far (by omega) _ _).far (by omega) _ _, Var.set ⟨c0, c1, f0, f1⟩ _ _, (Var.far ⟨d0, d1, e0, e1⟩ (by omega) _ _).far (by omega) _ _⟩ ?_
        clear hB h4 c0 c1 f0 f1 d0 d1 e0 e1
        rintro W2 ⟨hB, h4, h5, ⟨d0, d1, e0, e1⟩⟩
        go_upto_region 8 with ((go_at_call 24; ((with_reducible refine (m2 _).mono ?_); rintro e w1 ⟨rfl, hb⟩; replace e0 := bfree hb d0 e0; replace e1 := bfree hb d1 e1; replace d0 := bkeep hb d0; replace d1 := bkeep hb d1; replace h4 := h4.keep hb; replace h5 := h5.keep hb; replace hB := bthen hB hb; clear hb)))
        refine wp_gen (fun W => Below w.heap.size w W ∧ Var W (w.heap.size + 1) 0 0 ∧ Var W g5 (enc (o * q).a) (enc (o * q).b) ∧ Var W g6 (enc (q * q).a) (enc (q * q).b)) ⟨(hB.setCell (by simp; omega) _).setCell (by simp; omega) _, (h4.far (by omega) _ _).far (by omega) _ _, (h5.far (by omega) _ _).far (by omega) _ _, Var.set ⟨d0, d1, e0, e1⟩ _ _⟩ ?_
        clear hB h4 h5 d0 d1 e0 e1
        rintro W3 ⟨hB, h4, h5, ⟨d0, d1, e0, e1⟩⟩
        go_wp2
        go_roundw
        case rel => exact ⟨k / 2, W3.heap.size, _, _, o * q, q * q, hk2, HP.out, rep_enc _, rfl, rfl, hB.alloc hB.size _, h4.alloc _, h5.alloc _, Var.new _ _ _ _, by have := h4.lt; omega, by have := h5.lt; omega, hB.size⟩
        case measure => simp [intOf]; omega
      · have HP := Lib.hid (qpowInv_even h0 h1 hp)
        have hb2 : k % 2 = 0 := by omega
        have hb3 : k.tmod 2 = 0 := by omega
        clear h1 hp hb1
        obtain ⟨d0, d1, e0, e1⟩ := h6
        go_upto_region 8 with ((go_at_call 24; ((with_reducible refine (m2 _).mono ?_); rintro e w1 ⟨rfl, hb⟩; replace e0 := bfree hb d0 e0; replace e1 := bfree hb d1 e1; replace d0 := bkeep hb d0; replace d1 := bkeep hb d1; replace h4 := h4.keep hb; replace h5 := h5.keep hb; replace hB := bthen hB hb; clear hb)))
        refine wp_gen (fun W => Below w.heap.size w W ∧ Var W (w.heap.size + 1) 0 0 ∧ Var W g5 (enc o.a) (enc o.b) ∧ Var W g6 (enc (q * q).a) (enc (q * q).b)) ⟨(hB.setCell (by simp; omega) _).setCell (by simp; omega) _, (h4.far (by omega) _ _).far (by omega) _ _, (h5.far (by omega) _ _).far (by omega) _ _, Var.set ⟨d0, d1, e0, e1⟩ _ _⟩ ?_
        clear hB h4 h5 d0 d1 e0 e1
        rintro W3 ⟨hB, h4, h5, ⟨d0, d1, e0, e1⟩⟩
        go_wp2
        go_roundw
        case rel => exact ⟨k / 2, W3.heap.size, _, _, o, q * q, hk2, HP.out, rep_enc _, rfl, rfl, hB.alloc hB.size _, h4.alloc _, h5.alloc _, Var.new _ _ _ _, by have := h4.lt; omega, by have := h5.lt; omega, hB.size⟩
        case measure => simp [intOf]; omega
    · obtain rfl : k = 0 := by omega
      have HP := Lib.hid (qpowInv_end hp)
      clear hp hb1 hq1
      obtain ⟨c0, c1, f0, f1⟩ := h5
      obtain ⟨d0, d1, e0, e1⟩ := h4
      go_wp2
      refine bodyPost_ret (v := .agg #[.int .u64 (enc o.a), .int .u64 (enc o.b)]) (by simp [results, Try.results26, go_sem, d0, d1]) rfl ⟨by rw [← HP.out], (hB.setCell (by simp) _).setCell (by simp) _⟩
end Go.Proofs.Yteleepblfipncaa
