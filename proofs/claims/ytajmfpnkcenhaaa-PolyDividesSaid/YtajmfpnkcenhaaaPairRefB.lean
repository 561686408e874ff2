/-
  What the calls of the document's answer for layer 2 come to, the rest: contracts for the walk.
-/
import Derived.Test.YtajmfpnkcenhaaaPairRef
namespace Go.Proofs.Ytajmfpnkcenhaaa
open Go.RowKit Go.Sort Go.BigFrame
set_option linter.unusedVariables false

@[go_sem] theorem field_a (x y : Value) (w : World) : (Instr.field 25 (.agg #[x, y]) 0).run Try.prog w = .ok x w := by kernel_rfl
@[go_sem] theorem field_b (x y : Value) (w : World) : (Instr.field 25 (.agg #[x, y]) 1).run Try.prog w = .ok y w := by kernel_rfl

theorem rnorm_q (a b : Int) (x : F2) (z : F) (hx : Rep a b x) (hz : norm x = z) (w : World) : Calls Try.prog 58 #[.agg #[.int .u64 a, .int .u64 b]] w fun e w' => e = .returned (.int .u64 (enc z)) ∧ Below w.heap.size w w' := by
  obtain ⟨t, ht⟩ : ∃ t, turn x = t := ⟨_, rfl⟩
  have k1 := rturn_q a b x t hx ht
  have k2 := rmul_q a b (enc t.a) (enc t.b) x t (lift z) hx (rep_enc t) (by rw [← ht, ← hz, mul_turn])
  rw [show enc (lift z).a = enc z from rfl] at k2
  generalize enc z = s at *
  generalize enc (lift z).b = u at *
  clear hx hz ht
  go_enter Try.func58, Try.ntmps58
  go_upto_region 1 with fail
  refine wp_gen (fun W => Below w.heap.size w W ∧ Var W w.heap.size a b) ⟨(Below.refl _ _).alloc (Nat.le_refl _) _, by simp [Var, go_sem]⟩ ?_
  rintro W ⟨hB, ⟨c0, c1, f0, f1⟩⟩
  clear f0 f1
  replace c0 := fun q : Regrown => cell_regrown c0 q.d q.os
  replace c1 := fun q : Regrown => cell_regrown c1 q.d q.os
  refine wp_region_quiet_below (by kernel_rfl) (by kernel_rfl) ?_
  repeat (first | go_big_quiet_step (first
    | (go_at_call 60; (with_reducible exact Calls.regrown_of (k1 _)))
    | (go_at_call 30; (with_reducible exact Calls.regrown_of (k2 _)))) | quiet_step (fail))
  refine wpQuiet_nil ?_
  rintro _ ⟨pq, rfl⟩
  go_wp2
  go_ret
  exact ⟨rfl, bthen hB (below_regrown _ _ _)⟩

theorem rinv_no (a b : Int) (x : F2) (hx : Rep a b x) (h : x = 0) (w : World) : Calls Try.prog 40 #[.agg #[.int .u64 a, .int .u64 b]] w fun e w' => e = .returned (.tuple #[.agg #[.int .u64 0, .int .u64 0], .bool false]) ∧ Below w.heap.size w w' := by
  have k1 := rnorm_q a b x 0 hx (by rw [h]; exact norm_zero)
  have k2 := fun W => ref_below (refinv_no (enc 0) (enc_U _) (toF_enc 0) W)
  clear hx h
  go_enter Try.func40, Try.ntmps40
  go_upto_region 1 with fail
  refine wp_gen (fun W => Below w.heap.size w W ∧ Var W w.heap.size a b ∧ Var W (w.heap.size + 1) 0 0) ⟨((Below.refl _ _).alloc (Nat.le_refl _) _).alloc (by simp) _, by simp [Var, go_sem], by simp [Var, go_sem]⟩ ?_
  rintro W ⟨hB, hV, hR⟩
  obtain ⟨c0, c1, f0, f1⟩ := hV
  obtain ⟨d0, d1, e0, e1⟩ := hR
  go_wp2_with (first | (go_at_call 58; ((with_reducible refine (k1 _).mono ?_); rintro e w1 ⟨rfl, hb⟩; replace e0 := bfree hb d0 e0; replace e1 := bfree hb d1 e1; replace d0 := bkeep hb d0; replace d1 := bkeep hb d1; replace hB := bthen hB hb; clear hb c0 c1 f0 f1)) | (go_at_call 57; ((with_reducible refine (k2 _).mono ?_); rintro e w1 ⟨rfl, hb⟩; replace e0 := bfree hb d0 e0; replace e1 := bfree hb d1 e1; replace d0 := bkeep hb d0; replace d1 := bkeep hb d1; replace hB := bthen hB hb; clear hb)))
  exact bodyPost_ret (v := .tuple #[.agg #[.int .u64 0, .int .u64 0], .bool false]) (by simp [results, Try.results40, go_sem, d0, d1]) rfl ⟨rfl, (hB.setCell (by simp) _).setCell (by simp) _⟩

theorem rinv_yes (a b : Int) (x z : F2) (hx : Rep a b x) (h : x ≠ 0) (hz : qinv x = z) (w : World) : Calls Try.prog 40 #[.agg #[.int .u64 a, .int .u64 b]] w fun e w' => e = .returned (.tuple #[.agg #[.int .u64 (enc z.a), .int .u64 (enc z.b)], .bool true]) ∧ Below w.heap.size w w' := by
  obtain ⟨n, hn⟩ : ∃ n, norm x = n := ⟨_, rfl⟩
  have hn0 : n ≠ 0 := fun h0 => h (norm_eq_zero (hn.trans h0))
  obtain ⟨i, hi⟩ : ∃ i, finv n = i := ⟨_, rfl⟩
  obtain ⟨t, ht⟩ : ∃ t, turn x = t := ⟨_, rfl⟩
  have k1 := rnorm_q a b x n hx hn
  have k2 := fun W => ref_below (refinv_yes (enc n) (enc_U _) (by rw [toF_enc]; exact hn0) W)
  rw [toF_enc, show fpow n 18446744069414584319 = i from hi] at k2
  have k3 := rturn_q a b x t hx ht
  have k4 := rscale_q (enc t.a) (enc t.b) (enc i) t z (rep_enc t) (enc_U _) (by rw [toF_enc, ← hz, ← ht, ← hi, ← hn]; rfl)
  clear hx h hz hn hn0 hi ht
  go_enter Try.func40, Try.ntmps40
  go_upto_region 1 with fail
  refine wp_gen (fun W => Below w.heap.size w W ∧ Var W w.heap.size a b ∧ Var W (w.heap.size + 1) 0 0) ⟨((Below.refl _ _).alloc (Nat.le_refl _) _).alloc (by simp) _, by simp [Var, go_sem], by simp [Var, go_sem]⟩ ?_
  rintro W ⟨hB, hV, hR⟩
  obtain ⟨c0, c1, f0, f1⟩ := hV
  obtain ⟨d0, d1, e0, e1⟩ := hR
  go_wp2_with (first
    | ((first
        | (go_at_call 58; (with_reducible refine (k1 _).mono ?_))
        | (go_at_call 57; (with_reducible refine (k2 _).mono ?_))
        | (go_at_call 60; (with_reducible refine (k3 _).mono ?_))
        | (go_at_call 59; (with_reducible refine (k4 _).mono ?_)))
       rintro e w1 ⟨rfl, hb⟩; replace e0 := bfree hb d0 e0; replace e1 := bfree hb d1 e1; replace d0 := bkeep hb d0; replace d1 := bkeep hb d1; replace c0 := bkeep hb c0; replace c1 := bkeep hb c1; replace hB := bthen hB hb; clear hb))
  exact bodyPost_ret (v := .tuple #[.agg #[.int .u64 (enc z.a), .int .u64 (enc z.b)], .bool true]) (by simp [results, Try.results40, go_sem, d0, d1]) rfl ⟨rfl, (hB.setCell (by simp) _).setCell (by simp) _⟩


end Go.Proofs.Ytajmfpnkcenhaaa
