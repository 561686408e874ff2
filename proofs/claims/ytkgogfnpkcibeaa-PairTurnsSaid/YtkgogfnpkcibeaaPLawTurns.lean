/-
  The walk of PairTurns: it answers true.
-/
import Derived.Test.YtkgogfnpkcibeaaPAwake
import Derived.Test.YtkgogfnpkcibeaaLoose
import Derived.Lib.QuietBelow
import Derived.BigQuiet
namespace Go.Proofs.Ytkgogfnpkcibeaa
open Go.RowKit Go.Sort Go.BigFrame
set_option linter.unusedVariables false

set_option maxRecDepth 100000 in
set_option maxHeartbeats 4000000 in
theorem pturns_walk (a b c d : Int) (ha : U a) (hb : U b) (hc : U c) (hd : U d) (w : World) :
    Calls Try.prog 6 #[.agg #[.int .u64 a, .int .u64 b], .agg #[.int .u64 c, .int .u64 d]] w fun e w' => e = .returned (.bool true) ∧ Below w.heap.size w w' := by
  have rx := rep_raw ha hb
  have ry := rep_raw hc hd
  obtain ⟨x, hx⟩ : ∃ x : F2, ⟨toF a, toF b⟩ = x := ⟨_, rfl⟩
  obtain ⟨y, hy⟩ : ∃ x : F2, ⟨toF c, toF d⟩ = x := ⟨_, rfl⟩
  rw [hx] at rx; rw [hy] at ry
  obtain ⟨t, h1⟩ : ∃ v, turn x = v := ⟨_, rfl⟩
  obtain ⟨m, h2⟩ : ∃ v, x * y = v := ⟨_, rfl⟩
  obtain ⟨tm, h3⟩ : ∃ v, turn m = v := ⟨_, rfl⟩
  obtain ⟨ty, h4⟩ : ∃ v, turn y = v := ⟨_, rfl⟩
  obtain ⟨s, h5⟩ : ∃ v, x + y = v := ⟨_, rfl⟩
  obtain ⟨ts, h6⟩ : ∃ v, turn s = v := ⟨_, rfl⟩
  obtain ⟨n, h7⟩ : ∃ v, norm x = v := ⟨_, rfl⟩
  obtain ⟨l, h8⟩ : ∃ v, lift n = v := ⟨_, rfl⟩
  have k1 := pturn_q a b x t rx h1
  have k2 := pmul_q a b c d x y m rx ry h2
  have k3 := pturn_q (enc m.a) (enc m.b) m tm (rep_enc m) h3
  have k4 := pturn_q c d y ty ry h4
  have k5 := pmul_q (enc t.a) (enc t.b) (enc ty.a) (enc ty.b) t ty tm (rep_enc t) (rep_enc ty) (by rw [← h1, ← h4, ← h3, ← h2, turn_mul])
  have k6 := padd_q a b c d x y s rx ry h5
  have k7 := pturn_q (enc s.a) (enc s.b) s ts (rep_enc s) h6
  have k8 := padd_q (enc t.a) (enc t.b) (enc ty.a) (enc ty.b) t ty ts (rep_enc t) (rep_enc ty) (by rw [← h1, ← h4, ← h6, ← h5, turn_add])
  have k9 := pturn_q (enc t.a) (enc t.b) t x (rep_enc t) (by rw [← h1, turn_turn])
  have k10 := padd_q a b 0 0 x 0 x rx rep_zero (F2.add_zero x)
  have k11 := pmul_q a b (enc t.a) (enc t.b) x t l rx (rep_enc t) (by rw [← h1, ← h8, ← h7, mul_turn])
  have k12 := pnorm_q a b x n rx h7
  have k13 := lift_q (enc n) l (enc_U _) (by rw [toF_enc, h8])
  have k14 := ppow_q a b 18446744069414584321 x rx (U_lit _ rfl rfl)
  have hP : qpow x (18446744069414584321 : Int).toNat = t := by rw [← h1]; exact turn_P x 18446744069414584320 rfl
  rw [hP] at k14
  clear h1 h2 h3 h4 h5 h6 h7 h8 hP hx hy rx ry ha hb hc hd
  go_enter Try.func6, Try.ntmps6
  go_upto_region 1 with fail
  refine wp_gen (fun W => Below w.heap.size w W ∧ Var W w.heap.size a b ∧ Var W (w.heap.size + 1) c d) ⟨((Below.refl _ _).alloc (Nat.le_refl _) _).alloc (by simp) _, by simp [Var, go_sem], by simp [Var, go_sem]⟩ ?_
  rintro W ⟨hB, ⟨c0, c1, f0, f1⟩, ⟨d0, d1, e0, e1⟩⟩
  clear f0 f1 e0 e1
  go_upto_region 2 with ((first
      | (go_at_call 20; (with_reducible refine (k1 _).mono ?_))); rintro e w1 ⟨rfl, hb⟩; replace c0 := bkeep hb c0; replace c1 := bkeep hb c1; replace d0 := bkeep hb d0; replace d1 := bkeep hb d1; replace hB := bthen hB hb; clear hb)
  refine wp_gen (fun W => Below w.heap.size w W ∧ W.cell? ⟨w.heap.size, 0, none⟩ = some (.int .u64 a) ∧ W.cell? ⟨w.heap.size, 1, none⟩ = some (.int .u64 b) ∧ W.cell? ⟨w.heap.size + 1, 0, none⟩ = some (.int .u64 c) ∧ W.cell? ⟨w.heap.size + 1, 1, none⟩ = some (.int .u64 d) ∧
      W.cell? ⟨w1.heap.size, 0, none⟩ = some (.int .u64 (enc t.a)) ∧ W.cell? ⟨w1.heap.size, 1, none⟩ = some (.int .u64 (enc t.b)))
    ⟨hB.alloc hB.size _, akeep c0 _, akeep c1 _, akeep d0 _, akeep d1 _, (Var.new _ _ _ _).1, (Var.new _ _ _ _).2.1⟩ ?_
  generalize w1.heap.size = g5 at *
  clear hB c0 c1 d0 d1
  rintro W2 ⟨hB, c0, c1, d0, d1, s0, s1⟩
  replace c0 := fun q : Regrown => cell_regrown c0 q.d q.os
  replace c1 := fun q : Regrown => cell_regrown c1 q.d q.os
  replace d0 := fun q : Regrown => cell_regrown d0 q.d q.os
  replace d1 := fun q : Regrown => cell_regrown d1 q.d q.os
  replace s0 := fun q : Regrown => cell_regrown s0 q.d q.os
  replace s1 := fun q : Regrown => cell_regrown s1 q.d q.os
  refine wp_region_quiet_below (by kernel_rfl) (by kernel_rfl) ?_
  repeat (go_big_quiet_step (first
    | (go_at_call 9; (with_reducible exact Calls.regrown_of (pawake_any _)))
    | (go_at_call 20; (first | with_reducible exact Calls.regrown_of (k1 _) | with_reducible exact Calls.regrown_of (k3 _) | with_reducible exact Calls.regrown_of (k4 _) | with_reducible exact Calls.regrown_of (k7 _) | with_reducible exact Calls.regrown_of (k9 _)))
    | (go_at_call 14; (first | with_reducible exact Calls.regrown_of (k2 _) | with_reducible exact Calls.regrown_of (k5 _) | with_reducible exact Calls.regrown_of (k11 _)))
    | (go_at_call 10; (first | with_reducible exact Calls.regrown_of (k6 _) | with_reducible exact Calls.regrown_of (k8 _) | with_reducible exact Calls.regrown_of (k10 _)))
    | (go_at_call 22; (with_reducible exact Calls.regrown_of (k12 _)))
    | (go_at_call 24; (with_reducible exact Calls.regrown_of (k13 _)))
    | (go_at_call 30; (with_reducible exact Calls.regrown_of (k14 _)))))
  refine wpQuiet_nil ?_
  rintro _ ⟨pq, rfl⟩
  go_wp2
  go_ret
  exact ⟨rfl, bthen hB (below_regrown _ _ _)⟩
end Go.Proofs.Ytkgogfnpkcibeaa
