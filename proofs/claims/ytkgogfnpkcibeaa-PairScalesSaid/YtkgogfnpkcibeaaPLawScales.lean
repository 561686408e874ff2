/-
  The walk of PairScales: it answers true.
-/
import Derived.Test.YtkgogfnpkcibeaaPAwake
import Derived.Test.YtkgogfnpkcibeaaLoose
import Derived.Lib.QuietBelow
import Derived.BigQuiet
namespace Go.Proofs.Ytkgogfnpkcibeaa
open Go.RowKit Go.Sort Go.BigFrame
set_option linter.unusedVariables false

set_option maxRecDepth 100000 in
set_option maxHeartbeats 4000000 in
theorem pscales_walk (a b c d n : Int) (ha : U a) (hb : U b) (hc : U c) (hd : U d) (hn : U n) (w : World) :
    Calls Try.prog 8 #[.agg #[.int .u64 a, .int .u64 b], .agg #[.int .u64 c, .int .u64 d], .int .u64 n] w fun e w' => e = .returned (.bool true) ∧ Below w.heap.size w w' := by
  have rx := rep_raw ha hb
  have ry := rep_raw hc hd
  obtain ⟨x, hx⟩ : ∃ x : F2, ⟨toF a, toF b⟩ = x := ⟨_, rfl⟩
  obtain ⟨y, hy⟩ : ∃ x : F2, ⟨toF c, toF d⟩ = x := ⟨_, rfl⟩
  rw [hx] at rx; rw [hy] at ry
  obtain ⟨xn, h1⟩ : ∃ v, scale x (toF n) = v := ⟨_, rfl⟩
  obtain ⟨ln, h2⟩ : ∃ v, lift (toF n) = v := ⟨_, rfl⟩
  obtain ⟨s, h3⟩ : ∃ v, x + y = v := ⟨_, rfl⟩
  obtain ⟨sn, h4⟩ : ∃ v, scale s (toF n) = v := ⟨_, rfl⟩
  obtain ⟨yn, h5⟩ : ∃ v, scale y (toF n) = v := ⟨_, rfl⟩
  obtain ⟨nx, h6⟩ : ∃ v, -x = v := ⟨_, rfl⟩
  have k1 := pscale_q a b n x xn rx hn h1
  have k2 := lift_q n ln hn h2
  have k3 := pmul_q a b (enc ln.a) (enc ln.b) x ln xn rx (rep_enc ln) (by rw [← h1, ← h2, scale_lift])
  have k4 := padd_q a b c d x y s rx ry h3
  have k5 := pscale_q (enc s.a) (enc s.b) n s sn (rep_enc s) hn h4
  have k6 := pscale_q c d n y yn ry hn h5
  have k7 := padd_q (enc xn.a) (enc xn.b) (enc yn.a) (enc yn.b) xn yn sn (rep_enc xn) (rep_enc yn) (by rw [← h1, ← h5, ← h4, ← h3, scale_add])
  have k8 := pneg_q a b x nx rx h6
  have k9 := padd_q a b (enc nx.a) (enc nx.b) x nx 0 rx (rep_enc nx) (by rw [← h6, F2.add_neg])
  simp only [show enc (0 : F2).a = 0 from rfl, show enc (0 : F2).b = 0 from rfl] at k9
  clear h1 h2 h3 h4 h5 h6 hx hy rx ry ha hb hc hd hn
  go_enter Try.func8, Try.ntmps8
  go_upto_region 1 with fail
  refine wp_gen (fun W => Below w.heap.size w W ∧ Var W w.heap.size a b ∧ Var W (w.heap.size + 1) c d) ⟨((Below.refl _ _).alloc (Nat.le_refl _) _).alloc (by simp) _, by simp [Var, go_sem], by simp [Var, go_sem]⟩ ?_
  rintro W ⟨hB, ⟨c0, c1, f0, f1⟩, ⟨d0, d1, e0, e1⟩⟩
  clear f0 f1 e0 e1
  replace c0 := fun q : Regrown => cell_regrown c0 q.d q.os
  replace c1 := fun q : Regrown => cell_regrown c1 q.d q.os
  replace d0 := fun q : Regrown => cell_regrown d0 q.d q.os
  replace d1 := fun q : Regrown => cell_regrown d1 q.d q.os
  refine wp_region_quiet_below (by kernel_rfl) (by kernel_rfl) ?_
  repeat (go_big_quiet_step (first
    | (go_at_call 9; (with_reducible exact Calls.regrown_of (pawake_any _)))
    | (go_at_call 18; (first | with_reducible exact Calls.regrown_of (k1 _) | with_reducible exact Calls.regrown_of (k5 _) | with_reducible exact Calls.regrown_of (k6 _)))
    | (go_at_call 24; (with_reducible exact Calls.regrown_of (k2 _)))
    | (go_at_call 14; (with_reducible exact Calls.regrown_of (k3 _)))
    | (go_at_call 10; (first | with_reducible exact Calls.regrown_of (k4 _) | with_reducible exact Calls.regrown_of (k7 _) | with_reducible exact Calls.regrown_of (k9 _)))
    | (go_at_call 16; (with_reducible exact Calls.regrown_of (k8 _)))))
  refine wpQuiet_nil ?_
  rintro _ ⟨pq, rfl⟩
  go_wp2
  go_ret
  exact ⟨rfl, bthen hB (below_regrown _ _ _)⟩
end Go.Proofs.Ytkgogfnpkcibeaa
