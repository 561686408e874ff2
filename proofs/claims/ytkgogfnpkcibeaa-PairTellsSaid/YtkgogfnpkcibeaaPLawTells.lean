/-
  The walk of PairTells: it answers true.
-/
import Derived.Test.YtkgogfnpkcibeaaPAwake
import Derived.Test.YtkgogfnpkcibeaaPairRefSum
import Derived.Lib.QuietBelow
import Derived.BigQuiet
namespace Go.Proofs.Ytkgogfnpkcibeaa
open Go.RowKit Go.Sort Go.BigFrame
set_option linter.unusedVariables false

set_option maxRecDepth 100000 in
set_option maxHeartbeats 4000000 in
theorem ptells_walk (a b c d n : Int) (ha : U a) (hb : U b) (hc : U c) (hd : U d) (hn : U n) (w : World) :
    Calls Try.prog 3 #[.agg #[.int .u64 a, .int .u64 b], .agg #[.int .u64 c, .int .u64 d], .int .u64 n] w fun e w' => e = .returned (.bool true) ∧ Below w.heap.size w w' := by
  have rx := rep_raw ha hb
  have ry := rep_raw hc hd
  obtain ⟨x, hx⟩ : ∃ x : F2, ⟨toF a, toF b⟩ = x := ⟨_, rfl⟩
  obtain ⟨y, hy⟩ : ∃ x : F2, ⟨toF c, toF d⟩ = x := ⟨_, rfl⟩
  rw [hx] at rx; rw [hy] at ry
  obtain ⟨z1, h1⟩ : ∃ v, x + y = v := ⟨_, rfl⟩
  obtain ⟨z2, h2⟩ : ∃ v, x - y = v := ⟨_, rfl⟩
  obtain ⟨z3, h3⟩ : ∃ v, x * y = v := ⟨_, rfl⟩
  obtain ⟨z4, h4⟩ : ∃ v, -x = v := ⟨_, rfl⟩
  obtain ⟨z5, h5⟩ : ∃ v, scale x (toF n) = v := ⟨_, rfl⟩
  obtain ⟨z6, h6⟩ : ∃ v, turn x = v := ⟨_, rfl⟩
  obtain ⟨z7, h7⟩ : ∃ v, norm x = v := ⟨_, rfl⟩
  obtain ⟨z8, h8⟩ : ∃ v, lift (toF n) = v := ⟨_, rfl⟩
  have k1 := padd_q a b c d x y z1 rx ry h1
  have r1 := radd_q a b c d x y z1 rx ry h1
  have k2 := psub_q a b c d x y z2 rx ry h2
  have r2 := rsub_q a b c d x y z2 rx ry h2
  have k3 := pmul_q a b c d x y z3 rx ry h3
  have r3 := rmul_q a b c d x y z3 rx ry h3
  have k4 := pneg_q a b x z4 rx h4
  have r4 := rneg_q a b x z4 rx h4
  have k5 := pscale_q a b n x z5 rx hn h5
  have r5 := rscale_q a b n x z5 rx hn h5
  have k6 := pturn_q a b x z6 rx h6
  have r6 := rturn_q a b x z6 rx h6
  have k7 := pnorm_q a b x z7 rx h7
  have r7 := rnorm_q a b x z7 rx h7
  have k8 := lift_q n z8 hn h8
  have r8 := rlift_q n z8 hn h8
  have k9 := pright_q a b
  have r9 := rright_q a b
  generalize (decide (a < 18446744069414584321) && decide (b < 18446744069414584321)) = z9 at *
  clear h1 h2 h3 h4 h5 h6 h7 h8 hx hy rx ry ha hb hc hd hn
  go_enter Try.func3, Try.ntmps3
  go_upto_region 1 with fail
  refine wp_gen (fun W => Below w.heap.size w W ∧ Var W w.heap.size a b ∧ Var W (w.heap.size + 1) c d) ⟨((Below.refl _ _).alloc (Nat.le_refl _) _).alloc (by simp) _, by simp [Var, go_sem], by simp [Var, go_sem]⟩ ?_
  rintro W ⟨hB, ⟨c0, c1, f0, f1⟩, ⟨d0, d1, e0, e1⟩⟩
  clear f0 f1 e0 e1
  replace c0 := fun q : Regrown => cell_regrown c0 q.d q.os
  replace c1 := fun q : Regrown => cell_regrown c1 q.d q.os
  replace d0 := fun q : Regrown => cell_regrown d0 q.d q.os
  replace d1 := fun q : Regrown => cell_regrown d1 q.d q.os
  try simp only [List.append]
  refine wp_region_quiet_below (by kernel_rfl) (by kernel_rfl) ?_
  repeat (first | go_big_quiet_step (first
    | (go_at_call 9; (with_reducible exact Calls.regrown_of (pawake_any _)))
    | (go_at_call 10; (with_reducible exact Calls.regrown_of (k1 _)))
    | (go_at_call 11; (with_reducible exact Calls.regrown_of (r1 _)))
    | (go_at_call 12; (with_reducible exact Calls.regrown_of (k2 _)))
    | (go_at_call 13; (with_reducible exact Calls.regrown_of (r2 _)))
    | (go_at_call 14; (with_reducible exact Calls.regrown_of (k3 _)))
    | (go_at_call 15; (with_reducible exact Calls.regrown_of (r3 _)))
    | (go_at_call 16; (with_reducible exact Calls.regrown_of (k4 _)))
    | (go_at_call 17; (with_reducible exact Calls.regrown_of (r4 _)))
    | (go_at_call 18; (with_reducible exact Calls.regrown_of (k5 _)))
    | (go_at_call 19; (with_reducible exact Calls.regrown_of (r5 _)))
    | (go_at_call 20; (with_reducible exact Calls.regrown_of (k6 _)))
    | (go_at_call 21; (with_reducible exact Calls.regrown_of (r6 _)))
    | (go_at_call 22; (with_reducible exact Calls.regrown_of (k7 _)))
    | (go_at_call 23; (with_reducible exact Calls.regrown_of (r7 _)))
    | (go_at_call 24; (with_reducible exact Calls.regrown_of (k8 _)))
    | (go_at_call 25; (with_reducible exact Calls.regrown_of (r8 _)))
    | (go_at_call 26; (with_reducible exact Calls.regrown_of (k9 _)))
    | (go_at_call 27; (with_reducible exact Calls.regrown_of (r9 _)))) | quiet_step (fail))
  refine wpQuiet_nil ?_
  rintro _ ⟨pq, rfl⟩
  go_wp2
  go_ret
  exact ⟨rfl, bthen hB (below_regrown _ _ _)⟩
end Go.Proofs.Ytkgogfnpkcibeaa
