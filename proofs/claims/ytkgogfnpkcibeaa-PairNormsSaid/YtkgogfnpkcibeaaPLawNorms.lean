/-
  The walk of PairNorms: it answers true.
-/
import Derived.Test.YtkgogfnpkcibeaaPAwake
import Derived.Test.YtkgogfnpkcibeaaLoose
import Derived.Lib.QuietBelow
import Derived.BigQuiet
namespace Go.Proofs.Ytkgogfnpkcibeaa
open Go.RowKit Go.Sort Go.BigFrame
set_option linter.unusedVariables false

set_option maxRecDepth 100000 in
set_option maxHeartbeats 4000000 in
theorem pnorms_walk (a b c d : Int) (ha : U a) (hb : U b) (hc : U c) (hd : U d) (w : World) :
    Calls Try.prog 7 #[.agg #[.int .u64 a, .int .u64 b], .agg #[.int .u64 c, .int .u64 d]] w fun e w' => e = .returned (.bool true) ∧ Below w.heap.size w w' := by
  have rx := rep_raw ha hb
  have ry := rep_raw hc hd
  obtain ⟨x, hx⟩ : ∃ x : F2, ⟨toF a, toF b⟩ = x := ⟨_, rfl⟩
  obtain ⟨y, hy⟩ : ∃ x : F2, ⟨toF c, toF d⟩ = x := ⟨_, rfl⟩
  rw [hx] at rx; rw [hy] at ry
  obtain ⟨m, h1⟩ : ∃ v, x * y = v := ⟨_, rfl⟩
  obtain ⟨n, h2⟩ : ∃ v, norm m = v := ⟨_, rfl⟩
  obtain ⟨nx, h3⟩ : ∃ v, norm x = v := ⟨_, rfl⟩
  obtain ⟨ny, h4⟩ : ∃ v, norm y = v := ⟨_, rfl⟩
  obtain ⟨l, h5⟩ : ∃ v, lift n = v := ⟨_, rfl⟩
  obtain ⟨lx, h6⟩ : ∃ v, lift nx = v := ⟨_, rfl⟩
  obtain ⟨ly, h7⟩ : ∃ v, lift ny = v := ⟨_, rfl⟩
  have k1 := pmul_q a b c d x y m rx ry h1
  have k2 := pnorm_q (enc m.a) (enc m.b) m n (rep_enc m) h2
  have k3 := lift_q (enc n) l (enc_U _) (by rw [toF_enc, h5])
  have k4 := pnorm_q a b x nx rx h3
  have k5 := pnorm_q c d y ny ry h4
  have k6 := lift_q (enc nx) lx (enc_U _) (by rw [toF_enc, h6])
  have k7 := lift_q (enc ny) ly (enc_U _) (by rw [toF_enc, h7])
  have k8 := pmul_q (enc lx.a) (enc lx.b) (enc ly.a) (enc ly.b) lx ly l (rep_enc lx) (rep_enc ly) (by rw [← h5, ← h6, ← h7, ← lift_mul, ← h2, ← h1, norm_mul, h3, h4])
  have q1 := rem_toF a ha; have q2 := mod_toF a ha
  have q3 := rem_toF b hb; have q4 := mod_toF b hb
  have ha0 := ha.1; have hb0 := hb.1
  rw [show toF a = x.a by rw [← hx]] at q1 q2
  rw [show toF b = x.b by rw [← hx]] at q3 q4
  have hz : (enc x.a = 0 ∧ enc x.b = 0 ∧ enc nx = 0) ∨ ((enc x.a == 0) = false ∧ (enc nx == 0) = false) ∨ (enc x.a = 0 ∧ (enc x.b == 0) = false ∧ (enc nx == 0) = false) := by
    have z0 : ∀ v : F, enc v = 0 ↔ v = 0 := fun v => ⟨fun h => enc_inj.mp (h.trans enc_zero.symm), fun h => by rw [h]; rfl⟩
    by_cases h0 : x = 0
    · left
      exact ⟨by rw [h0]; rfl, by rw [h0]; rfl, by rw [← h3, h0, norm_zero]; rfl⟩
    · right
      have hn0 : (enc nx == 0) = false := by
        have : ¬ enc nx = 0 := fun h => h0 (norm_eq_zero (h3.trans ((z0 _).1 h)))
        simpa using this
      by_cases h1 : enc x.a = 0
      · right
        refine ⟨h1, ?_, hn0⟩
        have : ¬ enc x.b = 0 := fun h2 => h0 (F2.eq ((z0 _).1 h1) ((z0 _).1 h2))
        simpa using this
      · left; exact ⟨by simpa using h1, hn0⟩
  clear h1 h2 h3 h4 h5 h6 h7
  generalize enc x.a = xa at *
  generalize enc x.b = xb at *
  generalize enc nx = en at *
  clear hx hy rx ry ha hb hc hd
  rcases hz with ⟨rfl, rfl, rfl⟩ | ⟨z1, z2⟩ | ⟨rfl, z1, z2⟩
  all_goals
    go_enter Try.func7, Try.ntmps7
    go_upto_region 1 with fail
    refine wp_gen (fun W => Below w.heap.size w W ∧ Var W w.heap.size a b ∧ Var W (w.heap.size + 1) c d) ⟨((Below.refl _ _).alloc (Nat.le_refl _) _).alloc (by simp) _, by simp [Var, go_sem], by simp [Var, go_sem]⟩ ?_
    rintro W ⟨hB, ⟨c0, c1, f0, f1⟩, ⟨d0, d1, e0, e1⟩⟩
    clear f0 f1 e0 e1
    go_upto_region 2 with fail
    replace c0 := fun q : Regrown => cell_regrown c0 q.d q.os
    replace c1 := fun q : Regrown => cell_regrown c1 q.d q.os
    replace d0 := fun q : Regrown => cell_regrown d0 q.d q.os
    replace d1 := fun q : Regrown => cell_regrown d1 q.d q.os
    refine wp_region_quiet_below (by kernel_rfl) (by kernel_rfl) ?_
    repeat (go_big_quiet_step (first
      | (go_at_call 9; (with_reducible exact Calls.regrown_of (pawake_any _)))
      | (go_at_call 14; (first | with_reducible exact Calls.regrown_of (k1 _) | with_reducible exact Calls.regrown_of (k8 _)))
      | (go_at_call 22; (first | with_reducible exact Calls.regrown_of (k2 _) | with_reducible exact Calls.regrown_of (k4 _) | with_reducible exact Calls.regrown_of (k5 _)))
      | (go_at_call 24; (first | with_reducible exact Calls.regrown_of (k3 _) | with_reducible exact Calls.regrown_of (k6 _) | with_reducible exact Calls.regrown_of (k7 _)))))
    refine wpQuiet_nil ?_
    rintro _ ⟨pq, rfl⟩
    go_wp2
    go_ret
    exact ⟨rfl, bthen hB (below_regrown _ _ _)⟩
end Go.Proofs.Ytkgogfnpkcibeaa
