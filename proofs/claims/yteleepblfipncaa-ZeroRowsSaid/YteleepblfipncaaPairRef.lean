/-
  What the calls of the document's answer for layer 2 come to: contracts for the walk.
-/
import Derived.Test.YteleepblfipncaaPairSum
import Derived.Test.YteleepblfipncaaRefList
import Derived.Test.YteleepblfipncaaLoose
import Derived.Lib.QuietBelow
import Derived.BigQuiet
namespace Go.Proofs.Yteleepblfipncaa
open Go.RowKit Go.Sort Go.BigFrame
set_option linter.unusedVariables false

theorem below_drewN {B : Nat} {a : World} : ∀ {w : World}, Below B a w → ∀ n, Below B a (w.drewN n)
  | w, h, n => ⟨h.os, h.tape, h.output, h.size, h.block⟩
theorem exit_gen {K : Act → World → Prop} {Q : Exit → Act → World → Prop} {e : Exit} {a : Act} {w : World} (S : World → Prop) (h : S w) (k : ∀ W, S W → Exit.then K Q e a W) : Exit.then K Q e a w := k w h
theorem ref_below {f : FuncId} {args : Array Value} {v : Value} {w : World} (h : Calls Try.prog f args w fun e w' => e = .returned v ∧ ∃ n, w' = w.drewN n) : Calls Try.prog f args w fun e w' => e = .returned v ∧ Below w.heap.size w w' :=
  h.mono fun _ _ ⟨he, n, hn⟩ => ⟨he, hn ▸ below_drewN (Below.refl _ _) n⟩
theorem refadd_is (a b z : Int) (ha : U a) (hb : U b) (h : enc (toF a + toF b) = z) (w : World) : Calls Try.prog 44 #[.int .u64 a, .int .u64 b] w fun e w' => e = .returned (.int .u64 z) ∧ w = w' := h ▸ refadd_any a b ha hb w
theorem refsub_is (a b z : Int) (ha : U a) (hb : U b) (h : enc (toF a - toF b) = z) (w : World) : Calls Try.prog 46 #[.int .u64 a, .int .u64 b] w fun e w' => e = .returned (.int .u64 z) ∧ w = w' := h ▸ refsub_any a b ha hb w
theorem refneg_is (a z : Int) (ha : U a) (h : enc (-toF a) = z) (w : World) : Calls Try.prog 60 #[.int .u64 a] w fun e w' => e = .returned (.int .u64 z) ∧ w = w' := h ▸ refneg_any a ha w
theorem refprod_tri (x y z : Int) (p : F) (v : Value) (w : World) (hx : U x) (hy : U y) (hz : U z) (hr : Row w v [x, y, z]) (hp : toF x * (toF y * toF z) = p) : Calls Try.prog 45 #[v] w fun e w' => e = .returned (.int .u64 (enc p)) ∧ ∃ n, w' = w.drewN n := by
  have h := refprod_any v [x, y, z] w hr (by intro n hn; simp at hn; rcases hn with rfl | rfl | rfl <;> assumption)
  rw [show fprod ([x, y, z].map toF) = p by rw [← hp]; simp only [List.map, fprod]; grind] at h
  exact h

theorem rlift_q (a : Int) (z : F2) (ha : U a) (hz : lift (toF a) = z) (w : World) : Calls Try.prog 20 #[.int .u64 a] w fun e w' => e = .returned (.agg #[.int .u64 (enc z.a), .int .u64 (enc z.b)]) ∧ Below w.heap.size w w' := by
  have q1 := rem_toF a ha; have q2 := mod_toF a ha
  rw [show enc (toF a) = enc z.a by rw [← hz]; rfl] at q1 q2
  have e2 : (0 : Int) = enc z.b := by rw [← hz]; rfl
  have ha0 := ha.1
  generalize enc z.a = x at *
  generalize enc z.b = y at *
  clear hz ha
  subst e2
  go_enter Try.func20, Try.ntmps20
  go_wp2
  exact bodyPost_ret (v := .agg #[.int .u64 x, .int .u64 0]) (by simp [results, Try.results20, go_sem]) rfl ⟨rfl, (Below.refl _ _).alloc (Nat.le_refl _) _⟩

theorem radd_q (a b c d : Int) (x y z : F2) (hx : Rep a b x) (hy : Rep c d y) (hz : x + y = z) (w : World) : Calls Try.prog 23 #[.agg #[.int .u64 a, .int .u64 b], .agg #[.int .u64 c, .int .u64 d]] w fun e w' => e = .returned (.agg #[.int .u64 (enc z.a), .int .u64 (enc z.b)]) ∧ Below w.heap.size w w' := by
  have k1 := refadd_is a c (enc z.a) hx.1 hy.1 (by rw [hx.2.2.1, hy.2.2.1, ← hz]; rfl)
  have k2 := refadd_is b d (enc z.b) hx.2.1 hy.2.1 (by rw [hx.2.2.2, hy.2.2.2, ← hz]; rfl)
  generalize enc z.a = s at *
  generalize enc z.b = t at *
  clear hx hy hz
  go_enter Try.func23, Try.ntmps23
  go_wp2_with fail
  go_region_held3 (fun w' => w'.cell? ⟨w.heap.size, 0, none⟩ = some (.int .u64 a) ∧ w'.cell? ⟨w.heap.size, 1, none⟩ = some (.int .u64 b) ∧ w'.cell? ⟨w.heap.size + 1, 0, none⟩ = some (.int .u64 c) ∧ w'.cell? ⟨w.heap.size + 1, 1, none⟩ = some (.int .u64 d)) (go_keep)
    (first | (go_at_call 44; ((with_reducible refine (k1 _).mono ?_); rintro e w' ⟨rfl, rfl⟩)) | (go_at_call 44; ((with_reducible refine (k2 _).mono ?_); rintro e w' ⟨rfl, rfl⟩)))
  go_wp2
  exact bodyPost_ret (v := .agg #[.int .u64 s, .int .u64 t]) (by simp [results, Try.results23, go_sem]) rfl ⟨rfl, ((((Below.refl _ _).alloc (Nat.le_refl _) _).alloc (by simp) _).alloc (by simp; omega) _).drew⟩

theorem rsub_q (a b c d : Int) (x y z : F2) (hx : Rep a b x) (hy : Rep c d y) (hz : x - y = z) (w : World) : Calls Try.prog 25 #[.agg #[.int .u64 a, .int .u64 b], .agg #[.int .u64 c, .int .u64 d]] w fun e w' => e = .returned (.agg #[.int .u64 (enc z.a), .int .u64 (enc z.b)]) ∧ Below w.heap.size w w' := by
  have k1 := refsub_is a c (enc z.a) hx.1 hy.1 (by rw [hx.2.2.1, hy.2.2.1, ← hz]; rfl)
  have k2 := refsub_is b d (enc z.b) hx.2.1 hy.2.1 (by rw [hx.2.2.2, hy.2.2.2, ← hz]; rfl)
  generalize enc z.a = s at *
  generalize enc z.b = t at *
  clear hx hy hz
  go_enter Try.func25, Try.ntmps25
  go_wp2_with fail
  go_region_held3 (fun w' => w'.cell? ⟨w.heap.size, 0, none⟩ = some (.int .u64 a) ∧ w'.cell? ⟨w.heap.size, 1, none⟩ = some (.int .u64 b) ∧ w'.cell? ⟨w.heap.size + 1, 0, none⟩ = some (.int .u64 c) ∧ w'.cell? ⟨w.heap.size + 1, 1, none⟩ = some (.int .u64 d)) (go_keep)
    (first | (go_at_call 46; ((with_reducible refine (k1 _).mono ?_); rintro e w' ⟨rfl, rfl⟩)) | (go_at_call 46; ((with_reducible refine (k2 _).mono ?_); rintro e w' ⟨rfl, rfl⟩)))
  go_wp2
  exact bodyPost_ret (v := .agg #[.int .u64 s, .int .u64 t]) (by simp [results, Try.results25, go_sem]) rfl ⟨rfl, ((((Below.refl _ _).alloc (Nat.le_refl _) _).alloc (by simp) _).alloc (by simp; omega) _).drew⟩

theorem rturn_q (a b : Int) (x z : F2) (hx : Rep a b x) (hz : turn x = z) (w : World) : Calls Try.prog 56 #[.agg #[.int .u64 a, .int .u64 b]] w fun e w' => e = .returned (.agg #[.int .u64 (enc z.a), .int .u64 (enc z.b)]) ∧ Below w.heap.size w w' := by
  have q1 := rem_toF a hx.1; have q2 := mod_toF a hx.1
  rw [show enc (toF a) = enc z.a by rw [hx.2.2.1, ← hz]; rfl] at q1 q2
  have ha0 := hx.1.1
  have k2 := refneg_is b (enc z.b) hx.2.1 (by rw [hx.2.2.2, ← hz]; rfl)
  generalize enc z.a = s at *
  generalize enc z.b = t at *
  clear hx hz
  go_enter Try.func56, Try.ntmps56
  go_wp2_with fail
  go_region_held3 (fun w' => w'.cell? ⟨w.heap.size, 0, none⟩ = some (.int .u64 a) ∧ w'.cell? ⟨w.heap.size, 1, none⟩ = some (.int .u64 b)) (go_keep)
    ((go_at_call 60; ((with_reducible refine (k2 _).mono ?_); rintro e w' ⟨rfl, rfl⟩)))
  all_goals go_wp2
  all_goals exact bodyPost_ret (v := .agg #[.int .u64 s, .int .u64 t]) (by simp [results, Try.results56, go_sem]) rfl ⟨rfl, (((Below.refl _ _).alloc (Nat.le_refl _) _).alloc (by simp) _).drew⟩

theorem rmul_q (a b c d : Int) (x y z : F2) (hx : Rep a b x) (hy : Rep c d y) (hz : x * y = z) (w : World) : Calls Try.prog 24 #[.agg #[.int .u64 a, .int .u64 b], .agg #[.int .u64 c, .int .u64 d]] w fun e w' => e = .returned (.agg #[.int .u64 (enc z.a), .int .u64 (enc z.b)]) ∧ Below w.heap.size w w' := by
  have k1 := refmul_is a c (enc (x.a * y.a)) hx.1 hy.1 (by rw [hx.2.2.1, hy.2.2.1])
  have k2 := fun W v hr => refprod_tri 7 b d (7 * (x.b * y.b)) v W (U_lit _ rfl rfl) hx.2.1 hy.2.1 hr (by rw [hx.2.2.2, hy.2.2.2, show toF 7 = 7 by decide +kernel])
  have k3 := refadd_is (enc (x.a * y.a)) (enc (7 * (x.b * y.b))) (enc z.a) (enc_U _) (enc_U _) (by rw [toF_enc, toF_enc, ← hz]; rfl)
  have k4 := fun W => ref_below (refmul_is a d (enc (x.a * y.b)) hx.1 hy.2.1 (by rw [hx.2.2.1, hy.2.2.2]) W)
  have k5 := fun W => ref_below (refmul_is b c (enc (x.b * y.a)) hx.2.1 hy.1 (by rw [hx.2.2.2, hy.2.2.1]) W)
  have k6 := fun W => (refadd_is (enc (x.a * y.b)) (enc (x.b * y.a)) (enc z.b) (enc_U _) (enc_U _) (by rw [toF_enc, toF_enc, ← hz]; rfl) W).mono fun e w' ⟨he, hw⟩ => (⟨he, hw ▸ Below.refl _ _⟩ : e = _ ∧ Below W.heap.size W w')
  generalize enc z.a = s at *
  generalize enc z.b = t at *
  generalize enc (x.a * y.a) = e1 at *
  generalize enc (7 * (x.b * y.b)) = e2 at *
  generalize enc (x.a * y.b) = e3 at *
  generalize enc (x.b * y.a) = e4 at *
  clear hx hy hz
  go_enter Try.func24, Try.ntmps24
  go_upto_region 1 with fail
  go_cut [5] (fun v W => v = .int .u64 s ∧ Below w.heap.size w W ∧ Var W w.heap.size a b ∧ Var W (w.heap.size + 1) c d ∧ Var W (w.heap.size + 1 + 1) 0 0)
  case first =>
    go_region_held3 (fun w' => w'.cell? ⟨w.heap.size, 0, none⟩ = some (.int .u64 a) ∧ w'.cell? ⟨w.heap.size, 1, none⟩ = some (.int .u64 b) ∧ w'.cell? ⟨w.heap.size + 1, 0, none⟩ = some (.int .u64 c) ∧ w'.cell? ⟨w.heap.size + 1, 1, none⟩ = some (.int .u64 d)) (go_keep)
      (first | (go_at_call 45; ((with_reducible refine (k2 _ _ (row_tri (by simp [go_sem]) (by simp [go_sem]) (by simp [go_sem]))).mono ?_); rintro e w' ⟨rfl, n, rfl⟩)) | (go_at_call 22; ((with_reducible refine (k1 _).mono ?_); rintro e w' ⟨rfl, n, rfl⟩)) | (go_at_call 44; ((with_reducible refine (k3 _).mono ?_); rintro e w' ⟨rfl, rfl⟩)))
    all_goals go_wp2_with fail
    all_goals go_meet
    all_goals refine ⟨rfl, ?_, by simp [Var, go_sem], by simp [Var, go_sem], by simp [Var, go_sem]⟩
    all_goals repeat (first | exact Below.refl _ _ | apply below_drewN | (refine Below.alloc ?_ (by simp <;> omega) _))
  case rest =>
    obtain ⟨rfl, hB, ⟨c0, c1, f0, f1⟩, ⟨d0, d1, g0, g1⟩, hR⟩ := hcut
    go_upto_region 2 with fail
    replace c0 := fun q : Regrown => cell_regrown c0 q.d q.os
    replace c1 := fun q : Regrown => cell_regrown c1 q.d q.os
    replace d0 := fun q : Regrown => cell_regrown d0 q.d q.os
    replace d1 := fun q : Regrown => cell_regrown d1 q.d q.os
    refine wp_region_quiet_below (by kernel_rfl) (by kernel_rfl) ?_
    repeat (go_big_quiet_step (first
      | (go_at_call 22; (first | with_reducible exact Calls.regrown_of (k4 _) | with_reducible exact Calls.regrown_of (k5 _)))
      | (go_at_call 44; (with_reducible exact Calls.regrown_of (k6 _)))))
    refine wpQuiet_nil ?_
    rintro _ ⟨pq, rfl⟩
    refine exit_gen (fun W => Below w.heap.size w W ∧ Var W (w.heap.size + 1 + 1) 0 0) ⟨bthen hB (below_regrown _ _ _), hR.keep (below_regrown _ _ _)⟩ ?_
    clear hB hR c0 c1 d0 d1 k1 k2 k3 k4 k5 k6
    rintro W2 ⟨hB, ⟨d0, d1, g0, g1⟩⟩
    go_wp2
    exact bodyPost_ret (v := .agg #[.int .u64 s, .int .u64 t]) (by simp [results, Try.results24, go_sem, d0, d1]) rfl ⟨rfl, (hB.setCell (by simp; omega) _).setCell (by simp; omega) _⟩

/-- What the slots of Scale's statement hold. -/
def ScaleR (a b c : Int) (l : F2) (s t : Int) (k : Nat) (v : Value) (W : World) : Prop :=
  match k with
  | 5 => v = .agg #[.int .u64 a, .int .u64 b]
  | 6 => v = .int .u64 c
  | 7 => v = .agg #[.int .u64 (enc l.a), .int .u64 (enc l.b)]
  | _ => v = .agg #[.int .u64 s, .int .u64 t]
theorem ScaleR.keep {a b c : Int} {l : F2} {s t : Int} {k : Nat} {v : Value} {W W' : World} (h : ScaleR a b c l s t k v W) (hb : Below W.heap.size W W') : ScaleR a b c l s t k v W' := h
theorem rscale_q (a b c : Int) (x z : F2) (hx : Rep a b x) (hc : U c) (hz : scale x (toF c) = z) (w : World) : Calls Try.prog 41 #[.agg #[.int .u64 a, .int .u64 b], .int .u64 c] w fun e w' => e = .returned (.agg #[.int .u64 (enc z.a), .int .u64 (enc z.b)]) ∧ Below w.heap.size w w' := by
  obtain ⟨l, hl⟩ : ∃ l, lift (toF c) = l := ⟨_, rfl⟩
  have k1 := rlift_q c l hc hl
  have k2 := rmul_q a b (enc l.a) (enc l.b) x l z hx (rep_enc l) (by rw [← hl, ← hz, scale_lift])
  generalize enc z.a = s at *
  generalize enc z.b = t at *
  clear hx hz hl
  go_enter Try.func41, Try.ntmps41
  go_upto_region 1 with fail
  refine wp_gen (fun W => Below w.heap.size w W ∧ Var W w.heap.size a b ∧ Var W (w.heap.size + 1) 0 0) ⟨((Below.refl _ _).alloc (Nat.le_refl _) _).alloc (by simp) _, by simp [Var, go_sem], by simp [Var, go_sem]⟩ ?_
  rintro W ⟨hB, ⟨c0, c1, f0, f1⟩, hR⟩
  refine wp_loose [(5, []), (6, []), (7, [6]), (8, [5, 7])]
    (ScaleR a b c l s t) (fun d => false) (by kernel_rfl) (by kernel_rfl) (fun _ _ _ _ h hb => h.keep hb) ?_ ?_
  · refine opsrun_cons ?_ (opsrun_cons ?_ (opsrun_cons ?_ (opsrun_cons ?_ opsrun_nil)))
    all_goals
      refine OpRuns.any ?_
      intro Q0 σ W' K hb hn hK
      simp only [fill, List.map, Act.put, List.setIfInBounds_toArray, List.set_cons_zero, List.set_cons_succ] at hK ⊢
    · have c0' := bkeep hb c0
      have c1' := bkeep hb c1
      clear c0 c1
      go_simp
      exact hK _ _ rfl (Below.refl _ _) (fun h => absurd h (by decide))
    · clear hn
      go_simp
      exact hK _ _ rfl (Below.refl _ _) (fun h => absurd h (by decide))
    · have h6 : σ 6 = _ := hn 6 (by decide)
      clear hn
      simp only [h6] at hK
      go_simp
      go_at_call 20
      refine (k1 _).mono ?_
      rintro e w1 ⟨rfl, hb1⟩
      exact hK _ _ rfl hb1 (fun h => absurd h (by decide))
    · have h5 : σ 5 = _ := hn 5 (by decide)
      have h7 : σ 7 = _ := hn 7 (by decide)
      clear hn
      simp only [h5, h7] at hK
      go_simp
      go_at_call 24
      refine (k2 _).mono ?_
      rintro e w1 ⟨rfl, hb1⟩
      exact hK _ _ rfl hb1 (fun h => absurd h (by decide))
  · intro σ W' hb hR' hF
    have h8 : σ 8 = _ := hR' 8 (by decide)
    replace hR := hR.keep hb
    replace hB := bthen hB hb
    clear hR' hF c0 c1 f0 f1
    simp only [fill, List.map, Act.put, List.setIfInBounds_toArray, List.set_cons_zero, List.set_cons_succ, List.length_cons, List.length_nil, List.drop_succ_cons, List.drop_zero, Nat.reduceAdd]
    obtain ⟨d0, d1, e0, e1⟩ := hR
    go_wp2
    exact bodyPost_ret (v := .agg #[.int .u64 s, .int .u64 t]) (by simp [results, Try.results41, go_sem, d0, d1]) rfl ⟨rfl, (hB.setCell (by simp) _).setCell (by simp) _⟩
end Go.Proofs.Yteleepblfipncaa
