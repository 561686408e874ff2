/-
  The walk of PairField: it answers true.
-/
import Derived.Test.YtkgogfnpkcibeaaPAwake
import Derived.Test.YtkgogfnpkcibeaaLoose
import Derived.Lib.QuietBelow
import Derived.BigQuiet
namespace Go.Proofs.Ytkgogfnpkcibeaa
open Go.RowKit Go.Sort Go.BigFrame
set_option linter.unusedVariables false

/-- Behind the first statement: two variables that hold s and m. -/
def FieldAt (w : World) (a b c d e f : Int) (s m : F2) (s7 s8 : Value) (W : World) : Prop :=
  ∃ g7 g8 : Nat, s7 = .pointer (some ⟨g7, 0, none⟩) ∧ s8 = .pointer (some ⟨g8, 0, none⟩) ∧ Below w.heap.size w W ∧ Var W w.heap.size a b ∧ Var W (w.heap.size + 1) c d ∧ Var W (w.heap.size + 1 + 1) e f ∧ Var W g7 (enc s.a) (enc s.b) ∧ Var W g8 (enc m.a) (enc m.b)

def FieldR (n0 : Nat) (a b c d : Int) (s m : F2) (k : Nat) (v : Value) (W : World) : Prop :=
  match k with
  | 12 => v = .agg #[.int .u64 a, .int .u64 b]
  | 13 => v = .agg #[.int .u64 c, .int .u64 d]
  | 14 => v = .agg #[.int .u64 (enc s.a), .int .u64 (enc s.b)]
  | 15 => v = .agg #[.int .u64 a, .int .u64 b]
  | 16 => v = .agg #[.int .u64 c, .int .u64 d]
  | 17 => v = .agg #[.int .u64 (enc m.a), .int .u64 (enc m.b)]
  | _ => ∃ g : Nat, v = .pointer (some ⟨g, 0, none⟩) ∧ n0 ≤ g ∧ Var W g 0 0
theorem FieldR.keep {n0 : Nat} {a b c d : Int} {s m : F2} {k : Nat} {v : Value} {W W' : World} (h : FieldR n0 a b c d s m k v W) (hb : Below W.heap.size W W') : FieldR n0 a b c d s m k v W' := by
  unfold FieldR at *
  split at h
  all_goals first | exact h | (obtain ⟨g, h1, h2, h3⟩ := h; exact ⟨g, h1, h2, h3.keep hb⟩)

set_option maxRecDepth 100000 in
set_option maxHeartbeats 400000 in
theorem pfield_walk (a b c d e f : Int) (ha : U a) (hb : U b) (hc : U c) (hd : U d) (he : U e) (hf : U f) (w : World) :
    Calls Try.prog 5 #[.agg #[.int .u64 a, .int .u64 b], .agg #[.int .u64 c, .int .u64 d], .agg #[.int .u64 e, .int .u64 f]] w fun e w' => e = .returned (.bool true) ∧ Below w.heap.size w w' := by
  have rx := rep_raw ha hb
  have ry := rep_raw hc hd
  have rz := rep_raw he hf
  obtain ⟨x, hx⟩ : ∃ x : F2, ⟨toF a, toF b⟩ = x := ⟨_, rfl⟩
  obtain ⟨y, hy⟩ : ∃ x : F2, ⟨toF c, toF d⟩ = x := ⟨_, rfl⟩
  obtain ⟨z, hz⟩ : ∃ x : F2, ⟨toF e, toF f⟩ = x := ⟨_, rfl⟩
  rw [hx] at rx; rw [hy] at ry; rw [hz] at rz
  obtain ⟨s, hs⟩ : ∃ s, x + y = s := ⟨_, rfl⟩
  obtain ⟨m, hm⟩ : ∃ s, x * y = s := ⟨_, rfl⟩
  have k1 := padd_q a b c d x y s rx ry hs
  have k2 := pmul_q a b c d x y m rx ry hm
  go_enter Try.func5, Try.ntmps5
  go_upto_region 1 with fail
  refine wp_gen (fun W => Below w.heap.size w W ∧ Var W w.heap.size a b ∧ Var W (w.heap.size + 1) c d ∧ Var W (w.heap.size + 1 + 1) e f) ⟨(((Below.refl _ _).alloc (Nat.le_refl _) _).alloc (by simp) _).alloc (by simp; omega) _, by simp [Var, go_sem], by simp [Var, go_sem], by simp [Var, go_sem]⟩ ?_
  rintro W ⟨hB, ⟨c0, c1, f0, f1⟩, ⟨d0, d1, e0, e1⟩, hZ⟩
  go_cut [7, 8] (FieldAt w a b c d e f s m)
  case first =>
    clear rx ry rz hx hy hz hs hm ha hb hc hd he hf
    refine wp_loose [(12, []), (13, []), (14, [12, 13]), (15, []), (16, []), (17, [15, 16]), (7, []), (8, [])]
      (FieldR W.heap.size a b c d s m) (fun d => d == 7 || d == 8) (by kernel_rfl) (by kernel_rfl) (fun _ _ _ _ h hb => h.keep hb) ?_ ?_
    · refine opsrun_cons ?_ (opsrun_cons ?_ (opsrun_cons ?_ (opsrun_cons ?_ (opsrun_cons ?_ (opsrun_cons ?_ (opsrun_cons ?_ (opsrun_cons ?_ opsrun_nil)))))))
      all_goals
        refine OpRuns.any ?_
        intro Q0 σ W' K hb hn hK
        simp only [fill, List.map, Act.put, List.setIfInBounds_toArray, List.set_cons_zero, List.set_cons_succ] at hK ⊢
      iterate 2
        · have c0' := bkeep hb c0; have c1' := bkeep hb c1; have d0' := bkeep hb d0; have d1' := bkeep hb d1
          clear c0 c1 d0 d1
          go_simp
          exact hK _ _ rfl (Below.refl _ _) (fun h => absurd h (by decide))
      · have h12 : σ 12 = _ := hn 12 (by decide)
        have h13 : σ 13 = _ := hn 13 (by decide)
        clear hn
        simp only [h12, h13] at hK
        go_simp
        go_at_call 10
        refine (k1 _).mono ?_
        rintro e w1 ⟨rfl, hb1⟩
        exact hK _ _ rfl hb1 (fun h => absurd h (by decide))
      iterate 2
        · have c0' := bkeep hb c0; have c1' := bkeep hb c1; have d0' := bkeep hb d0; have d1' := bkeep hb d1
          clear c0 c1 d0 d1
          go_simp
          exact hK _ _ rfl (Below.refl _ _) (fun h => absurd h (by decide))
      · have h15 : σ 15 = _ := hn 15 (by decide)
        have h16 : σ 16 = _ := hn 16 (by decide)
        clear hn
        simp only [h15, h16] at hK
        go_simp
        go_at_call 14
        refine (k2 _).mono ?_
        rintro e w1 ⟨rfl, hb1⟩
        exact hK _ _ rfl hb1 (fun h => absurd h (by decide))
      iterate 2
        · go_simp
          exact hK _ _ ⟨_, rfl, hb.size, Var.new _ _ _ _⟩ ((Below.refl _ _).alloc (Nat.le_refl _) _) (fun _ => ⟨_, rfl, Nat.le_refl _, by simp⟩)
    · intro σ W' hb hR hF
      have h14 : σ 14 = _ := hR 14 (by decide)
      have h17 : σ 17 = _ := hR 17 (by decide)
      obtain ⟨g7, e7, l7, v7⟩ : ∃ g : Nat, σ 7 = .pointer (some ⟨g, 0, none⟩) ∧ W.heap.size ≤ g ∧ Var W' g 0 0 := hR 7 (by decide)
      obtain ⟨g8, e8, l8, v8⟩ : ∃ g : Nat, σ 8 = .pointer (some ⟨g, 0, none⟩) ∧ W.heap.size ≤ g ∧ Var W' g 0 0 := hR 8 (by decide)
      have hne := hF 7 (by decide) 8 (by decide) rfl rfl (by decide)
      clear hR hF
      simp only [fill, List.map, Act.put, List.setIfInBounds_toArray, List.set_cons_zero, List.set_cons_succ, List.length_cons, List.length_nil, List.drop_succ_cons, List.drop_zero, Nat.reduceAdd]
      rw [e7, e8] at hne
      have hgg : g7 ≠ g8 := fun h => hne (by rw [h])
      have hgg' : g8 ≠ g7 := Ne.symm hgg
      have hB' := bthen hB hb
      have V1 := Var.keep ⟨c0, c1, f0, f1⟩ hb
      have V2 := Var.keep ⟨d0, d1, e0, e1⟩ hb
      have V3 := hZ.keep hb
      have lt1 := World.block_lt_of_cell? W _ c0
      have lt2 := World.block_lt_of_cell? W _ d0
      have lt3 := hZ.lt
      have hw := hB.size
      have H7 := Lib.hid v7; have H8 := Lib.hid v8
      obtain ⟨p0, p1, p2, p3⟩ := v7
      obtain ⟨q0, q1, q2, q3⟩ := v8
      simp only at lt1 lt2
      go_wp2_with fail
      go_meet
      refine ⟨g7, g8, by first | rfl | exact e7, by first | rfl | exact e8, ?_, ?_, ?_, ?_, ?_, ?_⟩
      · exact (((hB'.setCell (by simp; omega) _).setCell (by simp; omega) _).setCell (by simp; omega) _).setCell (by simp; omega) _
      · exact (((V1.far (by omega) _ _).far (by omega) _ _).far (by omega) _ _).far (by omega) _ _
      · exact (((V2.far (by omega) _ _).far (by omega) _ _).far (by omega) _ _).far (by omega) _ _
      · exact (((V3.far (by omega) _ _).far (by omega) _ _).far (by omega) _ _).far (by omega) _ _
      · exact ((H7.out.set _ _).far hgg' _ _).far hgg' _ _
      · exact ((H8.out.far hgg _ _).far hgg _ _).set _ _
  case rest =>
    obtain ⟨g7, g8, rfl, rfl, hB, ⟨c0, c1, f0, f1⟩, ⟨d0, d1, e0, e1⟩, ⟨p0, p1, p2, p3⟩, ⟨s0, s1, s2, s3⟩, ⟨m0, m1, m2, m3⟩⟩ := hcut
    clear f0 f1 e0 e1 p2 p3 s2 s3 m2 m3
    obtain ⟨t1, ht1⟩ : ∃ v, m * z = v := ⟨_, rfl⟩
    obtain ⟨t2, ht2⟩ : ∃ v, y * z = v := ⟨_, rfl⟩
    obtain ⟨t3, ht3⟩ : ∃ v, z * s = v := ⟨_, rfl⟩
    obtain ⟨t4, ht4⟩ : ∃ v, z * x = v := ⟨_, rfl⟩
    obtain ⟨t5, ht5⟩ : ∃ v, z * y = v := ⟨_, rfl⟩
    have k3 := padd_q c d a b y x s ry rx (by rw [← hs, F2.add_comm])
    have k4 := pmul_q c d a b y x m ry rx (by rw [← hm, F2.mul_comm])
    have k5 := pmul_q (enc m.a) (enc m.b) e f m z t1 (rep_enc m) rz ht1
    have k6 := pmul_q c d e f y z t2 ry rz ht2
    have k7 := pmul_q a b (enc t2.a) (enc t2.b) x t2 t1 rx (rep_enc t2) (by rw [← ht2, ← ht1, ← hm, F2.mul_assoc])
    have k8 := pmul_q e f (enc s.a) (enc s.b) z s t3 rz (rep_enc s) ht3
    have k9 := pmul_q e f a b z x t4 rz rx ht4
    have k10 := pmul_q e f c d z y t5 rz ry ht5
    have k11 := padd_q (enc t4.a) (enc t4.b) (enc t5.a) (enc t5.b) t4 t5 t3 (rep_enc t4) (rep_enc t5) (by rw [← ht4, ← ht5, ← ht3, ← hs, F2.mul_add])
    have k13 := psub_q (enc s.a) (enc s.b) c d s y x (rep_enc s) ry (by rw [← hs, F2.add_sub])
    have k14 := padd_q a b 0 0 x 0 x rx rep_zero (F2.add_zero x)
    have k15 := pright_is (enc s.a) (enc s.b) true (by simp [enc_lt])
    have k16 := pright_is (enc m.a) (enc m.b) true (by simp [enc_lt])
    have q1 := rem_toF a ha; have q2 := mod_toF a ha
    have q3 := rem_toF b hb; have q4 := mod_toF b hb
    have ha0 := ha.1; have hb0 := hb.1
    rw [show toF a = x.a by rw [← hx]] at q1 q2
    rw [show toF b = x.b by rw [← hx]] at q3 q4
    clear hs hm ht1 ht2 ht3 ht4 ht5 hx hy hz k1 k2 hc hd he hf ha hb
    by_cases h0 : x = 0
    · have i := pinv_no a b x rx h0
      rw [show enc x.a = 0 by rw [h0]; rfl] at q1 q2
      rw [show enc x.b = 0 by rw [h0]; rfl] at q3 q4
      clear h0 rx ry rz
      go_upto_region 3 with ((first
            | (go_at_call 28; (with_reducible refine (i _).mono ?_))); rintro e w1 ⟨rfl, hb⟩; replace c0 := bkeep hb c0; replace c1 := bkeep hb c1; replace d0 := bkeep hb d0; replace d1 := bkeep hb d1; replace p0 := bkeep hb p0; replace p1 := bkeep hb p1; replace s0 := bkeep hb s0; replace s1 := bkeep hb s1; replace m0 := bkeep hb m0; replace m1 := bkeep hb m1; replace hB := bthen hB hb; clear hb)
      refine wp_gen (fun W => Below w.heap.size w W ∧ W.cell? ⟨w.heap.size, 0, none⟩ = some (.int .u64 a) ∧ W.cell? ⟨w.heap.size, 1, none⟩ = some (.int .u64 b) ∧ W.cell? ⟨w.heap.size + 1, 0, none⟩ = some (.int .u64 c) ∧ W.cell? ⟨w.heap.size + 1, 1, none⟩ = some (.int .u64 d) ∧
          W.cell? ⟨w.heap.size + 1 + 1, 0, none⟩ = some (.int .u64 e) ∧ W.cell? ⟨w.heap.size + 1 + 1, 1, none⟩ = some (.int .u64 f) ∧ W.cell? ⟨g7, 0, none⟩ = some (.int .u64 (enc s.a)) ∧ W.cell? ⟨g7, 1, none⟩ = some (.int .u64 (enc s.b)) ∧
          W.cell? ⟨g8, 0, none⟩ = some (.int .u64 (enc m.a)) ∧ W.cell? ⟨g8, 1, none⟩ = some (.int .u64 (enc m.b)) ∧ W.cell? ⟨w1.heap.size, 0, none⟩ = some (.int .u64 0) ∧ W.cell? ⟨w1.heap.size, 1, none⟩ = some (.int .u64 0))
        ⟨hB.alloc hB.size _, akeep c0 _, akeep c1 _, akeep d0 _, akeep d1 _, akeep p0 _, akeep p1 _, akeep s0 _, akeep s1 _, akeep m0 _, akeep m1 _, (Var.new _ _ _ _).1, (Var.new _ _ _ _).2.1⟩ ?_
      generalize w1.heap.size = g9 at *
      clear hB c0 c1 d0 d1 p0 p1 s0 s1 m0 m1 i
      rintro W2 ⟨hB, c0, c1, d0, d1, p0, p1, s0, s1, m0, m1, n0, n1⟩
      go_upto_region 4 with fail
      simp only [List.append]
      replace c0 := fun q : Regrown => cell_regrown c0 q.d q.os
      replace c1 := fun q : Regrown => cell_regrown c1 q.d q.os
      replace d0 := fun q : Regrown => cell_regrown d0 q.d q.os
      replace d1 := fun q : Regrown => cell_regrown d1 q.d q.os
      replace p0 := fun q : Regrown => cell_regrown p0 q.d q.os
      replace p1 := fun q : Regrown => cell_regrown p1 q.d q.os
      replace s0 := fun q : Regrown => cell_regrown s0 q.d q.os
      replace s1 := fun q : Regrown => cell_regrown s1 q.d q.os
      replace m0 := fun q : Regrown => cell_regrown m0 q.d q.os
      replace m1 := fun q : Regrown => cell_regrown m1 q.d q.os
      replace n0 := fun q : Regrown => cell_regrown n0 q.d q.os
      replace n1 := fun q : Regrown => cell_regrown n1 q.d q.os
      refine wp_region_quiet_below (by kernel_rfl) (by kernel_rfl) ?_
      repeat (go_big_quiet_step (first
        | (go_at_call 9; (with_reducible exact Calls.regrown_of (pawake_any _)))
        | (go_at_call 10; (first | with_reducible exact Calls.regrown_of (k3 _) | with_reducible exact Calls.regrown_of (k11 _) | with_reducible exact Calls.regrown_of (k14 _)))
        | (go_at_call 14; (first | with_reducible exact Calls.regrown_of (k4 _) | with_reducible exact Calls.regrown_of (k5 _) | with_reducible exact Calls.regrown_of (k6 _) | with_reducible exact Calls.regrown_of (k7 _) | with_reducible exact Calls.regrown_of (k8 _) | with_reducible exact Calls.regrown_of (k9 _) | with_reducible exact Calls.regrown_of (k10 _)))
        | (go_at_call 12; (with_reducible exact Calls.regrown_of (k13 _)))
        | (go_at_call 26; (first | with_reducible exact Calls.regrown_of (k15 _) | with_reducible exact Calls.regrown_of (k16 _)))))
      refine wpQuiet_nil ?_
      rintro _ ⟨pq, rfl⟩
      go_wp2
      go_ret
      exact ⟨rfl, bthen hB (below_regrown _ _ _)⟩
    · obtain ⟨n, hn⟩ : ∃ n, qinv x = n := ⟨_, rfl⟩
      have i := pinv_yes a b x n rx h0 hn
      have k12 := pmul_q a b (enc n.a) (enc n.b) x n 1 rx (rep_enc n) (by rw [← hn, mul_qinv x h0])
      simp only [show enc (1 : F2).a = 1 from rfl, show enc (1 : F2).b = 0 from rfl] at k12
      have hz : (enc x.a == 0) = false ∨ enc x.a = 0 ∧ (enc x.b == 0) = false := by
        by_cases h1 : enc x.a = 0
        · right
          refine ⟨h1, ?_⟩
          have : ¬ enc x.b = 0 := fun h2 => h0 (F2.eq (enc_inj.mp (h1.trans enc_zero.symm)) (enc_inj.mp (h2.trans enc_zero.symm)))
          simpa using this
        · left; simpa using h1
      generalize enc x.a = xa at *
      generalize enc x.b = xb at *
      clear h0 rx ry rz hn
      rcases hz with hz | ⟨rfl, hz⟩
      all_goals
        go_upto_region 3 with ((first
              | (go_at_call 28; (with_reducible refine (i _).mono ?_))); rintro e w1 ⟨rfl, hb⟩; replace c0 := bkeep hb c0; replace c1 := bkeep hb c1; replace d0 := bkeep hb d0; replace d1 := bkeep hb d1; replace p0 := bkeep hb p0; replace p1 := bkeep hb p1; replace s0 := bkeep hb s0; replace s1 := bkeep hb s1; replace m0 := bkeep hb m0; replace m1 := bkeep hb m1; replace hB := bthen hB hb; clear hb)
        refine wp_gen (fun W => Below w.heap.size w W ∧ W.cell? ⟨w.heap.size, 0, none⟩ = some (.int .u64 a) ∧ W.cell? ⟨w.heap.size, 1, none⟩ = some (.int .u64 b) ∧ W.cell? ⟨w.heap.size + 1, 0, none⟩ = some (.int .u64 c) ∧ W.cell? ⟨w.heap.size + 1, 1, none⟩ = some (.int .u64 d) ∧
            W.cell? ⟨w.heap.size + 1 + 1, 0, none⟩ = some (.int .u64 e) ∧ W.cell? ⟨w.heap.size + 1 + 1, 1, none⟩ = some (.int .u64 f) ∧ W.cell? ⟨g7, 0, none⟩ = some (.int .u64 (enc s.a)) ∧ W.cell? ⟨g7, 1, none⟩ = some (.int .u64 (enc s.b)) ∧
            W.cell? ⟨g8, 0, none⟩ = some (.int .u64 (enc m.a)) ∧ W.cell? ⟨g8, 1, none⟩ = some (.int .u64 (enc m.b)) ∧ W.cell? ⟨w1.heap.size, 0, none⟩ = some (.int .u64 (enc n.a)) ∧ W.cell? ⟨w1.heap.size, 1, none⟩ = some (.int .u64 (enc n.b)))
          ⟨hB.alloc hB.size _, akeep c0 _, akeep c1 _, akeep d0 _, akeep d1 _, akeep p0 _, akeep p1 _, akeep s0 _, akeep s1 _, akeep m0 _, akeep m1 _, (Var.new _ _ _ _).1, (Var.new _ _ _ _).2.1⟩ ?_
        generalize w1.heap.size = g9 at *
        clear hB c0 c1 d0 d1 p0 p1 s0 s1 m0 m1 i
        rintro W2 ⟨hB, c0, c1, d0, d1, p0, p1, s0, s1, m0, m1, n0, n1⟩
        go_upto_region 4 with fail
        simp only [List.append]
        replace c0 := fun q : Regrown => cell_regrown c0 q.d q.os
        replace c1 := fun q : Regrown => cell_regrown c1 q.d q.os
        replace d0 := fun q : Regrown => cell_regrown d0 q.d q.os
        replace d1 := fun q : Regrown => cell_regrown d1 q.d q.os
        replace p0 := fun q : Regrown => cell_regrown p0 q.d q.os
        replace p1 := fun q : Regrown => cell_regrown p1 q.d q.os
        replace s0 := fun q : Regrown => cell_regrown s0 q.d q.os
        replace s1 := fun q : Regrown => cell_regrown s1 q.d q.os
        replace m0 := fun q : Regrown => cell_regrown m0 q.d q.os
        replace m1 := fun q : Regrown => cell_regrown m1 q.d q.os
        replace n0 := fun q : Regrown => cell_regrown n0 q.d q.os
        replace n1 := fun q : Regrown => cell_regrown n1 q.d q.os
        refine wp_region_quiet_below (by kernel_rfl) (by kernel_rfl) ?_
        repeat (go_big_quiet_step (first
          | (go_at_call 9; (with_reducible exact Calls.regrown_of (pawake_any _)))
          | (go_at_call 10; (first | with_reducible exact Calls.regrown_of (k3 _) | with_reducible exact Calls.regrown_of (k11 _) | with_reducible exact Calls.regrown_of (k14 _)))
          | (go_at_call 14; (first | with_reducible exact Calls.regrown_of (k4 _) | with_reducible exact Calls.regrown_of (k5 _) | with_reducible exact Calls.regrown_of (k6 _) | with_reducible exact Calls.regrown_of (k7 _) | with_reducible exact Calls.regrown_of (k8 _) | with_reducible exact Calls.regrown_of (k9 _) | with_reducible exact Calls.regrown_of (k10 _) | with_reducible exact Calls.regrown_of (k12 _)))
          | (go_at_call 12; (with_reducible exact Calls.regrown_of (k13 _)))
          | (go_at_call 26; (first | with_reducible exact Calls.regrown_of (k15 _) | with_reducible exact Calls.regrown_of (k16 _)))))
        refine wpQuiet_nil ?_
        rintro _ ⟨pq, rfl⟩
        go_wp2
        go_ret
        exact ⟨rfl, bthen hB (below_regrown _ _ _)⟩
end Go.Proofs.Ytkgogfnpkcibeaa
