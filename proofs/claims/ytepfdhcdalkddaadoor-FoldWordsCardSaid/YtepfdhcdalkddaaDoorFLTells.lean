/-
  The walk of FoldTells: it answers true, where the program's calls do what is asked of them. (Written by gen_flaws.py.)
-/
import Derived.Test.YtepfdhcdalkddaaDoorGFold
import Derived.BigQuiet
namespace Go.Proofs.YtepfdhcdalkddaaDoor
open Go Go.RowKit Go.Sort Go.BigFrame
set_option linter.unusedVariables false

set_option maxRecDepth 100000 in
set_option maxHeartbeats 8000000 in
theorem ftells_body (G : World → Prop) (hAk : AskFold G) (aw : ∀ W, G W → Calls Tryd.prog 8 #[] W fun e w' => e = .returned (.bool true) ∧ Below W.heap.size W w') (a0 a1 b0 b1 y0 y1 x0 m f i : Int) (w : World) (hG : G w) (ha : U a0 ∧ U a1) (hb : U b0 ∧ U b1) (hy : U y0 ∧ U y1) (hx : U x0) (hm : I64 m) (hf : I64 f) (hi : I64 i) :
    Calls Tryd.prog 3 #[.agg #[.int .u64 a0, .int .u64 a1, .int .u64 b0, .int .u64 b1, .int .u64 y0, .int .u64 y1], .int .u64 x0, .agg #[.int .i64 m, .int .i64 f, .int .i64 i]] w fun e w' => e = .returned (.bool true) ∧ Below w.heap.size w w' := by
  have HK := Lib.hid (fun (W W' : World) => @AskFold.keep G hAk W W')
  have HG0 := Lib.hid hG
  clear hG
  have ra := rep_raw ha.1 ha.2; have rb := rep_raw hb.1 hb.2; have ry := rep_raw hy.1 hy.2
  clear ha hb hy
  have hal := fun (W : World) (o : Obj) => (Below.refl W.heap.size W).alloc (Nat.le_refl _) o
  go_enter Tryd.func3, Tryd.ntmps3
  go_upto_region 1 with fail
  obtain ⟨g, hg⟩ : ∃ g, w.heap.size = g := ⟨_, rfl⟩
  obtain ⟨g', hg'⟩ : ∃ h, g + 1 = h := ⟨_, rfl⟩
  have HALL : Hid (∀ W : World, ((W.cell? ⟨g, 0, none⟩ = some (.int .u64 a0) ∧ W.cell? ⟨g, 1, none⟩ = some (.int .u64 a1) ∧ W.cell? ⟨g, 2, none⟩ = some (.int .u64 b0) ∧ W.cell? ⟨g, 3, none⟩ = some (.int .u64 b1) ∧ W.cell? ⟨g, 4, none⟩ = some (.int .u64 y0) ∧ W.cell? ⟨g, 5, none⟩ = some (.int .u64 y1) ∧ W.cell? ⟨g', 0, none⟩ = some (.int .i64 m) ∧ W.cell? ⟨g', 1, none⟩ = some (.int .i64 f) ∧ W.cell? ⟨g', 2, none⟩ = some (.int .i64 i)) → (W.cell? ⟨g, 0, none⟩ = some (.int .u64 a0) ∧ W.cell? ⟨g, 1, none⟩ = some (.int .u64 a1) ∧ W.cell? ⟨g, 2, none⟩ = some (.int .u64 b0) ∧ W.cell? ⟨g, 3, none⟩ = some (.int .u64 b1) ∧ W.cell? ⟨g, 4, none⟩ = some (.int .u64 y0) ∧ W.cell? ⟨g, 5, none⟩ = some (.int .u64 y1) ∧ W.cell? ⟨g', 0, none⟩ = some (.int .i64 m) ∧ W.cell? ⟨g', 1, none⟩ = some (.int .i64 f) ∧ W.cell? ⟨g', 2, none⟩ = some (.int .i64 i)))) := Lib.hid fun _ h => h
  refine wp_gen (fun W => Below w.heap.size w W ∧ W.cell? ⟨g, 0, none⟩ = some (.int .u64 a0) ∧ W.cell? ⟨g, 1, none⟩ = some (.int .u64 a1) ∧ W.cell? ⟨g, 2, none⟩ = some (.int .u64 b0) ∧ W.cell? ⟨g, 3, none⟩ = some (.int .u64 b1) ∧ W.cell? ⟨g, 4, none⟩ = some (.int .u64 y0) ∧ W.cell? ⟨g, 5, none⟩ = some (.int .u64 y1) ∧ W.cell? ⟨g', 0, none⟩ = some (.int .i64 m) ∧ W.cell? ⟨g', 1, none⟩ = some (.int .i64 f) ∧ W.cell? ⟨g', 2, none⟩ = some (.int .i64 i)) ⟨((Below.refl _ _).alloc (Nat.le_refl _) _).alloc (by simp) _, by subst hg' hg; simp [go_sem]⟩ ?_
  rintro w0 ⟨hB0, c0, c1, c2, c3, c4, c5, d0, d1, d2⟩
  simp only [hg, hg']
  have HB0 := Lib.hid hB0
  have HG := Lib.hid (HK.out _ _ HG0.out hB0)
  have HB : Hid (Below w0.heap.size w0 w0) := Lib.hid (Below.refl _ _)
  clear hB0 hg hg' HG0 HALL
  have aw := fun W (h : Below w0.heap.size w0 W) => aw W (HK.out _ _ HG.out h)
  by_cases h32 : 32 < m
  · go_wp2_with (go_at_call 8; (with_reducible refine (aw _ HB.out).mono ?_); rintro e w1 ⟨rfl, hb⟩; replace c0 := bkeep hb c0; replace c1 := bkeep hb c1; replace c2 := bkeep hb c2; replace c3 := bkeep hb c3; replace c4 := bkeep hb c4; replace c5 := bkeep hb c5; replace d0 := bkeep hb d0; replace d1 := bkeep hb d1; replace d2 := bkeep hb d2; replace HB := Lib.hid (bthen HB.out hb); clear hb)
    go_ret
    exact ⟨rfl, bthen HB0.out HB.out⟩
  by_cases h100 : 100 < f
  · go_wp2_with (go_at_call 8; (with_reducible refine (aw _ HB.out).mono ?_); rintro e w1 ⟨rfl, hb⟩; replace c0 := bkeep hb c0; replace c1 := bkeep hb c1; replace c2 := bkeep hb c2; replace c3 := bkeep hb c3; replace c4 := bkeep hb c4; replace c5 := bkeep hb c5; replace d0 := bkeep hb d0; replace d1 := bkeep hb d1; replace d2 := bkeep hb d2; replace HB := Lib.hid (bthen HB.out hb); clear hb)
    go_ret
    exact ⟨rfl, bthen HB0.out HB.out⟩
  by_cases h40 : 1099511627776 < i
  · go_wp2_with (go_at_call 8; (with_reducible refine (aw _ HB.out).mono ?_); rintro e w1 ⟨rfl, hb⟩; replace c0 := bkeep hb c0; replace c1 := bkeep hb c1; replace c2 := bkeep hb c2; replace c3 := bkeep hb c3; replace c4 := bkeep hb c4; replace c5 := bkeep hb c5; replace d0 := bkeep hb d0; replace d1 := bkeep hb d1; replace d2 := bkeep hb d2; replace HB := Lib.hid (bthen HB.out hb); clear hb)
    go_ret
    exact ⟨rfl, bthen HB0.out HB.out⟩
  obtain ⟨z, ok, hz⟩ : ∃ z ok, oneRes ⟨toF a0, toF a1⟩ ⟨toF b0, toF b1⟩ ⟨toF y0, toF y1⟩ (toF x0) = (z, ok) := ⟨_, _, rfl⟩
  obtain ⟨sv, hs⟩ : ∃ s, enc (shiftF f) = s := ⟨_, rfl⟩
  obtain ⟨pv, hp⟩ : ∃ p, enc (pointF m f i) = p := ⟨_, rfl⟩
  have k1 := fun W (h : Below w0.heap.size w0 W) => hAk.one a0 a1 b0 b1 y0 y1 x0 _ _ _ z _ ok W ra rb ry hx rfl hz (HK.out _ _ HG.out h)
  have k2 := fun W (h : Below w0.heap.size w0 W) => rfone_is a0 a1 b0 b1 y0 y1 x0 _ _ _ z _ ok W ra rb ry hx rfl hz
  have s1 := fun W (h : Below w0.heap.size w0 W) => hAk.shift f sv W hf hs (HK.out _ _ HG.out h)
  have s2 := fun W (h : Below w0.heap.size w0 W) => rfshift_is f sv hs W
  have p1 := fun W (h : Below w0.heap.size w0 W) => hAk.point m f i pv W hm hf hi hp (HK.out _ _ HG.out h)
  have p2 := fun W (h : Below w0.heap.size w0 W) => rfpoint_is m f i pv hi.2 hp W
  clear hz hs hp ra rb ry
  have HC := Lib.hid (show w0.cell? ⟨g, 0, none⟩ = some (.int .u64 a0) ∧ w0.cell? ⟨g, 1, none⟩ = some (.int .u64 a1) ∧ w0.cell? ⟨g, 2, none⟩ = some (.int .u64 b0) ∧ w0.cell? ⟨g, 3, none⟩ = some (.int .u64 b1) ∧ w0.cell? ⟨g, 4, none⟩ = some (.int .u64 y0) ∧ w0.cell? ⟨g, 5, none⟩ = some (.int .u64 y1) ∧ w0.cell? ⟨g', 0, none⟩ = some (.int .i64 m) ∧ w0.cell? ⟨g', 1, none⟩ = some (.int .i64 f) ∧ w0.cell? ⟨g', 2, none⟩ = some (.int .i64 i) from ⟨c0, c1, c2, c3, c4, c5, d0, d1, d2⟩)
  go_upto_region 4 with (go_at_call 9; (with_reducible refine (k1 _ HB.out).mono ?_); rintro e w1 ⟨rfl, hb⟩; replace c0 := bkeep hb c0; replace c1 := bkeep hb c1; replace c2 := bkeep hb c2; replace c3 := bkeep hb c3; replace c4 := bkeep hb c4; replace c5 := bkeep hb c5; replace d0 := bkeep hb d0; replace d1 := bkeep hb d1; replace d2 := bkeep hb d2; replace HB := Lib.hid (bthen HB.out hb); clear hb)
  obtain ⟨gx, hgx⟩ : ∃ g, w1.heap.size = g := ⟨_, rfl⟩
  refine wp_gen (fun W => Below w0.heap.size w0 W ∧ Duo W gx (.int .u64 (enc z.a)) (.int .u64 (enc z.b))) ⟨bthen HB.out (hal _ _), by rw [← hgx]; simp [Duo, go_sem]⟩ ?_
  clear HB c0 c1 c2 c3 c4 c5 d0 d1 d2 k1
  rintro w2 ⟨hB, hX⟩
  simp only [hgx]
  have HB := Lib.hid hB; have HX := Lib.hid hX
  obtain ⟨c0, c1, c2, c3, c4, c5, d0, d1, d2⟩ := HC.out
  replace c0 := bkeep hB c0
  replace c1 := bkeep hB c1
  replace c2 := bkeep hB c2
  replace c3 := bkeep hB c3
  replace c4 := bkeep hB c4
  replace c5 := bkeep hB c5
  replace d0 := bkeep hB d0
  replace d1 := bkeep hB d1
  replace d2 := bkeep hB d2
  clear hgx hB hX
  go_upto_region 5 with (go_at_call 10; (with_reducible refine (k2 _ HB.out).mono ?_); rintro e w1 ⟨rfl, hb⟩; replace c0 := bkeep hb c0; replace c1 := bkeep hb c1; replace c2 := bkeep hb c2; replace c3 := bkeep hb c3; replace c4 := bkeep hb c4; replace c5 := bkeep hb c5; replace d0 := bkeep hb d0; replace d1 := bkeep hb d1; replace d2 := bkeep hb d2; replace HX := Lib.hid (HX.out.keep hb); replace HB := Lib.hid (bthen HB.out hb); clear hb)
  obtain ⟨gz, hgx⟩ : ∃ g, w1.heap.size = g := ⟨_, rfl⟩
  refine wp_gen (fun W => Below w0.heap.size w0 W ∧ Duo W gx (.int .u64 (enc z.a)) (.int .u64 (enc z.b)) ∧ Duo W gz (.int .u64 (enc z.a)) (.int .u64 (enc z.b))) ⟨bthen HB.out (hal _ _), HX.out.keep (hal _ _), by rw [← hgx]; simp [Duo, go_sem]⟩ ?_
  clear HB c0 c1 c2 c3 c4 c5 d0 d1 d2 k2 HX
  rintro w3 ⟨hB, hX, hZ⟩
  simp only [hgx]
  have HB := Lib.hid hB
  obtain ⟨x0c, x1c, _, _⟩ := hX
  obtain ⟨z0c, z1c, _, _⟩ := hZ
  obtain ⟨c0, c1, c2, c3, c4, c5, d0, d1, d2⟩ := HC.out
  replace c0 := bkeep hB c0
  replace c1 := bkeep hB c1
  replace c2 := bkeep hB c2
  replace c3 := bkeep hB c3
  replace c4 := bkeep hB c4
  replace c5 := bkeep hB c5
  replace d0 := bkeep hB d0
  replace d1 := bkeep hB d1
  replace d2 := bkeep hB d2
  clear hgx hB
  have aw := fun W (h : Below w3.heap.size w3 W) => aw W (bthen HB.out h)
  have s1 := fun W (h : Below w3.heap.size w3 W) => s1 W (bthen HB.out h)
  have s2 := fun W (h : Below w3.heap.size w3 W) => s2 W (bthen HB.out h)
  have p1 := fun W (h : Below w3.heap.size w3 W) => p1 W (bthen HB.out h)
  have p2 := fun W (h : Below w3.heap.size w3 W) => p2 W (bthen HB.out h)
  replace d0 := fun q : Regrown => cell_regrown d0 q.d q.os
  replace d1 := fun q : Regrown => cell_regrown d1 q.d q.os
  replace d2 := fun q : Regrown => cell_regrown d2 q.d q.os
  replace x0c := fun q : Regrown => cell_regrown x0c q.d q.os
  replace x1c := fun q : Regrown => cell_regrown x1c q.d q.os
  replace z0c := fun q : Regrown => cell_regrown z0c q.d q.os
  replace z1c := fun q : Regrown => cell_regrown z1c q.d q.os
  refine wp_region_quiet_below (by kernel_rfl) (by kernel_rfl) ?_
  repeat (first | go_big_quiet_step (first
    | (go_at_call 8; with_reducible exact Calls.regrown_of (aw _ (below_regrown w3 _ _)))
    | (go_at_call 11; with_reducible exact Calls.regrown_of (s1 _ (below_regrown w3 _ _)))
    | (go_at_call 12; with_reducible exact Calls.regrown_of (s2 _ (below_regrown w3 _ _)))
    | (go_at_call 13; with_reducible exact Calls.regrown_of (p1 _ (below_regrown w3 _ _)))
    | (go_at_call 14; with_reducible exact Calls.regrown_of (p2 _ (below_regrown w3 _ _)))) | quiet_step (fail))
  refine wpQuiet_nil ?_
  rintro _ ⟨pq, rfl⟩
  have HBE := Lib.hid (bthen HB.out (below_regrown w3 pq.d pq.os))
  clear c0 c1 c2 c3 c4 c5 d0 d1 d2 x0c x1c z0c z1c HB aw s1 s2 p1 p2
  go_wp2_with fail
  go_ret
  exact ⟨rfl, bthen HB0.out HBE.out⟩
end Go.Proofs.YtepfdhcdalkddaaDoor
