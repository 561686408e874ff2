/-
  The program's round: eight mixes, of a row by value. (Written by gen_bground.py.)
-/
import Derived.Test.YtajjfonodfncmaaDoorBGMix
import Derived.Test.YtajjfonodfncmaaDoorRow
namespace Go.Proofs.YtajjfonodfncmaaDoor
open Go Go.RowKit
set_option linter.unusedVariables false

theorem g32_all (n : Nat) (f : Nat → Int) : (cellsA n (w32 f)).all (·.oneCell') = true := by
  rw [Array.all_eq_true]
  intro i hi
  simp [cellsA]
  rfl
/-- What stands through a round: the words, the block's words, the result's place. -/
def RSt (w : World) (m v : Nat → Int) (W : World) : Prop := Below w.heap.size w W ∧ Arr W w.heap.size 16 (w32 v) ∧ Arr W (w.heap.size + 1) 16 (w32 m) ∧ Arr W (w.heap.size + 2) 16 (fun _ => .int .u32 0)
theorem RSt.start (w : World) (m v : Nat → Int) (t1 t2 t3 : TypeId) (c : Array Value) (hc : c = Array.replicate 16 (.int .u32 0)) : RSt w m v (((w.alloc (.cells (cellsA 16 (w32 v)) t1)).alloc (.cells (cellsA 16 (w32 m)) t2)).alloc (.cells c t3)) := by
  have a1 := Arr.box w 16 (w32 v) t1
  have b1 := (Below.refl w.heap.size w).alloc (Nat.le_refl _) (.cells (cellsA 16 (w32 v)) t1)
  have s1 : (w.alloc (.cells (cellsA 16 (w32 v)) t1)).heap.size = w.heap.size + 1 := by simp
  generalize w.alloc (.cells (cellsA 16 (w32 v)) t1) = w1 at *
  have a2 := Arr.box w1 16 (w32 m) t2
  have s2 : (w1.alloc (.cells (cellsA 16 (w32 m)) t2)).heap.size = w.heap.size + 2 := by simp [s1]
  have b2 := b1.alloc (by omega) (.cells (cellsA 16 (w32 m)) t2)
  replace a1 := a1.alloc (.cells (cellsA 16 (w32 m)) t2)
  generalize w1.alloc (.cells (cellsA 16 (w32 m)) t2) = w2 at *
  have a3 := Arr.zeros w2 16 (.int .u32 0) c t3 hc
  rw [s1] at a2
  rw [s2] at a3
  exact ⟨b2.alloc (by omega) _, a1.alloc _, a2.alloc _, a3⟩
/-- Four words of it are other ones. -/
theorem RSt.mixed {w W : World} {m v v' : Nat → Int} (s : RSt w m v W) (A B C D : Nat) (a b c d : Int) (hA : A < 16) (hB : B < 16) (hC : C < 16) (hD : D < 16)
    (h : ∀ j, (if j = D then Value.int .u32 d else if j = C then Value.int .u32 c else if j = B then Value.int .u32 b else if j = A then Value.int .u32 a else w32 v j) = w32 v' j) :
    RSt w m v' ((((W.setCell ⟨w.heap.size, A, none⟩ (.int .u32 a)).setCell ⟨w.heap.size, B, none⟩ (.int .u32 b)).setCell ⟨w.heap.size, C, none⟩ (.int .u32 c)).setCell ⟨w.heap.size, D, none⟩ (.int .u32 d)) :=
  ⟨(((s.1.setCell (Nat.le_refl _) _).setCell (Nat.le_refl _) _).setCell (Nat.le_refl _) _).setCell (Nat.le_refl _) _, ((((s.2.1.set A _ hA).set B _ hB).set C _ hC).set D _ hD).same fun j _ => h j,
    (((s.2.2.1.far (by omega) _ _).far (by omega) _ _).far (by omega) _ _).far (by omega) _ _, (((s.2.2.2.far (by omega) _ _).far (by omega) _ _).far (by omega) _ _).far (by omega) _ _⟩
def gRound (m v : Nat → Int) : Nat → Int :=
  mixf (mixf (mixf (mixf (mixf (mixf (mixf (mixf v 0 4 8 12 (m 0) (m 1)) 1 5 9 13 (m 2) (m 3)) 2 6 10 14 (m 4) (m 5)) 3 7 11 15 (m 6) (m 7)) 0 5 10 15 (m 8) (m 9)) 1 6 11 12 (m 10) (m 11)) 2 7 8 13 (m 12) (m 13)) 3 4 9 14 (m 14) (m 15)
set_option maxRecDepth 100000 in
set_option maxHeartbeats 8000000 in
theorem ground_is (m v : Nat → Int) (w : World) :
    Calls Tryd.prog 15 #[.agg (cellsA 16 (w32 v)), .agg (cellsA 16 (w32 m))] w fun e w' => e = .returned (.agg (cellsA 16 (w32 (gRound m v)))) ∧ Below w.heap.size w w' := by
  unfold gRound
  obtain ⟨v1, hn1⟩ : ∃ z, mixf v 0 4 8 12 (m 0) (m 1) = z := ⟨_, rfl⟩
  rw [hn1]
  obtain ⟨v2, hn2⟩ : ∃ z, mixf v1 1 5 9 13 (m 2) (m 3) = z := ⟨_, rfl⟩
  rw [hn2]
  obtain ⟨v3, hn3⟩ : ∃ z, mixf v2 2 6 10 14 (m 4) (m 5) = z := ⟨_, rfl⟩
  rw [hn3]
  obtain ⟨v4, hn4⟩ : ∃ z, mixf v3 3 7 11 15 (m 6) (m 7) = z := ⟨_, rfl⟩
  rw [hn4]
  obtain ⟨v5, hn5⟩ : ∃ z, mixf v4 0 5 10 15 (m 8) (m 9) = z := ⟨_, rfl⟩
  rw [hn5]
  obtain ⟨v6, hn6⟩ : ∃ z, mixf v5 1 6 11 12 (m 10) (m 11) = z := ⟨_, rfl⟩
  rw [hn6]
  obtain ⟨v7, hn7⟩ : ∃ z, mixf v6 2 7 8 13 (m 12) (m 13) = z := ⟨_, rfl⟩
  rw [hn7]
  obtain ⟨v8, hn8⟩ : ∃ z, mixf v7 3 4 9 14 (m 14) (m 15) = z := ⟨_, rfl⟩
  rw [hn8]
  go_enter Tryd.func15, Tryd.ntmps15
  go_upto_region 1 with fail
  refine wp_gen (fun W => RSt w m v W) (RSt.start w m v _ _ _ _ (by rfl)) ?_
  rintro W0 hS
  have HS := Lib.hid hS
  obtain ⟨ca, fa⟩ := hS.2.1 0 (by decide)
  obtain ⟨cb, fb⟩ := hS.2.1 4 (by decide)
  obtain ⟨cc, fc⟩ := hS.2.1 8 (by decide)
  obtain ⟨cd, fd⟩ := hS.2.1 12 (by decide)
  obtain ⟨cx, _⟩ := hS.2.2.1 0 (by decide)
  obtain ⟨cy, _⟩ := hS.2.2.1 1 (by decide)
  simp only [w32] at ca cb cc cd cx cy
  clear hS
  obtain ⟨a2, b2, c2, d2, hm⟩ : ∃ a2 b2 c2 d2, mix4 (v 0) (v 4) (v 8) (v 12) (m 0) (m 1) = (a2, b2, c2, d2) := ⟨_, _, _, _, rfl⟩
  have km := gmix_is _ _ _ _ _ _ _ _ _ _ hm
  have hc := mixf_cells v 0 4 8 12 _ _ a2 b2 c2 d2 (by decide) (by decide) (by decide) (by decide) (by decide) (by decide) hm
  rw [hn1] at hc
  clear hm hn1
  have HC := Lib.hid hc
  clear hc
  go_upto_region 2 with (go_at_call 19; (with_reducible refine (km _).mono ?_); rintro e w1 ⟨rfl, rfl⟩)
  refine wp_gen (fun W => RSt w m v1 W) (HS.out.mixed 0 4 8 12 a2 b2 c2 d2 (by decide) (by decide) (by decide) (by decide) HC.out) ?_
  clear HS HC ca cb cc cd cx cy fa fb fc fd km
  rintro W1 hS
  have HS := Lib.hid hS
  obtain ⟨ca, fa⟩ := hS.2.1 1 (by decide)
  obtain ⟨cb, fb⟩ := hS.2.1 5 (by decide)
  obtain ⟨cc, fc⟩ := hS.2.1 9 (by decide)
  obtain ⟨cd, fd⟩ := hS.2.1 13 (by decide)
  obtain ⟨cx, _⟩ := hS.2.2.1 2 (by decide)
  obtain ⟨cy, _⟩ := hS.2.2.1 3 (by decide)
  simp only [w32] at ca cb cc cd cx cy
  clear hS
  obtain ⟨a2, b2, c2, d2, hm⟩ : ∃ a2 b2 c2 d2, mix4 (v1 1) (v1 5) (v1 9) (v1 13) (m 2) (m 3) = (a2, b2, c2, d2) := ⟨_, _, _, _, rfl⟩
  have km := gmix_is _ _ _ _ _ _ _ _ _ _ hm
  have hc := mixf_cells v1 1 5 9 13 _ _ a2 b2 c2 d2 (by decide) (by decide) (by decide) (by decide) (by decide) (by decide) hm
  rw [hn2] at hc
  clear hm hn2
  have HC := Lib.hid hc
  clear hc
  go_upto_region 3 with (go_at_call 19; (with_reducible refine (km _).mono ?_); rintro e w1 ⟨rfl, rfl⟩)
  refine wp_gen (fun W => RSt w m v2 W) (HS.out.mixed 1 5 9 13 a2 b2 c2 d2 (by decide) (by decide) (by decide) (by decide) HC.out) ?_
  clear HS HC ca cb cc cd cx cy fa fb fc fd km
  rintro W2 hS
  have HS := Lib.hid hS
  obtain ⟨ca, fa⟩ := hS.2.1 2 (by decide)
  obtain ⟨cb, fb⟩ := hS.2.1 6 (by decide)
  obtain ⟨cc, fc⟩ := hS.2.1 10 (by decide)
  obtain ⟨cd, fd⟩ := hS.2.1 14 (by decide)
  obtain ⟨cx, _⟩ := hS.2.2.1 4 (by decide)
  obtain ⟨cy, _⟩ := hS.2.2.1 5 (by decide)
  simp only [w32] at ca cb cc cd cx cy
  clear hS
  obtain ⟨a2, b2, c2, d2, hm⟩ : ∃ a2 b2 c2 d2, mix4 (v2 2) (v2 6) (v2 10) (v2 14) (m 4) (m 5) = (a2, b2, c2, d2) := ⟨_, _, _, _, rfl⟩
  have km := gmix_is _ _ _ _ _ _ _ _ _ _ hm
  have hc := mixf_cells v2 2 6 10 14 _ _ a2 b2 c2 d2 (by decide) (by decide) (by decide) (by decide) (by decide) (by decide) hm
  rw [hn3] at hc
  clear hm hn3
  have HC := Lib.hid hc
  clear hc
  go_upto_region 4 with (go_at_call 19; (with_reducible refine (km _).mono ?_); rintro e w1 ⟨rfl, rfl⟩)
  refine wp_gen (fun W => RSt w m v3 W) (HS.out.mixed 2 6 10 14 a2 b2 c2 d2 (by decide) (by decide) (by decide) (by decide) HC.out) ?_
  clear HS HC ca cb cc cd cx cy fa fb fc fd km
  rintro W3 hS
  have HS := Lib.hid hS
  obtain ⟨ca, fa⟩ := hS.2.1 3 (by decide)
  obtain ⟨cb, fb⟩ := hS.2.1 7 (by decide)
  obtain ⟨cc, fc⟩ := hS.2.1 11 (by decide)
  obtain ⟨cd, fd⟩ := hS.2.1 15 (by decide)
  obtain ⟨cx, _⟩ := hS.2.2.1 6 (by decide)
  obtain ⟨cy, _⟩ := hS.2.2.1 7 (by decide)
  simp only [w32] at ca cb cc cd cx cy
  clear hS
  obtain ⟨a2, b2, c2, d2, hm⟩ : ∃ a2 b2 c2 d2, mix4 (v3 3) (v3 7) (v3 11) (v3 15) (m 6) (m 7) = (a2, b2, c2, d2) := ⟨_, _, _, _, rfl⟩
  have km := gmix_is _ _ _ _ _ _ _ _ _ _ hm
  have hc := mixf_cells v3 3 7 11 15 _ _ a2 b2 c2 d2 (by decide) (by decide) (by decide) (by decide) (by decide) (by decide) hm
  rw [hn4] at hc
  clear hm hn4
  have HC := Lib.hid hc
  clear hc
  go_upto_region 5 with (go_at_call 19; (with_reducible refine (km _).mono ?_); rintro e w1 ⟨rfl, rfl⟩)
  refine wp_gen (fun W => RSt w m v4 W) (HS.out.mixed 3 7 11 15 a2 b2 c2 d2 (by decide) (by decide) (by decide) (by decide) HC.out) ?_
  clear HS HC ca cb cc cd cx cy fa fb fc fd km
  rintro W4 hS
  have HS := Lib.hid hS
  obtain ⟨ca, fa⟩ := hS.2.1 0 (by decide)
  obtain ⟨cb, fb⟩ := hS.2.1 5 (by decide)
  obtain ⟨cc, fc⟩ := hS.2.1 10 (by decide)
  obtain ⟨cd, fd⟩ := hS.2.1 15 (by decide)
  obtain ⟨cx, _⟩ := hS.2.2.1 8 (by decide)
  obtain ⟨cy, _⟩ := hS.2.2.1 9 (by decide)
  simp only [w32] at ca cb cc cd cx cy
  clear hS
  obtain ⟨a2, b2, c2, d2, hm⟩ : ∃ a2 b2 c2 d2, mix4 (v4 0) (v4 5) (v4 10) (v4 15) (m 8) (m 9) = (a2, b2, c2, d2) := ⟨_, _, _, _, rfl⟩
  have km := gmix_is _ _ _ _ _ _ _ _ _ _ hm
  have hc := mixf_cells v4 0 5 10 15 _ _ a2 b2 c2 d2 (by decide) (by decide) (by decide) (by decide) (by decide) (by decide) hm
  rw [hn5] at hc
  clear hm hn5
  have HC := Lib.hid hc
  clear hc
  go_upto_region 6 with (go_at_call 19; (with_reducible refine (km _).mono ?_); rintro e w1 ⟨rfl, rfl⟩)
  refine wp_gen (fun W => RSt w m v5 W) (HS.out.mixed 0 5 10 15 a2 b2 c2 d2 (by decide) (by decide) (by decide) (by decide) HC.out) ?_
  clear HS HC ca cb cc cd cx cy fa fb fc fd km
  rintro W5 hS
  have HS := Lib.hid hS
  obtain ⟨ca, fa⟩ := hS.2.1 1 (by decide)
  obtain ⟨cb, fb⟩ := hS.2.1 6 (by decide)
  obtain ⟨cc, fc⟩ := hS.2.1 11 (by decide)
  obtain ⟨cd, fd⟩ := hS.2.1 12 (by decide)
  obtain ⟨cx, _⟩ := hS.2.2.1 10 (by decide)
  obtain ⟨cy, _⟩ := hS.2.2.1 11 (by decide)
  simp only [w32] at ca cb cc cd cx cy
  clear hS
  obtain ⟨a2, b2, c2, d2, hm⟩ : ∃ a2 b2 c2 d2, mix4 (v5 1) (v5 6) (v5 11) (v5 12) (m 10) (m 11) = (a2, b2, c2, d2) := ⟨_, _, _, _, rfl⟩
  have km := gmix_is _ _ _ _ _ _ _ _ _ _ hm
  have hc := mixf_cells v5 1 6 11 12 _ _ a2 b2 c2 d2 (by decide) (by decide) (by decide) (by decide) (by decide) (by decide) hm
  rw [hn6] at hc
  clear hm hn6
  have HC := Lib.hid hc
  clear hc
  go_upto_region 7 with (go_at_call 19; (with_reducible refine (km _).mono ?_); rintro e w1 ⟨rfl, rfl⟩)
  refine wp_gen (fun W => RSt w m v6 W) (HS.out.mixed 1 6 11 12 a2 b2 c2 d2 (by decide) (by decide) (by decide) (by decide) HC.out) ?_
  clear HS HC ca cb cc cd cx cy fa fb fc fd km
  rintro W6 hS
  have HS := Lib.hid hS
  obtain ⟨ca, fa⟩ := hS.2.1 2 (by decide)
  obtain ⟨cb, fb⟩ := hS.2.1 7 (by decide)
  obtain ⟨cc, fc⟩ := hS.2.1 8 (by decide)
  obtain ⟨cd, fd⟩ := hS.2.1 13 (by decide)
  obtain ⟨cx, _⟩ := hS.2.2.1 12 (by decide)
  obtain ⟨cy, _⟩ := hS.2.2.1 13 (by decide)
  simp only [w32] at ca cb cc cd cx cy
  clear hS
  obtain ⟨a2, b2, c2, d2, hm⟩ : ∃ a2 b2 c2 d2, mix4 (v6 2) (v6 7) (v6 8) (v6 13) (m 12) (m 13) = (a2, b2, c2, d2) := ⟨_, _, _, _, rfl⟩
  have km := gmix_is _ _ _ _ _ _ _ _ _ _ hm
  have hc := mixf_cells v6 2 7 8 13 _ _ a2 b2 c2 d2 (by decide) (by decide) (by decide) (by decide) (by decide) (by decide) hm
  rw [hn7] at hc
  clear hm hn7
  have HC := Lib.hid hc
  clear hc
  go_upto_region 8 with (go_at_call 19; (with_reducible refine (km _).mono ?_); rintro e w1 ⟨rfl, rfl⟩)
  refine wp_gen (fun W => RSt w m v7 W) (HS.out.mixed 2 7 8 13 a2 b2 c2 d2 (by decide) (by decide) (by decide) (by decide) HC.out) ?_
  clear HS HC ca cb cc cd cx cy fa fb fc fd km
  rintro W7 hS
  have HS := Lib.hid hS
  obtain ⟨ca, fa⟩ := hS.2.1 3 (by decide)
  obtain ⟨cb, fb⟩ := hS.2.1 4 (by decide)
  obtain ⟨cc, fc⟩ := hS.2.1 9 (by decide)
  obtain ⟨cd, fd⟩ := hS.2.1 14 (by decide)
  obtain ⟨cx, _⟩ := hS.2.2.1 14 (by decide)
  obtain ⟨cy, _⟩ := hS.2.2.1 15 (by decide)
  simp only [w32] at ca cb cc cd cx cy
  clear hS
  obtain ⟨a2, b2, c2, d2, hm⟩ : ∃ a2 b2 c2 d2, mix4 (v7 3) (v7 4) (v7 9) (v7 14) (m 14) (m 15) = (a2, b2, c2, d2) := ⟨_, _, _, _, rfl⟩
  have km := gmix_is _ _ _ _ _ _ _ _ _ _ hm
  have hc := mixf_cells v7 3 4 9 14 _ _ a2 b2 c2 d2 (by decide) (by decide) (by decide) (by decide) (by decide) (by decide) hm
  rw [hn8] at hc
  clear hm hn8
  have HC := Lib.hid hc
  clear hc
  go_upto_region 9 with (go_at_call 19; (with_reducible refine (km _).mono ?_); rintro e w1 ⟨rfl, rfl⟩)
  refine wp_gen (fun W => RSt w m v8 W) (HS.out.mixed 3 4 9 14 a2 b2 c2 d2 (by decide) (by decide) (by decide) (by decide) HC.out) ?_
  clear HS HC ca cb cc cd cx cy fa fb fc fd km
  rintro W8 hS
  have HP := Lib.hid hS.2.1; have HR := Lib.hid hS.2.2.2; have HB := Lib.hid hS.1
  clear hS
  go_wp2_with (first
    | refine wpList_loadA rfl 43 26 _ rfl w.heap.size 16 (w32 v8) rfl HP.out (by kernel_rfl) (by kernel_rfl) ?_
    | refine wpList_storeA rfl 43 _ _ rfl rfl (w.heap.size + 2) 16 _ _ rfl rfl HR.out (cellsA_size _ _) (by kernel_rfl) (g32_all _ _) ?_)
  have ld := run_loadVarA (P := Tryd.prog) (HR.out.stored (w32 v8)) 43 26 (by kernel_rfl) (by kernel_rfl)
  exact bodyPost_ret (v := .agg (cellsA 16 (w32 v8))) (results_cellA rfl rfl ld) rfl ⟨rfl, belowCells HB.out _ (by omega) _ _⟩
end Go.Proofs.YtajjfonodfncmaaDoor
