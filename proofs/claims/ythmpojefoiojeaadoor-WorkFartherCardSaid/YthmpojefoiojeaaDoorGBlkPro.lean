/-
  BGMix: The program's RotateLeft32, down, mix: what they come to.
  BGRound: The program's round: eight mixes, of a row by value. (Written by gen_bground.py.)
  BGWords: The program's words (of a block), ordered (of a round): rows by value.
  BGPress: The program's Press. (Written by gen_bgpress.py.)
  BGSumM: A sum under way: its 74 cells, what they hold behind so many bytes of a text. Plain; no function of the program is named.
  BGSum: The program's write and end, of a sum under way. (Written by gen_bgsum.py.)
  BGEnd: The program's end, of a sum under way. (Written by gen_bgend.py.)
  BGSumAll: The program's Sum.
-/
import Derived.Test.YthmpojefoiojeaaDoorGBlk
import Derived.Test.YthmpojefoiojeaaDoorGNum
import Derived.IntWalk
import Derived.Test.YthmpojefoiojeaaDoorGRow
import Derived.BigRegion
import Derived.Test.YthmpojefoiojeaaDoorBAsk
import Derived.Great.BuildSlice
namespace Go.Proofs.YthmpojefoiojeaaDoor
open Go Go.RowKit
set_option linter.unusedVariables false

theorem rotl_is (x : Int) (n : Nat) (hn0 : 1 ≤ n) (hn : n ≤ 31) (hb : bits .and .u64 (IntKind.u64.wrap (-(n : Int))) 31 = ((32 - n : Nat) : Int)) (w : World) :
    Calls Tryd.prog 39 #[.int .u32 x, .int .i64 (-(n : Int))] w fun e w' => e = .returned (.int .u32 (rot32 x n)) ∧ w = w' := by
  have h1 : IntKind.u64.wrap (32 - ((32 - n : Nat) : Int)) = (n : Int) := by rw [IntKind.wrap_u64]; omega
  have h2 := rot_left x n (by omega)
  rw [← h2]
  generalize hm : 32 - n = m at *
  have hm1 : m ≤ 31 := by omega
  clear hm h2
  go_enter Tryd.func39, Tryd.ntmps39
  go_wp2
  go_ret
  exact ⟨rfl, rfl⟩
theorem and_7 : bits .and .u64 (IntKind.u64.wrap (-((7 : Nat) : Int))) 31 = ((32 - 7 : Nat) : Int) := by decide +kernel
theorem and_8 : bits .and .u64 (IntKind.u64.wrap (-((8 : Nat) : Int))) 31 = ((32 - 8 : Nat) : Int) := by decide +kernel
theorem and_12 : bits .and .u64 (IntKind.u64.wrap (-((12 : Nat) : Int))) 31 = ((32 - 12 : Nat) : Int) := by decide +kernel
theorem and_16 : bits .and .u64 (IntKind.u64.wrap (-((16 : Nat) : Int))) 31 = ((32 - 16 : Nat) : Int) := by decide +kernel
theorem down_is (x : Int) (n : Nat) (hn0 : 1 ≤ n) (hn : n ≤ 31) (hb : bits .and .u64 (IntKind.u64.wrap (-(n : Int))) 31 = ((32 - n : Nat) : Int)) (w : World) :
    Calls Tryd.prog 38 #[.int .u32 x, .int .i64 n] w fun e w' => e = .returned (.int .u32 (rot32 x n)) ∧ w = w' := by
  have h1 : IntKind.i64.wrap (-(n : Int)) = -(n : Int) := IntWalk.i64_in _ (by omega)
  have k := rotl_is x n hn0 hn hb
  clear hb
  go_enter Tryd.func38, Tryd.ntmps38
  go_wp2_with (go_at_call 39; (with_reducible refine (k _).mono ?_); rintro e w1 ⟨rfl, rfl⟩)
  go_ret
  exact ⟨rfl, rfl⟩
/-- Four words mixed with two. -/
def mix4 (a b c d x y : Int) : Int × Int × Int × Int :=
  let a1 := add32 (add32 a b) x
  let d1 := rot32 (xor32 d a1) 16
  let c1 := add32 c d1
  let b1 := rot32 (xor32 b c1) 12
  let a2 := add32 (add32 a1 b1) y
  let d2 := rot32 (xor32 d1 a2) 8
  let c2 := add32 c1 d2
  let b2 := rot32 (xor32 b1 c2) 7
  (a2, b2, c2, d2)
theorem results_four {fn : Func} {t u v x : Tmp} (h : fn.results = #[.tmp t, .tmp u, .tmp v, .tmp x]) (tmps : Array Value) (P : Program) (w : World) :
    (results fn tmps).run P w = .ok (.tuple #[tmps.getD t undef, tmps.getD u undef, tmps.getD v undef, tmps.getD x undef]) w := by
  simp [results, h]
theorem gmix_is (a b c d x y a2 b2 c2 d2 : Int) (h : mix4 a b c d x y = (a2, b2, c2, d2)) (w : World) :
    Calls Tryd.prog 37 #[.int .u32 a, .int .u32 b, .int .u32 c, .int .u32 d, .int .u32 x, .int .u32 y] w fun e w' => e = .returned (.tuple #[.int .u32 a2, .int .u32 b2, .int .u32 c2, .int .u32 d2]) ∧ w = w' := by
  unfold mix4 at h
  simp only [Prod.mk.injEq] at h
  obtain ⟨ha2, hb2, hc2, hd2⟩ := h
  obtain ⟨a1, ha1⟩ : ∃ z, add32 (add32 a b) x = z := ⟨_, rfl⟩
  rw [ha1] at ha2 hb2 hc2 hd2
  obtain ⟨d1, hd1⟩ : ∃ z, rot32 (xor32 d a1) 16 = z := ⟨_, rfl⟩
  rw [hd1] at ha2 hb2 hc2 hd2
  obtain ⟨c1, hc1⟩ : ∃ z, add32 c d1 = z := ⟨_, rfl⟩
  rw [hc1] at ha2 hb2 hc2 hd2
  obtain ⟨b1, hb1⟩ : ∃ z, rot32 (xor32 b c1) 12 = z := ⟨_, rfl⟩
  rw [hb1] at ha2 hb2 hc2 hd2
  rw [ha2] at hb2 hc2 hd2
  rw [hd2] at hb2 hc2
  rw [hc2] at hb2
  have k1 := down_is (xor32 d a1) 16 (by decide) (by decide) and_16
  rw [show ((16 : Nat) : Int) = 16 from rfl] at k1
  rw [hd1] at k1
  have k2 := down_is (xor32 b c1) 12 (by decide) (by decide) and_12
  rw [show ((12 : Nat) : Int) = 12 from rfl] at k2
  rw [hb1] at k2
  have k3 := down_is (xor32 d1 a2) 8 (by decide) (by decide) and_8
  rw [show ((8 : Nat) : Int) = 8 from rfl] at k3
  rw [hd2] at k3
  have k4 := down_is (xor32 b1 c2) 7 (by decide) (by decide) and_7
  rw [show ((7 : Nat) : Int) = 7 from rfl] at k4
  rw [hb2] at k4
  have e1 : IntKind.u32.wrap (a + IntKind.u32.wrap (b + x)) = a1 := by rw [add32_right, ha1]
  have e2 : IntKind.u32.wrap (c + d1) = c1 := hc1
  have e3 : IntKind.u32.wrap (a1 + IntKind.u32.wrap (b1 + y)) = a2 := by rw [add32_right, ha2]
  have e4 : IntKind.u32.wrap (c1 + d2) = c2 := hc2
  clear ha1 ha2 hb1 hb2 hc1 hc2 hd1 hd2
  simp only [IntKind.wrap_u32] at e1 e2 e3 e4
  unfold xor32 at k1 k2 k3 k4
  go_enter Tryd.func37, Tryd.ntmps37
  go_upto_region 2 with fail
  simp only [e1]
  go_upto_region 3 with (go_at_call 38; (with_reducible refine (k1 _).mono ?_); rintro e w1 ⟨rfl, rfl⟩)
  go_upto_region 4 with fail
  simp only [e2]
  go_upto_region 5 with (go_at_call 38; (with_reducible refine (k2 _).mono ?_); rintro e w1 ⟨rfl, rfl⟩)
  go_upto_region 6 with fail
  simp only [e3]
  go_upto_region 7 with (go_at_call 38; (with_reducible refine (k3 _).mono ?_); rintro e w1 ⟨rfl, rfl⟩)
  go_upto_region 8 with fail
  simp only [e4]
  go_wp2_with (go_at_call 38; (with_reducible refine (k4 _).mono ?_); rintro e w1 ⟨rfl, rfl⟩)
  (try simp only [Exit.inBlock, Exit.then])
  exact bodyPost_ret (results_four rfl _ _ _) rfl ⟨rfl, rfl⟩
/-- What a mix leaves, cell by cell. -/
theorem mixf_cells (v : Nat → Int) (A B C D : Nat) (x y a2 b2 c2 d2 : Int) (hAB : A ≠ B) (hAC : A ≠ C) (hAD : A ≠ D) (hBC : B ≠ C) (hBD : B ≠ D) (hCD : C ≠ D) (h : mix4 (v A) (v B) (v C) (v D) x y = (a2, b2, c2, d2)) :
    ∀ j, (if j = D then Value.int .u32 d2 else if j = C then Value.int .u32 c2 else if j = B then Value.int .u32 b2 else if j = A then Value.int .u32 a2 else w32 v j) = w32 (mixf v A B C D x y) j := by
  intro j
  unfold mix4 at h
  simp only [Prod.mk.injEq] at h
  obtain ⟨rfl, rfl, rfl, rfl⟩ := h
  have hBA := hAB.symm; have hCA := hAC.symm; have hDA := hAD.symm; have hCB := hBC.symm; have hDB := hBD.symm; have hDC := hCD.symm
  simp only [w32, mixf, mix1, mix2, mix3, upd, if_true, if_neg hAB, if_neg hAC, if_neg hAD, if_neg hBC, if_neg hBD, if_neg hCD, if_neg hBA, if_neg hCA, if_neg hDA, if_neg hCB, if_neg hDB, if_neg hDC]
  by_cases h1 : j = D
  · subst h1; simp only [if_true, if_neg hDA, if_neg hDB, if_neg hDC]
  by_cases h2 : j = C
  · subst h2; simp only [if_true, if_neg hCA, if_neg hCB, if_neg hCD]
  by_cases h3 : j = B
  · subst h3; simp only [if_true, if_neg hBA, if_neg hBC, if_neg hBD]
  by_cases h4 : j = A
  · subst h4; simp only [if_true, if_neg hAB, if_neg hAC, if_neg hAD]
  simp only [if_neg h1, if_neg h2, if_neg h3, if_neg h4]
end Go.Proofs.YthmpojefoiojeaaDoor
namespace Go.Proofs.YthmpojefoiojeaaDoor
open Go Go.RowKit
set_option linter.unusedVariables false

theorem g32_all (n : Nat) (f : Nat → Int) : (cellsA n (w32 f)).all (·.oneCell') = true := by
  rw [Array.all_eq_true]
  intro i hi
  simp [cellsA]
  rfl
/-- What stands through a round: the words, the block's words, the result's place. -/
def RSt (w : World) (m v : Nat → Int) (W : World) : Prop := Below w.heap.size w W ∧ Arr W w.heap.size 16 (w32 v) ∧ Arr W (w.heap.size + 1) 16 (w32 m) ∧ Arr W (w.heap.size + 2) 16 (fun _ => .int .u32 0)
theorem RSt.start (w : World) (m v : Nat → Int) (t1 t2 t3 : TypeId) (c : Array Value) (hc : c = Array.replicate 16 (.int .u32 0)) : RSt w m v (((w.alloc (.cells (cellsA 16 (w32 v)) t1)).alloc (.cells (cellsA 16 (w32 m)) t2)).alloc (.cells c t3)) := by
  have a1 := Arr.box w 16 (w32 v) t1
  have b1 := (Below.refl w.heap.size w).alloc (Nat.le_refl _) (.cells (cellsA 16 (w32 v)) t1)
  have s1 : (w.alloc (.cells (cellsA 16 (w32 v)) t1)).heap.size = w.heap.size + 1 := by simp
  generalize w.alloc (.cells (cellsA 16 (w32 v)) t1) = w1 at *
  have a2 := Arr.box w1 16 (w32 m) t2
  have s2 : (w1.alloc (.cells (cellsA 16 (w32 m)) t2)).heap.size = w.heap.size + 2 := by simp [s1]
  have b2 := b1.alloc (by omega) (.cells (cellsA 16 (w32 m)) t2)
  replace a1 := a1.alloc (.cells (cellsA 16 (w32 m)) t2)
  generalize w1.alloc (.cells (cellsA 16 (w32 m)) t2) = w2 at *
  have a3 := Arr.zeros w2 16 (.int .u32 0) c t3 hc
  rw [s1] at a2
  rw [s2] at a3
  exact ⟨b2.alloc (by omega) _, a1.alloc _, a2.alloc _, a3⟩
/-- Four words of it are other ones. -/
theorem RSt.mixed {w W : World} {m v v' : Nat → Int} (s : RSt w m v W) (A B C D : Nat) (a b c d : Int) (hA : A < 16) (hB : B < 16) (hC : C < 16) (hD : D < 16)
    (h : ∀ j, (if j = D then Value.int .u32 d else if j = C then Value.int .u32 c else if j = B then Value.int .u32 b else if j = A then Value.int .u32 a else w32 v j) = w32 v' j) :
    RSt w m v' ((((W.setCell ⟨w.heap.size, A, none⟩ (.int .u32 a)).setCell ⟨w.heap.size, B, none⟩ (.int .u32 b)).setCell ⟨w.heap.size, C, none⟩ (.int .u32 c)).setCell ⟨w.heap.size, D, none⟩ (.int .u32 d)) :=
  ⟨(((s.1.setCell (Nat.le_refl _) _).setCell (Nat.le_refl _) _).setCell (Nat.le_refl _) _).setCell (Nat.le_refl _) _, ((((s.2.1.set A _ hA).set B _ hB).set C _ hC).set D _ hD).same fun j _ => h j,
    (((s.2.2.1.far (by omega) _ _).far (by omega) _ _).far (by omega) _ _).far (by omega) _ _, (((s.2.2.2.far (by omega) _ _).far (by omega) _ _).far (by omega) _ _).far (by omega) _ _⟩
def gRound (m v : Nat → Int) : Nat → Int :=
  mixf (mixf (mixf (mixf (mixf (mixf (mixf (mixf v 0 4 8 12 (m 0) (m 1)) 1 5 9 13 (m 2) (m 3)) 2 6 10 14 (m 4) (m 5)) 3 7 11 15 (m 6) (m 7)) 0 5 10 15 (m 8) (m 9)) 1 6 11 12 (m 10) (m 11)) 2 7 8 13 (m 12) (m 13)) 3 4 9 14 (m 14) (m 15)
set_option maxRecDepth 100000 in
set_option maxHeartbeats 8000000 in
theorem ground_is (m v : Nat → Int) (w : World) :
    Calls Tryd.prog 34 #[.agg (cellsA 16 (w32 v)), .agg (cellsA 16 (w32 m))] w fun e w' => e = .returned (.agg (cellsA 16 (w32 (gRound m v)))) ∧ Below w.heap.size w w' := by
  unfold gRound
  obtain ⟨v1, hn1⟩ : ∃ z, mixf v 0 4 8 12 (m 0) (m 1) = z := ⟨_, rfl⟩
  rw [hn1]
  obtain ⟨v2, hn2⟩ : ∃ z, mixf v1 1 5 9 13 (m 2) (m 3) = z := ⟨_, rfl⟩
  rw [hn2]
  obtain ⟨v3, hn3⟩ : ∃ z, mixf v2 2 6 10 14 (m 4) (m 5) = z := ⟨_, rfl⟩
  rw [hn3]
  obtain ⟨v4, hn4⟩ : ∃ z, mixf v3 3 7 11 15 (m 6) (m 7) = z := ⟨_, rfl⟩
  rw [hn4]
  obtain ⟨v5, hn5⟩ : ∃ z, mixf v4 0 5 10 15 (m 8) (m 9) = z := ⟨_, rfl⟩
  rw [hn5]
  obtain ⟨v6, hn6⟩ : ∃ z, mixf v5 1 6 11 12 (m 10) (m 11) = z := ⟨_, rfl⟩
  rw [hn6]
  obtain ⟨v7, hn7⟩ : ∃ z, mixf v6 2 7 8 13 (m 12) (m 13) = z := ⟨_, rfl⟩
  rw [hn7]
  obtain ⟨v8, hn8⟩ : ∃ z, mixf v7 3 4 9 14 (m 14) (m 15) = z := ⟨_, rfl⟩
  rw [hn8]
  go_enter Tryd.func34, Tryd.ntmps34
  go_upto_region 1 with fail
  refine wp_gen (fun W => RSt w m v W) (RSt.start w m v _ _ _ _ (by rfl)) ?_
  rintro W0 hS
  have HS := Lib.hid hS
  obtain ⟨ca, fa⟩ := hS.2.1 0 (by decide)
  obtain ⟨cb, fb⟩ := hS.2.1 4 (by decide)
  obtain ⟨cc, fc⟩ := hS.2.1 8 (by decide)
  obtain ⟨cd, fd⟩ := hS.2.1 12 (by decide)
  obtain ⟨cx, _⟩ := hS.2.2.1 0 (by decide)
  obtain ⟨cy, _⟩ := hS.2.2.1 1 (by decide)
  simp only [w32] at ca cb cc cd cx cy
  clear hS
  obtain ⟨a2, b2, c2, d2, hm⟩ : ∃ a2 b2 c2 d2, mix4 (v 0) (v 4) (v 8) (v 12) (m 0) (m 1) = (a2, b2, c2, d2) := ⟨_, _, _, _, rfl⟩
  have km := gmix_is _ _ _ _ _ _ _ _ _ _ hm
  have hc := mixf_cells v 0 4 8 12 _ _ a2 b2 c2 d2 (by decide) (by decide) (by decide) (by decide) (by decide) (by decide) hm
  rw [hn1] at hc
  clear hm hn1
  have HC := Lib.hid hc
  clear hc
  go_upto_region 2 with (go_at_call 37; (with_reducible refine (km _).mono ?_); rintro e w1 ⟨rfl, rfl⟩)
  refine wp_gen (fun W => RSt w m v1 W) (HS.out.mixed 0 4 8 12 a2 b2 c2 d2 (by decide) (by decide) (by decide) (by decide) HC.out) ?_
  clear HS HC ca cb cc cd cx cy fa fb fc fd km
  rintro W1 hS
  have HS := Lib.hid hS
  obtain ⟨ca, fa⟩ := hS.2.1 1 (by decide)
  obtain ⟨cb, fb⟩ := hS.2.1 5 (by decide)
  obtain ⟨cc, fc⟩ := hS.2.1 9 (by decide)
  obtain ⟨cd, fd⟩ := hS.2.1 13 (by decide)
  obtain ⟨cx, _⟩ := hS.2.2.1 2 (by decide)
  obtain ⟨cy, _⟩ := hS.2.2.1 3 (by decide)
  simp only [w32] at ca cb cc cd cx cy
  clear hS
  obtain ⟨a2, b2, c2, d2, hm⟩ : ∃ a2 b2 c2 d2, mix4 (v1 1) (v1 5) (v1 9) (v1 13) (m 2) (m 3) = (a2, b2, c2, d2) := ⟨_, _, _, _, rfl⟩
  have km := gmix_is _ _ _ _ _ _ _ _ _ _ hm
  have hc := mixf_cells v1 1 5 9 13 _ _ a2 b2 c2 d2 (by decide) (by decide) (by decide) (by decide) (by decide) (by decide) hm
  rw [hn2] at hc
  clear hm hn2
  have HC := Lib.hid hc
  clear hc
  go_upto_region 3 with (go_at_call 37; (with_reducible refine (km _).mono ?_); rintro e w1 ⟨rfl, rfl⟩)
  refine wp_gen (fun W => RSt w m v2 W) (HS.out.mixed 1 5 9 13 a2 b2 c2 d2 (by decide) (by decide) (by decide) (by decide) HC.out) ?_
  clear HS HC ca cb cc cd cx cy fa fb fc fd km
  rintro W2 hS
  have HS := Lib.hid hS
  obtain ⟨ca, fa⟩ := hS.2.1 2 (by decide)
  obtain ⟨cb, fb⟩ := hS.2.1 6 (by decide)
  obtain ⟨cc, fc⟩ := hS.2.1 10 (by decide)
  obtain ⟨cd, fd⟩ := hS.2.1 14 (by decide)
  obtain ⟨cx, _⟩ := hS.2.2.1 4 (by decide)
  obtain ⟨cy, _⟩ := hS.2.2.1 5 (by decide)
  simp only [w32] at ca cb cc cd cx cy
  clear hS
  obtain ⟨a2, b2, c2, d2, hm⟩ : ∃ a2 b2 c2 d2, mix4 (v2 2) (v2 6) (v2 10) (v2 14) (m 4) (m 5) = (a2, b2, c2, d2) := ⟨_, _, _, _, rfl⟩
  have km := gmix_is _ _ _ _ _ _ _ _ _ _ hm
  have hc := mixf_cells v2 2 6 10 14 _ _ a2 b2 c2 d2 (by decide) (by decide) (by decide) (by decide) (by decide) (by decide) hm
  rw [hn3] at hc
  clear hm hn3
  have HC := Lib.hid hc
  clear hc
  go_upto_region 4 with (go_at_call 37; (with_reducible refine (km _).mono ?_); rintro e w1 ⟨rfl, rfl⟩)
  refine wp_gen (fun W => RSt w m v3 W) (HS.out.mixed 2 6 10 14 a2 b2 c2 d2 (by decide) (by decide) (by decide) (by decide) HC.out) ?_
  clear HS HC ca cb cc cd cx cy fa fb fc fd km
  rintro W3 hS
  have HS := Lib.hid hS
  obtain ⟨ca, fa⟩ := hS.2.1 3 (by decide)
  obtain ⟨cb, fb⟩ := hS.2.1 7 (by decide)
  obtain ⟨cc, fc⟩ := hS.2.1 11 (by decide)
  obtain ⟨cd, fd⟩ := hS.2.1 15 (by decide)
  obtain ⟨cx, _⟩ := hS.2.2.1 6 (by decide)
  obtain ⟨cy, _⟩ := hS.2.2.1 7 (by decide)
  simp only [w32] at ca cb cc cd cx cy
  clear hS
  obtain ⟨a2, b2, c2, d2, hm⟩ : ∃ a2 b2 c2 d2, mix4 (v3 3) (v3 7) (v3 11) (v3 15) (m 6) (m 7) = (a2, b2, c2, d2) := ⟨_, _, _, _, rfl⟩
  have km := gmix_is _ _ _ _ _ _ _ _ _ _ hm
  have hc := mixf_cells v3 3 7 11 15 _ _ a2 b2 c2 d2 (by decide) (by decide) (by decide) (by decide) (by decide) (by decide) hm
  rw [hn4] at hc
  clear hm hn4
  have HC := Lib.hid hc
  clear hc
  go_upto_region 5 with (go_at_call 37; (with_reducible refine (km _).mono ?_); rintro e w1 ⟨rfl, rfl⟩)
  refine wp_gen (fun W => RSt w m v4 W) (HS.out.mixed 3 7 11 15 a2 b2 c2 d2 (by decide) (by decide) (by decide) (by decide) HC.out) ?_
  clear HS HC ca cb cc cd cx cy fa fb fc fd km
  rintro W4 hS
  have HS := Lib.hid hS
  obtain ⟨ca, fa⟩ := hS.2.1 0 (by decide)
  obtain ⟨cb, fb⟩ := hS.2.1 5 (by decide)
  obtain ⟨cc, fc⟩ := hS.2.1 10 (by decide)
  obtain ⟨cd, fd⟩ := hS.2.1 15 (by decide)
  obtain ⟨cx, _⟩ := hS.2.2.1 8 (by decide)
  obtain ⟨cy, _⟩ := hS.2.2.1 9 (by decide)
  simp only [w32] at ca cb cc cd cx cy
  clear hS
  obtain ⟨a2, b2, c2, d2, hm⟩ : ∃ a2 b2 c2 d2, mix4 (v4 0) (v4 5) (v4 10) (v4 15) (m 8) (m 9) = (a2, b2, c2, d2) := ⟨_, _, _, _, rfl⟩
  have km := gmix_is _ _ _ _ _ _ _ _ _ _ hm
  have hc := mixf_cells v4 0 5 10 15 _ _ a2 b2 c2 d2 (by decide) (by decide) (by decide) (by decide) (by decide) (by decide) hm
  rw [hn5] at hc
  clear hm hn5
  have HC := Lib.hid hc
  clear hc
  go_upto_region 6 with (go_at_call 37; (with_reducible refine (km _).mono ?_); rintro e w1 ⟨rfl, rfl⟩)
  refine wp_gen (fun W => RSt w m v5 W) (HS.out.mixed 0 5 10 15 a2 b2 c2 d2 (by decide) (by decide) (by decide) (by decide) HC.out) ?_
  clear HS HC ca cb cc cd cx cy fa fb fc fd km
  rintro W5 hS
  have HS := Lib.hid hS
  obtain ⟨ca, fa⟩ := hS.2.1 1 (by decide)
  obtain ⟨cb, fb⟩ := hS.2.1 6 (by decide)
  obtain ⟨cc, fc⟩ := hS.2.1 11 (by decide)
  obtain ⟨cd, fd⟩ := hS.2.1 12 (by decide)
  obtain ⟨cx, _⟩ := hS.2.2.1 10 (by decide)
  obtain ⟨cy, _⟩ := hS.2.2.1 11 (by decide)
  simp only [w32] at ca cb cc cd cx cy
  clear hS
  obtain ⟨a2, b2, c2, d2, hm⟩ : ∃ a2 b2 c2 d2, mix4 (v5 1) (v5 6) (v5 11) (v5 12) (m 10) (m 11) = (a2, b2, c2, d2) := ⟨_, _, _, _, rfl⟩
  have km := gmix_is _ _ _ _ _ _ _ _ _ _ hm
  have hc := mixf_cells v5 1 6 11 12 _ _ a2 b2 c2 d2 (by decide) (by decide) (by decide) (by decide) (by decide) (by decide) hm
  rw [hn6] at hc
  clear hm hn6
  have HC := Lib.hid hc
  clear hc
  go_upto_region 7 with (go_at_call 37; (with_reducible refine (km _).mono ?_); rintro e w1 ⟨rfl, rfl⟩)
  refine wp_gen (fun W => RSt w m v6 W) (HS.out.mixed 1 6 11 12 a2 b2 c2 d2 (by decide) (by decide) (by decide) (by decide) HC.out) ?_
  clear HS HC ca cb cc cd cx cy fa fb fc fd km
  rintro W6 hS
  have HS := Lib.hid hS
  obtain ⟨ca, fa⟩ := hS.2.1 2 (by decide)
  obtain ⟨cb, fb⟩ := hS.2.1 7 (by decide)
  obtain ⟨cc, fc⟩ := hS.2.1 8 (by decide)
  obtain ⟨cd, fd⟩ := hS.2.1 13 (by decide)
  obtain ⟨cx, _⟩ := hS.2.2.1 12 (by decide)
  obtain ⟨cy, _⟩ := hS.2.2.1 13 (by decide)
  simp only [w32] at ca cb cc cd cx cy
  clear hS
  obtain ⟨a2, b2, c2, d2, hm⟩ : ∃ a2 b2 c2 d2, mix4 (v6 2) (v6 7) (v6 8) (v6 13) (m 12) (m 13) = (a2, b2, c2, d2) := ⟨_, _, _, _, rfl⟩
  have km := gmix_is _ _ _ _ _ _ _ _ _ _ hm
  have hc := mixf_cells v6 2 7 8 13 _ _ a2 b2 c2 d2 (by decide) (by decide) (by decide) (by decide) (by decide) (by decide) hm
  rw [hn7] at hc
  clear hm hn7
  have HC := Lib.hid hc
  clear hc
  go_upto_region 8 with (go_at_call 37; (with_reducible refine (km _).mono ?_); rintro e w1 ⟨rfl, rfl⟩)
  refine wp_gen (fun W => RSt w m v7 W) (HS.out.mixed 2 7 8 13 a2 b2 c2 d2 (by decide) (by decide) (by decide) (by decide) HC.out) ?_
  clear HS HC ca cb cc cd cx cy fa fb fc fd km
  rintro W7 hS
  have HS := Lib.hid hS
  obtain ⟨ca, fa⟩ := hS.2.1 3 (by decide)
  obtain ⟨cb, fb⟩ := hS.2.1 4 (by decide)
  obtain ⟨cc, fc⟩ := hS.2.1 9 (by decide)
  obtain ⟨cd, fd⟩ := hS.2.1 14 (by decide)
  obtain ⟨cx, _⟩ := hS.2.2.1 14 (by decide)
  obtain ⟨cy, _⟩ := hS.2.2.1 15 (by decide)
  simp only [w32] at ca cb cc cd cx cy
  clear hS
  obtain ⟨a2, b2, c2, d2, hm⟩ : ∃ a2 b2 c2 d2, mix4 (v7 3) (v7 4) (v7 9) (v7 14) (m 14) (m 15) = (a2, b2, c2, d2) := ⟨_, _, _, _, rfl⟩
  have km := gmix_is _ _ _ _ _ _ _ _ _ _ hm
  have hc := mixf_cells v7 3 4 9 14 _ _ a2 b2 c2 d2 (by decide) (by decide) (by decide) (by decide) (by decide) (by decide) hm
  rw [hn8] at hc
  clear hm hn8
  have HC := Lib.hid hc
  clear hc
  go_upto_region 9 with (go_at_call 37; (with_reducible refine (km _).mono ?_); rintro e w1 ⟨rfl, rfl⟩)
  refine wp_gen (fun W => RSt w m v8 W) (HS.out.mixed 3 4 9 14 a2 b2 c2 d2 (by decide) (by decide) (by decide) (by decide) HC.out) ?_
  clear HS HC ca cb cc cd cx cy fa fb fc fd km
  rintro W8 hS
  have HP := Lib.hid hS.2.1; have HR := Lib.hid hS.2.2.2; have HB := Lib.hid hS.1
  clear hS
  go_wp2_with (first
    | refine wpList_loadA rfl 56 41 _ rfl w.heap.size 16 (w32 v8) rfl HP.out (by kernel_rfl) (by kernel_rfl) ?_
    | refine wpList_storeA rfl 56 _ _ rfl rfl (w.heap.size + 2) 16 _ _ rfl rfl HR.out (cellsA_size _ _) (by kernel_rfl) (g32_all _ _) ?_)
  have ld := run_loadVarA (P := Tryd.prog) (HR.out.stored (w32 v8)) 56 41 (by kernel_rfl) (by kernel_rfl)
  exact bodyPost_ret (v := .agg (cellsA 16 (w32 v8))) (results_cellA rfl rfl ld) rfl ⟨rfl, belowCells HB.out _ (by omega) _ _⟩
end Go.Proofs.YthmpojefoiojeaaDoor
namespace Go.Proofs.YthmpojefoiojeaaDoor
open Go Go.RowKit
set_option linter.unusedVariables false

def wrow (f : Nat → Int) (i j : Nat) : Int := if j < i then f j else 0
theorem wrow_zero (f : Nat → Int) : ∀ j, Value.int .u32 0 = w32 (wrow f 0) j := by
  intro j; show Value.int .u32 0 = Value.int .u32 (wrow f 0 j); unfold wrow; rw [if_neg (by omega)]
theorem wrow_set (f : Nat → Int) (i : Nat) : ∀ j, (if j = i then Value.int .u32 (f i) else w32 (wrow f i) j) = w32 (wrow f (i + 1)) j := by
  intro j
  show _ = Value.int .u32 (wrow f (i + 1) j)
  unfold wrow
  by_cases h1 : j = i
  · subst h1; rw [if_pos rfl, if_pos (by omega)]
  · rw [if_neg h1]
    show Value.int .u32 (wrow f i j) = _
    unfold wrow
    by_cases h2 : j < i
    · rw [if_pos h2, if_pos (by omega)]
    · rw [if_neg h2, if_neg (by omega)]
theorem wrow_end (f : Nat → Int) (n : Nat) : ∀ j, j < n → w32 (wrow f n) j = w32 f j := by
  intro j hj
  show Value.int .u32 (wrow f n j) = Value.int .u32 (f j)
  unfold wrow; rw [if_pos hj]
/-- What stands through: what came, the result's place, the row under way. -/
def WSt (w : World) (c : Nat → Value) (n : Nat) (f : Nat → Int) (i : Nat) (W : World) : Prop := Below w.heap.size w W ∧ Arr W w.heap.size n c ∧ Arr W (w.heap.size + 1) 16 (fun _ => .int .u32 0) ∧ Arr W (w.heap.size + 2) 16 (w32 (wrow f i))
theorem WSt.start (w : World) (c : Nat → Value) (n : Nat) (f : Nat → Int) (t1 t2 t3 : TypeId) (z : Array Value) (hz : z = Array.replicate 16 (.int .u32 0)) : WSt w c n f 0 (((w.alloc (.cells (cellsA n c) t1)).alloc (.cells z t2)).alloc (.cells z t3)) := by
  have a1 := Arr.box w n c t1
  have b1 := (Below.refl w.heap.size w).alloc (Nat.le_refl _) (.cells (cellsA n c) t1)
  have s1 : (w.alloc (.cells (cellsA n c) t1)).heap.size = w.heap.size + 1 := by simp
  generalize w.alloc (.cells (cellsA n c) t1) = w1 at *
  have a2 := Arr.zeros w1 16 (.int .u32 0) z t2 hz
  have s2 : (w1.alloc (.cells z t2)).heap.size = w.heap.size + 2 := by simp [s1]
  have b2 := b1.alloc (by omega) (.cells z t2)
  replace a1 := a1.alloc (.cells z t2)
  generalize w1.alloc (.cells z t2) = w2 at *
  have a3 := Arr.zeros w2 16 (.int .u32 0) z t3 hz
  rw [s1] at a2
  rw [s2] at a3
  exact ⟨b2.alloc (by omega) _, a1.alloc _, a2.alloc _, (a3.same fun j _ => wrow_zero f j)⟩
theorem WSt.next {w W : World} {c : Nat → Value} {n : Nat} {f : Nat → Int} {i : Nat} (s : WSt w c n f i W) (hi : i < 16) : WSt w c n f (i + 1) (W.setCell ⟨w.heap.size + 2, i, none⟩ (.int .u32 (f i))) :=
  ⟨s.1.setCell (by show w.heap.size ≤ w.heap.size + 2; omega) _, s.2.1.far (by omega) _ _, s.2.2.1.far (by omega) _ _, (s.2.2.2.set i _ hi).same fun j _ => wrow_set f i j⟩
theorem WSt.drew {w W : World} {c : Nat → Value} {n : Nat} {f : Nat → Int} {i : Nat} (s : WSt w c n f i W) : WSt w c n f i W.drew := ⟨s.1.drew, s.2.1, s.2.2.1, s.2.2.2⟩
def WLoop (w : World) (c : Nat → Value) (n : Nat) (f : Nat → Int) (s : Value) (W : World) : Prop := ∃ i : Nat, i ≤ 16 ∧ s = .int .i64 i ∧ WSt w c n f i W

set_option maxRecDepth 100000 in
set_option maxHeartbeats 8000000 in
theorem gwords_is (b : Nat → Int) (hb : IsBytes 64 b) (w : World) :
    Calls Tryd.prog 33 #[.agg (cellsA 64 (w8 b))] w fun e w' => e = .returned (.agg (cellsA 16 (w32 (le4 b)))) ∧ Below w.heap.size w w' := by
  have HBY := Lib.hid hb
  clear hb
  go_enter Tryd.func33, Tryd.ntmps33
  go_upto_region 2 with fail
  refine wp_gen (fun W => WSt w (w8 b) 64 (le4 b) 0 W) (WSt.start w _ _ _ _ _ _ _ (by rfl)) ?_
  rintro W0 hS
  go_upto_region 3 with fail
  go_loopw [6] (WLoop w (w8 b) 64 (le4 b)) (fun i _ => 16 - (intOf i).toNat)
  case atStart => exact ⟨0, by omega, rfl, hS⟩
  case round =>
    clear hS
    obtain ⟨i, hi, rfl, hS⟩ := hrel
    by_cases hlt : i < 16
    · have hi16 : (i : Int) < 16 := by omega
      have hwr : IntKind.i64.wrap (4 * (i : Int)) = ((4 * i : Nat) : Int) := by rw [IntWalk.i64_in _ (by omega)]; omega
      have HS := Lib.hid hS
      obtain ⟨c0, _⟩ := hS.2.1 (4 * i) (by omega)
      obtain ⟨c1, _⟩ := hS.2.1 (4 * i + 1) (by omega)
      obtain ⟨c2, _⟩ := hS.2.1 (4 * i + 2) (by omega)
      obtain ⟨c3, _⟩ := hS.2.1 (4 * i + 3) (by omega)
      obtain ⟨cm, fm⟩ := hS.2.2.2 i (by omega)
      have h0 := HBY.out (4 * i) (by omega); have h1 := HBY.out (4 * i + 1) (by omega); have h2 := HBY.out (4 * i + 2) (by omega); have h3 := HBY.out (4 * i + 3) (by omega)
      have HW := Lib.hid (word_up _ _ _ _ h0 h1 h2 h3)
      have hz : le4 b i = b (4 * i) + 256 * (b (4 * i + 1) + 256 * (b (4 * i + 2) + 256 * b (4 * i + 3))) := rfl
      have HZ := Lib.hid hz
      simp only [w8, w32] at c0 c1 c2 c3 cm
      clear hS hz
      generalize hq : 4 * i = q at *
      generalize b q = z0 at *
      generalize b (q + 1) = z1 at *
      generalize b (q + 2) = z2 at *
      generalize b (q + 3) = z3 at *
      have hq1 : (q : Int) + 3 < 64 := by omega
      have hq2 : (q : Int) + 2 < 64 := by omega
      have hq3 : (q : Int) + 1 < 64 := by omega
      have hq4 : (q : Int) < 64 := by omega
      have w1 : IntKind.i64.wrap ((q : Int) + 1) = (q : Int) + 1 := IntWalk.i64_in _ (by omega)
      have w2 : IntKind.i64.wrap ((q : Int) + 2) = (q : Int) + 2 := IntWalk.i64_in _ (by omega)
      have w3 : IntKind.i64.wrap ((q : Int) + 3) = (q : Int) + 3 := IntWalk.i64_in _ (by omega)
      clear hq
      have HW2 : bits .or .u32 (bits .or .u32 (bits .or .u32 z0 (z1 * 256)) (z2 * 65536)) (z3 * 16777216) = le4 b i := by
        rw [HZ.out, ← HW.out, IntKind.wrap_u32, IntKind.wrap_u32, IntKind.wrap_u32, Int.emod_eq_of_lt (by omega) (by omega), Int.emod_eq_of_lt (by omega) (by omega), Int.emod_eq_of_lt (by omega) (by omega)]
      have HX := Lib.hid HW2
      clear HW HZ HW2
      go_upto_region 6 with fail
      go_region
      go_upto_region 7 with fail
      refine wp_gen (fun W => WSt w (w8 b) 64 (le4 b) (i + 1) W) (by rw [HX.out]; exact (HS.out.next hlt).drew) ?_
      clear HS HX c0 c1 c2 c3 cm fm w1 w2 w3 hwr
      rintro W4 hS
      go_wp2
      go_roundw
      case rel => exact ⟨i + 1, by omega, by go_num, hS⟩
      case measure => simp [intOf]; omega
    · obtain rfl : i = 16 := by omega
      have HP := Lib.hid (hS.2.2.2.same (wrow_end (le4 b) 16)); have HR := Lib.hid hS.2.2.1; have HB := Lib.hid hS.1
      clear hS
      go_wp2_with (first
        | refine wpList_loadA rfl 56 41 _ rfl (w.heap.size + 2) 16 (w32 (le4 b)) rfl HP.out (by kernel_rfl) (by kernel_rfl) ?_
        | refine wpList_storeA rfl 56 _ _ rfl rfl (w.heap.size + 1) 16 _ _ rfl rfl HR.out (cellsA_size _ _) (by kernel_rfl) (g32_all _ _) ?_)
      have ld := run_loadVarA (P := Tryd.prog) (HR.out.stored (w32 (le4 b))) 56 41 (by kernel_rfl) (by kernel_rfl)
      exact bodyPost_ret (v := .agg (cellsA 16 (w32 (le4 b)))) (results_cellA rfl rfl ld) rfl ⟨rfl, belowCells HB.out _ (by omega) _ _⟩

/-- What is known of the program's own tables. -/
def TabB (W : World) : Prop := Tabs W 0 8 .u32 beg ∧ Tabs W 1 160 .u8 (fun j => (ord (j / 16) (j % 16) : Nat))
theorem TabB.keep {W W' : World} (h : TabB W) (hb : Below W.heap.size W W') : TabB W' := ⟨h.1.keep hb, h.2.keep hb⟩
theorem TabB.lt {W : World} (h : TabB W) : 0 < W.heap.size ∧ 1 < W.heap.size := ⟨World.block_lt_of_cell? W _ (h.1 0 (by decide)), World.block_lt_of_cell? W _ (h.2 0 (by decide))⟩
/-- A store into another block. -/
theorem TabB.but {W W' : World} {g : Nat} (h : TabB W) (hb : But g W W') (h1 : g ≠ 0) (h2 : g ≠ 1) : TabB W' := ⟨fun j hj => hb.keep (h.1 j hj) (Ne.symm h1), fun j hj => hb.keep (h.2 j hj) (Ne.symm h2)⟩

set_option maxRecDepth 100000 in
set_option maxHeartbeats 8000000 in
theorem gordered_is (m : Nat → Int) (r : Nat) (hr : r < 10) (w : World) (hT : TabB w) :
    Calls Tryd.prog 35 #[.agg (cellsA 16 (w32 m)), .int .i64 r] w fun e w' => e = .returned (.agg (cellsA 16 (w32 fun k => m (ord r k)))) ∧ Below w.heap.size w w' := by
  have HT := Lib.hid hT
  have hr10 : (r : Int) < 10 := by omega
  clear hT
  go_enter Tryd.func35, Tryd.ntmps35
  go_upto_region 2 with fail
  refine wp_gen (fun W => WSt w (w32 m) 16 (fun k => m (ord r k)) 0 W) (WSt.start w _ _ _ _ _ _ _ (by rfl)) ?_
  rintro W0 hS
  go_upto_region 3 with fail
  go_loopw [7] (WLoop w (w32 m) 16 (fun k => m (ord r k))) (fun i _ => 16 - (intOf i).toNat)
  case atStart => exact ⟨0, by omega, rfl, hS⟩
  case round =>
    clear hS
    obtain ⟨i, hi, rfl, hS⟩ := hrel
    by_cases hlt : i < 16
    · have hi16 : (i : Int) < 16 := by omega
      have HS := Lib.hid hS
      have cT := (HT.out.keep hS.1).2 (r * 16 + i) (by omega)
      simp only [] at cT
      rw [show (r * 16 + i) / 16 = r by omega, show (r * 16 + i) % 16 = i by omega] at cT
      have ho := ord_lt r i hr hlt
      obtain ⟨co, _⟩ := hS.2.1 (ord r i) ho
      obtain ⟨cm, fm⟩ := hS.2.2.2 i (by omega)
      simp only [w32] at co cm
      clear hS
      obtain ⟨q, hq⟩ : ∃ q, ord r i = q := ⟨_, rfl⟩
      have HX := Lib.hid (show m q = (fun k => m (ord r k)) i by rw [← hq])
      rw [hq] at cT co ho
      generalize m q = z at *
      have hq16 : (q : Int) < 16 := by omega
      clear hq
      go_upto_region 6 with fail
      refine wp_gen (fun W => WSt w (w32 m) 16 (fun k => m (ord r k)) (i + 1) W) (by rw [HX.out]; exact (HS.out.next hlt)) ?_
      clear HS HX cT co cm fm
      rintro W4 hS
      go_wp2
      go_roundw
      case rel => exact ⟨i + 1, by omega, by go_num, hS⟩
      case measure => simp [intOf]; omega
    · obtain rfl : i = 16 := by omega
      have HP := Lib.hid (hS.2.2.2.same (wrow_end (fun k => m (ord r k)) 16)); have HR := Lib.hid hS.2.2.1; have HB := Lib.hid hS.1
      clear hS
      go_wp2_with (first
        | refine wpList_loadA rfl 56 41 _ rfl (w.heap.size + 2) 16 (w32 fun k => m (ord r k)) rfl HP.out (by kernel_rfl) (by kernel_rfl) ?_
        | refine wpList_storeA rfl 56 _ _ rfl rfl (w.heap.size + 1) 16 _ _ rfl rfl HR.out (cellsA_size _ _) (by kernel_rfl) (g32_all _ _) ?_)
      have ld := run_loadVarA (P := Tryd.prog) (HR.out.stored (w32 fun k => m (ord r k))) 56 41 (by kernel_rfl) (by kernel_rfl)
      exact bodyPost_ret (v := .agg (cellsA 16 (w32 fun k => m (ord r k)))) (results_cellA rfl rfl ld) rfl ⟨rfl, belowCells HB.out _ (by omega) _ _⟩
theorem gRound_is (m : Nat → Int) (r : Nat) (v : Nat → Int) : gRound (fun k => m (ord r k)) v = roundf m r v := rfl
end Go.Proofs.YthmpojefoiojeaaDoor
namespace Go.Proofs.YthmpojefoiojeaaDoor
open Go Go.RowKit
set_option linter.unusedVariables false

def GLoop1 (w : World) (h b : Nat → Int) (gv : Nat) (s : Value) (W : World) : Prop := ∃ i : Nat, i ≤ 8 ∧ s = .int .i64 i ∧ PSt w h b W ∧ Arr W gv 16 (w32 (vrow h i))
def GLoop4 (w : World) (h b m : Nat → Int) (gm gv : Nat) (v : Nat → Int) (s : Value) (W : World) : Prop := ∃ r : Nat, r ≤ 10 ∧ s = .int .i64 r ∧ PSt w h b W ∧ Arr W gm 16 (w32 m) ∧ Arr W gv 16 (w32 (rounds m r v))
def GPressR (m u mo u2 : Nat → Int) (r : Nat) (sl : Nat) (v : Value) (W : World) : Prop :=
  match sl with
  | 53 => v = .agg (cellsA 16 (w32 u))
  | 54 => v = .agg (cellsA 16 (w32 m))
  | 55 => v = .int .i64 r
  | 56 => v = .agg (cellsA 16 (w32 mo))
  | _ => v = .agg (cellsA 16 (w32 u2))
theorem GPressR.keep {m u mo u2 : Nat → Int} {r : Nat} {sl : Nat} {v : Value} {W W' : World} (h : GPressR m u mo u2 r sl v W) (hb : Below W.heap.size W W') : GPressR m u mo u2 r sl v W' := h

set_option maxRecDepth 100000 in
set_option maxHeartbeats 8000000 in
theorem gpress_is (h b : Nat → Int) (n : Int) (last : Bool) (hb : IsBytes 64 b) (hn : U n) (w : World) (hT : TabB w) :
    Calls Tryd.prog 29 #[.agg (cellsA 8 (w32 h)), .agg (cellsA 64 (w8 b)), .int .u64 n, .bool last] w fun e w' => e = .returned (.agg (cellsA 8 (w32 (press h b n last)))) ∧ Below w.heap.size w w' := by
  have HBY := Lib.hid hb
  have HT := Lib.hid hT
  clear hb hT
  go_enter Tryd.func29, Tryd.ntmps29
  go_upto_region 1 with fail
  refine wp_gen (fun W => PSt w h b W) (PSt.start w h b _ _ _ _ (by rfl)) ?_
  rintro W hS
  go_upto_region 2 with fail
  refine wp_gen (fun W' => PSt w h b W' ∧ Arr W' W.heap.size 16 (w32 (vrow h 0))) ⟨hS.alloc _, (Arr.zeros _ 16 (.int .u32 0) _ _ (by rfl)).same (fun j _ => by show Value.int .u32 0 = Value.int .u32 (vrow h 0 j); unfold vrow; rw [if_neg (by omega), if_neg (by omega)])⟩ ?_
  have ltv := hS.2.2.2.2
  generalize W.heap.size = gv at *
  clear hS
  rintro W1 ⟨hS, hV⟩
  have HS := Lib.hid hS; have HV := Lib.hid hV
  clear hS hV
  go_upto_region 3 with (refine wpList_loadT rfl 42 41 _ rfl 0 8 .u32 beg rfl (HT.out.keep HS.out.1).1 (by kernel_rfl) (by kernel_rfl) ?_)
  go_loopw [16] (GLoop1 w h b gv) (fun i _ => 8 - (intOf i).toNat)
  case atStart => exact ⟨0, by omega, rfl, HS.out, HV.out⟩
  case round =>
    clear HS HV
    obtain ⟨i, hi, rfl, hS, hV⟩ := hrel
    by_cases hlt : i < 8
    · have hi8 : (i : Int) < 8 := by omega
      have hw1 : IntKind.i64.wrap ((i : Int) + 8) = (i : Int) + 8 := IntWalk.i64_in _ (by omega)
      obtain ⟨ch, _⟩ := hS.2.1 i hlt
      obtain ⟨cv, fv⟩ := hV i (by omega)
      obtain ⟨cv8, fv8⟩ := hV (i + 8) (by omega)
      simp only [w32] at ch cv cv8
      have HS := Lib.hid hS; have HV := Lib.hid hV
      clear hS hV
      go_upto_region 5 with (refine wpList_indexA rfl 42 41 _ _ rfl 8 _ .i64 i rfl rfl hlt (by kernel_rfl) (by kernel_rfl) (by kernel_rfl) ?_)
      go_upto_region 6 with fail
      refine wp_gen (fun W => PSt w h b W ∧ Arr W gv 16 (w32 (vrow h (i + 1)))) ⟨(HS.out.far ltv _ _).far ltv _ _, ?_⟩ ?_
      · exact ((HV.out.set i (.int .u32 (h i)) (by omega)).set (i + 8) (.int .u32 (beg i)) (by omega)).same (fun j _ => vrow_set h i hlt j)
      clear HS HV ch cv cv8 fv fv8 hw1
      rintro W4 ⟨hS, hV⟩
      go_wp2
      go_roundw
      case rel => exact ⟨i + 1, by omega, by go_num, hS, hV⟩
      case measure => simp [intOf]; omega
    · obtain rfl : i = 8 := by omega
      have hB3 : Arr wr gv 16 (w32 (vbase h)) := hV.same (vrow_end h)
      clear hV
      generalize hv0 : vbase h = v0 at *
      obtain ⟨v1, hv1⟩ : ∃ v1, upd v0 12 (xor32 (v0 12) (n % 4294967296)) = v1 := ⟨_, rfl⟩
      obtain ⟨v2, hv2⟩ : ∃ v2, upd v1 13 (xor32 (v1 13) (n / 4294967296)) = v2 := ⟨_, rfl⟩
      obtain ⟨v3, hv3⟩ : ∃ v3, (if last = true then upd v2 14 (not32 (v2 14)) else v2) = v3 := ⟨_, rfl⟩
      have hfirst : vfirst h n last = v3 := by unfold vfirst; rw [hv0]; simp only [hv1, hv2, hv3]
      have HS := Lib.hid hS; have HV := Lib.hid hB3
      obtain ⟨c12, f12⟩ := hB3 12 (by decide)
      clear hS hB3
      simp only [w32] at c12
      have hn0 := hn.1; have hn1 := hn.2
      go_upto_region 8 with fail
      refine wp_gen (fun W => PSt w h b W ∧ Arr W gv 16 (w32 v1)) ⟨HS.out.far ltv _ _, (HV.out.set 12 _ (by decide)).same (fun j _ => by rw [← hv1]; exact w32_upd _ _ _ _)⟩ ?_
      clear HS HV c12 f12
      rintro W4 ⟨hS, hV⟩
      have HS := Lib.hid hS; have HV := Lib.hid hV
      obtain ⟨c13, f13⟩ := hV 13 (by decide)
      clear hS hV
      simp only [w32] at c13
      go_upto_region 9 with fail
      refine wp_gen (fun W => PSt w h b W ∧ Arr W gv 16 (w32 v2)) ⟨HS.out.far ltv _ _, (HV.out.set 13 _ (by decide)).same (fun j _ => by rw [← hv2]; exact w32_upd _ _ _ _)⟩ ?_
      clear HS HV c13 f13 hn0 hn1
      rintro W5 ⟨hS, hV⟩
      go_upto_if 43 with fail
      go_cut [16] (fun s W => s = .int .i64 8 ∧ PSt w h b W ∧ Arr W gv 16 (w32 v3))
      case first =>
        cases last
        case false =>
          simp only [Bool.false_eq_true, if_false] at hv3
          subst hv3
          go_wp2_with fail
          go_meet
          exact ⟨rfl, hS, hV⟩
        case true =>
          simp only [if_true] at hv3
          have HS := Lib.hid hS; have HV := Lib.hid hV
          obtain ⟨c14, f14⟩ := hV 14 (by decide)
          clear hS hV
          simp only [w32] at c14
          go_wp2_with fail
          go_meet
          refine ⟨rfl, HS.out.far ltv _ _, (HV.out.set 14 _ (by decide)).same (fun j _ => ?_)⟩
          rw [← hv3]; exact w32_upd _ _ _ _
      case rest =>
        clear hS hV hv1 hv2 hv3 hv0
        obtain ⟨rfl, hS, hV⟩ := hcut
        have HS := Lib.hid hS; have HV := Lib.hid hV
        clear hS hV
        go_upto_region 12 with (first
          | refine wpList_loadA rfl 43 5 _ rfl (w.heap.size + 1) 64 (w8 b) rfl HS.out.2.2.1 (by kernel_rfl) (by kernel_rfl) ?_
          | (go_at_call 33; ((with_reducible refine (gwords_is b HBY.out _).mono ?_); rintro e w1 ⟨rfl, hb⟩; replace HS := Lib.hid (HS.out.keep hb); replace HV := Lib.hid (HV.out.keep hb); clear hb))
          | refine wpList_storeA rfl 56 _ _ rfl rfl w1.heap.size 16 _ _ rfl rfl (Arr.zeros w1 16 (.int .u32 0) _ _ (by rfl)) (cellsA_size _ _) (by kernel_rfl) (w32_all _ _) ?_)
        have hmv : w1.heap.size ≠ gv := by have := HV.out.lt (by decide); omega
        refine wp_gen (fun W => PSt w h b W ∧ Arr W w1.heap.size 16 (w32 (le4 b)) ∧ Arr W gv 16 (w32 v3)) ⟨(HS.out.alloc _).cells HS.out.2.2.2.2 _, (Arr.zeros w1 16 (.int .u32 0) _ _ (by rfl)).stored _, Arr.farCells hmv _ _ (HV.out.alloc _)⟩ ?_
        clear HS HV
        generalize w1.heap.size = gm at *
        generalize hm0 : le4 b = m at *
        rintro W6 ⟨hS, hM, hV⟩
        go_upto_region 13 with fail
        go_loopw [50] (GLoop4 w h b m gm gv v3) (fun i _ => 10 - (intOf i).toNat)
        case atStart => exact ⟨0, by omega, rfl, hS, hM, hV⟩
        case round =>
          clear hS hM hV
          obtain ⟨r, hr', rfl, hS, hM, hV⟩ := hrel
          by_cases hr : r < 10
          · have hr10 : (r : Int) < 10 := by omega
            have HX := Lib.hid (show roundf m r (rounds m r v3) = rounds m (r + 1) v3 from rfl)
            generalize rounds m r v3 = v at *
            have ko := gordered_is m r hr
            have kr := ground_is (fun k => m (ord r k)) v
            rw [gRound_is] at kr
            generalize (fun k => m (ord r k)) = mo at *
            generalize roundf m r v = v2 at *
            have HS := Lib.hid hS; have HV := Lib.hid hV; have HM := Lib.hid hM
            clear hS hM hV
            go_upto_region 15 with fail
            have HT2 := Lib.hid (HT.out.keep HS.out.1)
            refine wp_loose [(53, []), (54, []), (55, []), (56, [54, 55]), (57, [53, 56])]
              (GPressR m v mo v2 r) (fun d => false) (by kernel_rfl) (by kernel_rfl) (fun _ _ _ _ h hb => h.keep hb) ?_ ?_
            · refine opsrun_cons ?_ (opsrun_cons ?_ (opsrun_cons ?_ (opsrun_cons ?_ (opsrun_cons ?_ opsrun_nil))))
              all_goals
                refine OpRuns.any ?_
                intro Q0 σ W' K hb hn hK
                simp only [fill, List.map, Act.put, List.setIfInBounds_toArray, List.set_cons_zero, List.set_cons_succ] at hK ⊢
              · clear hn
                rw [if_pos]
                · refine wp_pieceA 56 41 _ rfl gv 0 16 16 (w32 v) (w32 v) rfl (HV.out.keep hb) (by decide) (fun j _ => by rw [Nat.zero_add]) (by kernel_rfl) (by kernel_rfl) ?_
                  exact hK _ _ rfl (Below.refl _ _) (fun h => absurd h (by decide))
                · rfl
              · clear hn
                rw [if_pos]
                · refine wp_pieceA 56 41 _ rfl gm 0 16 16 (w32 m) (w32 m) rfl (HM.out.keep hb) (by decide) (fun j _ => by rw [Nat.zero_add]) (by kernel_rfl) (by kernel_rfl) ?_
                  exact hK _ _ rfl (Below.refl _ _) (fun h => absurd h (by decide))
                · rfl
              · clear hn
                go_simp
                exact hK _ _ rfl (Below.refl _ _) (fun h => absurd h (by decide))
              · have h54 : σ 54 = _ := hn 54 (by decide)
                have h55 : σ 55 = _ := hn 55 (by decide)
                clear hn
                simp only [h54, h55] at hK
                go_simp
                go_at_call 35
                refine (ko _ (HT2.out.keep hb)).mono ?_
                rintro e w1 ⟨rfl, hb1⟩
                exact hK _ _ rfl hb1 (fun h => absurd h (by decide))
              · have h53 : σ 53 = _ := hn 53 (by decide)
                have h56 : σ 56 = _ := hn 56 (by decide)
                clear hn
                simp only [h53, h56] at hK
                go_simp
                go_at_call 34
                refine (kr _).mono ?_
                rintro e w1 ⟨rfl, hb1⟩
                exact hK _ _ rfl hb1 (fun h => absurd h (by decide))
            · intro σ W' hb hR' hF
              have h57 : σ 57 = _ := hR' 57 (by decide)
              replace HS := Lib.hid (HS.out.keep hb); replace HV := Lib.hid (HV.out.keep hb); replace HM := Lib.hid (HM.out.keep hb)
              clear hR' hF hb HT2
              simp only [fill, List.map, Act.put, List.setIfInBounds_toArray, List.set_cons_zero, List.set_cons_succ, List.length_cons, List.length_nil, List.drop_succ_cons, List.drop_zero, Nat.reduceAdd, h57]
              clear h57
              go_upto_region 16 with (refine wpList_storeA rfl 56 _ _ rfl rfl gv 16 _ _ rfl rfl HV.out (cellsA_size _ _) (by kernel_rfl) (w32_all _ _) ?_)
              refine wp_gen (fun W => PSt w h b W ∧ Arr W gm 16 (w32 m) ∧ Arr W gv 16 (w32 (rounds m (r + 1) v3))) ⟨HS.out.cells ltv _, Arr.farCells (Ne.symm hmv) _ _ HM.out, by rw [← HX.out]; exact HV.out.stored _⟩ ?_
              clear HS HV HM
              rintro W7 ⟨hS, hM, hV⟩
              go_wp2
              go_roundw
              case rel => exact ⟨r + 1, by omega, by go_num, hS, hM, hV⟩
              case measure => simp [intOf]; omega
          · obtain rfl : r = 10 := by omega
            go_upto_region 18 with fail
            obtain ⟨pp, hpp⟩ : ∃ pp, press h b n last = pp := ⟨_, rfl⟩
            have hpj : ∀ j, xor32 (h j) (xor32 (rounds m 10 v3 j) (rounds m 10 v3 (j + 8))) = pp j := fun j => by rw [← xor32_assoc, ← hpp, ← hfirst, ← hm0]; rfl
            have hpp2 := Lib.hid hpp
            generalize rounds m 10 v3 = u at *
            clear hM
            have hS0 : PSt5 w h pp 0 wr := ⟨hS.1, hS.2.1.same (fun j _ => by show Value.int .u32 (h j) = Value.int .u32 (hrow h pp 0 j); unfold hrow; rw [if_neg (by omega)]), hS.2.2.2.1⟩
            clear hS
            go_loopw [59] (PLoop5 w h pp u gv) (fun i _ => 8 - (intOf i).toNat)
            case atStart => exact ⟨0, by omega, rfl, hS0, hV⟩
            case round =>
              clear hS0 hV
              obtain ⟨i, hi, rfl, hS, hV⟩ := hrel
              by_cases hlt : i < 8
              · have hi8 : (i : Int) < 8 := by omega
                have hw1 : IntKind.i64.wrap ((i : Int) + 8) = (i : Int) + 8 := IntWalk.i64_in _ (by omega)
                obtain ⟨ch, fh⟩ := hS.2.1 i hlt
                obtain ⟨cv, _⟩ := hV i (by omega)
                obtain ⟨cv8, _⟩ := hV (i + 8) (by omega)
                simp only [w32] at ch cv cv8
                rw [show hrow h pp i i = h i by unfold hrow; rw [if_neg (by omega)]] at ch
                have HS := Lib.hid hS; have HV := Lib.hid hV
                clear hS hV
                go_upto_region 20 with fail
                go_region
                go_upto_region 21 with fail
                refine wp_gen (fun W => PSt5 w h pp (i + 1) W ∧ Arr W gv 16 (w32 u)) ⟨⟨(HS.out.1.setCell (Nat.le_refl _) _).drew, Arr.drew ?_, Arr.drew (HS.out.2.2.far (by omega) _ _)⟩, Arr.drew (HV.out.far (by omega) _ _)⟩ ?_
                · refine (HS.out.2.1.set i (.int .u32 (pp i)) hlt).same (fun j _ => hrow_set h pp i j) |> fun hh => ?_
                  rw [← hpj i] at hh
                  exact hh
                clear HS HV ch cv cv8 fh hw1
                rintro W4 ⟨hS, hV⟩
                go_wp2
                go_roundw
                case rel => exact ⟨i + 1, by omega, by go_num, hS, hV⟩
                case measure => simp [intOf]; omega
              · obtain rfl : i = 8 := by omega
                have HS := Lib.hid hS
                have hP : Arr wr w.heap.size 8 (w32 pp) := hS.2.1.same (fun j hj => by show Value.int .u32 (hrow h pp 8 j) = Value.int .u32 (pp j); unfold hrow; rw [if_pos hj])
                have hR := hS.2.2
                clear hS hV
                have HP := Lib.hid hP; have HR := Lib.hid hR
                clear hP hR
                go_wp2_with (first
                  | refine wpList_loadA rfl 42 41 _ rfl w.heap.size 8 (w32 pp) rfl HP.out (by kernel_rfl) (by kernel_rfl) ?_
                  | refine wpList_storeA rfl 42 _ _ rfl rfl (w.heap.size + 2) 8 _ _ rfl rfl HR.out (cellsA_size _ _) (by kernel_rfl) (w32_all _ _) ?_)
                have ld := run_loadVarA (P := Tryd.prog) (HR.out.stored (w32 pp)) 42 41 (by kernel_rfl) (by kernel_rfl)
                exact bodyPost_ret (v := .agg (cellsA 8 (w32 pp))) (results_cellA rfl rfl ld) rfl ⟨by rw [hpp2.out], belowCells HS.out.1 _ (by omega) _ _⟩
end Go.Proofs.YthmpojefoiojeaaDoor
namespace Go.Proofs.YthmpojefoiojeaaDoor
open Go Go.RowKit
set_option linter.unusedVariables false

/-- Eight words, 64 bytes, how many of them are held, how many bytes there were. -/
def sumC (h b : Nat → Int) (k n : Int) (j : Nat) : Value := if j < 8 then .int .u32 (h j) else if j < 72 then .int .u8 (b (j - 8)) else if j = 72 then .int .i64 k else .int .u64 n
theorem sumC_h (h b : Nat → Int) (k n : Int) (j : Nat) (hj : j < 8) : sumC h b k n (0 + j) = w32 h j := by unfold sumC; rw [Nat.zero_add, if_pos hj]
theorem sumC_b (h b : Nat → Int) (k n : Int) (j : Nat) (hj : j < 64) : sumC h b k n (8 + j) = .int .u8 (b j) := by unfold sumC; rw [if_neg (by omega), if_pos (by omega), show 8 + j - 8 = j by omega]
theorem sumC_k (h b : Nat → Int) (k n : Int) : sumC h b k n 72 = .int .i64 k := rfl
theorem sumC_n (h b : Nat → Int) (k n : Int) : sumC h b k n 73 = .int .u64 n := rfl
theorem sumC_setk (h b : Nat → Int) (k n k' : Int) (j : Nat) (hj : j < 74) : (if j = 72 then Value.int .i64 k' else sumC h b k n j) = sumC h b k' n j := by
  by_cases h1 : j = 72
  · subst h1; rfl
  · rw [if_neg h1]; unfold sumC; rw [if_neg h1, if_neg h1]
theorem sumC_setn (h b : Nat → Int) (k n n' : Int) (j : Nat) (hj : j < 74) : (if j = 73 then Value.int .u64 n' else sumC h b k n j) = sumC h b k n' j := by
  by_cases h1 : j = 73
  · subst h1; rfl
  · rw [if_neg h1]; unfold sumC
    by_cases h2 : j < 8
    · rw [if_pos h2, if_pos h2]
    · rw [if_neg h2, if_neg h2]
      by_cases h3 : j < 72
      · rw [if_pos h3, if_pos h3]
      · rw [if_neg h3, if_neg h3, if_pos (by omega), if_pos (by omega)]
theorem sumC_seth (h b h' : Nat → Int) (k n : Int) (j : Nat) (hj : j < 74) : cop (sumC h b k n) 0 (cellsA 8 (w32 h')).toList j = sumC h' b k n j := by
  unfold cop
  rw [cellsA_list, List.length_map, List.length_range]
  by_cases h1 : j < 8
  · rw [if_pos (by omega)]
    unfold sumC
    rw [if_pos h1]
    simp [List.getD, h1]
  · rw [if_neg (by omega)]; unfold sumC; rw [if_neg h1, if_neg h1]
/-- The block's bytes with some of a text behind those held. -/
def bput (b : Nat → Int) (T : ByteArray) (k m : Nat) (j : Nat) : Int := if k ≤ j ∧ j < k + m then byt T (j - k) else b j
theorem sumC_put (h b : Nat → Int) (T : ByteArray) (k m : Nat) (n x : Int) (hm : m ≤ T.size) (hk : k + m ≤ 64) (j : Nat) (hj : j < 74) : cop (sumC h b x n) (8 + k) ((strCs T).take m) j = sumC h (bput b T k m) x n j := by
  have hl : ((strCs T).take m).length = m := by rw [List.length_take, strCs_len]; exact Nat.min_eq_left hm
  unfold cop
  rw [hl]
  by_cases h1 : 8 + k ≤ j ∧ j < 8 + k + m
  · rw [if_pos h1]
    unfold sumC bput
    rw [if_neg (by omega), if_pos (by omega), if_pos (by omega)]
    have h2 := strCs_at T (j - (8 + k)) (by omega)
    rw [show j - 8 - k = j - (8 + k) by omega, ← h2]
    simp only [List.getD]
    rw [List.getElem?_take_of_lt (by omega)]
  · rw [if_neg h1]
    unfold sumC
    by_cases h2 : j < 8
    · rw [if_pos h2, if_pos h2]
    · rw [if_neg h2, if_neg h2]
      by_cases h3 : j < 72
      · rw [if_pos h3, if_pos h3]
        unfold bput
        rw [if_neg (by omega)]
      · rw [if_neg h3, if_neg h3]
/-- The block's bytes with noughts behind those held. -/
def bclr (b : Nat → Int) (k : Nat) (j : Nat) : Int := if j < k then b j else 0
theorem sumC_clr (h b : Nat → Int) (k : Nat) (n x : Int) (hk : k ≤ 64) (j : Nat) (hj : j < 74) : cop (sumC h b x n) (8 + k) (List.replicate (64 - k) (.int .u8 0)) j = sumC h (bclr b k) x n j := by
  unfold cop
  rw [List.length_replicate]
  by_cases h1 : 8 + k ≤ j ∧ j < 8 + k + (64 - k)
  · rw [if_pos h1]
    unfold sumC bclr
    rw [if_neg (by omega), if_pos (by omega), if_neg (by omega)]
    simp [List.getD, List.getElem?_replicate]
    rw [if_pos (by omega)]
    rfl
  · rw [if_neg h1]
    unfold sumC
    by_cases h2 : j < 8
    · rw [if_pos h2, if_pos h2]
    · rw [if_neg h2, if_neg h2]
      by_cases h3 : j < 72
      · rw [if_pos h3, if_pos h3]
        unfold bclr
        rw [if_pos (by omega)]
      · rw [if_neg h3, if_neg h3]
/-- Behind p bytes of s: q blocks are pressed, k bytes held. -/
structure SumC (s : ByteArray) (g p q k : Nat) (b : Nat → Int) (W : World) : Prop where
  at_ : p = 64 * q + k
  le : p ≤ s.size
  held : k ≤ 64
  byte : ∀ j, j < k → b j = byt s (64 * q + j)
  arr : Arr W g 74 (sumC (hseq s q) b k p)
theorem SumC.keep {s : ByteArray} {g p q k : Nat} {b : Nat → Int} {W W' : World} (h : SumC s g p q k b W) (hb : Below W.heap.size W W') : SumC s g p q k b W' := ⟨h.at_, h.le, h.held, h.byte, h.arr.keep hb⟩
def SumSt (s : ByteArray) (g p : Nat) (W : World) : Prop := ∃ (q k : Nat) (b : Nat → Int), SumC s g p q k b W ∧ (q = 0 ∨ 0 < k)
theorem SumSt.keep {s : ByteArray} {g p : Nat} {W W' : World} (h : SumSt s g p W) (hb : Below W.heap.size W W') : SumSt s g p W' := by
  obtain ⟨q, k, b, h1, h2⟩ := h
  exact ⟨q, k, b, h1.keep hb, h2⟩
/-- The full block, as it is pressed. -/
theorem SumC.full {s : ByteArray} {g p q : Nat} {b : Nat → Int} {W : World} (h : SumC s g p q 64 b W) (j : Nat) (hj : j < 64) : sumC (hseq s q) b (64 : Nat) p (8 + j) = w8 (blkOf s (64 * q)) j := by
  rw [sumC_b _ _ _ _ j hj, h.byte j hj]; rfl
/-- The last block, with noughts behind. -/
theorem SumC.last {s : ByteArray} {g q k : Nat} {b : Nat → Int} {W : World} (h : SumC s g s.size q k b W) (j : Nat) (hj : j < 64) : sumC (hseq s q) (bclr b k) k s.size (8 + j) = w8 (blkOf s (64 * q)) j := by
  rw [sumC_b _ _ _ _ j hj]
  show Value.int .u8 (bclr b k j) = Value.int .u8 (byt s (64 * q + j))
  unfold bclr
  by_cases h1 : j < k
  · rw [if_pos h1, h.byte j h1]
  · rw [if_neg h1, byt_out s _ (by have := h.at_; omega)]
theorem SumC.put {s T : ByteArray} {g p q k m : Nat} {b : Nat → Int} {W W' : World} (h : SumC s g p q k b W) (hT : ∀ i, i < T.size → byt T i = byt s (p + i)) (hm : m ≤ T.size) (hk : k + m ≤ 64) (hp : p + m ≤ s.size)
    (hA : Arr W' g 74 (sumC (hseq s q) (bput b T k m) ((k + m : Nat) : Int) ((p + m : Nat) : Int))) : SumC s g (p + m) q (k + m) (bput b T k m) W' := by
  refine ⟨by rw [h.at_]; omega, hp, hk, fun j hj => ?_, hA⟩
  unfold bput
  by_cases h1 : k ≤ j ∧ j < k + m
  · rw [if_pos h1, hT (j - k) (by omega)]
    congr 1
    have := h.at_; omega
  · rw [if_neg h1]
    exact h.byte j (by omega)
end Go.Proofs.YthmpojefoiojeaaDoor
namespace Go.Proofs.YthmpojefoiojeaaDoor
open Go Go.RowKit
set_option linter.unusedVariables false

def WriteR2 (g : Nat) (n : Int) (x b h2 : Nat → Int) (sl : Nat) (v : Value) (W : World) : Prop :=
  match sl with
  | 13 => v = .pointer (some ⟨g, 0, none⟩)
  | 14 => v = .pointer (some ⟨g, 0, none⟩)
  | 15 => v = .pointer (some ⟨g, 0, none⟩)
  | 16 => v = .pointer (some ⟨g, 0, none⟩)
  | 17 => v = .agg (cellsA 8 (w32 x))
  | 18 => v = .pointer (some ⟨g, 0, none⟩)
  | 19 => v = .pointer (some ⟨g, 0, none⟩)
  | 20 => v = .pointer (some ⟨g, 8, none⟩)
  | 21 => v = .agg (cellsA 64 (w8 b))
  | 22 => v = .pointer (some ⟨g, 0, none⟩)
  | 23 => v = .pointer (some ⟨g, 0, none⟩)
  | 24 => v = .pointer (some ⟨g, 73, none⟩)
  | 25 => v = .int .u64 n
  | 26 => v = .agg (cellsA 8 (w32 h2))
  | 27 => v = .pointer (some ⟨g, 0, none⟩)
  | _ => v = .pointer (some ⟨g, 0, none⟩)
theorem WriteR2.keep {g : Nat} {n : Int} {x b h2 : Nat → Int} {sl : Nat} {v : Value} {W W' : World} (h : WriteR2 g n x b h2 sl v W) (hb : Below W.heap.size W W') : WriteR2 g n x b h2 sl v W' := h
def WriteR4 (g k : Nat) (T : ByteArray) (sl : Nat) (v : Value) (W : World) : Prop :=
  match sl with
  | 32 => v = .pointer (some ⟨g, 0, none⟩)
  | 33 => v = .pointer (some ⟨g, 0, none⟩)
  | 34 => v = .pointer (some ⟨g, 8, none⟩)
  | 35 => v = .pointer (some ⟨g, 0, none⟩)
  | 36 => v = .pointer (some ⟨g, 0, none⟩)
  | 37 => v = .pointer (some ⟨g, 72, none⟩)
  | 38 => v = .int .i64 k
  | 39 => v = .slice (some ⟨g, 8 + k, none⟩) (64 - k) (64 - k)
  | _ => v = .string T
theorem WriteR4.keep {g k : Nat} {T : ByteArray} {sl : Nat} {v : Value} {W W' : World} (h : WriteR4 g k T sl v W) (hb : Below W.heap.size W W') : WriteR4 g k T sl v W' := h

theorem cast_64 : ((64 : Nat) : Int) = 64 := rfl
def szT : Value → Nat
  | .string s => s.size
  | _ => 0
/-- write under way: what is left of the text. -/
def WrLoop (w : World) (s : ByteArray) (g pe : Nat) (x : Value) (W : World) : Prop :=
  ∃ (T : ByteArray) (p : Nat), x = .string T ∧ (∀ i, i < T.size → byt T i = byt s (p + i)) ∧ p + T.size = pe ∧ But g w W ∧ SumSt s g p W
set_option maxRecDepth 100000 in
set_option maxHeartbeats 8000000 in
theorem gwrite_is (s t : ByteArray) (g p : Nat) (ht : ∀ i, i < t.size → byt t i = byt s (p + i)) (hp : p + t.size ≤ s.size) (hs : s.size ≤ 1000000) (hg1 : g ≠ 0) (hg2 : g ≠ 1) (w : World) (hT : TabB w) (hS : SumSt s g p w) :
    Calls Tryd.prog 23 #[.pointer (some ⟨g, 0, none⟩), .string t] w fun e w' => e = .returned (.tuple #[]) ∧ But g w w' ∧ SumSt s g (p + t.size) w' := by
  have HT := Lib.hid hT
  have H0 : Hid (WrLoop w s g (p + t.size) (.string t) w) := Lib.hid ⟨t, p, rfl, ht, rfl, But.refl _ _, hS⟩
  generalize hpe : p + t.size = pe at *
  clear ht hT hS
  go_enter Tryd.func23, Tryd.ntmps23
  go_upto_region 0 with fail
  go_loopw [1] (WrLoop w s g pe) (fun x _ => szT x)
  case atStart => exact H0.out
  case round =>
    clear H0 hpe p t
    obtain ⟨T, p, rfl, hT, hpe, hBut, q, k, b, hS, hpos⟩ := hrel
    by_cases hlt : 0 < T.size
    · have hl1 : (0 : Int) < (T.size : Int) := by omega
      have HB := Lib.hid hBut; have HS := Lib.hid hS
      have ck := (hS.arr 72 (by decide)).1
      rw [sumC_k] at ck
      have hk := hS.held
      have HBT := Lib.hid hT
      have ltg := hS.arr.lt (by decide)
      clear hBut hS hT
      go_upto_if 12 with fail
      go_cut [1] (fun x W => x = .string T ∧ But g w W ∧ ∃ (q k : Nat) (b : Nat → Int), SumC s g p q k b W ∧ k < 64)
      case first =>
        by_cases h64 : k = 64
        · subst h64
          have HH := Lib.hid (fun j hj => sumC_h (hseq s q) b (64 : Nat) p j hj)
          have HBB := Lib.hid HS.out.full
          have cn := (HS.out.arr 73 (by decide)).1
          rw [sumC_n] at cn
          have hat := HS.out.at_
          have hple := HS.out.le
          have hnp : (p : Int) = 64 * (q : Int) + 64 := by omega
          have kp := gpress_is (hseq s q) (blkOf s (64 * q)) p false (blkOf_bytes _ _) ⟨by omega, by omega⟩
          have hkp : press (hseq s q) (blkOf s (64 * q)) p false = hseq s (q + 1) := by
            show _ = press (hseq s q) (blkOf s (64 * q)) (64 * ((q : Int) + 1)) false
            rw [show 64 * ((q : Int) + 1) = (p : Int) by omega]
          rw [hkp] at kp
          have HA := Lib.hid HS.out.arr
          have HT2 := Lib.hid (HT.out.but HB.out hg1 hg2)
          have HE := Lib.hid (fun j hj => sumC_seth (hseq s q) b (hseq s (q + 1)) (64 : Nat) p j hj)
          have HAT := Lib.hid hat
          clear hkp hnp hat
          simp only [cast_64] at *
          generalize hF : sumC (hseq s q) b 64 p = F at *
          generalize hh2 : hseq s (q + 1) = h2 at *
          have HQ := Lib.hid hh2
          clear hh2
          generalize hseq s q = h at *
          generalize blkOf s (64 * q) = bb at *
          clear hF
          go_upto_region 2 with fail
          refine wp_loose [(13, []), (14, []), (15, [14]), (16, [15]), (17, [16]), (18, []), (19, [18]), (20, [19]), (21, [20]), (22, []), (23, [22]), (24, [23]), (25, [24]), (26, [17, 21, 25]), (27, [13]), (28, [27])]
            (WriteR2 g p h bb h2) (fun d => false) (by kernel_rfl) (by kernel_rfl) (fun _ _ _ _ h hb => h.keep hb) ?_ ?_
          · refine opsrun_cons ?_ (opsrun_cons ?_ (opsrun_cons ?_ (opsrun_cons ?_ (opsrun_cons ?_ (opsrun_cons ?_ (opsrun_cons ?_ (opsrun_cons ?_ (opsrun_cons ?_ (opsrun_cons ?_ (opsrun_cons ?_ (opsrun_cons ?_ (opsrun_cons ?_ (opsrun_cons ?_ (opsrun_cons ?_ (opsrun_cons ?_ opsrun_nil)))))))))))))))
            all_goals
              refine OpRuns.any ?_
              intro Q0 σ W' K hb hn hK
              simp only [fill, List.map, Act.put, List.setIfInBounds_toArray, List.set_cons_zero, List.set_cons_succ] at hK ⊢
            · clear hn
              go_simp
              exact hK _ _ rfl (Below.refl _ _) (fun h => absurd h (by decide))
            · clear hn
              go_simp
              exact hK _ _ rfl (Below.refl _ _) (fun h => absurd h (by decide))
            · have h14 : σ 14 = _ := hn 14 (by decide)
              clear hn
              simp only [h14] at hK
              go_simp
              exact hK _ _ rfl (Below.refl _ _) (fun h => absurd h (by decide))
            · have h15 : σ 15 = _ := hn 15 (by decide)
              clear hn
              simp only [h15] at hK
              go_simp
              exact hK _ _ rfl (Below.refl _ _) (fun h => absurd h (by decide))
            · have h16 : σ 16 = _ := hn 16 (by decide)
              clear hn
              simp only [h16] at hK
              simp only [h16]
              rw [if_pos]
              · refine wp_pieceA 42 41 _ rfl g 0 74 8 F (w32 h) rfl (HA.out.keep hb) (by decide) (fun j hj => HH.out j hj) (by kernel_rfl) (by kernel_rfl) ?_
                exact hK _ _ rfl (Below.refl _ _) (fun h => absurd h (by decide))
              · rfl
            · clear hn
              go_simp
              exact hK _ _ rfl (Below.refl _ _) (fun h => absurd h (by decide))
            · have h18 : σ 18 = _ := hn 18 (by decide)
              clear hn
              simp only [h18] at hK
              go_simp
              exact hK _ _ rfl (Below.refl _ _) (fun h => absurd h (by decide))
            · have h19 : σ 19 = _ := hn 19 (by decide)
              clear hn
              simp only [h19] at hK
              go_simp
              exact hK _ _ rfl (Below.refl _ _) (fun h => absurd h (by decide))
            · have h20 : σ 20 = _ := hn 20 (by decide)
              clear hn
              simp only [h20] at hK
              simp only [h20]
              rw [if_pos]
              · refine wp_pieceA 43 5 _ rfl g 8 74 64 F (w8 bb) rfl (HA.out.keep hb) (by decide) (fun j hj => HBB.out j hj) (by kernel_rfl) (by kernel_rfl) ?_
                exact hK _ _ rfl (Below.refl _ _) (fun h => absurd h (by decide))
              · rfl
            · clear hn
              go_simp
              exact hK _ _ rfl (Below.refl _ _) (fun h => absurd h (by decide))
            · have h22 : σ 22 = _ := hn 22 (by decide)
              clear hn
              simp only [h22] at hK
              go_simp
              exact hK _ _ rfl (Below.refl _ _) (fun h => absurd h (by decide))
            · have h23 : σ 23 = _ := hn 23 (by decide)
              clear hn
              simp only [h23] at hK
              go_simp
              exact hK _ _ rfl (Below.refl _ _) (fun h => absurd h (by decide))
            · have h24 : σ 24 = _ := hn 24 (by decide)
              clear hn
              simp only [h24] at hK
              have cn' := bkeep hb cn
              clear cn
              go_simp
              exact hK _ _ rfl (Below.refl _ _) (fun h => absurd h (by decide))
            · have h17 : σ 17 = _ := hn 17 (by decide)
              have h21 : σ 21 = _ := hn 21 (by decide)
              have h25 : σ 25 = _ := hn 25 (by decide)
              clear hn
              simp only [h17, h21, h25] at hK
              go_simp
              go_at_call 29
              refine (kp _ (HT2.out.keep hb)).mono ?_
              rintro e w1 ⟨rfl, hb1⟩
              exact hK _ _ rfl hb1 (fun h => absurd h (by decide))
            · have h13 : σ 13 = _ := hn 13 (by decide)
              clear hn
              simp only [h13] at hK
              go_simp
              exact hK _ _ rfl (Below.refl _ _) (fun h => absurd h (by decide))
            · have h27 : σ 27 = _ := hn 27 (by decide)
              clear hn
              simp only [h27] at hK
              go_simp
              exact hK _ _ rfl (Below.refl _ _) (fun h => absurd h (by decide))
          · intro σ W' hb hR' hF
            have h26 : σ 26 = _ := hR' 26 (by decide)
            have h28 : σ 28 = _ := hR' 28 (by decide)
            replace HB := Lib.hid (HB.out.then hb); replace HA := Lib.hid (HA.out.keep hb)
            clear hR' hF hb HT2 cn ck
            simp only [fill, List.map, Act.put, List.setIfInBounds_toArray, List.set_cons_zero, List.set_cons_succ, List.length_cons, List.length_nil, List.drop_succ_cons, List.drop_zero, Nat.reduceAdd, h26, h28]
            clear h26 h28
            go_upto_region 3 with (refine wpList_storePiece rfl 42 _ _ rfl rfl g 0 8 74 F _ rfl rfl HA.out (cellsA_size _ _) (by decide) (by kernel_rfl) (g32_all _ _) ?_)
            refine wp_gen (fun W => But g w W ∧ Arr W g 74 (sumC h2 b 64 p)) ⟨But.cells _ _ _ HB.out, (HA.out.setCells _ 0 (by rw [cellsA_list]; simp)).same HE.out⟩ ?_
            clear HB HA
            rintro W6 ⟨hB, hA⟩
            obtain ⟨ck, fk⟩ := hA 72 (by decide)
            rw [sumC_k] at ck
            have HB := Lib.hid hB; have HA := Lib.hid hA
            clear hB hA
            go_wp2_with fail
            go_meet
            refine ⟨rfl, HB.out.setCell (Or.inl rfl) _, q + 1, 0, b, ⟨by have := HAT.out; omega, hple, by decide, fun j hj => by omega, ?_⟩, by decide⟩
            rw [HQ.out]
            exact (HA.out.set 72 _ (by decide)).same fun j hj => sumC_setk _ _ _ _ _ j hj
        · have hne : ¬ (k : Int) = 64 := by omega
          go_wp2_with fail
          go_meet
          exact ⟨rfl, HB.out, q, k, b, HS.out, by omega⟩
      case rest =>
        clear HB HS ck hk hpos ltg q k b
        obtain ⟨rfl, hB, q, k, b, hS, hk⟩ := hcut
        have ck := (hS.arr 72 (by decide)).1
        rw [sumC_k] at ck
        have HB := Lib.hid hB; have HS := Lib.hid hS; have HA := Lib.hid hS.arr
        have hkI : (k : Int) < 64 := by omega
        have hkJ : (k : Int) ≤ 64 := by omega
        obtain ⟨m, hm⟩ : ∃ m, Nat.min T.size (64 - k) = m := ⟨_, rfl⟩
        have hm1 : m ≤ T.size := by rw [← hm]; exact Nat.min_le_left _ _
        have hm2 : m ≤ 64 - k := by rw [← hm]; exact Nat.min_le_right _ _
        have hm3 : 0 < m := by rw [← hm]; exact Nat.lt_min.2 ⟨hlt, by omega⟩
        have HM := Lib.hid hm
        clear hB hS hm
        have HSL : Hid (Value.slice (some (if 64 = k then ⟨g, 8, none⟩ else ⟨g, 8 + k, none⟩)) (64 - k) (64 - k) = Value.slice (some ⟨g, 8 + k, none⟩) (64 - k) (64 - k)) := Lib.hid (by rw [if_neg (by omega)])
        go_upto_region 4 with fail
        refine wp_loose [(32, []), (33, [32]), (34, [33]), (35, []), (36, [35]), (37, [36]), (38, [37]), (39, [34, 38]), (40, [])]
          (WriteR4 g k T) (fun d => false) (by kernel_rfl) (by kernel_rfl) (fun _ _ _ _ h hb => h.keep hb) ?_ ?_
        · refine opsrun_cons ?_ (opsrun_cons ?_ (opsrun_cons ?_ (opsrun_cons ?_ (opsrun_cons ?_ (opsrun_cons ?_ (opsrun_cons ?_ (opsrun_cons ?_ (opsrun_cons ?_ opsrun_nil))))))))
          all_goals
            refine OpRuns.any ?_
            intro Q0 σ W' K hb hn hK
            simp only [fill, List.map, Act.put, List.setIfInBounds_toArray, List.set_cons_zero, List.set_cons_succ] at hK ⊢
          · clear hn
            go_simp
            exact hK _ _ rfl (Below.refl _ _) (fun h => absurd h (by decide))
          · have h32 : σ 32 = _ := hn 32 (by decide)
            clear hn
            simp only [h32] at hK
            go_simp
            exact hK _ _ rfl (Below.refl _ _) (fun h => absurd h (by decide))
          · have h33 : σ 33 = _ := hn 33 (by decide)
            clear hn
            simp only [h33] at hK
            go_simp
            exact hK _ _ rfl (Below.refl _ _) (fun h => absurd h (by decide))
          · clear hn
            go_simp
            exact hK _ _ rfl (Below.refl _ _) (fun h => absurd h (by decide))
          · have h35 : σ 35 = _ := hn 35 (by decide)
            clear hn
            simp only [h35] at hK
            go_simp
            exact hK _ _ rfl (Below.refl _ _) (fun h => absurd h (by decide))
          · have h36 : σ 36 = _ := hn 36 (by decide)
            clear hn
            simp only [h36] at hK
            go_simp
            exact hK _ _ rfl (Below.refl _ _) (fun h => absurd h (by decide))
          · have h37 : σ 37 = _ := hn 37 (by decide)
            clear hn
            simp only [h37] at hK
            have ck' := bkeep hb ck
            clear ck
            go_simp
            exact hK _ _ rfl (Below.refl _ _) (fun h => absurd h (by decide))
          · have h34 : σ 34 = _ := hn 34 (by decide)
            have h38 : σ 38 = _ := hn 38 (by decide)
            clear hn
            simp only [h34, h38] at hK
            go_simp
            exact hK _ _ HSL.out (Below.refl _ _) (fun h => absurd h (by decide))
          · clear hn
            go_simp
            exact hK _ _ rfl (Below.refl _ _) (fun h => absurd h (by decide))
        · intro σ W' hb hR' hF
          have h39 : σ 39 = _ := hR' 39 (by decide)
          have h40 : σ 40 = _ := hR' 40 (by decide)
          replace HB := Lib.hid (HB.out.then hb); replace HA := Lib.hid (HA.out.keep hb)
          clear hR' hF hb ck HSL
          simp only [fill, List.map, Act.put, List.setIfInBounds_toArray, List.set_cons_zero, List.set_cons_succ, List.length_cons, List.length_nil, List.drop_succ_cons, List.drop_zero, Nat.reduceAdd, h39, h40]
          clear h39 h40
          go_upto_region 5 with (refine wpList_copy_strN rfl _ _ 51 9 rfl 5 (by kernel_rfl) (by kernel_rfl) g 74 (8 + k) (64 - k) (64 - k) m rfl T rfl _ HA.out HM.out (by omega) ?_; intro W5 HB5 HA5)
          refine wp_gen (fun W => But g w W ∧ Arr W g 74 (sumC (hseq s q) (bput b T k m) k p)) ⟨HB.out.trans HB5.out, HA5.out.same fun j hj => sumC_put _ _ _ _ _ _ _ hm1 (by omega) j hj⟩ ?_
          clear HB HA HM hkI hkJ
          rintro W6 ⟨hB, hA⟩
          have HB := Lib.hid hB
          have hple := HS.out.le
          have hpT : p + m ≤ s.size := by omega
          obtain ⟨ck, fk⟩ := hA 72 (by decide)
          rw [sumC_k] at ck
          have HA := Lib.hid hA
          have w1 : IntKind.i64.wrap ((k : Int) + (m : Int)) = ((k + m : Nat) : Int) := by rw [IntWalk.i64_in _ (by omega)]; omega
          clear hB hA hple
          go_upto_region 6 with fail
          refine wp_gen (fun W => But g w W ∧ Arr W g 74 (sumC (hseq s q) (bput b T k m) ((k + m : Nat) : Int) p)) ⟨HB.out.setCell (Or.inl rfl) _, (HA.out.set 72 _ (by decide)).same fun j hj => sumC_setk _ _ _ _ _ j hj⟩ ?_
          clear HB HA ck fk w1
          rintro W7 ⟨hB, hA⟩
          have HB := Lib.hid hB
          obtain ⟨cn, fn⟩ := hA 73 (by decide)
          rw [sumC_n] at cn
          have HA := Lib.hid hA
          have w1 : IntKind.u64.wrap ((p : Int) + (m : Int)) = ((p + m : Nat) : Int) := by rw [IntWalk.u64_in _ (by omega)]; omega
          have w2 : IntKind.u64.wrap (m : Int) = (m : Int) := IntWalk.u64_in _ (by omega)
          clear hB hA
          go_upto_region 7 with fail
          refine wp_gen (fun W => But g w W ∧ SumC s g (p + m) q (k + m) (bput b T k m) W) ⟨HB.out.setCell (Or.inl rfl) _, HS.out.put HBT.out hm1 (by omega) hpT ((HA.out.set 73 _ (by decide)).same fun j hj => sumC_setn _ _ _ _ _ j hj)⟩ ?_
          clear HB HA HS cn fn w1 w2
          rintro W8 ⟨hB, hS⟩
          have hmI : (m : Int) ≤ (T.size : Int) := by omega
          go_wp2_with fail
          go_roundw
          case rel => exact ⟨T.extract m T.size, p + m, rfl, fun i hi => by rw [ByteArray.size_extract] at hi; rw [byt_extract T m T.size i (Nat.le_refl _) (by omega), HBT.out (m + i) (by omega), Nat.add_assoc], by rw [ByteArray.size_extract]; omega, hB, q, k + m, _, hS, Or.inr (by omega)⟩
          case measure => simp [szT]; omega
    · have h0 : T.size = 0 := by omega
      have h0I : ¬ (0 : Int) < (T.size : Int) := by omega
      go_wp2_with fail
      go_end0
      refine ⟨rfl, hBut, ?_⟩
      rw [← hpe, h0, Nat.add_zero]
      exact ⟨q, k, b, hS, hpos⟩
end Go.Proofs.YthmpojefoiojeaaDoor
namespace Go.Proofs.YthmpojefoiojeaaDoor
open Go Go.RowKit
set_option linter.unusedVariables false

def EndR1 (g k off : Nat) (sl : Nat) (v : Value) (W : World) : Prop :=
  match sl with
  | 6 => v = .pointer (some ⟨g, 0, none⟩)
  | 7 => v = .pointer (some ⟨g, 0, none⟩)
  | 8 => v = .pointer (some ⟨g, 8, none⟩)
  | 9 => v = .pointer (some ⟨g, 0, none⟩)
  | 10 => v = .pointer (some ⟨g, 0, none⟩)
  | 11 => v = .pointer (some ⟨g, 72, none⟩)
  | 12 => v = .int .i64 k
  | _ => v = .slice (some ⟨g, off, none⟩) (64 - k) (64 - k)
theorem EndR1.keep {g k off : Nat} {sl : Nat} {v : Value} {W W' : World} (h : EndR1 g k off sl v W) (hb : Below W.heap.size W W') : EndR1 g k off sl v W' := h
def EndR3 (g : Nat) (n : Int) (x b h2 : Nat → Int) (sl : Nat) (v : Value) (W : World) : Prop :=
  match sl with
  | 14 => v = .pointer (some ⟨g, 0, none⟩)
  | 15 => v = .pointer (some ⟨g, 0, none⟩)
  | 16 => v = .pointer (some ⟨g, 0, none⟩)
  | 17 => v = .agg (cellsA 8 (w32 x))
  | 18 => v = .pointer (some ⟨g, 0, none⟩)
  | 19 => v = .pointer (some ⟨g, 0, none⟩)
  | 20 => v = .pointer (some ⟨g, 8, none⟩)
  | 21 => v = .agg (cellsA 64 (w8 b))
  | 22 => v = .pointer (some ⟨g, 0, none⟩)
  | 23 => v = .pointer (some ⟨g, 0, none⟩)
  | 24 => v = .pointer (some ⟨g, 73, none⟩)
  | 25 => v = .int .u64 n
  | 26 => v = .agg (cellsA 8 (w32 h2))
  | _ => v = .int .i64 0
theorem EndR3.keep {g : Nat} {n : Int} {x b h2 : Nat → Int} {sl : Nat} {v : Value} {W W' : World} (h : EndR3 g n x b h2 sl v W) (hb : Below W.heap.size W W') : EndR3 g n x b h2 sl v W' := h

def outV (h : Nat → Int) (n : Nat) : List Value := (List.range n).map fun j => .int .u8 (outI h j)
theorem outV_next (h : Nat → Int) (i : Nat) : outV h (4 * i) ++ [.int .u8 (h i % 256), .int .u8 (h i / 256 % 256), .int .u8 (h i / 65536 % 256), .int .u8 (h i / 16777216 % 256)] = outV h (4 * (i + 1)) := by
  unfold outV
  rw [show 4 * (i + 1) = 4 * i + 1 + 1 + 1 + 1 by omega, List.range_succ, List.range_succ, List.range_succ, List.range_succ]
  simp only [List.map_append, List.map_cons, List.map_nil, List.append_assoc, List.cons_append, List.nil_append]
  have e0 : outI h (4 * i) = h i % 256 := by unfold outI; rw [show 4 * i / 4 = i by omega, show 4 * i % 4 = 0 by omega]; simp
  have e1 : outI h (4 * i + 1) = h i / 256 % 256 := by unfold outI; rw [show (4 * i + 1) / 4 = i by omega, show (4 * i + 1) % 4 = 1 by omega]; simp
  have e2 : outI h (4 * i + 1 + 1) = h i / 65536 % 256 := by unfold outI; rw [show (4 * i + 1 + 1) / 4 = i by omega, show (4 * i + 1 + 1) % 4 = 2 by omega]; rfl
  have e3 : outI h (4 * i + 1 + 1 + 1) = h i / 16777216 % 256 := by unfold outI; rw [show (4 * i + 1 + 1 + 1) / 4 = i by omega, show (4 * i + 1 + 1 + 1) % 4 = 3 by omega]; rfl
  rw [e0, e1, e2, e3]
theorem four_src {W : World} {t : TypeId} (b0 b1 b2 b3 : Int) : ∀ j u, [Value.int .u8 b0, .int .u8 b1, .int .u8 b2, .int .u8 b3][j]? = some u → (W.alloc (.cells #[.int .u8 b0, .int .u8 b1, .int .u8 b2, .int .u8 b3] t)).cell? ((⟨W.heap.size, 0, none⟩ : Addr).add j) = some u := by
  intro j u hu
  rcases j with _ | _ | _ | _ | j <;> simp at hu <;> subst hu <;> simp [go_sem]
theorem ginfo8 : (Tryd.prog.info? 5).map (fun i => (i.zero, i.size, i.bytes)) = some (some (.int .u8 0), 1, 1) := by kernel_rfl
def EndLoop (W2 : World) (h : Nat → Int) (i x : Value) (W : World) : Prop := ∃ j : Nat, j ≤ 8 ∧ i = .int .i64 j ∧ W.ownsRow W2.heap.size 5 1 x (4 * j) (outV h (4 * j)) ∧ Below W2.heap.size W2 W
theorem own_out {W : World} {base : Nat} {e : TypeId} {x : Value} {h : Nat → Int} (ho : W.ownsRow base e 1 x 32 (outV h 32)) : ∃ g c : Nat, x = .slice (some ⟨g, 0, none⟩) 32 c ∧ ∀ i, i < 32 → W.cell? ⟨g, 0 + i, none⟩ = some (.int .u8 (((List.range 32).map (outI h)).getD i 0)) := by
  rcases ho.2 with ⟨_, h0⟩ | ⟨g, cap, cur, rfl, hb, hg, hnc, hcm, hcs, htake⟩
  · omega
  · refine ⟨g, cap, rfl, fun i hi => ?_⟩
    rw [Nat.zero_add, cell_of_row _ _ _ _ _ _ hg]
    have h1 : (outV h 32)[i]? = some (.int .u8 (outI h i)) := by simp [outV, hi]
    rw [← htake, Nat.mul_one, List.getElem?_take_of_lt hi] at h1
    have h2 : ((List.range 32).map (outI h)).getD i 0 = outI h i := by simp [List.getD, hi]
    rw [h2]
    simpa using h1
theorem sumC_clr2 (h b : Nat → Int) (k off : Nat) (n x : Int) (hk : k ≤ 64) (ho : off = 8 + k ∨ k = 64) (j : Nat) (hj : j < 74) : cop (sumC h b x n) off (List.replicate (64 - k) (.int .u8 0)) j = sumC h (bclr b k) x n j := by
  rcases ho with rfl | rfl
  · exact sumC_clr h b k n x hk j hj
  · rw [← sumC_clr h b 64 n x hk j hj]
    show cop _ off [] j = cop _ _ [] j
    rw [cop_nil, cop_nil]
set_option maxRecDepth 100000 in
set_option maxHeartbeats 8000000 in
theorem gend_is (s : ByteArray) (g : Nat) (hs : s.size ≤ 1000000) (hg1 : g ≠ 0) (hg2 : g ≠ 1) (w : World) (hT : TabB w) (hS : SumSt s g s.size w) :
    Calls Tryd.prog 24 #[.pointer (some ⟨g, 0, none⟩)] w fun e w' => e = .returned (.string (sumB s)) ∧ But g w w' := by
  have HT := Lib.hid hT
  obtain ⟨i0, hi, hz0, hz1, hz2⟩ := info_parts ginfo8
  obtain ⟨q, k, b, hS, hpos⟩ := hS
  have hk := hS.held
  have hat := hS.at_
  have hnb : nbl s = q := nbl_is (by omega) (by omega)
  have kp := gpress_is (hseq s q) (blkOf s (64 * q)) s.size true (blkOf_bytes _ _) ⟨by omega, by omega⟩
  have hkp : press (hseq s q) (blkOf s (64 * q)) s.size true = hend s := by unfold hend; rw [hnb]
  rw [hkp] at kp
  have ck := (hS.arr 72 (by decide)).1
  rw [sumC_k] at ck
  obtain ⟨O, hO⟩ : ∃ O, sumB s = O := ⟨_, rfl⟩
  rw [hO]
  have HO := Lib.hid hO
  have HA := Lib.hid hS.arr; have HS := Lib.hid hS
  have HB := Lib.hid (But.refl g w)
  have HH := Lib.hid (fun j hj => sumC_h (hseq s q) (bclr b k) k s.size j hj)
  have HBB := Lib.hid hS.last
  have HC : Hid (∀ off, (off = 8 + k ∨ k = 64) → ∀ j, j < 74 → cop (sumC (hseq s q) b k s.size) off (List.replicate (64 - k) (.int .u8 0)) j = sumC (hseq s q) (bclr b k) k s.size j) := Lib.hid (fun off ho j hj => sumC_clr2 _ _ k off _ _ hk ho j hj)
  have HN := Lib.hid (sumC_n (hseq s q) (bclr b k) k s.size)
  obtain ⟨off, hoff, hoff2, hoff3⟩ : ∃ off, (if 64 = k then (⟨g, 8, none⟩ : Addr) else ⟨g, 8 + k, none⟩) = ⟨g, off, none⟩ ∧ (off = 8 + k ∨ k = 64) ∧ off + (64 - k) ≤ 74 := by
    by_cases h64 : 64 = k
    · exact ⟨8, by rw [if_pos h64], Or.inr h64.symm, by omega⟩
    · exact ⟨8 + k, by rw [if_neg h64], Or.inl rfl, by omega⟩
  have HSL : Hid (Value.slice (some (if 64 = k then (⟨g, 8, none⟩ : Addr) else ⟨g, 8 + k, none⟩)) (64 - k) (64 - k) = Value.slice (some ⟨g, off, none⟩) (64 - k) (64 - k)) := Lib.hid (by rw [hoff])
  have hkI : (k : Int) ≤ 64 := by omega
  have HSB := Lib.hid (show sumB s = strOfNums ((List.range 32).map (outI (hend s))) from rfl)
  clear hkp hnb hat hT hO hS hpos hoff
  generalize hF : sumC (hseq s q) b k s.size = F at *
  generalize hF2 : sumC (hseq s q) (bclr b k) k s.size = F2 at *
  generalize hend s = h2 at *
  generalize hseq s q = h at *
  generalize blkOf s (64 * q) = bb at *
  clear hF hF2
  go_enter Tryd.func24, Tryd.ntmps24
  go_upto_region 1 with fail
  refine wp_loose [(6, []), (7, [6]), (8, [7]), (9, []), (10, [9]), (11, [10]), (12, [11]), (13, [8, 12])]
    (EndR1 g k off) (fun d => false) (by kernel_rfl) (by kernel_rfl) (fun _ _ _ _ h hb => h.keep hb) ?_ ?_
  · refine opsrun_cons ?_ (opsrun_cons ?_ (opsrun_cons ?_ (opsrun_cons ?_ (opsrun_cons ?_ (opsrun_cons ?_ (opsrun_cons ?_ (opsrun_cons ?_ opsrun_nil)))))))
    all_goals
      refine OpRuns.any ?_
      intro Q0 σ W' K hb hn hK
      simp only [fill, List.map, Act.put, List.setIfInBounds_toArray, List.set_cons_zero, List.set_cons_succ] at hK ⊢
    · clear hn
      go_simp
      exact hK _ _ rfl (Below.refl _ _) (fun h => absurd h (by decide))
    · have h6 : σ 6 = _ := hn 6 (by decide)
      clear hn
      simp only [h6] at hK
      go_simp
      exact hK _ _ rfl (Below.refl _ _) (fun h => absurd h (by decide))
    · have h7 : σ 7 = _ := hn 7 (by decide)
      clear hn
      simp only [h7] at hK
      go_simp
      exact hK _ _ rfl (Below.refl _ _) (fun h => absurd h (by decide))
    · clear hn
      go_simp
      exact hK _ _ rfl (Below.refl _ _) (fun h => absurd h (by decide))
    · have h9 : σ 9 = _ := hn 9 (by decide)
      clear hn
      simp only [h9] at hK
      go_simp
      exact hK _ _ rfl (Below.refl _ _) (fun h => absurd h (by decide))
    · have h10 : σ 10 = _ := hn 10 (by decide)
      clear hn
      simp only [h10] at hK
      go_simp
      exact hK _ _ rfl (Below.refl _ _) (fun h => absurd h (by decide))
    · have h11 : σ 11 = _ := hn 11 (by decide)
      clear hn
      simp only [h11] at hK
      have ck' := bkeep hb ck
      clear ck
      go_simp
      exact hK _ _ rfl (Below.refl _ _) (fun h => absurd h (by decide))
    · have h8 : σ 8 = _ := hn 8 (by decide)
      have h12 : σ 12 = _ := hn 12 (by decide)
      clear hn
      simp only [h8, h12] at hK
      go_simp
      exact hK _ _ HSL.out (Below.refl _ _) (fun h => absurd h (by decide))
  intro σ W' hb hR' hF
  have h13 : σ 13 = _ := hR' 13 (by decide)
  replace HB := Lib.hid (HB.out.then hb); replace HA := Lib.hid (HA.out.keep hb)
  clear hR' hF hb ck HSL HS
  simp only [fill, List.map, Act.put, List.setIfInBounds_toArray, List.set_cons_zero, List.set_cons_succ, List.length_cons, List.length_nil, List.drop_succ_cons, List.drop_zero, Nat.reduceAdd, h13]
  clear h13
  go_upto_region 2 with (refine wpList_clear_arr rfl _ 51 rfl 5 (.int .u8 0) rfl (by kernel_rfl) rfl rfl g 74 off (64 - k) (64 - k) rfl _ HA.out hoff3 ?_; intro W5 HB5 HA5)
  refine wp_gen (fun W => But g w W ∧ Arr W g 74 F2) ⟨HB.out.trans HB5.out, HA5.out.same fun j hj => HC.out off hoff2 j hj⟩ ?_
  clear HB HA HC
  rintro W6 ⟨hB, hA⟩
  have cn := (hA 73 (by decide)).1
  rw [HN.out] at cn
  have HT2 := Lib.hid (HT.out.but hB hg1 hg2)
  have HB := Lib.hid hB; have HA := Lib.hid hA
  clear hB hA HN
  go_upto_region 3 with fail
  refine wp_loose [(14, []), (15, [14]), (16, [15]), (17, [16]), (18, []), (19, [18]), (20, [19]), (21, [20]), (22, []), (23, [22]), (24, [23]), (25, [24]), (26, [17, 21, 25]), (27, [])]
    (EndR3 g s.size h bb h2) (fun d => false) (by kernel_rfl) (by kernel_rfl) (fun _ _ _ _ h hb => h.keep hb) ?_ ?_
  · refine opsrun_cons ?_ (opsrun_cons ?_ (opsrun_cons ?_ (opsrun_cons ?_ (opsrun_cons ?_ (opsrun_cons ?_ (opsrun_cons ?_ (opsrun_cons ?_ (opsrun_cons ?_ (opsrun_cons ?_ (opsrun_cons ?_ (opsrun_cons ?_ (opsrun_cons ?_ (opsrun_cons ?_ opsrun_nil)))))))))))))
    all_goals
      refine OpRuns.any ?_
      intro Q0 σ W' K hb hn hK
      simp only [fill, List.map, Act.put, List.setIfInBounds_toArray, List.set_cons_zero, List.set_cons_succ] at hK ⊢
    · clear hn
      go_simp
      exact hK _ _ rfl (Below.refl _ _) (fun h => absurd h (by decide))
    · have h14 : σ 14 = _ := hn 14 (by decide)
      clear hn
      simp only [h14] at hK
      go_simp
      exact hK _ _ rfl (Below.refl _ _) (fun h => absurd h (by decide))
    · have h15 : σ 15 = _ := hn 15 (by decide)
      clear hn
      simp only [h15] at hK
      go_simp
      exact hK _ _ rfl (Below.refl _ _) (fun h => absurd h (by decide))
    · have h16 : σ 16 = _ := hn 16 (by decide)
      clear hn
      simp only [h16] at hK
      simp only [h16]
      rw [if_pos]
      · refine wp_pieceA 42 41 _ rfl g 0 74 8 F2 (w32 h) rfl (HA.out.keep hb) (by decide) (fun j hj => HH.out j hj) (by kernel_rfl) (by kernel_rfl) ?_
        exact hK _ _ rfl (Below.refl _ _) (fun h => absurd h (by decide))
      · rfl
    · clear hn
      go_simp
      exact hK _ _ rfl (Below.refl _ _) (fun h => absurd h (by decide))
    · have h18 : σ 18 = _ := hn 18 (by decide)
      clear hn
      simp only [h18] at hK
      go_simp
      exact hK _ _ rfl (Below.refl _ _) (fun h => absurd h (by decide))
    · have h19 : σ 19 = _ := hn 19 (by decide)
      clear hn
      simp only [h19] at hK
      go_simp
      exact hK _ _ rfl (Below.refl _ _) (fun h => absurd h (by decide))
    · have h20 : σ 20 = _ := hn 20 (by decide)
      clear hn
      simp only [h20] at hK
      simp only [h20]
      rw [if_pos]
      · refine wp_pieceA 43 5 _ rfl g 8 74 64 F2 (w8 bb) rfl (HA.out.keep hb) (by decide) (fun j hj => HBB.out j hj) (by kernel_rfl) (by kernel_rfl) ?_
        exact hK _ _ rfl (Below.refl _ _) (fun h => absurd h (by decide))
      · rfl
    · clear hn
      go_simp
      exact hK _ _ rfl (Below.refl _ _) (fun h => absurd h (by decide))
    · have h22 : σ 22 = _ := hn 22 (by decide)
      clear hn
      simp only [h22] at hK
      go_simp
      exact hK _ _ rfl (Below.refl _ _) (fun h => absurd h (by decide))
    · have h23 : σ 23 = _ := hn 23 (by decide)
      clear hn
      simp only [h23] at hK
      go_simp
      exact hK _ _ rfl (Below.refl _ _) (fun h => absurd h (by decide))
    · have h24 : σ 24 = _ := hn 24 (by decide)
      clear hn
      simp only [h24] at hK
      have cn' := bkeep hb cn
      clear cn
      go_simp
      exact hK _ _ rfl (Below.refl _ _) (fun h => absurd h (by decide))
    · have h17 : σ 17 = _ := hn 17 (by decide)
      have h21 : σ 21 = _ := hn 21 (by decide)
      have h25 : σ 25 = _ := hn 25 (by decide)
      clear hn
      simp only [h17, h21, h25] at hK
      go_simp
      go_at_call 29
      refine (kp _ (HT2.out.keep hb)).mono ?_
      rintro e w1 ⟨rfl, hb1⟩
      exact hK _ _ rfl hb1 (fun h => absurd h (by decide))
    · clear hn
      go_simp
      exact hK _ _ rfl (Below.refl _ _) (fun h => absurd h (by decide))
  intro σ W' hb hR' hF
  have h26 : σ 26 = _ := hR' 26 (by decide)
  have h27 : σ 27 = _ := hR' 27 (by decide)
  replace HB := Lib.hid (HB.out.then hb)
  clear hR' hF hb cn HT2 HA
  simp only [fill, List.map, Act.put, List.setIfInBounds_toArray, List.set_cons_zero, List.set_cons_succ, List.length_cons, List.length_nil, List.drop_succ_cons, List.drop_zero, Nat.reduceAdd, h26, h27]
  clear h26 h27
  go_upto_region 4 with fail
  go_loopw [27, 3] (EndLoop W' h2) (fun i _ _ => 8 - (intOf i).toNat)
  case atStart => exact ⟨0, by decide, rfl, World.ownsRow_nil _ _ _ _, Below.refl _ _⟩
  case round =>
    obtain ⟨i, hi8', rfl, hown, hbe⟩ := hrel
    by_cases hlt : i < 8
    · have hi8 : (i : Int) < 8 := by omega
      have hsz := hbe.size
      have HV := Lib.hid (outV_next h2 i)
      have HE := Lib.hid hbe; have HW := Lib.hid hown
      have hge := own_ge hown
      have HG := Lib.hid hge
      clear hbe hge
      generalize outV h2 (4 * i) = cs at *
      go_upto_region 6 with (refine wpList_indexA rfl 42 41 _ _ rfl 8 _ .i64 i rfl rfl hlt (by kernel_rfl) (by kernel_rfl) (by kernel_rfl) ?_)
      simp only [w32]
      generalize h2 i = x at *
      go_upto_region 7 with (at_builtin; refine wpList_append_own _ rfl _ _ 51 rfl W'.heap.size 5 i0 (.int .u8 0) 1 1 Tryd.underlying51 hi hz0 hz1 hz2 rfl (by decide) _ _ _ rfl (hown.alloc _) ⟨wr.heap.size, 0, none⟩ 4 4 [.int .u8 (x % 256), .int .u8 (x / 256 % 256), .int .u8 (x / 65536 % 256), .int .u8 (x / 16777216 % 256)] rfl rfl ?c1 ?c2 ?c3 ?c4 ?c5 ?_)
      case c1 => exact four_src _ _ _ _
      case c2 => intro u hu; simp at hu; rcases hu with rfl | rfl | rfl | rfl <;> rfl
      case c3 => unfold maxLen; omega
      case c4 => omega
      case c5 => simp; omega
      · intro v' w1 hown' hgrow _
        rw [HV.out] at hown'
        have hB2 : Below W'.heap.size W' w1 := (HE.out.alloc hsz _).grown hgrow (by simp; omega) HG.out
        clear hgrow hown HV HE HW HG
        go_wp2
        go_roundw
        case rel => exact ⟨i + 1, by omega, by go_num, hown', hB2⟩
        case measure => simp [intOf]; omega
    · obtain rfl : i = 8 := by omega
      obtain ⟨gg, cc, rfl, hcell⟩ := own_out hown
      have hcv := run_convert_bytes_arg (P := Tryd.prog) wr 51 5 (by kernel_rfl) (by kernel_rfl) gg 0 32 cc ((List.range 32).map (outI h2)) (by simp) hcell 9 (by kernel_rfl)
      rw [← HSB.out, HO.out] at hcv
      clear hcell hown
      go_wp2_with fail
      go_ret
      exact ⟨rfl, HB.out.then hbe⟩
end Go.Proofs.YthmpojefoiojeaaDoor
namespace Go.Proofs.YthmpojefoiojeaaDoor
open Go Go.RowKit
set_option linter.unusedVariables false

theorem sumC_set0 (s : ByteArray) (j : Nat) (hj : j < 74) : (if j = 0 then Value.int .u32 (bits .xor .u32 (beg 0) 16842784) else sumC beg (fun _ => 0) 0 0 j) = sumC (hseq s 0) (fun _ => 0) 0 0 j := by
  show _ = sumC h0 (fun _ => 0) 0 0 j
  unfold sumC h0 upd xor32
  by_cases h : j = 0
  · subst h; rfl
  · rw [if_neg h]; simp only [if_neg h]
theorem start_built : Tryd.prog.built 45 [(0, .agg (cellsA 8 fun j => .int .u32 (beg j)))] = some (cellsA 74 (sumC beg (fun _ => 0) 0 0)) := by kernel_rfl
theorem start_all : (cellsA 74 (sumC beg (fun _ => 0) 0 0)).all (·.oneCell') = true := by kernel_rfl
theorem lens_get (f : Nat → ByteArray) (len j : Nat) (h : j < len) : lens f j + (f j).size ≤ lens f len := by
  have := lens_mono f (j + 1) (len - (j + 1))
  rw [show j + 1 + (len - (j + 1)) = len by omega, lens] at this
  exact this
theorem gbyt_append (s t : ByteArray) (i : Nat) : byt (s ++ t) i = if i < s.size then byt s i else byt t (i - s.size) := by
  unfold byt
  have hs : s.data.toList.length = s.size := (Go.Lib.size_eq s).symm
  rw [ByteArray.data_append, Array.toList_append]
  by_cases h : i < s.size
  · rw [if_pos h]
    simp only [List.getD]
    rw [List.getElem?_append_left (by omega)]
  · rw [if_neg h]
    simp only [List.getD]
    rw [List.getElem?_append_right (by omega), hs]
/-- The bytes of the texts put together. -/
theorem gbyt_cat (f : Nat → ByteArray) (j i : Nat) : ∀ n, j < n → i < (f j).size → byt (cat f n) (lens f j + i) = byt (f j) i
  | 0, h, _ => by omega
  | n + 1, h, hi => by
    rw [cat, gbyt_append, cat_size]
    by_cases hj : j < n
    · rw [if_pos (by have := lens_get f n j hj; omega)]
      exact gbyt_cat f j i n hj hi
    · obtain rfl : j = n := by omega
      rw [if_neg (by omega)]
      congr 1
      omega
def SumLoop (w : World) (s : ByteArray) (f : Nat → ByteArray) (len g : Nat) (i : Value) (W : World) : Prop := ∃ j : Nat, j ≤ len ∧ i = .int .i64 j ∧ Below w.heap.size w W ∧ SumSt s g (lens f j) W

set_option maxRecDepth 100000 in
set_option maxHeartbeats 8000000 in
theorem gsum_is (a : Option Addr) (len cap : Nat) (f : Nat → ByteArray) (w : World) (hr : StrA w a len f) (hl : lens f len ≤ 1000000) (hT : TabB w) :
    Calls Tryd.prog 17 #[.slice a len cap] w fun e w' => e = .returned (.string (sumB (cat f len))) ∧ Below w.heap.size w w' := by
  have HR := Lib.hid hr
  have hml := hr.1
  unfold maxLen at hml
  have HT := Lib.hid hT
  have HL := Lib.hid hl
  have hg1 : w.heap.size ≠ 0 := by have := hT.lt.1; omega
  have hg2 : w.heap.size ≠ 1 := by have := hT.lt.2; omega
  have hz : ∀ w, (zeroValue 45).run Tryd.prog w = .ok (.agg (cellsA 74 (sumC (fun _ => 0) (fun _ => 0) 0 0))) w := fun w => run_zeroA _ _ (by kernel_rfl)
  obtain ⟨s, hs⟩ : ∃ s, cat f len = s := ⟨_, rfl⟩
  have hsz : s.size = lens f len := by rw [← hs, cat_size]
  have HCat := Lib.hid (fun j i hj hi => gbyt_cat f j i len hj hi)
  rw [hs] at HCat ⊢
  have ke := gend_is s w.heap.size (by omega) hg1 hg2
  obtain ⟨O, hO⟩ : ∃ O, sumB s = O := ⟨_, rfl⟩
  rw [hO] at ke ⊢
  clear hr hT hl hO hs
  go_enter Tryd.func17, Tryd.ntmps17
  go_upto_region 2 with (first
    | refine wpList_loadT rfl 42 41 _ rfl 0 8 .u32 beg rfl HT.out.1 (by kernel_rfl) (by kernel_rfl) ?_
    | refine wpList_buildTo rfl 45 _ rfl (some 7) rfl (cellsA 74 (sumC beg (fun _ => 0) 0 0)) (by kernel_rfl) ?_
    | refine wpList_storeA rfl 45 _ _ rfl rfl w.heap.size 74 _ _ rfl rfl (Arr.box w 74 _ _) (cellsA_size _ _) (by kernel_rfl) start_all ?_)
  refine wp_gen (fun W => Below w.heap.size w W ∧ Arr W w.heap.size 74 (sumC beg (fun _ => 0) 0 0)) ⟨belowCells ((Below.refl _ _).alloc (Nat.le_refl _) _) _ (Nat.le_refl _) _ _, (Arr.box w 74 _ _).stored _⟩ ?_
  rintro W1 ⟨hB, hA⟩
  obtain ⟨c0, f0⟩ := hA 0 (by decide)
  have HB := Lib.hid hB; have HA := Lib.hid hA
  replace c0 : W1.cell? ⟨w.heap.size, 0, none⟩ = some (.int .u32 (beg 0)) := c0
  clear hB hA hz
  go_upto_region 3 with fail
  refine wp_gen (fun W => Below w.heap.size w W ∧ SumSt s w.heap.size (lens f 0) W) ⟨HB.out.setCell (Nat.le_refl _) _, 0, 0, fun _ => 0, ⟨rfl, Nat.zero_le _, by decide, fun j hj => by omega, (HA.out.set 0 _ (by decide)).same fun j hj => sumC_set0 s j hj⟩, Or.inl rfl⟩ ?_
  clear HB HA c0 f0
  rintro W2 ⟨hB, hS⟩
  go_upto_region 4 with fail
  go_loopw [16] (SumLoop w s f len w.heap.size) (fun i _ => len - (intOf i).toNat)
  case atStart => exact ⟨0, Nat.zero_le _, rfl, hB, hS⟩
  case round =>
    clear hB hS
    obtain ⟨j, hj, rfl, hB, hS⟩ := hrel
    by_cases hlt : j < len
    · obtain ⟨b, off, rfl, c⟩ := HR.out.2 j hlt
      have hlt' : (j : Int) < (len : Int) := by omega
      replace c := bkeep hB c
      have hle := lens_get f len j hlt
      have kw := gwrite_is s (f j) w.heap.size (lens f j) (fun i hi => (HCat.out j i hlt hi).symm) (by omega) (by have := HL.out; omega) hg1 hg2
      have HB := Lib.hid hB; have HS := Lib.hid hS
      have HX := Lib.hid (show lens f (j + 1) = lens f j + (f j).size from rfl)
      clear hB hS
      generalize f j = t at *
      generalize lens f j = p at *
      go_upto_region 7 with (go_at_call 23; ((with_reducible refine (kw _ (HT.out.keep HB.out) HS.out).mono ?_); rintro e w1 ⟨rfl, hb, hS⟩))
      refine wp_gen (fun W => Below w.heap.size w W ∧ SumSt s w.heap.size (lens f (j + 1)) W) ⟨But.below HB.out hb (Nat.le_refl _) HB.out.size, by rw [HX.out]; exact hS⟩ ?_
      clear HB HS HX hb hS kw c
      rintro W3 ⟨hB, hS⟩
      go_wp2
      go_roundw
      case rel => exact ⟨j + 1, by omega, by go_num, hB, hS⟩
      case measure => simp [intOf]; omega
    · obtain rfl : j = len := by omega
      rw [← hsz] at hS
      go_wp2_with (go_at_call 24; ((with_reducible refine (ke _ (HT.out.keep hB) hS).mono ?_); rintro e w1 ⟨rfl, hb⟩))
      go_ret
      exact ⟨rfl, But.below hB hb (Nat.le_refl _) hB.size⟩
end Go.Proofs.YthmpojefoiojeaaDoor
