/-
  What the program's calls of layer 20 come to. (Written by gen_fprog.py.)
-/
import Derived.Test.YthfkfgjhgicfeaaGreatDoorGFold
import Derived.BigQuiet
namespace Go.Proofs.YthfkfgjhgicfeaaGreatDoor
open Go Go.RowKit Go.Sort Go.BigFrame
set_option linter.unusedVariables false

/-! ### Plain -/
/-- By what halves of a difference are multiplied, at the k-th place. -/
def overF (y : F2) (s r : F) (k : Nat) : F2 := scale (scale y (finv s)) (fpow (finv r) k)
theorem overF_zero (y : F2) (s r : F) : overF y s r 0 = scale y (finv s) := by
  unfold overF
  rw [fpow_zero]
  exact F2.eq (show _ * (1 : F) = _ by grind) (show _ * (1 : F) = _ by grind)
theorem overF_succ (y : F2) (s r : F) (k : Nat) : scale (overF y s r k) (finv r) = overF y s r (k + 1) := by
  unfold overF
  rw [fpow_succ]
  exact F2.eq (show _ * _ * _ = _ * (_ * _) by grind) (show _ * _ * _ = _ * (_ * _) by grind)
theorem finv_pt {s r : F} (hs : s ≠ 0) (hr : r ≠ 0) (k : Nat) : finv (s * fpow r k) = finv s * fpow (finv r) k := by
  refine (finv_unique _ _ ?_).symm
  have h1 := fpow_finv hr k
  have h2 := mul_finv s hs
  generalize fpow r k = a at *
  generalize fpow (finv r) k = b at *
  generalize finv s = c at *
  have : s * a * (c * b) = (s * c) * (a * b) := by grind
  rw [this, h1, h2]; grind
/-- Half of all at once, as the program goes. -/
theorem foldV_half (a b y : F2) (x : F) : scale ((a + b) + scale y (finv x) * (a - b)) halfF = foldV a b y x := by
  unfold foldV
  generalize halfF = h
  generalize finv x = c
  refine F2.eq ?_ ?_
  · simp only [scale, F2.add_a, F2.mul_a, F2.sub_a, F2.sub_b]; grind
  · simp only [scale, F2.add_b, F2.mul_b, F2.sub_a, F2.sub_b]; grind
theorem foldV_over (a b y : F2) {s r : F} (hs : s ≠ 0) (hr : r ≠ 0) (k : Nat) : scale ((a + b) + overF y s r k * (a - b)) halfF = foldV a b y (s * fpow r k) := by
  rw [← foldV_half, finv_pt hs hr]
  have : overF y s r k = scale y (finv s * fpow (finv r) k) := F2.eq (show _ * _ * _ = _ * (_ * _) by grind) (show _ * _ * _ = _ * (_ * _) by grind)
  rw [this]

/-! ### Shift, Point -/
set_option maxHeartbeats 4000000 in
theorem fshift_is (f z : Int) (hz : enc (shiftF f) = z) (w : World) : Calls Tryz.prog 92 #[.int .i64 f] w fun e w' => e = .returned (.int .u64 z) ∧ Below w.heap.size w w' := by
  have HZ := Lib.hid hz
  obtain ⟨n, hn⟩ : ∃ n, foldN f = n := ⟨_, rfl⟩
  have HN := Lib.hid hn
  obtain ⟨q, hq⟩ : ∃ q, min f 64 = q := ⟨_, rfl⟩
  have hqn : q = (n : Int) ∨ (q ≤ 0 ∧ n = 0) := by unfold foldN at hn; omega
  have hn2 : n ≤ 64 := by unfold foldN at hn; omega
  have h7 : enc (shiftU 0) = 7 := by decide +kernel
  have HQ := Lib.hid hq
  clear hz hn hq
  go_enter Tryz.func92, Tryz.ntmps92
  go_upto_region 3 with fail
  simp only [HQ.out]
  go_loopw [3, 6] (ShiftRel w n) (fun _ i _ => n - (intOf i).toNat)
  case atStart => exact ⟨0, Nat.zero_le _, by rw [h7], rfl, Below.refl _ _⟩
  case round =>
    clear h7 HQ
    obtain ⟨k, hk, rfl, rfl, hB⟩ := hrel
    by_cases hlt : k < n
    · have h1 : (k : Int) < q := by omega
      have m1 := fun W => mul_is (enc (shiftU k)) (enc (shiftU k)) (enc (shiftU (k + 1))) (enc_U _) (enc_U _) (by rw [toF_enc]; rfl) W
      generalize hs1 : enc (shiftU (k + 1)) = s1 at *
      have HS1 := Lib.hid hs1
      clear hs1
      generalize enc (shiftU k) = s0 at *
      clear hqn
      go_wp2_with (go_at_call 101; (with_reducible refine (m1 _).mono ?_); rintro E w1 ⟨rfl, rfl⟩)
      go_roundw
      case rel => exact ⟨k + 1, by omega, by rw [HS1.out], by go_num, hB⟩
      case measure => simp [intOf]; omega
    · obtain rfl : k = n := by omega
      have hD : enc (shiftU k) = z := by rw [← HZ.out]; unfold shiftF; rw [HN.out]
      rw [hD]
      clear hD HZ HN
      have h1 : ¬ (k : Int) < q := by omega
      clear hqn
      go_wp2_with fail
      go_ret
      exact ⟨rfl, hB⟩
set_option maxHeartbeats 1000000 in
theorem fpoint_is (m f i z : Int) (hi : i ≤ 9223372036854775807) (hz : enc (pointF m f i) = z) (w : World) : Calls Tryz.prog 66 #[.int .i64 m, .int .i64 f, .int .i64 i] w fun e w' => e = .returned (.int .u64 z) ∧ Below w.heap.size w w' := by
  by_cases h : i < 0
  · rw [pointF_low h] at hz
    have hz : (0 : Int) = z := hz
    subst hz
    go_enter Tryz.func66, Tryz.ntmps66
    go_wp2
    go_ret
    exact ⟨rfl, Below.refl _ _⟩
  · rw [pointF_at h] at hz
    have hw : IntKind.u64.wrap i = i := by rw [IntKind.wrap_u64]; omega
    have s1 := fun W => fshift_is f _ rfl W
    have o1 := fun W => of_is m _ rfl W
    have p1 := fun W => pow_is (enc (ofv m)) i (enc (fpow (ofv m) i.toNat)) (enc_U _) (by unfold U; omega) (by rw [toF_enc]) W
    have m1 := fun W => mul_is (enc (shiftF f)) (enc (fpow (ofv m) i.toNat)) z (enc_U _) (enc_U _) (by rw [toF_enc, toF_enc]; exact hz) W
    generalize enc (fpow (ofv m) i.toNat) = pv at *
    generalize enc (ofv m) = ov at *
    generalize enc (shiftF f) = sv at *
    have HB := Lib.hid (Below.refl w.heap.size w)
    clear hz
    go_enter Tryz.func66, Tryz.ntmps66
    go_wp2_with (first
      | (go_at_call 92; (with_reducible refine (s1 _).mono ?_); rintro E w1 ⟨rfl, hb⟩; replace HB := Lib.hid (bthen HB.out hb); clear hb)
      | (go_at_call 67; (with_reducible refine (o1 _).mono ?_); rintro E w2 ⟨rfl, rfl⟩)
      | (go_at_call 102; (with_reducible refine (p1 _).mono ?_); rintro E w3 ⟨rfl, rfl⟩)
      | (go_at_call 101; (with_reducible refine (m1 _).mono ?_); rintro E w4 ⟨rfl, rfl⟩))
    go_ret
    exact ⟨rfl, HB.out⟩

/-! ### Half of all -/
def HalvR (a0 a1 b0 b1 y0 y1 : Int) (s d m t z : F2) (sl : Nat) (v : Value) (W : World) : Prop :=
  match sl with
  | 7 => v = .agg #[.int .u64 a0, .int .u64 a1]
  | 8 => v = .agg #[.int .u64 b0, .int .u64 b1]
  | 9 => v = .agg #[.int .u64 (enc s.a), .int .u64 (enc s.b)]
  | 10 => v = .agg #[.int .u64 y0, .int .u64 y1]
  | 11 => v = .agg #[.int .u64 a0, .int .u64 a1]
  | 12 => v = .agg #[.int .u64 b0, .int .u64 b1]
  | 13 => v = .agg #[.int .u64 (enc d.a), .int .u64 (enc d.b)]
  | 14 => v = .agg #[.int .u64 (enc m.a), .int .u64 (enc m.b)]
  | 15 => v = .agg #[.int .u64 (enc t.a), .int .u64 (enc t.b)]
  | _ => v = .agg #[.int .u64 (enc z.a), .int .u64 (enc z.b)]
theorem HalvR.keep {a0 a1 b0 b1 y0 y1 : Int} {s d m t z : F2} {sl : Nat} {v : Value} {W W' : World} (h : HalvR a0 a1 b0 b1 y0 y1 s d m t z sl v W) (hb : Below W.heap.size W W') : HalvR a0 a1 b0 b1 y0 y1 s d m t z sl v W' := h
def OneP (a0 a1 b0 b1 y0 y1 xv : Int) (o z : F2) (sl : Nat) (v : Value) (W : World) : Prop :=
  match sl with
  | 20 => v = .agg #[.int .u64 a0, .int .u64 a1]
  | 21 => v = .agg #[.int .u64 b0, .int .u64 b1]
  | 22 => v = .agg #[.int .u64 y0, .int .u64 y1]
  | 23 => v = .int .u64 xv
  | 24 => v = .agg #[.int .u64 (enc o.a), .int .u64 (enc o.b)]
  | _ => v = .agg #[.int .u64 (enc z.a), .int .u64 (enc z.b)]
theorem OneP.keep {a0 a1 b0 b1 y0 y1 xv : Int} {o z : F2} {sl : Nat} {v : Value} {W W' : World} (h : OneP a0 a1 b0 b1 y0 y1 xv o z sl v W) (hb : Below W.heap.size W W') : OneP a0 a1 b0 b1 y0 y1 xv o z sl v W' := h

set_option maxRecDepth 100000 in
set_option maxHeartbeats 8000000 in
theorem halved_is (a0 a1 b0 b1 y0 y1 : Int) (a b y z : F2) (w : World) (ha : Rep a0 a1 a) (hb : Rep b0 b1 b) (hy : Rep y0 y1 y) (hz : scale ((a + b) + y * (a - b)) halfF = z) :
    Calls Tryz.prog 93 #[.agg #[.int .u64 a0, .int .u64 a1], .agg #[.int .u64 b0, .int .u64 b1], .agg #[.int .u64 y0, .int .u64 y1]] w fun e w' => e = .returned (.agg #[.int .u64 (enc z.a), .int .u64 (enc z.b)]) ∧ Below w.heap.size w w' := by
  have a1' := fun W => padd_q a0 a1 b0 b1 a b (a + b) ha hb rfl W
  have t1 := fun W => psub_q a0 a1 b0 b1 a b (a - b) ha hb rfl W
  have m1 := fun W => pmul_q y0 y1 (enc (a - b).a) (enc (a - b).b) y (a - b) (y * (a - b)) hy (rep_enc _) rfl W
  have a2 := fun W => padd_q (enc (a + b).a) (enc (a + b).b) (enc (y * (a - b)).a) (enc (y * (a - b)).b) (a + b) (y * (a - b)) ((a + b) + y * (a - b)) (rep_enc _) (rep_enc _) rfl W
  have s1 := fun W => pscale_q (enc ((a + b) + y * (a - b)).a) (enc ((a + b) + y * (a - b)).b) 9223372034707292161 ((a + b) + y * (a - b)) z (rep_enc _) (by unfold U; decide) (by rw [show toF 9223372034707292161 = halfF by rw [halfF_lit]; decide +kernel]; exact hz) W
  clear hz
  generalize (a + b) + y * (a - b) = t at *
  generalize y * (a - b) = m at *
  generalize a + b = s at *
  generalize a - b = d at *
  go_enter Tryz.func93, Tryz.ntmps93
  go_upto_region 1 with fail
  obtain ⟨ga, hga⟩ : ∃ g, w.heap.size = g := ⟨_, rfl⟩
  obtain ⟨gb, hgb⟩ : ∃ g, ga + 1 = g := ⟨_, rfl⟩
  obtain ⟨gy, hgy⟩ : ∃ g, gb + 1 = g := ⟨_, rfl⟩
  obtain ⟨gr, hgr⟩ : ∃ g, gy + 1 = g := ⟨_, rfl⟩
  refine wp_gen (fun W => Below w.heap.size w W ∧ Duo W ga (.int .u64 a0) (.int .u64 a1) ∧ Duo W gb (.int .u64 b0) (.int .u64 b1) ∧ Duo W gy (.int .u64 y0) (.int .u64 y1) ∧ Duo W gr (.int .u64 0) (.int .u64 0)) ⟨((((Below.refl _ _).alloc (Nat.le_refl _) _).alloc (by simp) _).alloc (by simp; omega) _).alloc (by simp; omega) _, by rw [← hga]; simp [Duo, go_sem], by rw [← hgb, ← hga]; simp [Duo, go_sem], by rw [← hgy, ← hgb, ← hga]; simp [Duo, go_sem], by rw [← hgr, ← hgy, ← hgb, ← hga]; simp [Duo, go_sem]⟩ ?_
  rintro w0 ⟨hB, hA, hV, hY, hR⟩
  have HGR : Hid (w.heap.size ≤ gr) := Lib.hid (by omega)
  simp only [hga, hgb, hgy, hgr]
  have HB := Lib.hid hB; have HR := Lib.hid hR
  obtain ⟨c0, c1, _, _⟩ := hA
  obtain ⟨d0, d1, _, _⟩ := hV
  obtain ⟨e0, e1, _, _⟩ := hY
  clear hB hR hga hgb hgy hgr ha hb hy
  refine wp_loose [(7, []), (8, []), (9, [7, 8]), (10, []), (11, []), (12, []), (13, [11, 12]), (14, [10, 13]), (15, [9, 14]), (16, [15])]
    (HalvR a0 a1 b0 b1 y0 y1 s d m t z) (fun d => false) (by kernel_rfl) (by kernel_rfl) (fun _ _ _ _ h hb => h.keep hb) ?_ ?_
  · refine opsrun_cons ?_ (opsrun_cons ?_ (opsrun_cons ?_ (opsrun_cons ?_ (opsrun_cons ?_ (opsrun_cons ?_ (opsrun_cons ?_ (opsrun_cons ?_ (opsrun_cons ?_ (opsrun_cons ?_ opsrun_nil)))))))))
    all_goals
      refine OpRuns.any ?_
      intro Q0 σ W' K hb hn hK
      simp only [fill, List.map, Act.put, List.setIfInBounds_toArray, List.set_cons_zero, List.set_cons_succ] at hK ⊢
    · clear hn
      have c0' := bkeep hb c0
      have c1' := bkeep hb c1
      clear c0 c1
      go_simp
      exact hK _ _ rfl (Below.refl _ _) (fun h => absurd h (by decide))
    · clear hn
      have d0' := bkeep hb d0
      have d1' := bkeep hb d1
      clear d0 d1
      go_simp
      exact hK _ _ rfl (Below.refl _ _) (fun h => absurd h (by decide))
    · have h7 : σ 7 = _ := hn 7 (by decide)
      have h8 : σ 8 = _ := hn 8 (by decide)
      clear hn
      simp only [h7, h8] at hK
      go_simp
      go_at_call 99
      refine (a1' _).mono ?_
      rintro e w1 ⟨rfl, hb1⟩
      exact hK _ _ rfl hb1 (fun h => absurd h (by decide))
    · clear hn
      have e0' := bkeep hb e0
      have e1' := bkeep hb e1
      clear e0 e1
      go_simp
      exact hK _ _ rfl (Below.refl _ _) (fun h => absurd h (by decide))
    · clear hn
      have c0' := bkeep hb c0
      have c1' := bkeep hb c1
      clear c0 c1
      go_simp
      exact hK _ _ rfl (Below.refl _ _) (fun h => absurd h (by decide))
    · clear hn
      have d0' := bkeep hb d0
      have d1' := bkeep hb d1
      clear d0 d1
      go_simp
      exact hK _ _ rfl (Below.refl _ _) (fun h => absurd h (by decide))
    · have h11 : σ 11 = _ := hn 11 (by decide)
      have h12 : σ 12 = _ := hn 12 (by decide)
      clear hn
      simp only [h11, h12] at hK
      go_simp
      go_at_call 75
      refine (t1 _).mono ?_
      rintro e w1 ⟨rfl, hb1⟩
      exact hK _ _ rfl hb1 (fun h => absurd h (by decide))
    · have h10 : σ 10 = _ := hn 10 (by decide)
      have h13 : σ 13 = _ := hn 13 (by decide)
      clear hn
      simp only [h10, h13] at hK
      go_simp
      go_at_call 78
      refine (m1 _).mono ?_
      rintro e w1 ⟨rfl, hb1⟩
      exact hK _ _ rfl hb1 (fun h => absurd h (by decide))
    · have h9 : σ 9 = _ := hn 9 (by decide)
      have h14 : σ 14 = _ := hn 14 (by decide)
      clear hn
      simp only [h9, h14] at hK
      go_simp
      go_at_call 99
      refine (a2 _).mono ?_
      rintro e w1 ⟨rfl, hb1⟩
      exact hK _ _ rfl hb1 (fun h => absurd h (by decide))
    · have h15 : σ 15 = _ := hn 15 (by decide)
      clear hn
      simp only [h15] at hK
      go_simp
      go_at_call 68
      refine (s1 _).mono ?_
      rintro e w1 ⟨rfl, hb1⟩
      exact hK _ _ rfl hb1 (fun h => absurd h (by decide))
  · intro σ W' hb hR' hF
    have h16 : σ 16 = .agg #[.int .u64 (enc z.a), .int .u64 (enc z.b)] := hR' 16 (by decide)
    obtain ⟨r0, r1, f0, f1⟩ := HR.out.keep hb
    have HBE := Lib.hid (bthen HB.out hb)
    clear hR' hF hb c0 c1 d0 d1 e0 e1 HR HB
    simp only [fill, List.map, Act.put, List.setIfInBounds_toArray, List.set_cons_zero, List.set_cons_succ, List.length_cons, List.length_nil, List.drop_succ_cons, List.drop_zero, Nat.reduceAdd, h16]
    go_wp2_with fail
    exact bodyPost_ret (v := .agg #[.int .u64 (enc z.a), .int .u64 (enc z.b)]) (by simp [results, Tryz.results93, go_sem, r0, r1]) rfl ⟨rfl, (HBE.out.setCell HGR.out _).setCell HGR.out _⟩
set_option maxRecDepth 100000 in
set_option maxHeartbeats 8000000 in
theorem fone_is (a0 a1 b0 b1 y0 y1 x0 : Int) (a b y z : F2) (x : F) (ok : Bool) (w : World) (ha : Rep a0 a1 a) (hb : Rep b0 b1 b) (hy : Rep y0 y1 y) (hx : U x0) (hxx : toF x0 = x) (hz : oneRes a b y x = (z, ok)) :
    Calls Tryz.prog 119 #[.agg #[.int .u64 a0, .int .u64 a1], .agg #[.int .u64 b0, .int .u64 b1], .agg #[.int .u64 y0, .int .u64 y1], .int .u64 x0] w fun e w' => e = .returned (.tuple #[.agg #[.int .u64 (enc z.a), .int .u64 (enc z.b)], .bool ok]) ∧ Below w.heap.size w w' := by
  have HZ := Lib.hid hz
  clear hz
  go_enter Tryz.func119, Tryz.ntmps119
  go_upto_region 1 with fail
  obtain ⟨ga, hga⟩ : ∃ g, w.heap.size = g := ⟨_, rfl⟩
  obtain ⟨gb, hgb⟩ : ∃ g, ga + 1 = g := ⟨_, rfl⟩
  obtain ⟨gy, hgy⟩ : ∃ g, gb + 1 = g := ⟨_, rfl⟩
  obtain ⟨gr, hgr⟩ : ∃ g, gy + 1 = g := ⟨_, rfl⟩
  refine wp_gen (fun W => Below w.heap.size w W ∧ Duo W ga (.int .u64 a0) (.int .u64 a1) ∧ Duo W gb (.int .u64 b0) (.int .u64 b1) ∧ Duo W gy (.int .u64 y0) (.int .u64 y1) ∧ Duo W gr (.int .u64 0) (.int .u64 0)) ⟨((((Below.refl _ _).alloc (Nat.le_refl _) _).alloc (by simp) _).alloc (by simp; omega) _).alloc (by simp; omega) _, by rw [← hga]; simp [Duo, go_sem], by rw [← hgb, ← hga]; simp [Duo, go_sem], by rw [← hgy, ← hgb, ← hga]; simp [Duo, go_sem], by rw [← hgr, ← hgy, ← hgb, ← hga]; simp [Duo, go_sem]⟩ ?_
  rintro w0 ⟨hB, hA, hV, hY, hR⟩
  have HGR : Hid (w.heap.size ≤ gr) := Lib.hid (by omega)
  simp only [hga, hgb, hgy, hgr]
  have HB := Lib.hid hB; have HR := Lib.hid hR
  clear hB hR hga hgb hgy hgr
  by_cases hx0 : x = 0
  · have e1 : oneRes a b y x = (0, false) := if_pos hx0
    obtain ⟨rfl, rfl⟩ := Prod.mk.inj (e1.symm.trans HZ.out)
    have i2 := fun W => inv_no x0 hx (hxx.trans hx0) W
    obtain ⟨r0, r1, f0, f1⟩ := HR.out
    clear e1 HZ hA hV hY HR
    go_wp2_with (go_at_call 91; (with_reducible refine (i2 _).mono ?_); rintro E v1 ⟨rfl, rfl⟩)
    exact bodyPost_ret (v := .tuple #[.agg #[.int .u64 0, .int .u64 0], .bool false]) (by simp [results, Tryz.results119, go_sem, r0, r1]) rfl ⟨rfl, (HB.out.setCell HGR.out _).setCell HGR.out _⟩
  have hx1 : toF x0 ≠ 0 := by rw [hxx]; exact hx0
  have e1 : oneRes a b y x = (foldV a b y x, true) := if_neg hx0
  obtain ⟨hzz, rfl⟩ := Prod.mk.inj (e1.symm.trans HZ.out)
  have i2 := fun W => inv_yes x0 hx hx1 W
  have hfx : enc (fpow (toF x0) 18446744069414584319) = enc (finv x) := by rw [hxx]; rfl
  rw [hfx] at i2
  have s1 := fun W => pscale_q y0 y1 (enc (finv x)) y (scale y (finv x)) hy (enc_U _) (by rw [toF_enc]) W
  have h1 := fun W => halved_is a0 a1 b0 b1 (enc (scale y (finv x)).a) (enc (scale y (finv x)).b) a b (scale y (finv x)) z W ha hb (rep_enc _) (by rw [foldV_half]; exact hzz)
  clear hzz hfx e1 HZ hx0 hx1 hxx
  generalize scale y (finv x) = o at *
  generalize enc (finv x) = xv at *
  obtain ⟨c0, c1, _, _⟩ := hA
  obtain ⟨d0, d1, _, _⟩ := hV
  obtain ⟨e0, e1, _, _⟩ := hY
  clear ha hb hy
  go_upto_region 4 with (go_at_call 91; (with_reducible refine (i2 _).mono ?_); rintro E v1 ⟨rfl, rfl⟩)
  refine wp_loose [(20, []), (21, []), (22, []), (23, []), (24, [22, 23]), (25, [20, 21, 24])]
    (OneP a0 a1 b0 b1 y0 y1 xv o z) (fun d => false) (by kernel_rfl) (by kernel_rfl) (fun _ _ _ _ h hb => h.keep hb) ?_ ?_
  · refine opsrun_cons ?_ (opsrun_cons ?_ (opsrun_cons ?_ (opsrun_cons ?_ (opsrun_cons ?_ (opsrun_cons ?_ opsrun_nil)))))
    all_goals
      refine OpRuns.any ?_
      intro Q0 σ W' K hb hn hK
      simp only [fill, List.map, Act.put, List.setIfInBounds_toArray, List.set_cons_zero, List.set_cons_succ] at hK ⊢
    · clear hn
      have c0' := bkeep hb c0
      have c1' := bkeep hb c1
      clear c0 c1
      go_simp
      exact hK _ _ rfl (Below.refl _ _) (fun h => absurd h (by decide))
    · clear hn
      have d0' := bkeep hb d0
      have d1' := bkeep hb d1
      clear d0 d1
      go_simp
      exact hK _ _ rfl (Below.refl _ _) (fun h => absurd h (by decide))
    · clear hn
      have e0' := bkeep hb e0
      have e1' := bkeep hb e1
      clear e0 e1
      go_simp
      exact hK _ _ rfl (Below.refl _ _) (fun h => absurd h (by decide))
    · clear hn
      go_simp
      exact hK _ _ rfl (Below.refl _ _) (fun h => absurd h (by decide))
    · have h22 : σ 22 = _ := hn 22 (by decide)
      have h23 : σ 23 = _ := hn 23 (by decide)
      clear hn
      simp only [h22, h23] at hK
      go_simp
      go_at_call 68
      refine (s1 _).mono ?_
      rintro e w1 ⟨rfl, hb1⟩
      exact hK _ _ rfl hb1 (fun h => absurd h (by decide))
    · have h20 : σ 20 = _ := hn 20 (by decide)
      have h21 : σ 21 = _ := hn 21 (by decide)
      have h24 : σ 24 = _ := hn 24 (by decide)
      clear hn
      simp only [h20, h21, h24] at hK
      go_simp
      go_at_call 93
      refine (h1 _).mono ?_
      rintro e w1 ⟨rfl, hb1⟩
      exact hK _ _ rfl hb1 (fun h => absurd h (by decide))
  · intro σ W' hb hR' hF
    have h25 : σ 25 = .agg #[.int .u64 (enc z.a), .int .u64 (enc z.b)] := hR' 25 (by decide)
    obtain ⟨r0, r1, f0, f1⟩ := HR.out.keep hb
    have HBE := Lib.hid (bthen HB.out hb)
    clear hR' hF hb c0 c1 d0 d1 e0 e1 HR HB
    simp only [fill, List.map, Act.put, List.setIfInBounds_toArray, List.set_cons_zero, List.set_cons_succ, List.length_cons, List.length_nil, List.drop_succ_cons, List.drop_zero, Nat.reduceAdd, h25]
    go_wp2_with fail
    exact bodyPost_ret (v := .tuple #[.agg #[.int .u64 (enc z.a), .int .u64 (enc z.b)], .bool true]) (by simp [results, Tryz.results119, go_sem, r0, r1]) rfl ⟨rfl, (HBE.out.setCell HGR.out _).setCell HGR.out _⟩
def WdgR (gx b ofh H cq k : Nat) (a0 a1 b0 b1 o0 o1 : Int) (z : F2) (sl : Nat) (v : Value) (W : World) : Prop :=
  match sl with
  | 63 => v = .slice (some ⟨gx, 0, none⟩) H H
  | 64 => v = .int .i64 (k : Int)
  | 65 => v = .agg #[.int .u64 a0, .int .u64 a1]
  | 66 => v = .slice (some ⟨b, ofh, none⟩) H cq
  | 67 => v = .int .i64 (k : Int)
  | 68 => v = .pointer (some ⟨b, ofh + k * 2, none⟩)
  | 69 => v = .agg #[.int .u64 b0, .int .u64 b1]
  | 70 => v = .agg #[.int .u64 o0, .int .u64 o1]
  | 71 => v = .agg #[.int .u64 (enc z.a), .int .u64 (enc z.b)]
  | _ => v = .pointer (some ⟨gx, k * 2, none⟩)
theorem WdgR.keep {gx b ofh H cq k : Nat} {a0 a1 b0 b1 o0 o1 : Int} {z : F2} {sl : Nat} {v : Value} {W W' : World} (h : WdgR gx b ofh H cq k a0 a1 b0 b1 o0 o1 z sl v W) (hb : Below W.heap.size W W') : WdgR gx b ofh H cq k a0 a1 b0 b1 o0 o1 z sl v W' := h

def WdgRel (w : World) (l : List (Int × Int)) (y : F2) (s r : F) (H go gx : Nat) (i : Value) (W : World) : Prop :=
  ∃ k : Nat, k ≤ H ∧ i = .int .i64 k ∧ Below w.heap.size w W ∧ Duo W go (.int .u64 (enc (overF y s r k).a)) (.int .u64 (enc (overF y s r k).b)) ∧ Arr W gx (H * 2) (pc fun j => if j < k then encP (foldV (qAt l j) (qAt l (j + H)) y (s * fpow r j)) else (0, 0))
set_option maxRecDepth 100000 in
set_option maxHeartbeats 8000000 in
theorem fword_yes (b off n cap : Nat) (l : List (Int × Int)) (y0 y1 f : Int) (y : F2) (H M : Nat) (w : World) (hT : Tab w)
    (hc : ∀ k, k < n → w.cell? ⟨b, off + k * 2, none⟩ = some (.int .u64 (l.getD k (0, 0)).1) ∧ w.cell? ⟨b, off + k * 2 + 1, none⟩ = some (.int .u64 (l.getD k (0, 0)).2)) (hl : l.length = n) (hrm : n ≤ cap) (hu : ∀ n ∈ l, U n.1 ∧ U n.2) (hn : n ≤ 1048576) (hH : n = 2 * H) (hH1 : 1 ≤ H) (hM1 : 1 ≤ M) (hM20 : M ≤ 20) (hlg : lg (n : Int) = M) (hy : Rep y0 y1 y) (hf : I64 f) :
    Calls Tryz.prog 52 #[.slice (some ⟨b, off, none⟩) n cap, .agg #[.int .u64 y0, .int .u64 y1], .int .i64 f] w fun e w' => Below w.heap.size w w' ∧ ∃ g : Nat, w.heap.size ≤ g ∧ e = .returned (.tuple #[.slice (some ⟨g, 0, none⟩) H H, .bool true]) ∧ Arr w' g (H * 2) (pc fun j => encP (foldV (qAt l j) (qAt l (j + H)) y (pt (shiftF f) M j))) := by
  have l1 := fun W hW => log_is (n : Int) M (by unfold I64; omega) hlg W hW
  have s1 := fun W => fshift_is f _ rfl W
  have hs0 := shiftF_ne f
  have hr0 : ofv (M : Int) ≠ 0 := by rw [ofv_in (by omega) (by omega)]; exact root_ne _ (by omega)
  have i1 := fun W => inv_yes (enc (shiftF f)) (enc_U _) (by rw [toF_enc]; exact hs0) W
  have o1 := fun W => of_is (M : Int) _ rfl W
  have i2 := fun W => inv_yes (enc (ofv (M : Int))) (enc_U _) (by rw [toF_enc]; exact hr0) W
  simp only [toF_enc] at i1 i2
  rw [show fpow (shiftF f) 18446744069414584319 = finv (shiftF f) from rfl] at i1
  rw [show fpow (ofv (M : Int)) 18446744069414584319 = finv (ofv (M : Int)) from rfl] at i2
  have c1 := fun W => pscale_q y0 y1 (enc (finv (shiftF f))) y (overF y (shiftF f) (ofv (M : Int)) 0) hy (enc_U _) (by rw [toF_enc, overF_zero]) W
  have HC := Lib.hid hc; have HH := Lib.hid hH
  have HPT : Hid (∀ j, shiftF f * fpow (ofv (M : Int)) j = pt (shiftF f) M j) := Lib.hid (fun j => by rw [ofv_in (by omega) (by omega)]; rfl)
  obtain ⟨s, hs⟩ : ∃ s, shiftF f = s := ⟨_, rfl⟩
  obtain ⟨r, hr⟩ : ∃ r, ofv (M : Int) = r := ⟨_, rfl⟩
  rw [hs, hr] at HPT
  rw [hs] at hs0 s1 i1 c1 ⊢
  rw [hr] at hr0 o1 i2 c1
  generalize hz1 : enc (overF y s r 0).a = z1 at *
  generalize hz2 : enc (overF y s r 0).b = z2 at *
  generalize enc (finv s) = si at *
  generalize enc s = se at *
  generalize hri : enc (finv r) = ri at *
  generalize enc r = re at *
  have HRI := Lib.hid hri
  have HZ12 := Lib.hid (And.intro hz1 hz2)
  have hM1' : ¬ (M : Int) < 1 := by omega
  have hM20' : ¬ (20 : Int) < (M : Int) := by omega
  clear hc hlg hs hr hri hz1 hz2 hH
  go_enter Tryz.func52, Tryz.ntmps52
  go_upto_region 1 with fail
  obtain ⟨gy, hgy⟩ : ∃ g, w.heap.size = g := ⟨_, rfl⟩
  refine wp_gen (fun W => Below w.heap.size w W ∧ Duo W gy (.int .u64 y0) (.int .u64 y1)) ⟨(Below.refl _ _).alloc (Nat.le_refl _) _, by rw [← hgy]; simp [Duo, go_sem]⟩ ?_
  rintro w0 ⟨hB0, hY0⟩
  simp only [hgy]
  have hT0 := hT.keep hB0
  have HB := Lib.hid hB0; have HY := Lib.hid hY0
  clear hB0 hY0 hT hgy
  replace l1 := l1 w0 hT0
  clear hT0
  go_upto_region 6 with (first
    | (go_at_call 27; (with_reducible refine l1.mono ?_); rintro E v1 ⟨rfl, rfl⟩)
    | (go_at_call 92; (with_reducible refine (s1 _).mono ?_); rintro E v2 ⟨rfl, hb⟩; replace HB := Lib.hid (bthen HB.out hb); replace HY := Lib.hid (HY.out.keep hb); clear hb)
    | (go_at_call 91; (with_reducible first | refine (i1 _).mono ?_ | refine (i2 _).mono ?_); rintro E v3 ⟨rfl, rfl⟩)
    | (go_at_call 67; (with_reducible refine (o1 _).mono ?_); rintro E v4 ⟨rfl, rfl⟩))
  obtain ⟨y0c, y1c, _, _⟩ := HY.out
  go_upto_region 7 with (go_at_call 68; (with_reducible refine (c1 _).mono ?_); rintro E v5 ⟨rfl, hb⟩; replace HB := Lib.hid (bthen HB.out hb); clear hb)
  obtain ⟨go, hgo⟩ : ∃ g, v5.heap.size = g := ⟨_, rfl⟩
  have HGO : Hid (w.heap.size ≤ go) := Lib.hid (by rw [← hgo]; exact HB.out.size)
  refine wp_gen (fun W => Below w.heap.size w W ∧ Duo W go (.int .u64 z1) (.int .u64 z2)) ⟨HB.out.alloc HB.out.size _, by rw [← hgo]; simp [Duo, go_sem]⟩ ?_
  clear HB HY y0c y1c s1 i1 o1 i2 c1 l1
  rintro w6 ⟨hB, hO⟩
  simp only [hgo]
  have HB := Lib.hid hB; have HO := Lib.hid hO
  have htd : (n : Int).tdiv 2 = (H : Int) := by rw [Int.tdiv_eq_ediv_of_nonneg (by omega)]; have := HH.out; omega
  have hH0 : (0 : Int) ≤ (H : Int) := by omega
  have hHn : (H : Int) ≤ (n : Int) := by have := HH.out; omega
  have hHc : (H : Int) ≤ (cap : Int) := by omega
  have hnc : (n : Int) ≤ (cap : Int) := by omega
  clear hB hO hgo
  go_region
  have hcH : ¬ cap = H := by have := HH.out; omega
  have hnH : n - H = H := by have := HH.out; omega
  have hmk := fun W => run_make_pairs (P := Tryz.prog) 24 31 (.agg #[.int .u64 0, .int .u64 0]) Tryz.underlying24 infoQf rfl H (by have := HH.out; omega) W
  rw [if_neg hcH, hnH]
  obtain ⟨cq, hcq⟩ : ∃ c, cap - H = c := ⟨_, rfl⟩
  rw [hcq]
  clear htd hHc hnc hcH hnH hcq hHn
  go_upto_region 8 with fail
  refine wp_gen (fun W => Below w.heap.size w W ∧ Duo W go (.int .u64 z1) (.int .u64 z2)) ⟨HB.out.drew, HO.out⟩ ?_
  rintro w7 ⟨hB7, hO7⟩
  obtain ⟨gx, hgx⟩ : ∃ g, w7.heap.size = g := ⟨_, rfl⟩
  have HGX : Hid (w.heap.size ≤ gx) := Lib.hid (by rw [← hgx]; exact hB7.size)
  have HNE : Hid (go ≠ gx) := Lib.hid (by have := hO7.lt; omega)
  go_upto_region 10 with fail
  go_loopw [58] (WdgRel w l y s r H go gx) (fun i _ => H - (intOf i).toNat)
  case atStart =>
    refine ⟨0, Nat.zero_le _, rfl, hB7.alloc hB7.size _, ?_, ?_⟩
    · rw [HZ12.out.1, HZ12.out.2]
      exact hO7.keep ((Below.refl _ _).alloc (Nat.le_refl _) _)
    · rw [← hgx]
      exact (Arr.newq w7 H 31).same (pc_same fun j _ => by rw [if_neg (by omega)])
  case round =>
    clear hB7 hO7 hmk hgx HB HO HZ12
    obtain ⟨k, hk, rfl, hB, hO, hA⟩ := hrel
    by_cases hlt : k < H
    · obtain ⟨K, hK⟩ : ∃ K, k + H = K := ⟨_, rfl⟩
      obtain ⟨a0c, a1c⟩ := HC.out k (by have := HH.out; omega)
      obtain ⟨b0c, b1c⟩ := HC.out K (by have := HH.out; omega)
      have ra := qAt_rep hu (i := k) (by have := HH.out; omega)
      have rb := qAt_rep hu (i := K) (by have := HH.out; omega)
      obtain ⟨ofh, hofh⟩ : ∃ q, off + H * 2 = q := ⟨_, rfl⟩
      rw [show off + K * 2 = ofh + k * 2 by omega] at b0c b1c
      rw [hofh]
      replace a0c := bkeep hB a0c
      replace a1c := bkeep hB a1c
      replace b0c := bkeep hB b0c
      replace b1c := bkeep hB b1c
      obtain ⟨z, hz⟩ : ∃ z, foldV (qAt l k) (qAt l (k + H)) y (s * fpow r k) = z := ⟨_, rfl⟩
      have h1 := fun W => halved_is (l.getD k (0, 0)).1 (l.getD k (0, 0)).2 (l.getD K (0, 0)).1 (l.getD K (0, 0)).2 (enc (overF y s r k).a) (enc (overF y s r k).b) (qAt l k) (qAt l K) (overF y s r k) z W ra rb (rep_enc _) (by rw [foldV_over _ _ _ hs0 hr0, ← hz, hK])
      have c1 := fun W => pscale_q (enc (overF y s r k).a) (enc (overF y s r k).b) ri (overF y s r k) (overF y s r (k + 1)) (rep_enc _) (by rw [← HRI.out]; exact enc_U _) (by rw [← HRI.out, toF_enc, overF_succ]) W
      have HST : Hid (∀ j, (if j = k then (enc z.a, enc z.b) else if j < k then encP (foldV (qAt l j) (qAt l (j + H)) y (s * fpow r j)) else (0, 0)) = if j < k + 1 then encP (foldV (qAt l j) (qAt l (j + H)) y (s * fpow r j)) else (0, 0)) := Lib.hid (fun j => by
        by_cases e : j = k
        · subst e; rw [if_pos rfl, if_pos (by omega), hz]; rfl
        · rw [if_neg e]
          by_cases h : j < k
          · rw [if_pos h, if_pos (by omega)]
          · rw [if_neg h, if_neg (by omega)])
      generalize hw1 : enc (overF y s r (k + 1)).a = n0 at *
      generalize hw2 : enc (overF y s r (k + 1)).b = n1 at *
      have HN01 := Lib.hid (And.intro hw1 hw2)
      generalize enc (overF y s r k).a = o0 at *
      generalize enc (overF y s r k).b = o1 at *
      generalize (l.getD k (0, 0)).1 = a0 at *
      generalize (l.getD k (0, 0)).2 = a1 at *
      generalize (l.getD K (0, 0)).1 = b0 at *
      generalize (l.getD K (0, 0)).2 = b1 at *
      have hk1 : (k : Int) < (H : Int) := by omega
      have hk0 : (0 : Int) ≤ (k : Int) := by omega
      have hk2 : (k : Int) ≤ 1048576 := by have := HH.out; omega
      clear ra rb hz hw1 hw2 hK hofh
      go_upto_region 12 with fail
      obtain ⟨gb, hgb⟩ : ∃ g, wr.heap.size = g := ⟨_, rfl⟩
      refine wp_gen (fun W => Below w.heap.size w W ∧ Duo W go (.int .u64 o0) (.int .u64 o1) ∧ Arr W gx (H * 2) (pc fun j => if j < k then encP (foldV (qAt l j) (qAt l (j + H)) y (s * fpow r j)) else (0, 0)) ∧ Duo W gb (.int .u64 a0) (.int .u64 a1) ∧ W.cell? ⟨b, ofh + k * 2, none⟩ = some (.int .u64 b0) ∧ W.cell? ⟨b, ofh + k * 2 + 1, none⟩ = some (.int .u64 b1)) ⟨hB.alloc hB.size _, hO.keep ((Below.refl _ _).alloc (Nat.le_refl _) _), hA.alloc _, by rw [← hgb]; simp [Duo, go_sem], bkeep ((Below.refl _ _).alloc (Nat.le_refl _) _) b0c, bkeep ((Below.refl _ _).alloc (Nat.le_refl _) _) b1c⟩ ?_
      rw [hgb]
      clear hB hO hA a0c a1c b0c b1c hgb
      rintro W1 ⟨hB, hO, hA, hQ, b0c, b1c⟩
      have HB := Lib.hid hB; have HO := Lib.hid hO; have HA := Lib.hid hA
      obtain ⟨q0, q1, _, _⟩ := hQ
      obtain ⟨o0c, o1c, _, _⟩ := hO
      clear hB hA
      refine wp_loose [(63, []), (64, []), (65, []), (66, []), (67, []), (68, [66, 67]), (69, [68]), (70, []), (71, [65, 69, 70]), (72, [63, 64])]
        (WdgR gx b ofh H cq k a0 a1 b0 b1 o0 o1 z) (fun d => false) (by kernel_rfl) (by kernel_rfl) (fun _ _ _ _ h hb => h.keep hb) ?_ ?_
      · refine opsrun_cons ?_ (opsrun_cons ?_ (opsrun_cons ?_ (opsrun_cons ?_ (opsrun_cons ?_ (opsrun_cons ?_ (opsrun_cons ?_ (opsrun_cons ?_ (opsrun_cons ?_ (opsrun_cons ?_ opsrun_nil)))))))))
        all_goals
          refine OpRuns.any ?_
          intro Q0 σ W' K hb hn hK
          simp only [fill, List.map, Act.put, List.setIfInBounds_toArray, List.set_cons_zero, List.set_cons_succ] at hK ⊢
        · clear hn
          go_simp
          exact hK _ _ rfl (Below.refl _ _) (fun h => absurd h (by decide))
        · clear hn
          go_simp
          exact hK _ _ rfl (Below.refl _ _) (fun h => absurd h (by decide))
        · clear hn
          have q0' := bkeep hb q0
          have q1' := bkeep hb q1
          clear q0 q1
          go_simp
          exact hK _ _ rfl (Below.refl _ _) (fun h => absurd h (by decide))
        · clear hn
          go_simp
          exact hK _ _ rfl (Below.refl _ _) (fun h => absurd h (by decide))
        · clear hn
          go_simp
          exact hK _ _ rfl (Below.refl _ _) (fun h => absurd h (by decide))
        · have h66 : σ 66 = _ := hn 66 (by decide)
          have h67 : σ 67 = _ := hn 67 (by decide)
          clear hn
          simp only [h66, h67] at hK
          go_simp
          exact hK _ _ rfl (Below.refl _ _) (fun h => absurd h (by decide))
        · have h68 : σ 68 = _ := hn 68 (by decide)
          clear hn
          simp only [h68] at hK
          have b0c' := bkeep hb b0c
          have b1c' := bkeep hb b1c
          clear b0c b1c
          go_simp
          exact hK _ _ rfl (Below.refl _ _) (fun h => absurd h (by decide))
        · clear hn
          have o0c' := bkeep hb o0c
          have o1c' := bkeep hb o1c
          clear o0c o1c
          go_simp
          exact hK _ _ rfl (Below.refl _ _) (fun h => absurd h (by decide))
        · have h65 : σ 65 = _ := hn 65 (by decide)
          have h69 : σ 69 = _ := hn 69 (by decide)
          have h70 : σ 70 = _ := hn 70 (by decide)
          clear hn
          simp only [h65, h69, h70] at hK
          go_simp
          go_at_call 93
          refine (h1 _).mono ?_
          rintro e w1 ⟨rfl, hb1⟩
          exact hK _ _ rfl hb1 (fun h => absurd h (by decide))
        · have h63 : σ 63 = _ := hn 63 (by decide)
          have h64 : σ 64 = _ := hn 64 (by decide)
          clear hn
          simp only [h63, h64] at hK
          go_simp
          exact hK _ _ rfl (Below.refl _ _) (fun h => absurd h (by decide))
      · intro σ W' hb hR' hF
        have h71 : σ 71 = .agg #[.int .u64 (enc z.a), .int .u64 (enc z.b)] := hR' 71 (by decide)
        have h72 : σ 72 = .pointer (some ⟨gx, k * 2, none⟩) := hR' 72 (by decide)
        have hA := HA.out.keep hb
        obtain ⟨x0, x1, f0, f1⟩ := hA.cells k hlt
        have HBE := Lib.hid (bthen HB.out hb)
        have HOE := Lib.hid (HO.out.keep hb)
        have HA2 := Lib.hid ((hA.setq k (enc z.a) (enc z.b) hlt).same (pc_same fun j _ => HST.out j))
        clear hR' hF hb o0c o1c q0 q1 b0c b1c HB HO HA hA h1
        simp only [fill, List.map, Act.put, List.setIfInBounds_toArray, List.set_cons_zero, List.set_cons_succ, List.length_cons, List.length_nil, List.drop_succ_cons, List.drop_zero, Nat.reduceAdd, h71, h72]
        clear h71 h72
        go_upto_region 13 with fail
        refine wp_gen (fun W => Below w.heap.size w W ∧ Duo W go (.int .u64 o0) (.int .u64 o1) ∧ Arr W gx (H * 2) (pc fun j => if j < k + 1 then encP (foldV (qAt l j) (qAt l (j + H)) y (s * fpow r j)) else (0, 0))) ⟨(HBE.out.setCell HGX.out _).setCell HGX.out _, (HOE.out.far (Ne.symm HNE.out) _ _).far (Ne.symm HNE.out) _ _, HA2.out⟩ ?_
        clear HBE HOE HA2 x0 x1 f0 f1
        rintro W3 ⟨hB, hO, hA⟩
        have HB := Lib.hid hB; have HA := Lib.hid hA; have HO := Lib.hid hO
        obtain ⟨o0c, o1c, _, _⟩ := hO
        clear hB hA
        go_wp2_with (go_at_call 68; (with_reducible refine (c1 _).mono ?_); rintro E v5 ⟨rfl, hb⟩; replace HB := Lib.hid (bthen HB.out hb); replace HA := Lib.hid (HA.out.keep hb); replace HO := Lib.hid (HO.out.keep hb); obtain ⟨p0, p1, pf0, pf1⟩ := HO.out; clear hb o0c o1c)
        go_roundw
        case rel => exact ⟨k + 1, by omega, by go_num, (HB.out.setCell HGO.out _).setCell HGO.out _, by rw [HN01.out.1, HN01.out.2]; exact HO.out.set _ _, (HA.out.far HNE.out _ _).far HNE.out _ _⟩
        case measure => simp [intOf]; omega
    · obtain rfl : k = H := by omega
      have hA2 := hA.same (pc_same (y := fun j => encP (foldV (qAt l j) (qAt l (j + k)) y (pt s M j))) fun j hj => by rw [if_pos hj, HPT.out j])
      have HB := Lib.hid hB; have HA2 := Lib.hid hA2
      clear hB hO hA hA2
      have hnl : ¬ (k : Int) < (k : Int) := by omega
      go_wp2_with fail
      exact bodyPost_ret (v := .tuple #[.slice (some ⟨gx, 0, none⟩) k k, .bool true]) (by simp [results, Tryz.results52, go_sem]) rfl ⟨HB.out, gx, HGX.out, rfl, HA2.out⟩

set_option maxHeartbeats 4000000 in
theorem fword_new (a : Option Addr) (n cap : Nat) (l : List (Int × Int)) (y0 y1 f : Int) (y : F2) (r : List (Int × Int)) (ok : Bool) (w : World) (hT : Tab w) (ha : QRowA w a n l) (hrm : n ≤ cap) (hu : ∀ n ∈ l, U n.1 ∧ U n.2) (hl32 : l.length ≤ 4294967296) (hy : Rep y0 y1 y) (hf : I64 f) (hz : wordV l y f = (r, ok)) :
    Calls Tryz.prog 52 #[.slice a n cap, .agg #[.int .u64 y0, .int .u64 y1], .int .i64 f] w (WordNew w r ok) := by
  obtain rfl := ha.1
  by_cases hl : 1 ≤ lg (l.length : Int) ∧ lg (l.length : Int) ≤ 20
  · obtain ⟨M, hM1, hM20, hM, hev, hhp, hN20⟩ := lg_even (by omega) hl.1 hl.2
    rw [wordV_yes hl, hM] at hz
    obtain ⟨hr, rfl⟩ := Prod.mk.inj hz
    have hp : 1 ≤ l.length / 2 := by rw [hhp]; exact Nat.one_le_two_pow
    obtain ⟨b, off, rfl, _, _⟩ := ha.2.2 0 (by omega)
    have hc : ∀ k, k < l.length → w.cell? ⟨b, off + k * 2, none⟩ = some (.int .u64 (l.getD k (0, 0)).1) ∧ w.cell? ⟨b, off + k * 2 + 1, none⟩ = some (.int .u64 (l.getD k (0, 0)).2) := fun k hk => by
      obtain ⟨b', off', e, c0, c1⟩ := ha.2.2 k hk
      cases e
      exact ⟨c0, c1⟩
    refine (fword_yes b off l.length cap l y0 y1 f y (l.length / 2) M w hT hc rfl hrm hu hN20 hev hp hM1 hM20 hM hy hf).mono ?_
    rintro e w' ⟨hb, g, hg, rfl, hA⟩
    have hlen : r.length = l.length / 2 := by rw [← hr, wordN_len]
    refine ⟨hb, some ⟨g, 0, none⟩, l.length / 2, by rw [hlen], ⟨rfl, by rw [hlen]; unfold maxLen; omega, fun k hk => ?_⟩, fun x hx => by cases hx; exact hg⟩
    rw [hlen] at hk
    obtain ⟨c0, c1, _, _⟩ := hA.cells k hk
    have hat : r.getD k (0, 0) = encP (foldV (qAt l k) (qAt l (k + l.length / 2)) y (pt (shiftF f) M k)) := by rw [← hr, wordN_at _ _ _ _ hk, pointF_pt M (by omega)]
    exact ⟨g, 0, rfl, by rw [hat, Nat.zero_add]; exact c0, by rw [hat, Nat.zero_add]; exact c1⟩
  · rw [wordV_no hl] at hz
    obtain ⟨rfl, rfl⟩ := Prod.mk.inj hz
    obtain ⟨M, hM⟩ : ∃ M, lg (l.length : Int) = M := ⟨_, rfl⟩
    rw [hM] at hl
    have l1 := fun W hW => log_is (l.length : Int) M (by unfold I64; omega) hM W hW
    clear hM hz ha hu
    have hTT := fun (W : World) (o : Obj) (h : Below w.heap.size w W) => hT.keep h
    have HT0 : Hid (Tab (w.alloc (.cells #[.int .u64 y0, .int .u64 y1] 31))) := Lib.hid (hT.keep ((Below.refl _ _).alloc (Nat.le_refl _) _))
    clear hTT hT
    by_cases h1 : M < 1
    · clear hl
      go_enter Tryz.func52, Tryz.ntmps52
      go_wp2_with (go_at_call 27; (with_reducible refine (l1 _ HT0.out).mono ?_); rintro E w1 ⟨rfl, rfl⟩)
      exact bodyPost_ret (v := .tuple #[.slice none 0 0, .bool false]) (by simp [results, Tryz.results52, go_sem]) rfl ⟨(Below.refl _ _).alloc (Nat.le_refl _) _, none, 0, rfl, qrowA_nil _, fun x h => by cases h⟩
    · have h2 : 20 < M := by omega
      clear hl
      go_enter Tryz.func52, Tryz.ntmps52
      go_wp2_with (go_at_call 27; (with_reducible refine (l1 _ HT0.out).mono ?_); rintro E w1 ⟨rfl, rfl⟩)
      exact bodyPost_ret (v := .tuple #[.slice none 0 0, .bool false]) (by simp [results, Tryz.results52, go_sem]) rfl ⟨(Below.refl _ _).alloc (Nat.le_refl _) _, none, 0, rfl, qrowA_nil _, fun x h => by cases h⟩
end Go.Proofs.YthfkfgjhgicfeaaGreatDoor
