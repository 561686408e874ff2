/-
  What the program's calls of layer 20 come to. (Written by gen_fprog.py.)
-/
import Derived.Test.YteghnaocncmiaaaGFold
import Derived.BigQuiet
namespace Go.Proofs.Yteghnaocncmiaaa
open Go Go.RowKit Go.Sort Go.BigFrame
set_option linter.unusedVariables false

/-! ### Plain -/
/-- By what halves of a difference are multiplied, at the k-th place. -/
def overF (y : F2) (s r : F) (k : Nat) : F2 := scale (scale y (finv s)) (fpow (finv r) k)
theorem overF_zero (y : F2) (s r : F) : overF y s r 0 = scale y (finv s) := by
  unfold overF
  rw [fpow_zero]
  exact F2.eq (show _ * (1 : F) = _ by grind) (show _ * (1 : F) = _ by grind)
theorem overF_succ (y : F2) (s r : F) (k : Nat) : scale (overF y s r k) (finv r) = overF y s r (k + 1) := by
  unfold overF
  rw [fpow_succ]
  exact F2.eq (show _ * _ * _ = _ * (_ * _) by grind) (show _ * _ * _ = _ * (_ * _) by grind)
theorem finv_pt {s r : F} (hs : s ≠ 0) (hr : r ≠ 0) (k : Nat) : finv (s * fpow r k) = finv s * fpow (finv r) k := by
  refine (finv_unique _ _ ?_).symm
  have h1 := fpow_finv hr k
  have h2 := mul_finv s hs
  generalize fpow r k = a at *
  generalize fpow (finv r) k = b at *
  generalize finv s = c at *
  have : s * a * (c * b) = (s * c) * (a * b) := by grind
  rw [this, h1, h2]; grind
/-- Half of all at once, as the program goes. -/
theorem foldV_half (a b y : F2) (x : F) : scale ((a + b) + scale y (finv x) * (a - b)) halfF = foldV a b y x := by
  unfold foldV
  generalize halfF = h
  generalize finv x = c
  refine F2.eq ?_ ?_
  · simp only [scale, F2.add_a, F2.mul_a, F2.sub_a, F2.sub_b]; grind
  · simp only [scale, F2.add_b, F2.mul_b, F2.sub_a, F2.sub_b]; grind
theorem foldV_over (a b y : F2) {s r : F} (hs : s ≠ 0) (hr : r ≠ 0) (k : Nat) : scale ((a + b) + overF y s r k * (a - b)) halfF = foldV a b y (s * fpow r k) := by
  rw [← foldV_half, finv_pt hs hr]
  have : overF y s r k = scale y (finv s * fpow (finv r) k) := F2.eq (show _ * _ * _ = _ * (_ * _) by grind) (show _ * _ * _ = _ * (_ * _) by grind)
  rw [this]

/-! ### Shift, Point -/
set_option maxHeartbeats 4000000 in
theorem fshift_is (f z : Int) (hz : enc (shiftF f) = z) (w : World) : Calls Try.prog 56 #[.int .i64 f] w fun e w' => e = .returned (.int .u64 z) ∧ Below w.heap.size w w' := by
  have HZ := Lib.hid hz
  obtain ⟨n, hn⟩ : ∃ n, foldN f = n := ⟨_, rfl⟩
  have HN := Lib.hid hn
  obtain ⟨q, hq⟩ : ∃ q, min f 64 = q := ⟨_, rfl⟩
  have hqn : q = (n : Int) ∨ (q ≤ 0 ∧ n = 0) := by unfold foldN at hn; omega
  have hn2 : n ≤ 64 := by unfold foldN at hn; omega
  have h7 : enc (shiftU 0) = 7 := by decide +kernel
  have HQ := Lib.hid hq
  clear hz hn hq
  go_enter Try.func56, Try.ntmps56
  go_upto_region 3 with fail
  simp only [HQ.out]
  go_loopw [3, 6] (ShiftRel w n) (fun _ i _ => n - (intOf i).toNat)
  case atStart => exact ⟨0, Nat.zero_le _, by rw [h7], rfl, Below.refl _ _⟩
  case round =>
    clear h7 HQ
    obtain ⟨k, hk, rfl, rfl, hB⟩ := hrel
    by_cases hlt : k < n
    · have h1 : (k : Int) < q := by omega
      have m1 := fun W => mul_is (enc (shiftU k)) (enc (shiftU k)) (enc (shiftU (k + 1))) (enc_U _) (enc_U _) (by rw [toF_enc]; rfl) W
      generalize hs1 : enc (shiftU (k + 1)) = s1 at *
      have HS1 := Lib.hid hs1
      clear hs1
      generalize enc (shiftU k) = s0 at *
      clear hqn
      go_wp2_with (go_at_call 55; (with_reducible refine (m1 _).mono ?_); rintro E w1 ⟨rfl, rfl⟩)
      go_roundw
      case rel => exact ⟨k + 1, by omega, by rw [HS1.out], by go_num, hB⟩
      case measure => simp [intOf]; omega
    · obtain rfl : k = n := by omega
      have hD : enc (shiftU k) = z := by rw [← HZ.out]; unfold shiftF; rw [HN.out]
      rw [hD]
      clear hD HZ HN
      have h1 : ¬ (k : Int) < q := by omega
      clear hqn
      go_wp2_with fail
      go_ret
      exact ⟨rfl, hB⟩
set_option maxHeartbeats 1000000 in
theorem fpoint_is (m f i z : Int) (hi : i ≤ 9223372036854775807) (hz : enc (pointF m f i) = z) (w : World) : Calls Try.prog 40 #[.int .i64 m, .int .i64 f, .int .i64 i] w fun e w' => e = .returned (.int .u64 z) ∧ Below w.heap.size w w' := by
  by_cases h : i < 0
  · rw [pointF_low h] at hz
    have hz : (0 : Int) = z := hz
    subst hz
    go_enter Try.func40, Try.ntmps40
    go_wp2
    go_ret
    exact ⟨rfl, Below.refl _ _⟩
  · rw [pointF_at h] at hz
    have hw : IntKind.u64.wrap i = i := by rw [IntKind.wrap_u64]; omega
    have s1 := fun W => fshift_is f _ rfl W
    have o1 := fun W => of_is m _ rfl W
    have p1 := fun W => pow_is (enc (ofv m)) i (enc (fpow (ofv m) i.toNat)) (enc_U _) (by unfold U; omega) (by rw [toF_enc]) W
    have m1 := fun W => mul_is (enc (shiftF f)) (enc (fpow (ofv m) i.toNat)) z (enc_U _) (enc_U _) (by rw [toF_enc, toF_enc]; exact hz) W
    generalize enc (fpow (ofv m) i.toNat) = pv at *
    generalize enc (ofv m) = ov at *
    generalize enc (shiftF f) = sv at *
    have HB := Lib.hid (Below.refl w.heap.size w)
    clear hz
    go_enter Try.func40, Try.ntmps40
    go_wp2_with (first
      | (go_at_call 56; (with_reducible refine (s1 _).mono ?_); rintro E w1 ⟨rfl, hb⟩; replace HB := Lib.hid (bthen HB.out hb); clear hb)
      | (go_at_call 58; (with_reducible refine (o1 _).mono ?_); rintro E w2 ⟨rfl, rfl⟩)
      | (go_at_call 57; (with_reducible refine (p1 _).mono ?_); rintro E w3 ⟨rfl, rfl⟩)
      | (go_at_call 55; (with_reducible refine (m1 _).mono ?_); rintro E w4 ⟨rfl, rfl⟩))
    go_ret
    exact ⟨rfl, HB.out⟩

/-! ### Half of all -/
def HalvR (a0 a1 b0 b1 y0 y1 : Int) (s d m t z : F2) (sl : Nat) (v : Value) (W : World) : Prop :=
  match sl with
  | 7 => v = .agg #[.int .u64 a0, .int .u64 a1]
  | 8 => v = .agg #[.int .u64 b0, .int .u64 b1]
  | 9 => v = .agg #[.int .u64 (enc s.a), .int .u64 (enc s.b)]
  | 10 => v = .agg #[.int .u64 y0, .int .u64 y1]
  | 11 => v = .agg #[.int .u64 a0, .int .u64 a1]
  | 12 => v = .agg #[.int .u64 b0, .int .u64 b1]
  | 13 => v = .agg #[.int .u64 (enc d.a), .int .u64 (enc d.b)]
  | 14 => v = .agg #[.int .u64 (enc m.a), .int .u64 (enc m.b)]
  | 15 => v = .agg #[.int .u64 (enc t.a), .int .u64 (enc t.b)]
  | _ => v = .agg #[.int .u64 (enc z.a), .int .u64 (enc z.b)]
theorem HalvR.keep {a0 a1 b0 b1 y0 y1 : Int} {s d m t z : F2} {sl : Nat} {v : Value} {W W' : World} (h : HalvR a0 a1 b0 b1 y0 y1 s d m t z sl v W) (hb : Below W.heap.size W W') : HalvR a0 a1 b0 b1 y0 y1 s d m t z sl v W' := h
def OneP (a0 a1 b0 b1 y0 y1 xv : Int) (o z : F2) (sl : Nat) (v : Value) (W : World) : Prop :=
  match sl with
  | 20 => v = .agg #[.int .u64 a0, .int .u64 a1]
  | 21 => v = .agg #[.int .u64 b0, .int .u64 b1]
  | 22 => v = .agg #[.int .u64 y0, .int .u64 y1]
  | 23 => v = .int .u64 xv
  | 24 => v = .agg #[.int .u64 (enc o.a), .int .u64 (enc o.b)]
  | _ => v = .agg #[.int .u64 (enc z.a), .int .u64 (enc z.b)]
theorem OneP.keep {a0 a1 b0 b1 y0 y1 xv : Int} {o z : F2} {sl : Nat} {v : Value} {W W' : World} (h : OneP a0 a1 b0 b1 y0 y1 xv o z sl v W) (hb : Below W.heap.size W W') : OneP a0 a1 b0 b1 y0 y1 xv o z sl v W' := h

set_option maxRecDepth 100000 in
set_option maxHeartbeats 8000000 in
theorem halved_is (a0 a1 b0 b1 y0 y1 : Int) (a b y z : F2) (w : World) (ha : Rep a0 a1 a) (hb : Rep b0 b1 b) (hy : Rep y0 y1 y) (hz : scale ((a + b) + y * (a - b)) halfF = z) :
    Calls Try.prog 67 #[.agg #[.int .u64 a0, .int .u64 a1], .agg #[.int .u64 b0, .int .u64 b1], .agg #[.int .u64 y0, .int .u64 y1]] w fun e w' => e = .returned (.agg #[.int .u64 (enc z.a), .int .u64 (enc z.b)]) ∧ Below w.heap.size w w' := by
  have a1' := fun W => padd_q a0 a1 b0 b1 a b (a + b) ha hb rfl W
  have t1 := fun W => psub_q a0 a1 b0 b1 a b (a - b) ha hb rfl W
  have m1 := fun W => pmul_q y0 y1 (enc (a - b).a) (enc (a - b).b) y (a - b) (y * (a - b)) hy (rep_enc _) rfl W
  have a2 := fun W => padd_q (enc (a + b).a) (enc (a + b).b) (enc (y * (a - b)).a) (enc (y * (a - b)).b) (a + b) (y * (a - b)) ((a + b) + y * (a - b)) (rep_enc _) (rep_enc _) rfl W
  have s1 := fun W => pscale_q (enc ((a + b) + y * (a - b)).a) (enc ((a + b) + y * (a - b)).b) 9223372034707292161 ((a + b) + y * (a - b)) z (rep_enc _) (by unfold U; decide) (by rw [show toF 9223372034707292161 = halfF by rw [halfF_lit]; decide +kernel]; exact hz) W
  clear hz
  generalize (a + b) + y * (a - b) = t at *
  generalize y * (a - b) = m at *
  generalize a + b = s at *
  generalize a - b = d at *
  go_enter Try.func67, Try.ntmps67
  go_upto_region 1 with fail
  obtain ⟨ga, hga⟩ : ∃ g, w.heap.size = g := ⟨_, rfl⟩
  obtain ⟨gb, hgb⟩ : ∃ g, ga + 1 = g := ⟨_, rfl⟩
  obtain ⟨gy, hgy⟩ : ∃ g, gb + 1 = g := ⟨_, rfl⟩
  obtain ⟨gr, hgr⟩ : ∃ g, gy + 1 = g := ⟨_, rfl⟩
  refine wp_gen (fun W => Below w.heap.size w W ∧ Duo W ga (.int .u64 a0) (.int .u64 a1) ∧ Duo W gb (.int .u64 b0) (.int .u64 b1) ∧ Duo W gy (.int .u64 y0) (.int .u64 y1) ∧ Duo W gr (.int .u64 0) (.int .u64 0)) ⟨((((Below.refl _ _).alloc (Nat.le_refl _) _).alloc (by simp) _).alloc (by simp; omega) _).alloc (by simp; omega) _, by rw [← hga]; simp [Duo, go_sem], by rw [← hgb, ← hga]; simp [Duo, go_sem], by rw [← hgy, ← hgb, ← hga]; simp [Duo, go_sem], by rw [← hgr, ← hgy, ← hgb, ← hga]; simp [Duo, go_sem]⟩ ?_
  rintro w0 ⟨hB, hA, hV, hY, hR⟩
  have HGR : Hid (w.heap.size ≤ gr) := Lib.hid (by omega)
  simp only [hga, hgb, hgy, hgr]
  have HB := Lib.hid hB; have HR := Lib.hid hR
  obtain ⟨c0, c1, _, _⟩ := hA
  obtain ⟨d0, d1, _, _⟩ := hV
  obtain ⟨e0, e1, _, _⟩ := hY
  clear hB hR hga hgb hgy hgr ha hb hy
  refine wp_loose [(7, []), (8, []), (9, [7, 8]), (10, []), (11, []), (12, []), (13, [11, 12]), (14, [10, 13]), (15, [9, 14]), (16, [15])]
    (HalvR a0 a1 b0 b1 y0 y1 s d m t z) (fun d => false) (by kernel_rfl) (by kernel_rfl) (fun _ _ _ _ h hb => h.keep hb) ?_ ?_
  · refine opsrun_cons ?_ (opsrun_cons ?_ (opsrun_cons ?_ (opsrun_cons ?_ (opsrun_cons ?_ (opsrun_cons ?_ (opsrun_cons ?_ (opsrun_cons ?_ (opsrun_cons ?_ (opsrun_cons ?_ opsrun_nil)))))))))
    all_goals
      refine OpRuns.any ?_
      intro Q0 σ W' K hb hn hK
      simp only [fill, List.map, Act.put, List.setIfInBounds_toArray, List.set_cons_zero, List.set_cons_succ] at hK ⊢
    · clear hn
      have c0' := bkeep hb c0
      have c1' := bkeep hb c1
      clear c0 c1
      go_simp
      exact hK _ _ rfl (Below.refl _ _) (fun h => absurd h (by decide))
    · clear hn
      have d0' := bkeep hb d0
      have d1' := bkeep hb d1
      clear d0 d1
      go_simp
      exact hK _ _ rfl (Below.refl _ _) (fun h => absurd h (by decide))
    · have h7 : σ 7 = _ := hn 7 (by decide)
      have h8 : σ 8 = _ := hn 8 (by decide)
      clear hn
      simp only [h7, h8] at hK
      go_simp
      go_at_call 52
      refine (a1' _).mono ?_
      rintro e w1 ⟨rfl, hb1⟩
      exact hK _ _ rfl hb1 (fun h => absurd h (by decide))
    · clear hn
      have e0' := bkeep hb e0
      have e1' := bkeep hb e1
      clear e0 e1
      go_simp
      exact hK _ _ rfl (Below.refl _ _) (fun h => absurd h (by decide))
    · clear hn
      have c0' := bkeep hb c0
      have c1' := bkeep hb c1
      clear c0 c1
      go_simp
      exact hK _ _ rfl (Below.refl _ _) (fun h => absurd h (by decide))
    · clear hn
      have d0' := bkeep hb d0
      have d1' := bkeep hb d1
      clear d0 d1
      go_simp
      exact hK _ _ rfl (Below.refl _ _) (fun h => absurd h (by decide))
    · have h11 : σ 11 = _ := hn 11 (by decide)
      have h12 : σ 12 = _ := hn 12 (by decide)
      clear hn
      simp only [h11, h12] at hK
      go_simp
      go_at_call 51
      refine (t1 _).mono ?_
      rintro e w1 ⟨rfl, hb1⟩
      exact hK _ _ rfl hb1 (fun h => absurd h (by decide))
    · have h10 : σ 10 = _ := hn 10 (by decide)
      have h13 : σ 13 = _ := hn 13 (by decide)
      clear hn
      simp only [h10, h13] at hK
      go_simp
      go_at_call 53
      refine (m1 _).mono ?_
      rintro e w1 ⟨rfl, hb1⟩
      exact hK _ _ rfl hb1 (fun h => absurd h (by decide))
    · have h9 : σ 9 = _ := hn 9 (by decide)
      have h14 : σ 14 = _ := hn 14 (by decide)
      clear hn
      simp only [h9, h14] at hK
      go_simp
      go_at_call 52
      refine (a2 _).mono ?_
      rintro e w1 ⟨rfl, hb1⟩
      exact hK _ _ rfl hb1 (fun h => absurd h (by decide))
    · have h15 : σ 15 = _ := hn 15 (by decide)
      clear hn
      simp only [h15] at hK
      go_simp
      go_at_call 68
      refine (s1 _).mono ?_
      rintro e w1 ⟨rfl, hb1⟩
      exact hK _ _ rfl hb1 (fun h => absurd h (by decide))
  · intro σ W' hb hR' hF
    have h16 : σ 16 = .agg #[.int .u64 (enc z.a), .int .u64 (enc z.b)] := hR' 16 (by decide)
    obtain ⟨r0, r1, f0, f1⟩ := HR.out.keep hb
    have HBE := Lib.hid (bthen HB.out hb)
    clear hR' hF hb c0 c1 d0 d1 e0 e1 HR HB
    simp only [fill, List.map, Act.put, List.setIfInBounds_toArray, List.set_cons_zero, List.set_cons_succ, List.length_cons, List.length_nil, List.drop_succ_cons, List.drop_zero, Nat.reduceAdd, h16]
    go_wp2_with fail
    exact bodyPost_ret (v := .agg #[.int .u64 (enc z.a), .int .u64 (enc z.b)]) (by simp [results, Try.results67, go_sem, r0, r1]) rfl ⟨rfl, (HBE.out.setCell HGR.out _).setCell HGR.out _⟩
set_option maxRecDepth 100000 in
set_option maxHeartbeats 8000000 in
theorem fone_is (a0 a1 b0 b1 y0 y1 x0 : Int) (a b y z : F2) (x : F) (ok : Bool) (w : World) (ha : Rep a0 a1 a) (hb : Rep b0 b1 b) (hy : Rep y0 y1 y) (hx : U x0) (hxx : toF x0 = x) (hz : oneRes a b y x = (z, ok)) :
    Calls Try.prog 59 #[.agg #[.int .u64 a0, .int .u64 a1], .agg #[.int .u64 b0, .int .u64 b1], .agg #[.int .u64 y0, .int .u64 y1], .int .u64 x0] w fun e w' => e = .returned (.tuple #[.agg #[.int .u64 (enc z.a), .int .u64 (enc z.b)], .bool ok]) ∧ Below w.heap.size w w' := by
  have HZ := Lib.hid hz
  clear hz
  go_enter Try.func59, Try.ntmps59
  go_upto_region 1 with fail
  obtain ⟨ga, hga⟩ : ∃ g, w.heap.size = g := ⟨_, rfl⟩
  obtain ⟨gb, hgb⟩ : ∃ g, ga + 1 = g := ⟨_, rfl⟩
  obtain ⟨gy, hgy⟩ : ∃ g, gb + 1 = g := ⟨_, rfl⟩
  obtain ⟨gr, hgr⟩ : ∃ g, gy + 1 = g := ⟨_, rfl⟩
  refine wp_gen (fun W => Below w.heap.size w W ∧ Duo W ga (.int .u64 a0) (.int .u64 a1) ∧ Duo W gb (.int .u64 b0) (.int .u64 b1) ∧ Duo W gy (.int .u64 y0) (.int .u64 y1) ∧ Duo W gr (.int .u64 0) (.int .u64 0)) ⟨((((Below.refl _ _).alloc (Nat.le_refl _) _).alloc (by simp) _).alloc (by simp; omega) _).alloc (by simp; omega) _, by rw [← hga]; simp [Duo, go_sem], by rw [← hgb, ← hga]; simp [Duo, go_sem], by rw [← hgy, ← hgb, ← hga]; simp [Duo, go_sem], by rw [← hgr, ← hgy, ← hgb, ← hga]; simp [Duo, go_sem]⟩ ?_
  rintro w0 ⟨hB, hA, hV, hY, hR⟩
  have HGR : Hid (w.heap.size ≤ gr) := Lib.hid (by omega)
  simp only [hga, hgb, hgy, hgr]
  have HB := Lib.hid hB; have HR := Lib.hid hR
  clear hB hR hga hgb hgy hgr
  by_cases hx0 : x = 0
  · have e1 : oneRes a b y x = (0, false) := if_pos hx0
    obtain ⟨rfl, rfl⟩ := Prod.mk.inj (e1.symm.trans HZ.out)
    have i2 := fun W => inv_no x0 hx (hxx.trans hx0) W
    obtain ⟨r0, r1, f0, f1⟩ := HR.out
    clear e1 HZ hA hV hY HR
    go_wp2_with (go_at_call 66; (with_reducible refine (i2 _).mono ?_); rintro E v1 ⟨rfl, rfl⟩)
    exact bodyPost_ret (v := .tuple #[.agg #[.int .u64 0, .int .u64 0], .bool false]) (by simp [results, Try.results59, go_sem, r0, r1]) rfl ⟨rfl, (HB.out.setCell HGR.out _).setCell HGR.out _⟩
  have hx1 : toF x0 ≠ 0 := by rw [hxx]; exact hx0
  have e1 : oneRes a b y x = (foldV a b y x, true) := if_neg hx0
  obtain ⟨hzz, rfl⟩ := Prod.mk.inj (e1.symm.trans HZ.out)
  have i2 := fun W => inv_yes x0 hx hx1 W
  have hfx : enc (fpow (toF x0) 18446744069414584319) = enc (finv x) := by rw [hxx]; rfl
  rw [hfx] at i2
  have s1 := fun W => pscale_q y0 y1 (enc (finv x)) y (scale y (finv x)) hy (enc_U _) (by rw [toF_enc]) W
  have h1 := fun W => halved_is a0 a1 b0 b1 (enc (scale y (finv x)).a) (enc (scale y (finv x)).b) a b (scale y (finv x)) z W ha hb (rep_enc _) (by rw [foldV_half]; exact hzz)
  clear hzz hfx e1 HZ hx0 hx1 hxx
  generalize scale y (finv x) = o at *
  generalize enc (finv x) = xv at *
  obtain ⟨c0, c1, _, _⟩ := hA
  obtain ⟨d0, d1, _, _⟩ := hV
  obtain ⟨e0, e1, _, _⟩ := hY
  clear ha hb hy
  go_upto_region 4 with (go_at_call 66; (with_reducible refine (i2 _).mono ?_); rintro E v1 ⟨rfl, rfl⟩)
  refine wp_loose [(20, []), (21, []), (22, []), (23, []), (24, [22, 23]), (25, [20, 21, 24])]
    (OneP a0 a1 b0 b1 y0 y1 xv o z) (fun d => false) (by kernel_rfl) (by kernel_rfl) (fun _ _ _ _ h hb => h.keep hb) ?_ ?_
  · refine opsrun_cons ?_ (opsrun_cons ?_ (opsrun_cons ?_ (opsrun_cons ?_ (opsrun_cons ?_ (opsrun_cons ?_ opsrun_nil)))))
    all_goals
      refine OpRuns.any ?_
      intro Q0 σ W' K hb hn hK
      simp only [fill, List.map, Act.put, List.setIfInBounds_toArray, List.set_cons_zero, List.set_cons_succ] at hK ⊢
    · clear hn
      have c0' := bkeep hb c0
      have c1' := bkeep hb c1
      clear c0 c1
      go_simp
      exact hK _ _ rfl (Below.refl _ _) (fun h => absurd h (by decide))
    · clear hn
      have d0' := bkeep hb d0
      have d1' := bkeep hb d1
      clear d0 d1
      go_simp
      exact hK _ _ rfl (Below.refl _ _) (fun h => absurd h (by decide))
    · clear hn
      have e0' := bkeep hb e0
      have e1' := bkeep hb e1
      clear e0 e1
      go_simp
      exact hK _ _ rfl (Below.refl _ _) (fun h => absurd h (by decide))
    · clear hn
      go_simp
      exact hK _ _ rfl (Below.refl _ _) (fun h => absurd h (by decide))
    · have h22 : σ 22 = _ := hn 22 (by decide)
      have h23 : σ 23 = _ := hn 23 (by decide)
      clear hn
      simp only [h22, h23] at hK
      go_simp
      go_at_call 68
      refine (s1 _).mono ?_
      rintro e w1 ⟨rfl, hb1⟩
      exact hK _ _ rfl hb1 (fun h => absurd h (by decide))
    · have h20 : σ 20 = _ := hn 20 (by decide)
      have h21 : σ 21 = _ := hn 21 (by decide)
      have h24 : σ 24 = _ := hn 24 (by decide)
      clear hn
      simp only [h20, h21, h24] at hK
      go_simp
      go_at_call 67
      refine (h1 _).mono ?_
      rintro e w1 ⟨rfl, hb1⟩
      exact hK _ _ rfl hb1 (fun h => absurd h (by decide))
  · intro σ W' hb hR' hF
    have h25 : σ 25 = .agg #[.int .u64 (enc z.a), .int .u64 (enc z.b)] := hR' 25 (by decide)
    obtain ⟨r0, r1, f0, f1⟩ := HR.out.keep hb
    have HBE := Lib.hid (bthen HB.out hb)
    clear hR' hF hb c0 c1 d0 d1 e0 e1 HR HB
    simp only [fill, List.map, Act.put, List.setIfInBounds_toArray, List.set_cons_zero, List.set_cons_succ, List.length_cons, List.length_nil, List.drop_succ_cons, List.drop_zero, Nat.reduceAdd, h25]
    go_wp2_with fail
    exact bodyPost_ret (v := .tuple #[.agg #[.int .u64 (enc z.a), .int .u64 (enc z.b)], .bool true]) (by simp [results, Try.results59, go_sem, r0, r1]) rfl ⟨rfl, (HBE.out.setCell HGR.out _).setCell HGR.out _⟩
def WdgR (gx b ofh H cq k : Nat) (a0 a1 b0 b1 o0 o1 : Int) (z : F2) (sl : Nat) (v : Value) (W : World) : Prop :=
  match sl with
  | 63 => v = .slice (some ⟨gx, 0, none⟩) H H
  | 64 => v = .int .i64 (k : Int)
  | 65 => v = .agg #[.int .u64 a0, .int .u64 a1]
  | 66 => v = .slice (some ⟨b, ofh, none⟩) H cq
  | 67 => v = .int .i64 (k : Int)
  | 68 => v = .pointer (some ⟨b, ofh + k * 2, none⟩)
  | 69 => v = .agg #[.int .u64 b0, .int .u64 b1]
  | 70 => v = .agg #[.int .u64 o0, .int .u64 o1]
  | 71 => v = .agg #[.int .u64 (enc z.a), .int .u64 (enc z.b)]
  | _ => v = .pointer (some ⟨gx, k * 2, none⟩)
theorem WdgR.keep {gx b ofh H cq k : Nat} {a0 a1 b0 b1 o0 o1 : Int} {z : F2} {sl : Nat} {v : Value} {W W' : World} (h : WdgR gx b ofh H cq k a0 a1 b0 b1 o0 o1 z sl v W) (hb : Below W.heap.size W W') : WdgR gx b ofh H cq k a0 a1 b0 b1 o0 o1 z sl v W' := h

def WdgRel (w : World) (l : List (Int × Int)) (y : F2) (s r : F) (H go gx : Nat) (i : Value) (W : World) : Prop :=
  ∃ k : Nat, k ≤ H ∧ i = .int .i64 k ∧ Below w.heap.size w W ∧ Duo W go (.int .u64 (enc (overF y s r k).a)) (.int .u64 (enc (overF y s r k).b)) ∧ Arr W gx (H * 2) (pc fun j => if j < k then encP (foldV (qAt l j) (qAt l (j + H)) y (s * fpow r j)) else (0, 0))
end Go.Proofs.Yteghnaocncmiaaa
