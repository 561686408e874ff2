/-
  FoldM: Words, folded: plain.
  FoldRef: What the document's One, Shift and Point of layer 20 come to. (Written by gen_fref.py.)
  Two: A region that draws its order and stores twice, its last operation a store, one store (or another operation that writes, a copy) under way: operations that need not wait for that one may come up ahead of it or behind it. Each is shown once, in whatever world has come; what is known of the world is said for before that store and for behind it. No Go text in sight.
  TwoW: As XTwo, but what is known of a slot may speak of the world: a variable that the region itself makes, and stores into (the store under way). No Go text in sight.
  FoldRefW: What the document's Word of layer 20 comes to. (Written by gen_fword.py.)
  FoldW: What is asked of the program's calls of layer 20; the document's examples, reckoned.
  FoldH: A polynomial's word folds to that of its even coefficients and by times the odd ones; sums of words: plain.
-/
import Derived.Test.YthfkfgjhgicfeaaGreatDoorGNtt
import Derived.Test.YthfkfgjhgicfeaaGreatDoorGRoot
import Derived.Test.YthfkfgjhgicfeaaGreatDoorGRow
import Derived.Test.YthfkfgjhgicfeaaGreatDoorGNum
import Derived.Test.YthfkfgjhgicfeaaGreatDoorGRef
import Derived.Test.YthfkfgjhgicfeaaGreatDoorSpongeM
import Derived.Test.YthfkfgjhgicfeaaGreatDoorGArgs
namespace Go.Proofs.YthfkfgjhgicfeaaGreatDoor
open Go Go.RowKit
set_option linter.unusedVariables false

def halfF : F := finv 2
theorem half_two : (2 : F) * halfF = 1 := mul_finv 2 (by decide)
/-- What two values fold to. -/
def foldV (a b y : F2) (x : F) : F2 := scale (a + b) halfF + y * scale (a - b) (halfF * finv x)
/-- 7, squared so often. -/
def shiftU : Nat → F
  | 0 => 7
  | k + 1 => shiftU k * shiftU k
theorem shiftU_ne : ∀ k, shiftU k ≠ 0
  | 0 => by decide
  | k + 1 => mul_ne_zero (shiftU_ne k) (shiftU_ne k)
def foldN (f : Int) : Nat := min f.toNat 64
def shiftF (f : Int) : F := shiftU (foldN f)
/-- The i-th place of a word that was folded so often. -/
def pointF (m f i : Int) : F := if i < 0 then 0 else shiftF f * fpow (ofv m) i.toNat
theorem pointF_low {m f i : Int} (h : i < 0) : pointF m f i = 0 := if_pos h
theorem pointF_at {m f i : Int} (h : ¬ i < 0) : pointF m f i = shiftF f * fpow (ofv m) i.toNat := if_neg h
theorem fpow_ne {x : F} (hx : x ≠ 0) : ∀ n, fpow x n ≠ 0
  | 0 => by rw [fpow_zero]; decide
  | n + 1 => by rw [fpow_succ]; exact mul_ne_zero (fpow_ne hx n) hx
theorem pointF_pt (m : Nat) (hm : m ≤ 32) (f : Int) (i : Nat) : pointF m f i = pt (shiftF f) m i := by
  rw [pointF_at (by omega), ofv_in (by omega) (by omega), Int.toNat_natCast, Int.toNat_natCast]
  rfl
theorem pt_ne {s : F} (hs : s ≠ 0) (m : Nat) (hm : m ≤ 32) (i : Nat) : pt s m i ≠ 0 := mul_ne_zero hs (fpow_ne (root_ne m hm) i)
theorem shiftF_ne (f : Int) : shiftF f ≠ 0 := shiftU_ne _
def qAt (l : List (Int × Int)) (i : Nat) : F2 := toQ (l.getD i (0, 0))
/-- One of each of the first half, and the one half way round, at its place. -/
def wordN (l : List (Int × Int)) (y : F2) (m f : Int) (h : Nat) : List (Int × Int) := (List.range h).map fun i => encP (foldV (qAt l i) (qAt l (i + h)) y (pointF m f i))
theorem wordN_len (l : List (Int × Int)) (y : F2) (m f : Int) (h : Nat) : (wordN l y m f h).length = h := by simp [wordN]
theorem wordN_at (l : List (Int × Int)) (y : F2) (m f : Int) {h i : Nat} (hi : i < h) : (wordN l y m f h).getD i (0, 0) = encP (foldV (qAt l i) (qAt l (i + h)) y (pointF m f i)) := by simp [wordN, List.getD, hi]
theorem wordN_snoc (l : List (Int × Int)) (y : F2) (m f : Int) (h k : Nat) : ((List.range (k + 1)).map fun i => encP (foldV (qAt l i) (qAt l (i + h)) y (pointF m f i))) = ((List.range k).map fun i => encP (foldV (qAt l i) (qAt l (i + h)) y (pointF m f i))) ++ [encP (foldV (qAt l k) (qAt l (k + h)) y (pointF m f k))] := by simp [List.range_succ]
def wordV (l : List (Int × Int)) (y : F2) (f : Int) : List (Int × Int) × Bool := if 1 ≤ lg l.length ∧ lg l.length ≤ 20 then (wordN l y (lg l.length) f (l.length / 2), true) else ([], false)
theorem wordV_yes {l : List (Int × Int)} {y : F2} {f : Int} (h : 1 ≤ lg l.length ∧ lg l.length ≤ 20) : wordV l y f = (wordN l y (lg l.length) f (l.length / 2), true) := if_pos h
theorem wordV_no {l : List (Int × Int)} {y : F2} {f : Int} (h : ¬ (1 ≤ lg l.length ∧ lg l.length ≤ 20)) : wordV l y f = ([], false) := if_neg h
/-! ### Even and odd halves -/
def evQ (n : Nat) (c : Nat → F2) (x : F) : F2 := ⟨ev n (fun j => (c j).a) x, ev n (fun j => (c j).b) x⟩
theorem ev_even_odd (h : Nat) (c : Nat → F) (x : F) : ev (2 * h) c x = ev h (fun j => c (2 * j)) (x * x) + x * ev h (fun j => c (2 * j + 1)) (x * x) := by
  unfold ev
  rw [sm_two, ← sm_mul]
  congr 1
  · exact sm_congr fun j _ => by rw [fpow_two]
  · exact sm_congr fun j _ => by rw [fpow_two, fpow_succ]; grind
theorem neg_sq (x : F) : -x * -x = x * x := by grind
theorem halves (h : Nat) (c : Nat → F) (x : F) (hx : x ≠ 0) : (ev (2 * h) c x + ev (2 * h) c (-x)) * halfF = ev h (fun j => c (2 * j)) (x * x) ∧ (ev (2 * h) c x - ev (2 * h) c (-x)) * (halfF * finv x) = ev h (fun j => c (2 * j + 1)) (x * x) := by
  have h2 := half_two
  have h3 := mul_finv x hx
  rw [ev_even_odd h c x, ev_even_odd h c (-x), neg_sq]
  generalize ev h (fun j => c (2 * j)) (x * x) = E at *
  generalize ev h (fun j => c (2 * j + 1)) (x * x) = O at *
  generalize halfF = t at *
  generalize finv x = y at *
  constructor
  · have : (E + x * O + (E + -x * O)) * t = 2 * t * E := by grind
    rw [this, h2]; grind
  · have : (E + x * O - (E + -x * O)) * (t * y) = (2 * t) * ((x * y) * O) := by grind
    rw [this, h2, h3]; grind
theorem pt_minus (s : F) (k i : Nat) (hk : k < 32) : pt s (k + 1) (i + 2 ^ k) = -pt s (k + 1) i := by
  unfold pt
  rw [fpow_add, root_half k hk]
  grind
theorem pt_sq (s : F) (k i : Nat) (hk : k < 32) : pt s (k + 1) i * pt s (k + 1) i = pt (s * s) k i := by
  rw [← pt_half (s * s) k i hk]
  unfold pt
  rw [show 2 * i = i + i by omega, fpow_add]
  grind
end Go.Proofs.YthfkfgjhgicfeaaGreatDoor
namespace Go.Proofs.YthfkfgjhgicfeaaGreatDoor
open Go Go.RowKit Go.Sort Go.BigFrame
set_option linter.unusedVariables false

def ShiftRel (w : World) (n : Nat) (s i : Value) (W : World) : Prop := ∃ k : Nat, k ≤ n ∧ s = .int .u64 (enc (shiftU k)) ∧ i = .int .i64 k ∧ Below w.heap.size w W
set_option maxHeartbeats 4000000 in
theorem rfshift_is (f z : Int) (hz : enc (shiftF f) = z) (w : World) : Calls Tryz.prog 96 #[.int .i64 f] w fun e w' => e = .returned (.int .u64 z) ∧ Below w.heap.size w w' := by
  have HZ := Lib.hid hz
  obtain ⟨n, hn⟩ : ∃ n, foldN f = n := ⟨_, rfl⟩
  have hn1 : (n : Int) ≤ f ∨ n = 0 := by unfold foldN at hn; omega
  have hn2 : n ≤ 64 := by unfold foldN at hn; omega
  have hn3 : f ≤ n ∨ n = 64 := by unfold foldN at hn; omega
  have HN := Lib.hid hn
  have h7 : enc (shiftU 0) = 7 := by decide +kernel
  clear hz hn
  go_enter Tryz.func96, Tryz.ntmps96
  go_upto_region 3 with fail
  go_loopw [3, 4] (ShiftRel w n) (fun _ i _ => n - (intOf i).toNat)
  case atStart => exact ⟨0, Nat.zero_le _, by rw [h7], rfl, Below.refl _ _⟩
  case round =>
    clear h7
    obtain ⟨k, hk, rfl, rfl, hB⟩ := hrel
    by_cases hlt : k < n
    · have h1 : (k : Int) < f := by omega
      have h2 : (k : Int) < 64 := by omega
      have m1 := fun W => ref_below (refmul_is (enc (shiftU k)) (enc (shiftU k)) (enc (shiftU (k + 1))) (enc_U _) (enc_U _) (by rw [toF_enc]; rfl) W)
      generalize hs1 : enc (shiftU (k + 1)) = s1 at *
      have HS1 := Lib.hid hs1
      clear hs1
      generalize enc (shiftU k) = s0 at *
      clear hn1 hn3
      go_wp2_with (go_at_call 88; (with_reducible refine (m1 _).mono ?_); rintro E w1 ⟨rfl, hb⟩)
      go_roundw
      case rel => exact ⟨k + 1, by omega, by rw [HS1.out], by go_num, bthen hB hb⟩
      case measure => simp [intOf]; omega
    · obtain rfl : k = n := by omega
      have hD : enc (shiftU k) = z := by rw [← HZ.out]; unfold shiftF; rw [HN.out]
      rw [hD]
      clear hD HZ HN
      by_cases h1 : (k : Int) < f
      · have h2 : ¬ (k : Int) < 64 := by omega
        go_wp2_with fail
        go_ret
        exact ⟨rfl, hB⟩
      · go_wp2_with fail
        go_ret
        exact ⟨rfl, hB⟩
set_option maxHeartbeats 1000000 in
theorem rfpoint_is (m f i z : Int) (hi : i ≤ 9223372036854775807) (hz : enc (pointF m f i) = z) (w : World) : Calls Tryz.prog 58 #[.int .i64 m, .int .i64 f, .int .i64 i] w fun e w' => e = .returned (.int .u64 z) ∧ Below w.heap.size w w' := by
  by_cases h : i < 0
  · rw [pointF_low h] at hz
    have hz : (0 : Int) = z := hz
    subst hz
    go_enter Tryz.func58, Tryz.ntmps58
    go_wp2
    go_ret
    exact ⟨rfl, Below.refl _ _⟩
  · rw [pointF_at h] at hz
    have hw : IntKind.u64.wrap i = i := by rw [IntKind.wrap_u64]; omega
    have s1 := fun W => rfshift_is f _ rfl W
    have o1 := fun W => ref_below (refof_is m _ rfl W)
    have p1 := fun W => ref_below (refpow_any (enc (ofv m)) i (enc_U _) (by unfold U; omega) W)
    have m1 := fun W => ref_below (refmul_is (enc (shiftF f)) (enc (fpow (ofv m) i.toNat)) z (enc_U _) (enc_U _) (by rw [toF_enc, toF_enc]; exact hz) W)
    simp only [toF_enc] at p1
    generalize enc (fpow (ofv m) i.toNat) = pv at *
    generalize enc (ofv m) = ov at *
    generalize enc (shiftF f) = sv at *
    have HB := Lib.hid (Below.refl w.heap.size w)
    clear hz
    go_enter Tryz.func58, Tryz.ntmps58
    go_wp2_with (first
      | (go_at_call 96; (with_reducible refine (s1 _).mono ?_); rintro E w1 ⟨rfl, hb⟩; replace HB := Lib.hid (bthen HB.out hb); clear hb)
      | (go_at_call 98; (with_reducible refine (o1 _).mono ?_); rintro E w2 ⟨rfl, hb⟩; replace HB := Lib.hid (bthen HB.out hb); clear hb)
      | (go_at_call 97; (with_reducible refine (p1 _).mono ?_); rintro E w3 ⟨rfl, hb⟩; replace HB := Lib.hid (bthen HB.out hb); clear hb)
      | (go_at_call 88; (with_reducible refine (m1 _).mono ?_); rintro E w4 ⟨rfl, hb⟩; replace HB := Lib.hid (bthen HB.out hb); clear hb))
    go_ret
    exact ⟨rfl, HB.out⟩
def OneG (e o m z : F2) (y0 y1 : Int) (sl : Nat) (v : Value) (W : World) : Prop :=
  match sl with
  | 40 => v = .agg #[.int .u64 (enc e.a), .int .u64 (enc e.b)]
  | 41 => v = .agg #[.int .u64 y0, .int .u64 y1]
  | 42 => v = .agg #[.int .u64 (enc o.a), .int .u64 (enc o.b)]
  | 43 => v = .agg #[.int .u64 (enc m.a), .int .u64 (enc m.b)]
  | 44 => v = .agg #[.int .u64 (enc z.a), .int .u64 (enc z.b)]
  | _ => v = .bool true
theorem OneG.keep {e o m z : F2} {y0 y1 : Int} {sl : Nat} {v : Value} {W W' : World} (h : OneG e o m z y0 y1 sl v W) (hb : Below W.heap.size W W') : OneG e o m z y0 y1 sl v W' := by
  unfold OneG at *
  split at h
  all_goals first | exact h
theorem inv_two (W : World) : Calls Tryz.prog 84 #[.int .u64 2] W fun e w' => e = .returned (.tuple #[.int .u64 (enc halfF), .bool true]) ∧ Below W.heap.size W w' := ref_below (refinv_yes 2 (by unfold U; omega) (by decide) W)
def oneRes (a b y : F2) (x : F) : F2 × Bool := if x = 0 then (0, false) else (foldV a b y x, true)
set_option maxRecDepth 100000 in
set_option maxHeartbeats 8000000 in
theorem rfone_is (a0 a1 b0 b1 y0 y1 x0 : Int) (a b y z : F2) (x : F) (ok : Bool) (w : World) (ha : Rep a0 a1 a) (hb : Rep b0 b1 b) (hy : Rep y0 y1 y) (hx : U x0) (hxx : toF x0 = x) (hz : oneRes a b y x = (z, ok)) :
    Calls Tryz.prog 60 #[.agg #[.int .u64 a0, .int .u64 a1], .agg #[.int .u64 b0, .int .u64 b1], .agg #[.int .u64 y0, .int .u64 y1], .int .u64 x0] w fun e w' => e = .returned (.tuple #[.agg #[.int .u64 (enc z.a), .int .u64 (enc z.b)], .bool ok]) ∧ Below w.heap.size w w' := by
  have i1 := fun W => inv_two W
  have HZ := Lib.hid hz
  clear hz
  go_enter Tryz.func60, Tryz.ntmps60
  go_upto_region 1 with fail
  obtain ⟨ga, hga⟩ : ∃ g, w.heap.size = g := ⟨_, rfl⟩
  obtain ⟨gb, hgb⟩ : ∃ g, ga + 1 = g := ⟨_, rfl⟩
  obtain ⟨gy, hgy⟩ : ∃ g, gb + 1 = g := ⟨_, rfl⟩
  obtain ⟨gr, hgr⟩ : ∃ g, gy + 1 = g := ⟨_, rfl⟩
  refine wp_gen (fun W => Below w.heap.size w W ∧ Duo W ga (.int .u64 a0) (.int .u64 a1) ∧ Duo W gb (.int .u64 b0) (.int .u64 b1) ∧ Duo W gy (.int .u64 y0) (.int .u64 y1) ∧ Duo W gr (.int .u64 0) (.int .u64 0)) ⟨((((Below.refl _ _).alloc (Nat.le_refl _) _).alloc (by simp) _).alloc (by simp; omega) _).alloc (by simp; omega) _, by rw [← hga]; simp [Duo, go_sem], by rw [← hgb, ← hga]; simp [Duo, go_sem], by rw [← hgy, ← hgb, ← hga]; simp [Duo, go_sem], by rw [← hgr, ← hgy, ← hgb, ← hga]; simp [Duo, go_sem]⟩ ?_
  rintro w0 ⟨hB, hA, hV, hY, hR⟩
  have HGR : Hid (w.heap.size ≤ gr) := Lib.hid (by omega)
  simp only [hga, hgb, hgy, hgr]
  have HB := Lib.hid hB; have HA := Lib.hid hA; have HV := Lib.hid hV; have HY := Lib.hid hY; have HR := Lib.hid hR
  clear hB hA hV hY hR hga hgb hgy hgr
  by_cases hx0 : x = 0
  · have e1 : oneRes a b y x = (0, false) := if_pos hx0
    obtain ⟨rfl, rfl⟩ := Prod.mk.inj (e1.symm.trans HZ.out)
    have i2 := fun W => ref_below (refinv_no x0 hx (hxx.trans hx0) W)
    clear e1 HZ
    go_upto_region 2 with (go_at_call 84; (with_reducible refine (i1 _).mono ?_); rintro E v1 ⟨rfl, hb⟩; replace HA := Lib.hid (HA.out.keep hb); replace HV := Lib.hid (HV.out.keep hb); replace HY := Lib.hid (HY.out.keep hb); replace HR := Lib.hid (HR.out.keep hb); replace HB := Lib.hid (bthen HB.out hb); clear hb)
    go_upto_region 3 with (go_at_call 84; (with_reducible refine (i2 _).mono ?_); rintro E v1 ⟨rfl, hb⟩; replace HA := Lib.hid (HA.out.keep hb); replace HV := Lib.hid (HV.out.keep hb); replace HY := Lib.hid (HY.out.keep hb); replace HR := Lib.hid (HR.out.keep hb); replace HB := Lib.hid (bthen HB.out hb); clear hb)
    obtain ⟨d0, d1, f0, f1⟩ := HR.out
    go_wp2_with fail
    exact bodyPost_ret (v := .tuple #[.agg #[.int .u64 0, .int .u64 0], .bool false]) (by simp [results, Tryz.results60, go_sem, d0, d1]) rfl ⟨rfl, (HB.out.setCell HGR.out _).setCell HGR.out _⟩
  have hx1 : toF x0 ≠ 0 := by rw [hxx]; exact hx0
  have e1 : oneRes a b y x = (foldV a b y x, true) := if_neg hx0
  obtain ⟨hzz, rfl⟩ := Prod.mk.inj (e1.symm.trans HZ.out)
  have i2 := fun W => ref_below (refinv_yes x0 hx hx1 W)
  have a1' := fun W => radd_q a0 a1 b0 b1 a b (a + b) ha hb rfl W
  have s1 := fun W => rscale_q (enc (a + b).a) (enc (a + b).b) (enc halfF) (a + b) (scale (a + b) halfF) (rep_enc _) (enc_U _) (by rw [toF_enc]) W
  have t1 := fun W => rsub_q a0 a1 b0 b1 a b (a - b) ha hb rfl W
  have hfx : enc (fpow (toF x0) 18446744069414584319) = enc (finv x) := by rw [hxx]; rfl
  rw [hfx] at i2
  have n1 := fun W => ref_below (refmul_is (enc halfF) (enc (finv x)) (enc (halfF * finv x)) (enc_U _) (enc_U _) (by rw [toF_enc, toF_enc]) W)
  have s2 := fun W => rscale_q (enc (a - b).a) (enc (a - b).b) (enc (halfF * finv x)) (a - b) (scale (a - b) (halfF * finv x)) (rep_enc _) (enc_U _) (by rw [toF_enc]) W
  have m1 := fun W => rmul_q y0 y1 (enc (scale (a - b) (halfF * finv x)).a) (enc (scale (a - b) (halfF * finv x)).b) y (scale (a - b) (halfF * finv x)) (y * scale (a - b) (halfF * finv x)) hy (rep_enc _) rfl W
  have a2 := fun W => radd_q (enc (scale (a + b) halfF).a) (enc (scale (a + b) halfF).b) (enc (y * scale (a - b) (halfF * finv x)).a) (enc (y * scale (a - b) (halfF * finv x)).b) (scale (a + b) halfF) (y * scale (a - b) (halfF * finv x)) z (rep_enc _) (rep_enc _) hzz W
  clear hfx hzz e1 HZ
  generalize y * scale (a - b) (halfF * finv x) = m at *
  generalize scale (a - b) (halfF * finv x) = o at *
  generalize scale (a + b) halfF = e at *
  generalize a + b = s at *
  generalize a - b = d at *
  generalize enc (halfF * finv x) = hv at *
  generalize enc (finv x) = xv at *
  generalize enc halfF = hf at *
  have hal := fun (W : World) (o : Obj) => (Below.refl W.heap.size W).alloc (Nat.le_refl _) o
  go_upto_region 2 with (go_at_call 84; (with_reducible refine (i1 _).mono ?_); rintro E v1 ⟨rfl, hb⟩; replace HA := Lib.hid (HA.out.keep hb); replace HV := Lib.hid (HV.out.keep hb); replace HY := Lib.hid (HY.out.keep hb); replace HR := Lib.hid (HR.out.keep hb); replace HB := Lib.hid (bthen HB.out hb); clear hb)
  go_upto_region 5 with (go_at_call 84; (with_reducible refine (i2 _).mono ?_); rintro E v1 ⟨rfl, hb⟩; replace HA := Lib.hid (HA.out.keep hb); replace HV := Lib.hid (HV.out.keep hb); replace HY := Lib.hid (HY.out.keep hb); replace HR := Lib.hid (HR.out.keep hb); replace HB := Lib.hid (bthen HB.out hb); clear hb)
  obtain ⟨u0, u1, _, _⟩ := HA.out
  obtain ⟨v0, v1', _, _⟩ := HV.out
  go_upto_region 6 with (first
    | (go_at_call 33; (with_reducible refine (a1' _).mono ?_); rintro E v1 ⟨rfl, hb⟩; replace HA := Lib.hid (HA.out.keep hb); replace HV := Lib.hid (HV.out.keep hb); replace HY := Lib.hid (HY.out.keep hb); replace HR := Lib.hid (HR.out.keep hb); replace HB := Lib.hid (bthen HB.out hb); clear hb)
    | (go_at_call 86; (with_reducible refine (s1 _).mono ?_); rintro E v1 ⟨rfl, hb⟩; replace HA := Lib.hid (HA.out.keep hb); replace HV := Lib.hid (HV.out.keep hb); replace HY := Lib.hid (HY.out.keep hb); replace HR := Lib.hid (HR.out.keep hb); replace HB := Lib.hid (bthen HB.out hb); clear hb))
  obtain ⟨ge, hge⟩ : ∃ g, v1.heap.size = g := ⟨_, rfl⟩
  refine wp_gen (fun W => Below w.heap.size w W ∧ Duo W ga (.int .u64 a0) (.int .u64 a1) ∧ Duo W gb (.int .u64 b0) (.int .u64 b1) ∧ Duo W gy (.int .u64 y0) (.int .u64 y1) ∧ Duo W gr (.int .u64 0) (.int .u64 0) ∧ Duo W ge (.int .u64 (enc e.a)) (.int .u64 (enc e.b))) ⟨bthen HB.out (hal _ _), HA.out.keep (hal _ _), HV.out.keep (hal _ _), HY.out.keep (hal _ _), HR.out.keep (hal _ _), by rw [← hge]; simp [Duo, go_sem]⟩ ?_
  clear HB HA HV HY HR u0 u1 v0 v1'
  rintro w3 ⟨hB, hA, hV, hY, hR, hE⟩
  simp only [hge]
  have HB := Lib.hid hB; have HY := Lib.hid hY; have HR := Lib.hid hR; have HE := Lib.hid hE
  obtain ⟨u0, u1, _, _⟩ := hA
  obtain ⟨v0, v1', _, _⟩ := hV
  clear hB hY hR hE hge
  go_upto_region 7 with (first
    | (go_at_call 44; (with_reducible refine (t1 _).mono ?_); rintro E v1 ⟨rfl, hb⟩; replace HY := Lib.hid (HY.out.keep hb); replace HR := Lib.hid (HR.out.keep hb); replace HE := Lib.hid (HE.out.keep hb); replace HB := Lib.hid (bthen HB.out hb); clear hb)
    | (go_at_call 88; (with_reducible refine (n1 _).mono ?_); rintro E v1 ⟨rfl, hb⟩; replace HY := Lib.hid (HY.out.keep hb); replace HR := Lib.hid (HR.out.keep hb); replace HE := Lib.hid (HE.out.keep hb); replace HB := Lib.hid (bthen HB.out hb); clear hb)
    | (go_at_call 86; (with_reducible refine (s2 _).mono ?_); rintro E v1 ⟨rfl, hb⟩; replace HY := Lib.hid (HY.out.keep hb); replace HR := Lib.hid (HR.out.keep hb); replace HE := Lib.hid (HE.out.keep hb); replace HB := Lib.hid (bthen HB.out hb); clear hb))
  obtain ⟨go, hgo⟩ : ∃ g, v1.heap.size = g := ⟨_, rfl⟩
  refine wp_gen (fun W => Below w.heap.size w W ∧ Duo W gy (.int .u64 y0) (.int .u64 y1) ∧ Duo W gr (.int .u64 0) (.int .u64 0) ∧ Duo W ge (.int .u64 (enc e.a)) (.int .u64 (enc e.b)) ∧ Duo W go (.int .u64 (enc o.a)) (.int .u64 (enc o.b))) ⟨bthen HB.out (hal _ _), HY.out.keep (hal _ _), HR.out.keep (hal _ _), HE.out.keep (hal _ _), by rw [← hgo]; simp [Duo, go_sem]⟩ ?_
  clear HB HY HR HE u0 u1 v0 v1'
  rintro w5 ⟨hB, hY, hR, hE, hO⟩
  simp only [hgo]
  have HB := Lib.hid hB; have HR := Lib.hid hR
  obtain ⟨c0, c1, _, _⟩ := hY
  obtain ⟨e0, e1, _, _⟩ := hE
  obtain ⟨o0, o1, _, _⟩ := hO
  clear hB hR hgo
  refine wp_loose [(40, []), (41, []), (42, []), (43, [41, 42]), (44, [40, 43])]
    (OneG e o m z y0 y1) (fun d => false) (by kernel_rfl) (by kernel_rfl) (fun _ _ _ _ h hb => h.keep hb) ?_ ?_
  · refine opsrun_cons ?_ (opsrun_cons ?_ (opsrun_cons ?_ (opsrun_cons ?_ (opsrun_cons ?_ opsrun_nil))))
    all_goals
      refine OpRuns.any ?_
      intro Q0 σ W' K hb hn hK
      simp only [fill, List.map, Act.put, List.setIfInBounds_toArray, List.set_cons_zero, List.set_cons_succ] at hK ⊢
    · clear hn
      have e0' := bkeep hb e0
      have e1' := bkeep hb e1
      clear e0 e1
      go_simp
      exact hK _ _ rfl (Below.refl _ _) (fun h => absurd h (by decide))
    · clear hn
      have c0' := bkeep hb c0
      have c1' := bkeep hb c1
      clear c0 c1
      go_simp
      exact hK _ _ rfl (Below.refl _ _) (fun h => absurd h (by decide))
    · clear hn
      have o0' := bkeep hb o0
      have o1' := bkeep hb o1
      clear o0 o1
      go_simp
      exact hK _ _ rfl (Below.refl _ _) (fun h => absurd h (by decide))
    · have h41 : σ 41 = _ := hn 41 (by decide)
      have h42 : σ 42 = _ := hn 42 (by decide)
      clear hn
      simp only [h41, h42] at hK
      go_simp
      go_at_call 46
      refine (m1 _).mono ?_
      rintro e w1 ⟨rfl, hb1⟩
      exact hK _ _ rfl hb1 (fun h => absurd h (by decide))
    · have h40 : σ 40 = _ := hn 40 (by decide)
      have h43 : σ 43 = _ := hn 43 (by decide)
      clear hn
      simp only [h40, h43] at hK
      go_simp
      go_at_call 33
      refine (a2 _).mono ?_
      rintro e w1 ⟨rfl, hb1⟩
      exact hK _ _ rfl hb1 (fun h => absurd h (by decide))
  · intro σ W' hb hR' hF
    have h44 : σ 44 = .agg #[.int .u64 (enc z.a), .int .u64 (enc z.b)] := hR' 44 (by decide)
    obtain ⟨d0, d1, f0, f1⟩ := HR.out.keep hb
    have HBE := Lib.hid (bthen HB.out hb)
    clear hR' hF hb c0 c1 e0 e1 o0 o1 HR HB
    simp only [fill, List.map, Act.put, List.setIfInBounds_toArray, List.set_cons_zero, List.set_cons_succ, List.length_cons, List.length_nil, List.drop_succ_cons, List.drop_zero, Nat.reduceAdd, h44]
    go_wp2_with fail
    exact bodyPost_ret (v := .tuple #[.agg #[.int .u64 (enc z.a), .int .u64 (enc z.b)], .bool true]) (by simp [results, Tryz.results60, go_sem, d0, d1]) rfl ⟨rfl, (HBE.out.setCell HGR.out _).setCell HGR.out _⟩
end Go.Proofs.YthfkfgjhgicfeaaGreatDoor
namespace Go.Proofs.YthfkfgjhgicfeaaGreatDoor
open Go Go.RowKit
set_option linter.unusedVariables false

/-- What one operation is asked that yields a value: ahead of the store (s: false) or behind it. first: the store waits for it. -/
def OpRuns1 (P : Program) (ops : Array Oper) (Q : Exit → Act → World → Prop) (a : Act) (ds : List Nat) (Wd : Bool → World → Prop) (R : Nat → Value → Prop) (o : Oper) (d : Nat) (needs : List Nat) (first : Bool) : Prop :=
  ∀ (σ : Nat → Value) (s : Bool) (W : World) (K : Act → World → Prop), (first = true → s = false) → Wd s W → (∀ k ∈ needs, R k (σ k)) →
    (∀ (v : Value) (W' : World), R d v → Wd s W' → K ((fill a ds σ).put o.dst v) W') →
    if Region.wanted o (yielded ops (fill a ds σ).tmps) = true then Oper.wp P o (fill a ds σ) W K Q else K ((fill a ds σ).put o.dst undef) W
/-- What the store is asked. -/
def StRuns (P : Program) (ops : Array Oper) (Q : Exit → Act → World → Prop) (a : Act) (ds : List Nat) (Wd : Bool → World → Prop) (R : Nat → Value → Prop) (o : Oper) (d : Option Nat) (needs : List Nat) : Prop :=
  ∀ (σ : Nat → Value) (W : World) (K : Act → World → Prop), Wd false W → (∀ k ∈ needs, R k (σ k)) →
    (∀ (v : Value) (W' : World), (∀ k, d = some k → R k v) → Wd true W' → K ((fill a ds σ).put o.dst v) W') →
    if Region.wanted o (yielded ops (fill a ds σ).tmps) = true then Oper.wp P o (fill a ds σ) W K Q else K ((fill a ds σ).put o.dst undef) W

abbrev Plan2 := List (Option Nat × List Nat × Bool)
def planOk2 (md : Region.Mode) (ops : Array Oper) (plan : Plan2) (iA : Nat) : Bool :=
  decide (plan.length ≤ ops.size) && decide (plan.filterMap (·.1)).Nodup && backB md ops &&
  (decide (plan.length = ops.size) || (Region.sinkB md ops plan.length && Region.chainB md ops plan.length)) &&
  Region.seqB md ops (ops.size - plan.length) plan.length (doneArr plan.length (ops.size - plan.length)) && decide (iA < plan.length) &&
  (List.range plan.length).all fun i => match plan[i]?, ops[i]? with
    | some (d, needs, f), some o => decide (o.dst = d) && (!d.isNone || decide (i = iA)) && (needs.all fun k => o.after.any fun e => Region.binds md e && decide (e.on < i) && (((ops[e.on]?).bind (·.dst)) == some k)) &&
        (!f || (match ops[iA]? with | some oA => oA.after.any fun e => Region.binds md e && decide (e.on = i) | none => false))
    | _, _ => false

theorem wp_region_two {P : Program} {id : Nat} {Q : Exit → Act → World → Prop} {a : Act} {w : World} {l : List Oper} (plan : Plan2) (iA : Nat) (R : Nat → Value → Prop) (Wd : Bool → World → Prop)
    (hm : P.follows .mixedOrders = true) (hB : planOk2 .any l.toArray plan iA = true) (hw0 : Wd false { w with drawn := w.drawn + 1 })
    (hops : ∀ (i : Nat) (o : Oper) (d : Nat) (needs : List Nat) (f : Bool), i ≠ iA → l[i]? = some o → plan[i]? = some (some d, needs, f) → OpRuns1 P l.toArray Q a (plan.filterMap (·.1)) Wd R o d needs f)
    (hstore : ∀ (o : Oper) (d : Option Nat) (needs : List Nat) (f : Bool), l[iA]? = some o → plan[iA]? = some (d, needs, f) → StRuns P l.toArray Q a (plan.filterMap (·.1)) Wd R o d needs)
    (hend : ∀ (σ : Nat → Value) (W : World), Wd true W → (∀ d ∈ plan.filterMap (·.1), R d (σ d)) → wpList P l.toArray Q (l.drop plan.length) (fill a (plan.filterMap (·.1)) σ) W) :
    (Code.region id l.toArray true).wp P Q a w := by
  simp only [planOk2, Bool.and_eq_true, decide_eq_true_eq] at hB
  obtain ⟨⟨⟨⟨⟨⟨hlen, hnd⟩, hbk⟩, hT⟩, hseq⟩, hiA⟩, hpl⟩ := hB
  have hT' : plan.length = l.toArray.size ∨ (Region.sinkB .any l.toArray plan.length = true ∧ Region.chainB .any l.toArray plan.length = true) := by
    simpa only [Bool.or_eq_true, decide_eq_true_eq, Bool.and_eq_true] using hT
  have plan_at : ∀ i, i < plan.length → ∃ d needs f o, plan[i]? = some (d, needs, f) ∧ l[i]? = some o ∧ o.dst = d ∧ (d = none → i = iA) ∧
      (∀ k ∈ needs, ∃ e ∈ o.after, Region.binds .any e = true ∧ e.on < i ∧ ((l.toArray[e.on]?).bind (·.dst)) = some k) ∧
      (f = true → ∃ oA, l.toArray[iA]? = some oA ∧ ∃ e ∈ oA.after, Region.binds .any e = true ∧ e.on = i) := by
    intro i hi
    have h1 := List.all_eq_true.1 hpl i (List.mem_range.2 hi)
    cases hp : plan[i]? with
    | none => rw [hp] at h1; simp at h1
    | some q =>
      obtain ⟨d, needs, f⟩ := q
      cases ho : l.toArray[i]? with
      | none => rw [hp, ho] at h1; simp at h1
      | some o =>
        rw [hp, ho] at h1
        simp only [Bool.and_eq_true, decide_eq_true_eq, List.all_eq_true] at h1
        obtain ⟨⟨⟨h1, h2⟩, h3⟩, h4⟩ := h1
        refine ⟨d, needs, f, o, rfl, by simpa using ho, h1, ?_, fun k hk => ?_, fun hf => ?_⟩
        · intro hd
          subst hd
          simpa using h2
        · obtain ⟨e, he, hb⟩ := Array.any_eq_true'.1 (h3 k hk)
          simp only [Bool.and_eq_true, decide_eq_true_eq, beq_iff_eq] at hb
          exact ⟨e, he, hb.1.1, hb.1.2, hb.2⟩
        · subst hf
          simp only [Bool.not_true, Bool.false_or] at h4
          cases hA : l.toArray[iA]? with
          | none => rw [hA] at h4; simp at h4
          | some oA =>
            rw [hA] at h4
            obtain ⟨e, he, hb⟩ := Array.any_eq_true'.1 h4
            simp only [Bool.and_eq_true, decide_eq_true_eq] at hb
            exact ⟨oA, rfl, e, he, hb.1, hb.2⟩
  have mem_ds : ∀ i d needs f, plan[i]? = some (some d, needs, f) → d ∈ plan.filterMap (·.1) := fun i d needs f h =>
    List.mem_filterMap.2 ⟨(some d, needs, f), List.mem_of_getElem? h, rfl⟩
  have plan_inj : ∀ (i j d : Nat) (ni nj : List Nat) (fi fj : Bool), plan[i]? = some (some d, ni, fi) → plan[j]? = some (some d, nj, fj) → i = j := by
    have key : ∀ (p : Plan2), (p.filterMap (·.1)).Nodup → ∀ (i j d : Nat) (ni nj : List Nat) (fi fj : Bool), p[i]? = some (some d, ni, fi) → p[j]? = some (some d, nj, fj) → i = j := by
      intro p
      induction p with
      | nil => intro _ i j d ni nj fi fj h; simp at h
      | cons q p ih =>
        intro hn i j d ni nj fi fj hi hj
        obtain ⟨qd, qn, qf⟩ := q
        have hn' : (p.filterMap (·.1)).Nodup := by
          cases qd with
          | none => simpa using hn
          | some x => simp at hn; exact hn.2
        have notin : ∀ (k : Nat) (nk : List Nat) (fk : Bool), p[k]? = some (some d, nk, fk) → qd ≠ some d := by
          rintro k nk fk hk rfl
          simp only [List.filterMap_cons] at hn
          exact (List.nodup_cons.1 hn).1 (List.mem_filterMap.2 ⟨(some d, nk, fk), List.mem_of_getElem? hk, rfl⟩)
        cases i with
        | zero =>
          cases j with
          | zero => rfl
          | succ j =>
            simp at hi hj
            exact absurd hi.1 (notin j _ _ hj)
        | succ i =>
          cases j with
          | zero =>
            simp at hi hj
            exact absurd hj.1 (notin i _ _ hi)
          | succ j =>
            simp at hi hj
            rw [ih hn' i j d ni nj fi fj hi hj]
    exact key plan hnd
  let J : Array Bool → Act → World → Prop := fun listed a' W => ∃ σ : Nat → Value, a' = fill a (plan.filterMap (·.1)) σ ∧ Wd (listed.getD iA false) W ∧
    (∀ (i d : Nat) (needs : List Nat) (f : Bool), plan[i]? = some (some d, needs, f) → listed.getD i false = true → R d (σ d))
  have step : ∀ listed a' W i, HeadInv .any l.toArray plan.length listed → J listed a' W → i ∈ Region.ready .any l.toArray listed → i < plan.length → wpOp P l.toArray Q i (J (listed.setIfInBounds i true)) a' W := by
    rintro listed a' W i inv ⟨σ, rfl, hW, hR⟩ hi hin
    obtain ⟨d, needs, f, o, hp, ho, hd, hnone, hneeds, hfirst⟩ := plan_at i hin
    obtain ⟨hun, o', ho', hall⟩ := mem_ready.1 hi
    have hoa : l.toArray[i]? = some o := by simpa using ho
    have : o' = o := Option.some.inj (ho'.symm.trans hoa)
    subst this
    have hui : listed.getD i false = false := getD_both hun
    have hneed : ∀ k ∈ needs, R k (σ k) := by
      intro k hk
      obtain ⟨e, he, hb, hlt, hdst⟩ := hneeds k hk
      have hle := hall e he hb
      obtain ⟨d2, n2, f2, o2, hp2, ho2, hd2, _⟩ := plan_at e.on (by omega)
      have : d2 = some k := by
        have h3 : l.toArray[e.on]? = some o2 := by simpa using ho2
        rw [h3] at hdst
        simp only [Option.bind_some] at hdst
        exact hd2.symm.trans hdst
      subst this
      exact hR e.on k n2 f2 hp2 hle
    unfold wpOp
    simp only [hoa]
    -- what the frame holds behind it
    have after : ∀ v, (∀ k, d = some k → R k v) → ∃ τ, (fill a (plan.filterMap (·.1)) σ).put o'.dst v = fill a (plan.filterMap (·.1)) τ ∧ ∀ (j e : Nat) (nj : List Nat) (fj : Bool), plan[j]? = some (some e, nj, fj) → (listed.setIfInBounds i true).getD j false = true → R e (τ e) := by
      intro v hv
      cases d with
      | none =>
        refine ⟨σ, by rw [hd]; rfl, fun j e nj fj hj hl => ?_⟩
        have hji : j ≠ i := fun h => by subst h; rw [hp] at hj; simp at hj
        rw [getD_set_ne false (Ne.symm hji)] at hl
        exact hR j e nj fj hj hl
      | some d =>
        refine ⟨fun k => if k = d then v else σ k, by rw [hd, fill_put hnd (mem_ds i d needs f hp)], fun j e nj fj hj hl => ?_⟩
        dsimp only
        by_cases hji : j = i
        · subst hji
          have : (some e, nj, fj) = (some d, needs, f) := Option.some.inj (hj.symm.trans hp)
          cases this
          rw [if_pos rfl]; exact hv _ rfl
        · have hne : e ≠ d := fun h => hji (by subst h; exact plan_inj _ _ _ _ _ _ _ hj hp)
          rw [getD_set_ne false (Ne.symm hji)] at hl
          rw [if_neg hne]
          exact hR j e nj fj hj hl
    by_cases hiA' : i = iA
    · subst hiA'
      rw [hui] at hW
      have hop := hstore o' d needs f ho hp σ W (J (listed.setIfInBounds i true)) hW hneed ?_
      · split
        · rename_i hw; rw [if_pos hw] at hop; exact Or.inl hop
        · rename_i hw; rw [if_neg hw] at hop; exact hop
      · intro v W' hv hW'
        obtain ⟨τ, e1, e2⟩ := after v hv
        refine ⟨τ, e1, ?_, e2⟩
        have : (listed.setIfInBounds i true).getD i false = true := by
          have := inv.size
          simp; omega
        rw [this]; exact hW'
    · obtain ⟨d', rfl⟩ : ∃ d', d = some d' := by
        cases d with
        | none => exact absurd (hnone rfl) hiA'
        | some d' => exact ⟨d', rfl⟩
      have hop := hops i o' d' needs f hiA' ho hp σ (listed.getD iA false) W (J (listed.setIfInBounds i true)) ?_ hW hneed ?_
      · split
        · rename_i hw; rw [if_pos hw] at hop; exact Or.inl hop
        · rename_i hw; rw [if_neg hw] at hop; exact hop
      · intro hf
        obtain ⟨oA, hoA, e, he, hb, hon⟩ := hfirst hf
        cases hh : listed.getD iA false with
        | false => rfl
        | true =>
          have := inv.closed iA oA hoA hh e he hb
          rw [hon, hui] at this
          cases this
      · intro v W' hv hW'
        obtain ⟨τ, e1, e2⟩ := after v (fun k hk => by cases hk; exact hv)
        exact ⟨τ, e1, by rw [getD_set_ne false hiA']; exact hW', e2⟩
  have hdone : ∀ i, i < plan.length → (doneArr plan.length (l.toArray.size - plan.length)).getD i false = true := by
    intro i hi
    have h1 : i < (doneArr plan.length (l.toArray.size - plan.length)).size := by simp [doneArr]; omega
    simp only [Array.getD, h1, dite_true]
    simp only [doneArr]
    show (List.replicate plan.length true ++ List.replicate (l.toArray.size - plan.length) false)[i]'(by simp; omega) = true
    rw [List.getElem_append_left (by simpa using hi), List.getElem_replicate]
  have fin : ∀ a' W, J (doneArr plan.length (l.toArray.size - plan.length)) a' W → wpAny P .any l.toArray Q (l.toArray.size - plan.length) (doneArr plan.length (l.toArray.size - plan.length)) a' W := by
    rintro a' W ⟨σ, rfl, hW, hR⟩
    rw [hdone iA hiA] at hW
    have hl2 : (l.drop plan.length).length = l.toArray.size - plan.length := by simp
    have := wpAny_of_seq (md := .any) (Q' := Q) (P := P) (l.drop plan.length) plan.length (doneArr plan.length (l.toArray.size - plan.length)) (fill a (plan.filterMap (·.1)) σ) W (fun j => by simp [List.getElem?_drop]) (by rw [hl2]; exact hseq)
      (hend σ W hW (fun d hd => by
        obtain ⟨q, hq, hq2⟩ := List.mem_filterMap.1 hd
        obtain ⟨i, hi, hqi⟩ := List.getElem_of_mem hq
        obtain ⟨qd, qn, qf⟩ := q
        dsimp only at hq2
        subst hq2
        exact hR i d qn qf (by rw [List.getElem?_eq_getElem hi, hqi]) (hdone i hi)))
    rwa [hl2] at this
  refine wp_region_any hm ?_
  have inv0 : HeadInv .any l.toArray plan.length (Array.replicate l.toArray.size false) :=
    ⟨by simp, fun j oj _ hl => (by rw [getD_replicate_false] at hl; cases hl), fun t _ ht => getD_in (by simpa using ht) (getD_replicate_false _ _)⟩
  have hc0 : ∀ k, cnt (Array.replicate l.toArray.size false) k = k := by
    intro k
    induction k with
    | zero => rfl
    | succ k ih => rw [cnt, ih, getD_replicate_false]; simp
  have key := loose_go (P := P) (Q := Q) (md := .any) (J := J) hlen hT' hbk step fin plan.length (Array.replicate l.toArray.size false) a { w with drawn := w.drawn + 1 } (hc0 _) inv0
    ⟨fun d => a.tmps.getD d undef, fill_self.symm, by rw [getD_replicate_false]; exact hw0, fun i d needs f _ h => (by rw [getD_replicate_false] at h; cases h)⟩
  rw [show plan.length + (l.toArray.size - plan.length) = l.toArray.size by omega] at key
  exact key

/-- All operations of the plan, one by one, from the n-th on. -/
def OpsRun2 (P : Program) (ops : Array Oper) (Q : Exit → Act → World → Prop) (a : Act) (ds : List Nat) (Wd : Bool → World → Prop) (R : Nat → Value → Prop) : List Oper → Plan2 → Nat → Prop
  | _, [], _ => True
  | [], _ :: _, _ => True
  | o :: os, (d, needs, f) :: ps, 0 => StRuns P ops Q a ds Wd R o d needs ∧ OpsRun2 P ops Q a ds Wd R os ps os.length
  | o :: os, (some d, needs, f) :: ps, n + 1 => OpRuns1 P ops Q a ds Wd R o d needs f ∧ OpsRun2 P ops Q a ds Wd R os ps n
  | _ :: _, (none, _, _) :: _, _ + 1 => False
theorem OpsRun2.at {P : Program} {ops : Array Oper} {Q : Exit → Act → World → Prop} {a : Act} {ds : List Nat} {Wd : Bool → World → Prop} {R : Nat → Value → Prop} : ∀ {os : List Oper} {ps : Plan2} {n : Nat}, OpsRun2 P ops Q a ds Wd R os ps n →
    (∀ (i : Nat) (o : Oper) (d : Nat) (needs : List Nat) (f : Bool), i ≠ n → os[i]? = some o → ps[i]? = some (some d, needs, f) → OpRuns1 P ops Q a ds Wd R o d needs f) ∧
    (∀ (o : Oper) (d : Option Nat) (needs : List Nat) (f : Bool), os[n]? = some o → ps[n]? = some (d, needs, f) → StRuns P ops Q a ds Wd R o d needs)
  | os, [], _, _ => ⟨fun i o d needs f _ _ h => by simp at h, fun o d needs f _ h => by simp at h⟩
  | [], _ :: _, _, _ => ⟨fun i o d needs f _ h => by simp at h, fun o d needs f h => by simp at h⟩
  | o' :: os, (d', n', f') :: ps, 0, h => by
    obtain ⟨h1, _⟩ := OpsRun2.at h.2
    refine ⟨fun i o d needs f hi ho hp => ?_, fun o d needs f ho hp => ?_⟩
    · cases i with
      | zero => exact absurd rfl hi
      | succ i =>
        have ho' : os[i]? = some o := by simpa using ho
        have : i < os.length := (List.getElem?_eq_some_iff.1 ho').1
        exact h1 i o d needs f (by omega) ho' (by simpa using hp)
    · simp at ho hp; obtain ⟨rfl, rfl, rfl⟩ := hp; subst ho; exact h.1
  | o' :: os, (some d', n', f') :: ps, n + 1, h => by
    obtain ⟨h1, h2⟩ := OpsRun2.at h.2
    refine ⟨fun i o d needs f hi ho hp => ?_, fun o d needs f ho hp => ?_⟩
    · cases i with
      | zero => simp at ho hp; obtain ⟨rfl, rfl, rfl⟩ := hp; subst ho; exact h.1
      | succ i => exact h1 i o d needs f (by omega) (by simpa using ho) (by simpa using hp)
    · exact h2 o d needs f (by simpa using ho) (by simpa using hp)
  | _ :: _, (none, _, _) :: _, _ + 1, h => h.elim
theorem ops2_one {P : Program} {ops : Array Oper} {Q : Exit → Act → World → Prop} {a : Act} {ds : List Nat} {Wd : Bool → World → Prop} {R : Nat → Value → Prop} {o : Oper} {os : List Oper} {d : Nat} {needs : List Nat} {f : Bool} {ps : Plan2} {n : Nat}
    (h : OpRuns1 P ops Q a ds Wd R o d needs f) (hs : OpsRun2 P ops Q a ds Wd R os ps n) : OpsRun2 P ops Q a ds Wd R (o :: os) ((some d, needs, f) :: ps) (n + 1) := ⟨h, hs⟩
theorem ops2_st {P : Program} {ops : Array Oper} {Q : Exit → Act → World → Prop} {a : Act} {ds : List Nat} {Wd : Bool → World → Prop} {R : Nat → Value → Prop} {o : Oper} {os : List Oper} {d : Option Nat} {needs : List Nat} {f : Bool} {ps : Plan2}
    (h : StRuns P ops Q a ds Wd R o d needs) (hs : OpsRun2 P ops Q a ds Wd R os ps os.length) : OpsRun2 P ops Q a ds Wd R (o :: os) ((d, needs, f) :: ps) 0 := ⟨h, hs⟩
theorem ops2_nil {P : Program} {ops : Array Oper} {Q : Exit → Act → World → Prop} {a : Act} {ds : List Nat} {Wd : Bool → World → Prop} {R : Nat → Value → Prop} {os : List Oper} {n : Nat} : OpsRun2 P ops Q a ds Wd R os [] n := by
  cases os <;> cases n <;> exact trivial
theorem OpRuns1.any {P : Program} {ops : Array Oper} {Q : Exit → Act → World → Prop} {a : Act} {ds : List Nat} {Wd : Bool → World → Prop} {R : Nat → Value → Prop} {o : Oper} {d : Nat} {needs : List Nat} {f : Bool}
    (h : ∀ Q' : Exit → Act → World → Prop, OpRuns1 P ops Q' a ds Wd R o d needs f) : OpRuns1 P ops Q a ds Wd R o d needs f := h Q
theorem StRuns.any {P : Program} {ops : Array Oper} {Q : Exit → Act → World → Prop} {a : Act} {ds : List Nat} {Wd : Bool → World → Prop} {R : Nat → Value → Prop} {o : Oper} {d : Option Nat} {needs : List Nat}
    (h : ∀ Q' : Exit → Act → World → Prop, StRuns P ops Q' a ds Wd R o d needs) : StRuns P ops Q a ds Wd R o d needs := h Q

/-- The law, its operations handed over one by one. -/
theorem wp_two {P : Program} {id : Nat} {Q : Exit → Act → World → Prop} {a : Act} {w : World} {l : List Oper} (plan : Plan2) (iA : Nat) (R : Nat → Value → Prop) (Wd : Bool → World → Prop)
    (hm : P.follows .mixedOrders = true) (hB : planOk2 .any l.toArray plan iA = true) (hw0 : Wd false { w with drawn := w.drawn + 1 })
    (hops : OpsRun2 P l.toArray Q a (plan.filterMap (·.1)) Wd R l plan iA)
    (hend : ∀ (σ : Nat → Value) (W : World), Wd true W → (∀ d ∈ plan.filterMap (·.1), R d (σ d)) → wpList P l.toArray Q (l.drop plan.length) (fill a (plan.filterMap (·.1)) σ) W) :
    (Code.region id l.toArray true).wp P Q a w :=
  wp_region_two plan iA R Wd hm hB hw0 hops.at.1 hops.at.2 hend
end Go.Proofs.YthfkfgjhgicfeaaGreatDoor
namespace Go.Proofs.YthfkfgjhgicfeaaGreatDoor
open Go Go.RowKit
set_option linter.unusedVariables false

/-- What one operation is asked that yields a value: ahead of the store (s: false) or behind it. first: the store waits for it. -/
def OpRunsV (P : Program) (ops : Array Oper) (Q : Exit → Act → World → Prop) (a : Act) (ds : List Nat) (Wd : Bool → World → Prop) (R : Bool → Nat → Value → World → Prop) (o : Oper) (d : Nat) (needs : List Nat) (first : Bool) : Prop :=
  ∀ (σ : Nat → Value) (s : Bool) (W : World) (K : Act → World → Prop), (first = true → s = false) → Wd s W → (∀ k ∈ needs, R s k (σ k) W) →
    (∀ (v : Value) (W' : World), R s d v W' → Below W.heap.size W W' → Wd s W' → K ((fill a ds σ).put o.dst v) W') →
    if Region.wanted o (yielded ops (fill a ds σ).tmps) = true then Oper.wp P o (fill a ds σ) W K Q else K ((fill a ds σ).put o.dst undef) W
/-- What the store is asked. -/
def StRunsV (P : Program) (ops : Array Oper) (Q : Exit → Act → World → Prop) (a : Act) (ds : List Nat) (Wd : Bool → World → Prop) (R : Bool → Nat → Value → World → Prop) (o : Oper) (d : Option Nat) (needs : List Nat) : Prop :=
  ∀ (σ : Nat → Value) (W : World) (K : Act → World → Prop), Wd false W → (∀ k ∈ needs, R false k (σ k) W) →
    (∀ (v : Value) (W' : World), (∀ k, d = some k → R true k v W') → (∀ k, R false k (σ k) W → R true k (σ k) W') → Wd true W' → K ((fill a ds σ).put o.dst v) W') →
    if Region.wanted o (yielded ops (fill a ds σ).tmps) = true then Oper.wp P o (fill a ds σ) W K Q else K ((fill a ds σ).put o.dst undef) W

theorem wp_region_twow {P : Program} {id : Nat} {Q : Exit → Act → World → Prop} {a : Act} {w : World} {l : List Oper} (plan : Plan2) (iA : Nat) (R : Bool → Nat → Value → World → Prop) (Wd : Bool → World → Prop)
    (hm : P.follows .mixedOrders = true) (hB : planOk2 .any l.toArray plan iA = true) (hw0 : Wd false { w with drawn := w.drawn + 1 }) (hst : ∀ s d v W W', R s d v W → Below W.heap.size W W' → R s d v W')
    (hops : ∀ (i : Nat) (o : Oper) (d : Nat) (needs : List Nat) (f : Bool), i ≠ iA → l[i]? = some o → plan[i]? = some (some d, needs, f) → OpRunsV P l.toArray Q a (plan.filterMap (·.1)) Wd R o d needs f)
    (hstore : ∀ (o : Oper) (d : Option Nat) (needs : List Nat) (f : Bool), l[iA]? = some o → plan[iA]? = some (d, needs, f) → StRunsV P l.toArray Q a (plan.filterMap (·.1)) Wd R o d needs)
    (hend : ∀ (σ : Nat → Value) (W : World), Wd true W → (∀ d ∈ plan.filterMap (·.1), R true d (σ d) W) → wpList P l.toArray Q (l.drop plan.length) (fill a (plan.filterMap (·.1)) σ) W) :
    (Code.region id l.toArray true).wp P Q a w := by
  simp only [planOk2, Bool.and_eq_true, decide_eq_true_eq] at hB
  obtain ⟨⟨⟨⟨⟨⟨hlen, hnd⟩, hbk⟩, hT⟩, hseq⟩, hiA⟩, hpl⟩ := hB
  have hT' : plan.length = l.toArray.size ∨ (Region.sinkB .any l.toArray plan.length = true ∧ Region.chainB .any l.toArray plan.length = true) := by
    simpa only [Bool.or_eq_true, decide_eq_true_eq, Bool.and_eq_true] using hT
  have plan_at : ∀ i, i < plan.length → ∃ d needs f o, plan[i]? = some (d, needs, f) ∧ l[i]? = some o ∧ o.dst = d ∧ (d = none → i = iA) ∧
      (∀ k ∈ needs, ∃ e ∈ o.after, Region.binds .any e = true ∧ e.on < i ∧ ((l.toArray[e.on]?).bind (·.dst)) = some k) ∧
      (f = true → ∃ oA, l.toArray[iA]? = some oA ∧ ∃ e ∈ oA.after, Region.binds .any e = true ∧ e.on = i) := by
    intro i hi
    have h1 := List.all_eq_true.1 hpl i (List.mem_range.2 hi)
    cases hp : plan[i]? with
    | none => rw [hp] at h1; simp at h1
    | some q =>
      obtain ⟨d, needs, f⟩ := q
      cases ho : l.toArray[i]? with
      | none => rw [hp, ho] at h1; simp at h1
      | some o =>
        rw [hp, ho] at h1
        simp only [Bool.and_eq_true, decide_eq_true_eq, List.all_eq_true] at h1
        obtain ⟨⟨⟨h1, h2⟩, h3⟩, h4⟩ := h1
        refine ⟨d, needs, f, o, rfl, by simpa using ho, h1, ?_, fun k hk => ?_, fun hf => ?_⟩
        · intro hd
          subst hd
          simpa using h2
        · obtain ⟨e, he, hb⟩ := Array.any_eq_true'.1 (h3 k hk)
          simp only [Bool.and_eq_true, decide_eq_true_eq, beq_iff_eq] at hb
          exact ⟨e, he, hb.1.1, hb.1.2, hb.2⟩
        · subst hf
          simp only [Bool.not_true, Bool.false_or] at h4
          cases hA : l.toArray[iA]? with
          | none => rw [hA] at h4; simp at h4
          | some oA =>
            rw [hA] at h4
            obtain ⟨e, he, hb⟩ := Array.any_eq_true'.1 h4
            simp only [Bool.and_eq_true, decide_eq_true_eq] at hb
            exact ⟨oA, rfl, e, he, hb.1, hb.2⟩
  have mem_ds : ∀ i d needs f, plan[i]? = some (some d, needs, f) → d ∈ plan.filterMap (·.1) := fun i d needs f h =>
    List.mem_filterMap.2 ⟨(some d, needs, f), List.mem_of_getElem? h, rfl⟩
  have plan_inj : ∀ (i j d : Nat) (ni nj : List Nat) (fi fj : Bool), plan[i]? = some (some d, ni, fi) → plan[j]? = some (some d, nj, fj) → i = j := by
    have key : ∀ (p : Plan2), (p.filterMap (·.1)).Nodup → ∀ (i j d : Nat) (ni nj : List Nat) (fi fj : Bool), p[i]? = some (some d, ni, fi) → p[j]? = some (some d, nj, fj) → i = j := by
      intro p
      induction p with
      | nil => intro _ i j d ni nj fi fj h; simp at h
      | cons q p ih =>
        intro hn i j d ni nj fi fj hi hj
        obtain ⟨qd, qn, qf⟩ := q
        have hn' : (p.filterMap (·.1)).Nodup := by
          cases qd with
          | none => simpa using hn
          | some x => simp at hn; exact hn.2
        have notin : ∀ (k : Nat) (nk : List Nat) (fk : Bool), p[k]? = some (some d, nk, fk) → qd ≠ some d := by
          rintro k nk fk hk rfl
          simp only [List.filterMap_cons] at hn
          exact (List.nodup_cons.1 hn).1 (List.mem_filterMap.2 ⟨(some d, nk, fk), List.mem_of_getElem? hk, rfl⟩)
        cases i with
        | zero =>
          cases j with
          | zero => rfl
          | succ j =>
            simp at hi hj
            exact absurd hi.1 (notin j _ _ hj)
        | succ i =>
          cases j with
          | zero =>
            simp at hi hj
            exact absurd hj.1 (notin i _ _ hi)
          | succ j =>
            simp at hi hj
            rw [ih hn' i j d ni nj fi fj hi hj]
    exact key plan hnd
  let J : Array Bool → Act → World → Prop := fun listed a' W => ∃ σ : Nat → Value, a' = fill a (plan.filterMap (·.1)) σ ∧ Wd (listed.getD iA false) W ∧
    (∀ (i d : Nat) (needs : List Nat) (f : Bool), plan[i]? = some (some d, needs, f) → listed.getD i false = true → R (listed.getD iA false) d (σ d) W)
  have step : ∀ listed a' W i, HeadInv .any l.toArray plan.length listed → J listed a' W → i ∈ Region.ready .any l.toArray listed → i < plan.length → wpOp P l.toArray Q i (J (listed.setIfInBounds i true)) a' W := by
    rintro listed a' W i inv ⟨σ, rfl, hW, hR⟩ hi hin
    obtain ⟨d, needs, f, o, hp, ho, hd, hnone, hneeds, hfirst⟩ := plan_at i hin
    obtain ⟨hun, o', ho', hall⟩ := mem_ready.1 hi
    have hoa : l.toArray[i]? = some o := by simpa using ho
    have : o' = o := Option.some.inj (ho'.symm.trans hoa)
    subst this
    have hui : listed.getD i false = false := getD_both hun
    have hneed : ∀ k ∈ needs, R (listed.getD iA false) k (σ k) W := by
      intro k hk
      obtain ⟨e, he, hb, hlt, hdst⟩ := hneeds k hk
      have hle := hall e he hb
      obtain ⟨d2, n2, f2, o2, hp2, ho2, hd2, _⟩ := plan_at e.on (by omega)
      have : d2 = some k := by
        have h3 : l.toArray[e.on]? = some o2 := by simpa using ho2
        rw [h3] at hdst
        simp only [Option.bind_some] at hdst
        exact hd2.symm.trans hdst
      subst this
      exact hR e.on k n2 f2 hp2 hle
    unfold wpOp
    simp only [hoa]
    -- what the frame holds behind it
    have after : ∀ v s' W', (∀ k, d = some k → R s' k v W') → (∀ e, R (listed.getD iA false) e (σ e) W → R s' e (σ e) W') → ∃ τ, (fill a (plan.filterMap (·.1)) σ).put o'.dst v = fill a (plan.filterMap (·.1)) τ ∧ ∀ (j e : Nat) (nj : List Nat) (fj : Bool), plan[j]? = some (some e, nj, fj) → (listed.setIfInBounds i true).getD j false = true → R s' e (τ e) W' := by
      intro v s' W' hv hkp
      cases d with
      | none =>
        refine ⟨σ, by rw [hd]; rfl, fun j e nj fj hj hl => ?_⟩
        have hji : j ≠ i := fun h => by subst h; rw [hp] at hj; simp at hj
        rw [getD_set_ne false (Ne.symm hji)] at hl
        exact hkp e (hR j e nj fj hj hl)
      | some d =>
        refine ⟨fun k => if k = d then v else σ k, by rw [hd, fill_put hnd (mem_ds i d needs f hp)], fun j e nj fj hj hl => ?_⟩
        dsimp only
        by_cases hji : j = i
        · subst hji
          have : (some e, nj, fj) = (some d, needs, f) := Option.some.inj (hj.symm.trans hp)
          cases this
          rw [if_pos rfl]; exact hv _ rfl
        · have hne : e ≠ d := fun h => hji (by subst h; exact plan_inj _ _ _ _ _ _ _ hj hp)
          rw [getD_set_ne false (Ne.symm hji)] at hl
          rw [if_neg hne]
          exact hkp e (hR j e nj fj hj hl)
    by_cases hiA' : i = iA
    · subst hiA'
      rw [hui] at hW hneed after
      have hop := hstore o' d needs f ho hp σ W (J (listed.setIfInBounds i true)) hW hneed ?_
      · split
        · rename_i hw; rw [if_pos hw] at hop; exact Or.inl hop
        · rename_i hw; rw [if_neg hw] at hop; exact hop
      · intro v W' hv hkp hW'
        obtain ⟨τ, e1, e2⟩ := after v true W' hv hkp
        have : (listed.setIfInBounds i true).getD i false = true := by
          have := inv.size
          simp; omega
        exact ⟨τ, e1, by rw [this]; exact hW', by rw [this]; exact e2⟩
    · obtain ⟨d', rfl⟩ : ∃ d', d = some d' := by
        cases d with
        | none => exact absurd (hnone rfl) hiA'
        | some d' => exact ⟨d', rfl⟩
      have hop := hops i o' d' needs f hiA' ho hp σ (listed.getD iA false) W (J (listed.setIfInBounds i true)) ?_ hW hneed ?_
      · split
        · rename_i hw; rw [if_pos hw] at hop; exact Or.inl hop
        · rename_i hw; rw [if_neg hw] at hop; exact hop
      · intro hf
        obtain ⟨oA, hoA, e, he, hb, hon⟩ := hfirst hf
        cases hh : listed.getD iA false with
        | false => rfl
        | true =>
          have := inv.closed iA oA hoA hh e he hb
          rw [hon, hui] at this
          cases this
      · intro v W' hv hbb hW'
        obtain ⟨τ, e1, e2⟩ := after v (listed.getD iA false) W' (fun k hk => by cases hk; exact hv) (fun e he => hst _ _ _ _ _ he hbb)
        exact ⟨τ, e1, by rw [getD_set_ne false hiA']; exact hW', by rw [getD_set_ne false hiA']; exact e2⟩
  have hdone : ∀ i, i < plan.length → (doneArr plan.length (l.toArray.size - plan.length)).getD i false = true := by
    intro i hi
    have h1 : i < (doneArr plan.length (l.toArray.size - plan.length)).size := by simp [doneArr]; omega
    simp only [Array.getD, h1, dite_true]
    simp only [doneArr]
    show (List.replicate plan.length true ++ List.replicate (l.toArray.size - plan.length) false)[i]'(by simp; omega) = true
    rw [List.getElem_append_left (by simpa using hi), List.getElem_replicate]
  have fin : ∀ a' W, J (doneArr plan.length (l.toArray.size - plan.length)) a' W → wpAny P .any l.toArray Q (l.toArray.size - plan.length) (doneArr plan.length (l.toArray.size - plan.length)) a' W := by
    rintro a' W ⟨σ, rfl, hW, hR⟩
    rw [hdone iA hiA] at hW hR
    have hl2 : (l.drop plan.length).length = l.toArray.size - plan.length := by simp
    have := wpAny_of_seq (md := .any) (Q' := Q) (P := P) (l.drop plan.length) plan.length (doneArr plan.length (l.toArray.size - plan.length)) (fill a (plan.filterMap (·.1)) σ) W (fun j => by simp [List.getElem?_drop]) (by rw [hl2]; exact hseq)
      (hend σ W hW (fun d hd => by
        obtain ⟨q, hq, hq2⟩ := List.mem_filterMap.1 hd
        obtain ⟨i, hi, hqi⟩ := List.getElem_of_mem hq
        obtain ⟨qd, qn, qf⟩ := q
        dsimp only at hq2
        subst hq2
        exact hR i d qn qf (by rw [List.getElem?_eq_getElem hi, hqi]) (hdone i hi)))
    rwa [hl2] at this
  refine wp_region_any hm ?_
  have inv0 : HeadInv .any l.toArray plan.length (Array.replicate l.toArray.size false) :=
    ⟨by simp, fun j oj _ hl => (by rw [getD_replicate_false] at hl; cases hl), fun t _ ht => getD_in (by simpa using ht) (getD_replicate_false _ _)⟩
  have hc0 : ∀ k, cnt (Array.replicate l.toArray.size false) k = k := by
    intro k
    induction k with
    | zero => rfl
    | succ k ih => rw [cnt, ih, getD_replicate_false]; simp
  have key := loose_go (P := P) (Q := Q) (md := .any) (J := J) hlen hT' hbk step fin plan.length (Array.replicate l.toArray.size false) a { w with drawn := w.drawn + 1 } (hc0 _) inv0
    ⟨fun d => a.tmps.getD d undef, fill_self.symm, by rw [getD_replicate_false]; exact hw0, fun i d needs f _ h => (by rw [getD_replicate_false] at h; cases h)⟩
  rw [show plan.length + (l.toArray.size - plan.length) = l.toArray.size by omega] at key
  exact key

/-- All operations of the plan, one by one, from the n-th on. -/
def OpsRunV (P : Program) (ops : Array Oper) (Q : Exit → Act → World → Prop) (a : Act) (ds : List Nat) (Wd : Bool → World → Prop) (R : Bool → Nat → Value → World → Prop) : List Oper → Plan2 → Nat → Prop
  | _, [], _ => True
  | [], _ :: _, _ => True
  | o :: os, (d, needs, f) :: ps, 0 => StRunsV P ops Q a ds Wd R o d needs ∧ OpsRunV P ops Q a ds Wd R os ps os.length
  | o :: os, (some d, needs, f) :: ps, n + 1 => OpRunsV P ops Q a ds Wd R o d needs f ∧ OpsRunV P ops Q a ds Wd R os ps n
  | _ :: _, (none, _, _) :: _, _ + 1 => False
theorem OpsRunV.at {P : Program} {ops : Array Oper} {Q : Exit → Act → World → Prop} {a : Act} {ds : List Nat} {Wd : Bool → World → Prop} {R : Bool → Nat → Value → World → Prop} : ∀ {os : List Oper} {ps : Plan2} {n : Nat}, OpsRunV P ops Q a ds Wd R os ps n →
    (∀ (i : Nat) (o : Oper) (d : Nat) (needs : List Nat) (f : Bool), i ≠ n → os[i]? = some o → ps[i]? = some (some d, needs, f) → OpRunsV P ops Q a ds Wd R o d needs f) ∧
    (∀ (o : Oper) (d : Option Nat) (needs : List Nat) (f : Bool), os[n]? = some o → ps[n]? = some (d, needs, f) → StRunsV P ops Q a ds Wd R o d needs)
  | os, [], _, _ => ⟨fun i o d needs f _ _ h => by simp at h, fun o d needs f _ h => by simp at h⟩
  | [], _ :: _, _, _ => ⟨fun i o d needs f _ h => by simp at h, fun o d needs f h => by simp at h⟩
  | o' :: os, (d', n', f') :: ps, 0, h => by
    obtain ⟨h1, _⟩ := OpsRunV.at h.2
    refine ⟨fun i o d needs f hi ho hp => ?_, fun o d needs f ho hp => ?_⟩
    · cases i with
      | zero => exact absurd rfl hi
      | succ i =>
        have ho' : os[i]? = some o := by simpa using ho
        have : i < os.length := (List.getElem?_eq_some_iff.1 ho').1
        exact h1 i o d needs f (by omega) ho' (by simpa using hp)
    · simp at ho hp; obtain ⟨rfl, rfl, rfl⟩ := hp; subst ho; exact h.1
  | o' :: os, (some d', n', f') :: ps, n + 1, h => by
    obtain ⟨h1, h2⟩ := OpsRunV.at h.2
    refine ⟨fun i o d needs f hi ho hp => ?_, fun o d needs f ho hp => ?_⟩
    · cases i with
      | zero => simp at ho hp; obtain ⟨rfl, rfl, rfl⟩ := hp; subst ho; exact h.1
      | succ i => exact h1 i o d needs f (by omega) (by simpa using ho) (by simpa using hp)
    · exact h2 o d needs f (by simpa using ho) (by simpa using hp)
  | _ :: _, (none, _, _) :: _, _ + 1, h => h.elim
theorem opsv_one {P : Program} {ops : Array Oper} {Q : Exit → Act → World → Prop} {a : Act} {ds : List Nat} {Wd : Bool → World → Prop} {R : Bool → Nat → Value → World → Prop} {o : Oper} {os : List Oper} {d : Nat} {needs : List Nat} {f : Bool} {ps : Plan2} {n : Nat}
    (h : OpRunsV P ops Q a ds Wd R o d needs f) (hs : OpsRunV P ops Q a ds Wd R os ps n) : OpsRunV P ops Q a ds Wd R (o :: os) ((some d, needs, f) :: ps) (n + 1) := ⟨h, hs⟩
theorem opsv_st {P : Program} {ops : Array Oper} {Q : Exit → Act → World → Prop} {a : Act} {ds : List Nat} {Wd : Bool → World → Prop} {R : Bool → Nat → Value → World → Prop} {o : Oper} {os : List Oper} {d : Option Nat} {needs : List Nat} {f : Bool} {ps : Plan2}
    (h : StRunsV P ops Q a ds Wd R o d needs) (hs : OpsRunV P ops Q a ds Wd R os ps os.length) : OpsRunV P ops Q a ds Wd R (o :: os) ((d, needs, f) :: ps) 0 := ⟨h, hs⟩
theorem opsv_nil {P : Program} {ops : Array Oper} {Q : Exit → Act → World → Prop} {a : Act} {ds : List Nat} {Wd : Bool → World → Prop} {R : Bool → Nat → Value → World → Prop} {os : List Oper} {n : Nat} : OpsRunV P ops Q a ds Wd R os [] n := by
  cases os <;> cases n <;> exact trivial
theorem OpRunsV.any {P : Program} {ops : Array Oper} {Q : Exit → Act → World → Prop} {a : Act} {ds : List Nat} {Wd : Bool → World → Prop} {R : Bool → Nat → Value → World → Prop} {o : Oper} {d : Nat} {needs : List Nat} {f : Bool}
    (h : ∀ Q' : Exit → Act → World → Prop, OpRunsV P ops Q' a ds Wd R o d needs f) : OpRunsV P ops Q a ds Wd R o d needs f := h Q
theorem StRunsV.any {P : Program} {ops : Array Oper} {Q : Exit → Act → World → Prop} {a : Act} {ds : List Nat} {Wd : Bool → World → Prop} {R : Bool → Nat → Value → World → Prop} {o : Oper} {d : Option Nat} {needs : List Nat}
    (h : ∀ Q' : Exit → Act → World → Prop, StRunsV P ops Q' a ds Wd R o d needs) : StRunsV P ops Q a ds Wd R o d needs := h Q

/-- The law, its operations handed over one by one. -/
theorem wp_twow {P : Program} {id : Nat} {Q : Exit → Act → World → Prop} {a : Act} {w : World} {l : List Oper} (plan : Plan2) (iA : Nat) (R : Bool → Nat → Value → World → Prop) (Wd : Bool → World → Prop)
    (hm : P.follows .mixedOrders = true) (hB : planOk2 .any l.toArray plan iA = true) (hw0 : Wd false { w with drawn := w.drawn + 1 }) (hst : ∀ s d v W W', R s d v W → Below W.heap.size W W' → R s d v W')
    (hops : OpsRunV P l.toArray Q a (plan.filterMap (·.1)) Wd R l plan iA)
    (hend : ∀ (σ : Nat → Value) (W : World), Wd true W → (∀ d ∈ plan.filterMap (·.1), R true d (σ d) W) → wpList P l.toArray Q (l.drop plan.length) (fill a (plan.filterMap (·.1)) σ) W) :
    (Code.region id l.toArray true).wp P Q a w :=
  wp_region_twow plan iA R Wd hm hB hw0 hst hops.at.1 hops.at.2 hend
end Go.Proofs.YthfkfgjhgicfeaaGreatDoor
namespace Go.Proofs.YthfkfgjhgicfeaaGreatDoor
open Go Go.RowKit Go.Sort Go.BigFrame
set_option linter.unusedVariables false

def WordPost (W : World) (r : List (Int × Int)) (ok : Bool) (e : Ending) (w' : World) : Prop :=
  Below W.heap.size W w' ∧ ∃ (a : Option Addr) (cap : Nat), e = .returned (.tuple #[.slice a r.length cap, .bool ok]) ∧ QRowA w' a r.length r
/-- In new memory. -/
def WordNew (W : World) (r : List (Int × Int)) (ok : Bool) (e : Ending) (w' : World) : Prop :=
  Below W.heap.size W w' ∧ ∃ (a : Option Addr) (cap : Nat), e = .returned (.tuple #[.slice a r.length cap, .bool ok]) ∧ QRowA w' a r.length r ∧ ∀ x, a = some x → W.heap.size ≤ x.block
theorem WordNew.post {W w' : World} {r : List (Int × Int)} {ok : Bool} {e : Ending} (h : WordNew W r ok e w') : WordPost W r ok e w' := by
  obtain ⟨h1, a, c, h2, h3, _⟩ := h
  exact ⟨h1, a, c, h2, h3⟩
theorem qrowA_nil (W : World) : QRowA W none 0 [] := ⟨rfl, by unfold maxLen; omega, fun k hk => absurd hk (Nat.not_lt_zero k)⟩
theorem infoQf : (Tryz.prog.info? 31).map (fun i => (i.zero, i.size, i.bytes)) = some (some (.agg #[.int .u64 0, .int .u64 0]), 2, 16) := by kernel_rfl
theorem lg_even {n : Nat} (hn : n ≤ 9223372036854775807) (h1 : 1 ≤ lg n) (h2 : lg n ≤ 20) : ∃ m : Nat, 1 ≤ m ∧ m ≤ 20 ∧ lg n = (m : Int) ∧ n = 2 * (n / 2) ∧ n / 2 = 2 ^ (m - 1) ∧ n ≤ 1048576 := by
  obtain ⟨k, hk, hk2, hk3⟩ := lg_cases n hn (by omega) h2
  have hp : 2 ^ k ≤ 2 ^ 20 := Nat.pow_le_pow_right (by decide) hk
  obtain ⟨j, rfl⟩ : ∃ j, k = j + 1 := ⟨k - 1, by omega⟩
  have e : n = 2 * 2 ^ j := by rw [hk2, Nat.pow_succ, Nat.mul_comm]
  exact ⟨j + 1, by omega, hk, hk3, by omega, by rw [Nat.add_sub_cancel]; omega, by rw [hk2]; exact hp⟩
theorem qAt_rep {l : List (Int × Int)} (hu : ∀ n ∈ l, U n.1 ∧ U n.2) {i : Nat} (hi : i < l.length) : Rep (l.getD i (0, 0)).1 (l.getD i (0, 0)).2 (qAt l i) := by
  have h := hu (l.getD i (0, 0)) (by simp [List.getD, hi])
  exact rep_raw h.1 h.2
def WrdB (b off N cap g M k H K : Nat) (f a0 a1 b0 b1 y0 y1 pz : Int) (z : F2) (sl : Nat) (v : Value) : Prop :=
  match sl with
  | 30 => v = .slice (some ⟨b, off, none⟩) N cap
  | 31 => v = .int .i64 (k : Int)
  | 32 => v = .pointer (some ⟨b, off + k * 2, none⟩)
  | 33 => v = .agg #[.int .u64 a0, .int .u64 a1]
  | 34 => v = .slice (some ⟨b, off, none⟩) N cap
  | 35 => v = .int .i64 (k : Int)
  | 36 => v = .slice (some ⟨b, off, none⟩) N cap
  | 37 => v = .int .i64 N
  | 38 => v = .int .i64 (H : Int)
  | 39 => v = .int .i64 (K : Int)
  | 40 => v = .pointer (some ⟨b, off + K * 2, none⟩)
  | 41 => v = .agg #[.int .u64 b0, .int .u64 b1]
  | 42 => v = .agg #[.int .u64 y0, .int .u64 y1]
  | 43 => v = .int .i64 (M : Int)
  | 44 => v = .int .i64 f
  | 45 => v = .int .i64 (k : Int)
  | 46 => v = .int .u64 pz
  | 47 => v = .tuple #[.agg #[.int .u64 (enc z.a), .int .u64 (enc z.b)], .bool true]
  | 29 => v = .tuple #[.agg #[.int .u64 (enc z.a), .int .u64 (enc z.b)], .bool true]
  | 48 => v = .agg #[.int .u64 (enc z.a), .int .u64 (enc z.b)]
  | _ => v = .bool true
def WrdA (B : Nat) (z : F2) (s : Bool) (v : Value) (W : World) : Prop := ∃ q : Nat, B ≤ q ∧ v = .pointer (some ⟨q, 0, none⟩) ∧ Duo W q (.int .u64 (if s then enc z.a else 0)) (.int .u64 (if s then enc z.b else 0))
def WrdG (B : Nat) (b off N cap g M k H K : Nat) (f a0 a1 b0 b1 y0 y1 pz : Int) (z : F2) (s : Bool) (sl : Nat) (v : Value) (W : World) : Prop := if sl = 11 then WrdA B z s v W else WrdB b off N cap g M k H K f a0 a1 b0 b1 y0 y1 pz z sl v
theorem WrdG.keep {B : Nat} {b off N cap g M k H K : Nat} {f a0 a1 b0 b1 y0 y1 pz : Int} {z : F2} (s : Bool) (sl : Nat) (v : Value) (W W' : World) (h : WrdG B b off N cap g M k H K f a0 a1 b0 b1 y0 y1 pz z s sl v W) (hb : Below W.heap.size W W') : WrdG B b off N cap g M k H K f a0 a1 b0 b1 y0 y1 pz z s sl v W' := by
  unfold WrdG at *
  split
  · next c => rw [if_pos c] at h; obtain ⟨q, h0, h1, h2⟩ := h; exact ⟨q, h0, h1, h2.keep hb⟩
  · next c => rw [if_neg c] at h; exact h
def WordRel (w : World) (l : List (Int × Int)) (y : F2) (m f : Int) (h : Nat) (o i : Value) (W : World) : Prop := ∃ k : Nat, k ≤ h ∧ i = .int .i64 k ∧ MadeQ w W o ((List.range k).map fun i => encP (foldV (qAt l i) (qAt l (i + h)) y (pointF m f i)))
theorem wordR_len (l : List (Int × Int)) (y : F2) (m f : Int) (h k : Nat) : ((List.range k).map fun i => encP (foldV (qAt l i) (qAt l (i + h)) y (pointF m f i))).length = k := by simp
theorem MadeQ.fresh {W w : World} {v : Value} {xs : List (Int × Int)} (h : MadeQ W w v xs) : ∃ a c, v = .slice a xs.length c ∧ QRowA w a xs.length xs ∧ ∀ x, a = some x → W.heap.size ≤ x.block := by
  obtain ⟨a, c, e, hr⟩ := h.row
  refine ⟨a, c, e, QRow.at hr, fun x hx => ?_⟩
  subst hx
  exact own_ge h.1 x.block (by rw [e]; rfl)
theorem MadeQ.told {W w : World} {v : Value} {xs : List (Int × Int)} (h : MadeQ W w v xs) : ∃ a c, v = .slice a xs.length c ∧ QRowA w a xs.length xs := by
  obtain ⟨a, c, e, hr⟩ := h.row
  exact ⟨a, c, e, QRow.at hr⟩
set_option maxRecDepth 100000 in
set_option maxHeartbeats 8000000 in
theorem rfword_new (a : Option Addr) (n cap : Nat) (l : List (Int × Int)) (y0 y1 f : Int) (y : F2) (r : List (Int × Int)) (ok : Bool) (w : World) (ha : QRowA w a n l) (hu : ∀ n ∈ l, U n.1 ∧ U n.2) (hy : Rep y0 y1 y) (hz : wordV l y f = (r, ok)) :
    Calls Tryz.prog 53 #[.slice a n cap, .agg #[.int .u64 y0, .int .u64 y1], .int .i64 f] w (WordNew w r ok) := by
  obtain rfl := ha.1
  have hm := ha.2.1
  unfold maxLen at hm
  have hm' : l.length ≤ 9223372036854775807 := hm
  clear hm
  have l1 := fun W => reflog_is (l.length : Int) (lg l.length) (by unfold I64; omega) rfl W
  by_cases hl : 1 ≤ lg l.length ∧ lg l.length ≤ 20
  case neg =>
    rw [wordV_no hl] at hz
    obtain ⟨rfl, rfl⟩ := Prod.mk.inj hz
    generalize lg l.length = M at *
    by_cases h1 : M < 1
    · clear hl hz ha hu
      go_enter Tryz.func53, Tryz.ntmps53
      go_wp2_with (go_at_call 30; (with_reducible refine (l1 _).mono ?_); rintro E w1 ⟨rfl, rfl⟩)
      exact bodyPost_ret (v := .tuple #[.slice none 0 0, .bool false]) (by simp [results, Tryz.results53, go_sem]) rfl ⟨(Below.refl _ _).alloc (Nat.le_refl _) _, none, 0, rfl, qrowA_nil _, fun x h => by cases h⟩
    · have h2 : 20 < M := by omega
      clear hl hz ha hu
      go_enter Tryz.func53, Tryz.ntmps53
      go_wp2_with (go_at_call 30; (with_reducible refine (l1 _).mono ?_); rintro E w1 ⟨rfl, rfl⟩)
      exact bodyPost_ret (v := .tuple #[.slice none 0 0, .bool false]) (by simp [results, Tryz.results53, go_sem]) rfl ⟨(Below.refl _ _).alloc (Nat.le_refl _) _, none, 0, rfl, qrowA_nil _, fun x h => by cases h⟩
  obtain ⟨M, hM1, hM20, hM, hev, hhp, hN20⟩ := lg_even hm' hl.1 hl.2
  rw [wordV_yes hl, hM] at hz
  obtain ⟨hr, rfl⟩ := Prod.mk.inj hz
  obtain ⟨i0, hi, hz0, hz1, hz2⟩ := info_parts infoQf
  rw [hM] at l1
  obtain ⟨H, hH⟩ : ∃ H, l.length / 2 = H := ⟨_, rfl⟩
  rw [hH] at hev hhp hr
  have HR := Lib.hid hr; have HA := Lib.hid ha; have HU := Lib.hid hu
  have HQ : Hid ((l.length : Int).tdiv 2 = (H : Int)) := Lib.hid (by rw [Int.tdiv_eq_ediv_of_nonneg (by omega)]; omega)
  have HEV := Lib.hid hev
  have HWH : Hid (IntKind.i64.wrap (H : Int) = (H : Int) ∧ wrap64 (H : Int) = (H : Int)) := Lib.hid ⟨IntWalk.i64_in _ (by omega), IntWalk.wrap64_in _ (by omega)⟩
  clear hz hr ha hu hl hM hhp hH hev
  go_enter Tryz.func53, Tryz.ntmps53
  go_upto_region 1 with fail
  refine wp_gen (fun W => Below w.heap.size w W ∧ Duo W w.heap.size (.int .u64 y0) (.int .u64 y1)) ⟨(Below.refl _ _).alloc (Nat.le_refl _) _, by simp [Duo, go_sem]⟩ ?_
  obtain ⟨g, hg⟩ : ∃ g, w.heap.size = g := ⟨_, rfl⟩
  rintro w0 ⟨hB0, hY⟩
  rw [hg] at hY
  simp only [hg]
  have HB0 := Lib.hid hB0; have HY := Lib.hid hY
  have HA0 := Lib.hid (HA.out.keep hB0)
  clear hB0 hY hg HA
  have hM1I : ¬ (M : Int) < 1 := by omega
  have hM20I : ¬ (20 : Int) < (M : Int) := by omega
  go_upto_region 6 with (go_at_call 30; (with_reducible refine (l1 _).mono ?_); rintro E w1 ⟨rfl, rfl⟩)
  clear l1
  go_loopw [9, 10] (WordRel w0 l y M f H) (fun _ i _ => H - (intOf i).toNat)
  case atStart => exact ⟨0, Nat.zero_le _, rfl, MadeQ.start _⟩
  case round =>
    obtain ⟨k, hk, rfl, hM⟩ := hrel
    rename_i u9 _
    obtain ⟨N, hN⟩ : ∃ N, l.length = N := ⟨_, rfl⟩
    have HNN := Lib.hid hN
    have HQ2 := HQ
    have hev := HEV.out
    rw [hN] at hev hm' hN20 HQ2
    by_cases hlt : k < H
    · have hltI : (k : Int) < (H : Int) := by omega
      have hk0 : (0 : Int) ≤ (k : Int) := by omega
      obtain ⟨K, hK⟩ : ∃ K, k + H = K := ⟨_, rfl⟩
      have hKl : K < N := by omega
      have hkl : k < N := by omega
      have hkI : (k : Int) < (N : Int) := by omega
      have hKI : (K : Int) < (N : Int) := by omega
      have hK0 : (0 : Int) ≤ (K : Int) := by omega
      have hw1 : IntKind.i64.wrap ((k : Int) + (H : Int)) = (K : Int) := by rw [IntWalk.i64_in _ (by omega)]; omega
      have hw2 : wrap64 ((k : Int) + (H : Int)) = (K : Int) := by rw [IntWalk.wrap64_in _ (by omega)]; omega
      have HW := Lib.hid (And.intro hw1 hw2)
      obtain ⟨b, off, hpa, a0c, a1c⟩ := (HA0.out.keep hM.2).2.2 k (by rw [HNN.out]; exact hkl)
      obtain ⟨b', off', hpe, b0c, b1c⟩ := (HA0.out.keep hM.2).2.2 K (by rw [HNN.out]; exact hKl)
      rw [hpa] at hpe
      cases hpe
      have rk := qAt_rep HU.out (i := k) (by rw [HNN.out]; exact hkl)
      have rK := qAt_rep HU.out (i := K) (by rw [HNN.out]; exact hKl)
      have p1 := fun W => rfpoint_is M f k _ (by omega) rfl W
      have hne : pointF M f k ≠ 0 := by rw [pointF_pt M (by omega)]; exact pt_ne (shiftF_ne f) M (by omega) k
      have o1 := fun W => rfone_is (l.getD k (0, 0)).1 (l.getD k (0, 0)).2 (l.getD K (0, 0)).1 (l.getD K (0, 0)).2 y0 y1 (enc (pointF M f k)) (qAt l k) (qAt l K) y (foldV (qAt l k) (qAt l K) y (pointF M f k)) (pointF M f k) true W rk rK hy (enc_U _) (toF_enc _) (if_neg hne)
      have hsn := wordN_snoc l y M f H k
      rw [hK] at hsn
      have hln := wordR_len l y M f H k
      have HSN := Lib.hid hsn; have HLN := Lib.hid hln
      obtain ⟨y0c, y1c, _, _⟩ := HY.out.keep hM.2
      have HM := Lib.hid hM
      have hown := hM.1
      rw [hln] at hown
      have hbase := hM.2.size
      have HOWN := Lib.hid hown
      generalize enc (pointF M f k) = pz at *
      generalize foldV (qAt l k) (qAt l K) y (pointF M f k) = z at *
      generalize (l.getD k (0, 0)).1 = a0 at *
      generalize (l.getD k (0, 0)).2 = a1 at *
      generalize (l.getD K (0, 0)).1 = b0 at *
      generalize (l.getD K (0, 0)).2 = b1 at *
      simp only [hpa, hN]
      clear hsn hln hM hne rk rK hpa hw1 hw2 hown hev hm' hN hK hKl hkl
      have hq := HQ2.out
      obtain ⟨hw1, hw2⟩ := HW.out
      obtain ⟨hh1, hh2⟩ := HWH.out
      go_upto_region 8 with fail
      refine wp_twow [(some 30, [], true), (some 31, [], true), (some 32, [30, 31], true), (some 33, [32], true), (some 34, [], true), (some 35, [], true), (some 36, [], true), (some 37, [36], true), (some 38, [37], true), (some 39, [35, 38], true), (some 40, [34, 39], true), (some 41, [40], true), (some 42, [], true), (some 43, [], true), (some 44, [], true), (some 45, [], true), (some 46, [43, 44, 45], true), (some 47, [33, 41, 42, 46], true), (some 29, [47], true), (some 48, [29], true), (some 49, [29], false), (some 11, [], true), (none, [11, 48], false)]
        22 (WrdG wr.heap.size b off N cap g M k H K f a0 a1 b0 b1 y0 y1 pz z) (fun _ W => Below wr.heap.size wr W) (by kernel_rfl) (by kernel_rfl) (below_drewN (Below.refl _ _) 1) WrdG.keep ?_ ?_
      · refine opsv_one ?_ (opsv_one ?_ (opsv_one ?_ (opsv_one ?_ (opsv_one ?_ (opsv_one ?_ (opsv_one ?_ (opsv_one ?_ (opsv_one ?_ (opsv_one ?_ (opsv_one ?_ (opsv_one ?_ (opsv_one ?_ (opsv_one ?_ (opsv_one ?_ (opsv_one ?_ (opsv_one ?_ (opsv_one ?_ (opsv_one ?_ (opsv_one ?_ (opsv_one ?_ (opsv_one ?_ (opsv_st ?_ opsv_nil))))))))))))))))))))))
        all_goals
          first | refine OpRunsV.any ?_ | refine StRunsV.any ?_
        · intro Q0 σ s W' KK hs1 hb hn hK
          simp only [fill, List.filterMap, Act.put, List.setIfInBounds_toArray, List.set_cons_zero, List.set_cons_succ] at hK ⊢
          clear hn
          have HH := Lib.hid hb
          clear hb
          go_simp
          exact hK _ _ rfl (Below.refl _ _) HH.out
        · intro Q0 σ s W' KK hs1 hb hn hK
          simp only [fill, List.filterMap, Act.put, List.setIfInBounds_toArray, List.set_cons_zero, List.set_cons_succ] at hK ⊢
          clear hn
          have HH := Lib.hid hb
          clear hb
          go_simp
          exact hK _ _ rfl (Below.refl _ _) HH.out
        · intro Q0 σ s W' KK hs1 hb hn hK
          simp only [fill, List.filterMap, Act.put, List.setIfInBounds_toArray, List.set_cons_zero, List.set_cons_succ] at hK ⊢
          have h30 : σ 30 = _ := hn 30 (by decide)
          have h31 : σ 31 = _ := hn 31 (by decide)
          clear hn
          simp only [h30, h31] at hK
          have HH := Lib.hid hb
          clear hb
          go_simp
          exact hK _ _ rfl (Below.refl _ _) HH.out
        · intro Q0 σ s W' KK hs1 hb hn hK
          simp only [fill, List.filterMap, Act.put, List.setIfInBounds_toArray, List.set_cons_zero, List.set_cons_succ] at hK ⊢
          have h32 : σ 32 = _ := hn 32 (by decide)
          clear hn
          simp only [h32] at hK
          have a0c' := bkeep hb a0c
          have a1c' := bkeep hb a1c
          clear a0c a1c
          have HH := Lib.hid hb
          clear hb
          go_simp
          exact hK _ _ rfl (Below.refl _ _) HH.out
        · intro Q0 σ s W' KK hs1 hb hn hK
          simp only [fill, List.filterMap, Act.put, List.setIfInBounds_toArray, List.set_cons_zero, List.set_cons_succ] at hK ⊢
          clear hn
          have HH := Lib.hid hb
          clear hb
          go_simp
          exact hK _ _ rfl (Below.refl _ _) HH.out
        · intro Q0 σ s W' KK hs1 hb hn hK
          simp only [fill, List.filterMap, Act.put, List.setIfInBounds_toArray, List.set_cons_zero, List.set_cons_succ] at hK ⊢
          clear hn
          have HH := Lib.hid hb
          clear hb
          go_simp
          exact hK _ _ rfl (Below.refl _ _) HH.out
        · intro Q0 σ s W' KK hs1 hb hn hK
          simp only [fill, List.filterMap, Act.put, List.setIfInBounds_toArray, List.set_cons_zero, List.set_cons_succ] at hK ⊢
          clear hn
          have HH := Lib.hid hb
          clear hb
          go_simp
          exact hK _ _ rfl (Below.refl _ _) HH.out
        · intro Q0 σ s W' KK hs1 hb hn hK
          simp only [fill, List.filterMap, Act.put, List.setIfInBounds_toArray, List.set_cons_zero, List.set_cons_succ] at hK ⊢
          have h36 : σ 36 = _ := hn 36 (by decide)
          clear hn
          simp only [h36] at hK
          have HH := Lib.hid hb
          clear hb
          go_simp
          exact hK _ _ rfl (Below.refl _ _) HH.out
        · intro Q0 σ s W' KK hs1 hb hn hK
          simp only [fill, List.filterMap, Act.put, List.setIfInBounds_toArray, List.set_cons_zero, List.set_cons_succ] at hK ⊢
          have h37 : σ 37 = _ := hn 37 (by decide)
          clear hn
          simp only [h37] at hK
          have HH := Lib.hid hb
          clear hb
          go_simp
          exact hK _ _ rfl (Below.refl _ _) HH.out
        · intro Q0 σ s W' KK hs1 hb hn hK
          simp only [fill, List.filterMap, Act.put, List.setIfInBounds_toArray, List.set_cons_zero, List.set_cons_succ] at hK ⊢
          have h35 : σ 35 = _ := hn 35 (by decide)
          have h38 : σ 38 = _ := hn 38 (by decide)
          clear hn
          simp only [h35, h38] at hK
          have HH := Lib.hid hb
          clear hb
          go_simp
          exact hK _ _ rfl (Below.refl _ _) HH.out
        · intro Q0 σ s W' KK hs1 hb hn hK
          simp only [fill, List.filterMap, Act.put, List.setIfInBounds_toArray, List.set_cons_zero, List.set_cons_succ] at hK ⊢
          have h34 : σ 34 = _ := hn 34 (by decide)
          have h39 : σ 39 = _ := hn 39 (by decide)
          clear hn
          simp only [h34, h39] at hK
          have HH := Lib.hid hb
          clear hb
          go_simp
          exact hK _ _ rfl (Below.refl _ _) HH.out
        · intro Q0 σ s W' KK hs1 hb hn hK
          simp only [fill, List.filterMap, Act.put, List.setIfInBounds_toArray, List.set_cons_zero, List.set_cons_succ] at hK ⊢
          have h40 : σ 40 = _ := hn 40 (by decide)
          clear hn
          simp only [h40] at hK
          have b0c' := bkeep hb b0c
          have b1c' := bkeep hb b1c
          clear b0c b1c
          have HH := Lib.hid hb
          clear hb
          go_simp
          exact hK _ _ rfl (Below.refl _ _) HH.out
        · intro Q0 σ s W' KK hs1 hb hn hK
          simp only [fill, List.filterMap, Act.put, List.setIfInBounds_toArray, List.set_cons_zero, List.set_cons_succ] at hK ⊢
          clear hn
          have y0c' := bkeep hb y0c
          have y1c' := bkeep hb y1c
          clear y0c y1c
          have HH := Lib.hid hb
          clear hb
          go_simp
          exact hK _ _ rfl (Below.refl _ _) HH.out
        · intro Q0 σ s W' KK hs1 hb hn hK
          simp only [fill, List.filterMap, Act.put, List.setIfInBounds_toArray, List.set_cons_zero, List.set_cons_succ] at hK ⊢
          clear hn
          have HH := Lib.hid hb
          clear hb
          go_simp
          exact hK _ _ rfl (Below.refl _ _) HH.out
        · intro Q0 σ s W' KK hs1 hb hn hK
          simp only [fill, List.filterMap, Act.put, List.setIfInBounds_toArray, List.set_cons_zero, List.set_cons_succ] at hK ⊢
          clear hn
          have HH := Lib.hid hb
          clear hb
          go_simp
          exact hK _ _ rfl (Below.refl _ _) HH.out
        · intro Q0 σ s W' KK hs1 hb hn hK
          simp only [fill, List.filterMap, Act.put, List.setIfInBounds_toArray, List.set_cons_zero, List.set_cons_succ] at hK ⊢
          clear hn
          have HH := Lib.hid hb
          clear hb
          go_simp
          exact hK _ _ rfl (Below.refl _ _) HH.out
        · intro Q0 σ s W' KK hs1 hb hn hK
          simp only [fill, List.filterMap, Act.put, List.setIfInBounds_toArray, List.set_cons_zero, List.set_cons_succ] at hK ⊢
          have h43 : σ 43 = _ := hn 43 (by decide)
          have h44 : σ 44 = _ := hn 44 (by decide)
          have h45 : σ 45 = _ := hn 45 (by decide)
          clear hn
          simp only [h43, h44, h45] at hK
          go_simp
          go_at_call 58
          refine (p1 _).mono ?_
          rintro e w1 ⟨rfl, hb1⟩
          exact hK _ _ rfl hb1 (bthen hb hb1)
        · intro Q0 σ s W' KK hs1 hb hn hK
          simp only [fill, List.filterMap, Act.put, List.setIfInBounds_toArray, List.set_cons_zero, List.set_cons_succ] at hK ⊢
          have h33 : σ 33 = _ := hn 33 (by decide)
          have h41 : σ 41 = _ := hn 41 (by decide)
          have h42 : σ 42 = _ := hn 42 (by decide)
          have h46 : σ 46 = _ := hn 46 (by decide)
          clear hn
          simp only [h33, h41, h42, h46] at hK
          go_simp
          go_at_call 60
          refine (o1 _).mono ?_
          rintro e w1 ⟨rfl, hb1⟩
          exact hK _ _ rfl hb1 (bthen hb hb1)
        · intro Q0 σ s W' KK hs1 hb hn hK
          simp only [fill, List.filterMap, Act.put, List.setIfInBounds_toArray, List.set_cons_zero, List.set_cons_succ] at hK ⊢
          have h47 : σ 47 = _ := hn 47 (by decide)
          clear hn
          simp only [h47] at hK
          have HH := Lib.hid hb
          clear hb
          go_simp
          exact hK _ _ rfl (Below.refl _ _) HH.out
        · intro Q0 σ s W' KK hs1 hb hn hK
          simp only [fill, List.filterMap, Act.put, List.setIfInBounds_toArray, List.set_cons_zero, List.set_cons_succ] at hK ⊢
          have h29 : σ 29 = _ := hn 29 (by decide)
          clear hn
          simp only [h29] at hK
          have HH := Lib.hid hb
          clear hb
          go_simp
          exact hK _ _ rfl (Below.refl _ _) HH.out
        · intro Q0 σ s W' KK hs1 hb hn hK
          simp only [fill, List.filterMap, Act.put, List.setIfInBounds_toArray, List.set_cons_zero, List.set_cons_succ] at hK ⊢
          have h29 : σ 29 = _ := hn 29 (by decide)
          clear hn
          simp only [h29] at hK
          have HH := Lib.hid hb
          clear hb
          go_simp
          exact hK _ _ rfl (Below.refl _ _) HH.out
        · intro Q0 σ s W' KK hs1 hb hn hK
          simp only [fill, List.filterMap, Act.put, List.setIfInBounds_toArray, List.set_cons_zero, List.set_cons_succ] at hK ⊢
          obtain rfl := hs1 rfl
          clear hn
          go_simp
          refine hK _ _ ?_ ((Below.refl _ _).alloc (Nat.le_refl _) _) (bthen hb ((Below.refl _ _).alloc (Nat.le_refl _) _))
          exact ⟨W'.heap.size, hb.size, rfl, by simp [Duo, go_sem]⟩
        · intro Q0 σ W' KK hb hn hK
          simp only [fill, List.filterMap, Act.put, List.setIfInBounds_toArray, List.set_cons_zero, List.set_cons_succ] at hK ⊢
          have h48 : σ 48 = _ := hn 48 (by decide)
          obtain ⟨q, hq, e11, hV⟩ : WrdA wr.heap.size z false (σ 11) W' := hn 11 (by decide)
          clear hn
          have HV := Lib.hid hV
          have HKP : Hid (∀ (kk : Nat) (W'' : World), Duo W'' q (.int .u64 (enc z.a)) (.int .u64 (enc z.b)) → WrdG wr.heap.size b off N cap g M k H K f a0 a1 b0 b1 y0 y1 pz z false kk (σ kk) W' → WrdG wr.heap.size b off N cap g M k H K f a0 a1 b0 b1 y0 y1 pz z true kk (σ kk) W'') := Lib.hid fun kk W'' hD hk => by
            by_cases c : kk = 11
            · subst c; exact ⟨q, hq, e11, hD⟩
            · unfold WrdG at *; rw [if_neg c] at *; exact hk
          have HQ' := Lib.hid hq
          obtain ⟨v0, v1, f0, f1⟩ := hV
          simp only [if_neg Bool.false_ne_true] at v0 v1
          clear hq
          simp only [h48, e11] at hK
          go_simp
          exact hK undef ((W'.setCell ⟨q, 0, none⟩ (.int .u64 (enc z.a))).setCell ⟨q, 1, none⟩ (.int .u64 (enc z.b))) (fun kk e => by cases e) (fun kk hk => HKP.out kk _ (HV.out.set _ _) hk) ((hb.setCell HQ'.out _).setCell HQ'.out _)
      · intro σ W' hb hR'
        have h48 : σ 48 = .agg #[.int .u64 (enc z.a), .int .u64 (enc z.b)] := hR' 48 (by decide)
        have h49 : σ 49 = .bool true := hR' 49 (by decide)
        obtain ⟨gq, hgq, h11, hV⟩ : WrdA wr.heap.size z true (σ 11) W' := hR' 11 (by decide)
        simp only [if_true] at hV
        have HM' := Lib.hid (HM.out.keep hb)
        have HV := Lib.hid hV
        clear hR' y0c y1c a0c a1c b0c b1c p1 o1 hb hq hw1 hw2 hh1 hh2 HM HOWN hbase hgq hV
        simp only [fill, List.filterMap, Act.put, List.setIfInBounds_toArray, List.set_cons_zero, List.set_cons_succ, List.length_cons, List.length_nil, List.drop_succ_cons, List.drop_zero, Nat.reduceAdd, h48, h49, h11]
        go_upto_region 9 with fail
        refine wp_gen (fun W => MadeQ w0 W u9 ((List.range k).map fun i => encP (foldV (qAt l i) (qAt l (i + H)) y (pointF M f i))) ∧ Duo W gq (.int .u64 (enc z.a)) (.int .u64 (enc z.b))) ⟨HM'.out, HV.out⟩ ?_
        clear HM' HV
        rintro W3 ⟨hM3, hV3⟩
        have HM3 := Lib.hid hM3
        have hown := hM3.1
        rw [HLN.out] at hown
        have hbase := hM3.2.size
        obtain ⟨q0, q1, _, _⟩ := hV3
        have HSN' : Hid (((List.range k).map fun i => encP (foldV (qAt l i) (qAt l (i + H)) y (pointF M f i))) ++ [(enc z.a, enc z.b)] = ((List.range (k + 1)).map fun i => encP (foldV (qAt l i) (qAt l (i + H)) y (pointF M f i)))) := Lib.hid HSN.out.symm
        have HLN' := HLN
        clear HSN HLN hM3
        generalize hx1 : ((List.range (k + 1)).map fun i => encP (foldV (qAt l i) (qAt l (i + H)) y (pointF M f i))) = xs1 at *
        have HX1 := Lib.hid hx1
        clear hx1
        generalize ((List.range k).map fun i => encP (foldV (qAt l i) (qAt l (i + H)) y (pointF M f i))) = xs at *
        go_upto_region 7 with (at_builtin; refine wpList_append_own _ rfl _ _ 24 rfl w0.heap.size 31 i0 (.agg #[.int .u64 0, .int .u64 0]) 2 16 Tryz.underlying24 hi hz0 hz1 hz2 rfl (by decide) _ _ _ rfl (hown.alloc _) ⟨W3.heap.size, 0, none⟩ 1 1 [.int .u64 (enc z.a), .int .u64 (enc z.b)] rfl rfl (two_src (by simp [go_sem]) (by simp [go_sem])) (by intro u hu; simp at hu; rcases hu with rfl | rfl <;> rfl) (by unfold maxLen; omega) (by omega) (by simp; omega) ?_)
        intro v4 w4 q2 q3 _
        have R : Hid (MadeQ w0 w4 v4 xs1) := Lib.hid (by
          rw [← HSN'.out]
          exact HM3.out.step _ (by rw [HLN'.out]; exact q2) q3)
        clear q2 q3 hown HM3 HSN' HLN' q0 q1
        go_wp2
        go_roundw
        case rel => exact ⟨k + 1, by omega, by go_num, by rw [HX1.out]; exact R.out⟩
        case measure => simp [intOf]; omega
    · obtain rfl : k = H := by omega
      have hnl : ¬ (k : Int) < (k : Int) := by omega
      obtain ⟨a5, c5, rfl, hrow, hfr⟩ := hM.fresh
      have HFR : Hid (∀ x, a5 = some x → w.heap.size ≤ x.block) := Lib.hid fun x hx => Nat.le_trans HB0.out.size (hfr x hx)
      have HROW := Lib.hid hrow
      have HBE := Lib.hid (bthen HB0.out hM.2)
      have hln := wordR_len l y M f k k
      rw [hln]
      rw [show (List.range k).map (fun i => encP (foldV (qAt l i) (qAt l (i + k)) y (pointF M f i))) = r from HR.out] at hln HROW
      have HLN := Lib.hid hln
      have hq := HQ2.out
      obtain ⟨hh1, hh2⟩ := HWH.out
      simp only [hN]
      clear hev hrow hfr hM hln hN hm' hN20
      go_wp2_with fail
      exact bodyPost_ret (v := .tuple #[.slice a5 k c5, .bool true]) (by simp [results, Tryz.results53, go_sem]) rfl ⟨HBE.out, a5, c5, by rw [HLN.out], HROW.out, HFR.out⟩
theorem rfword_is (a : Option Addr) (n cap : Nat) (l : List (Int × Int)) (y0 y1 f : Int) (y : F2) (r : List (Int × Int)) (ok : Bool) (w : World) (ha : QRowA w a n l) (hu : ∀ n ∈ l, U n.1 ∧ U n.2) (hy : Rep y0 y1 y) (hz : wordV l y f = (r, ok)) :
    Calls Tryz.prog 53 #[.slice a n cap, .agg #[.int .u64 y0, .int .u64 y1], .int .i64 f] w (WordPost w r ok) := (rfword_new a n cap l y0 y1 f y r ok w ha hu hy hz).mono fun _ _ h => h.post
end Go.Proofs.YthfkfgjhgicfeaaGreatDoor
namespace Go.Proofs.YthfkfgjhgicfeaaGreatDoor
open Go Go.RowKit
set_option linter.unusedVariables false

/-! ### The examples -/
theorem halfF_lit : halfF = 9223372034707292161 := (finv_unique 2 9223372034707292161 (by decide +kernel)).symm
end Go.Proofs.YthfkfgjhgicfeaaGreatDoor
namespace Go.Proofs.YthfkfgjhgicfeaaGreatDoor
open Go Go.RowKit
set_option linter.unusedVariables false

theorem toQ_encP (x : F2) : toQ (encP x) = x := by
  unfold toQ encP
  exact F2.eq (toF_enc _) (toF_enc _)
theorem co_fsts (zs : List (Int × Int)) (j : Nat) : co (fsts zs) j = (qAt zs j).a := by
  unfold co qAt fsts
  rw [List.getD, List.getD, List.getElem?_map]
  cases zs[j]? <;> rfl
theorem co_snds (zs : List (Int × Int)) (j : Nat) : co (snds zs) j = (qAt zs j).b := by
  unfold co qAt snds
  rw [List.getD, List.getD, List.getElem?_map]
  cases zs[j]? <;> rfl
theorem forthQ_at (zs : List (Int × Int)) (s : F) (k : Nat) {i : Nat} (h : i < 2 ^ k) : (forthQ zs s k).getD i (0, 0) = encP (evQ zs.length (qAt zs) (pt s k i)) := by
  unfold forthQ
  rw [joinL_at _ _ _ (by rw [forthL_len]; exact h), forthL_at _ _ _ _ h, forthL_at _ _ _ _ h, fsts_len, snds_len]
  refine congrArg encP (F2.eq ?_ ?_)
  · show toF (enc _) = ev _ _ _
    rw [toF_enc]
    exact ev_congr fun j _ => co_fsts zs j
  · show toF (enc _) = ev _ _ _
    rw [toF_enc]
    exact ev_congr fun j _ => co_snds zs j
theorem qAt_forth (zs : List (Int × Int)) (s : F) (k : Nat) {i : Nat} (h : i < 2 ^ k) : qAt (forthQ zs s k) i = evQ zs.length (qAt zs) (pt s k i) := by
  unfold qAt
  rw [forthQ_at zs s k h, toQ_encP]
  rfl
/-! ### Sums -/
theorem foldV_add (a b c d y : F2) (x : F) : foldV (a + c) (b + d) y x = foldV a b y x + foldV c d y x := by
  unfold foldV
  generalize halfF * finv x = t
  refine F2.eq ?_ ?_
  · simp only [F2.add_a, F2.mul_a, scale, F2.sub_a, F2.sub_b, F2.add_b]; grind
  · simp only [F2.add_b, F2.mul_b, scale, F2.sub_a, F2.sub_b, F2.add_a]; grind
abbrev QL := List (Int × Int)
theorem encP_U (z : F2) : U (encP z).1 ∧ U (encP z).2 := ⟨enc_U _, enc_U _⟩
theorem wordV_U {l r : List (Int × Int)} {y : F2} {f : Int} {ok : Bool} (h : wordV l y f = (r, ok)) : ∀ n ∈ r, U n.1 ∧ U n.2 := by
  intro n hn
  by_cases hl : 1 ≤ lg l.length ∧ lg l.length ≤ 20
  · rw [wordV_yes hl] at h
    obtain ⟨rfl, _⟩ := Prod.mk.inj h
    obtain ⟨j, _, rfl⟩ := List.mem_map.1 hn
    exact encP_U _
  · rw [wordV_no hl] at h
    obtain ⟨rfl, _⟩ := Prod.mk.inj h
    cases hn
theorem MadeQ.store {W w : World} {v x : Value} {xs : List (Int × Int)} {g o : Nat} (h : MadeQ W w v xs) (hne : ∀ k, v.ownBlock = some k → k ≠ g) (hg : W.heap.size ≤ g) : MadeQ W (w.setCell ⟨g, o, none⟩ x) v xs :=
  ⟨h.1.kept (grown_set w g o x) (by
    cases hv : v.ownBlock with
    | none => exact Or.inl rfl
    | some q => exact Or.inr (fun e => hne q hv (Option.some.inj e))), h.2.setCell hg _⟩
end Go.Proofs.YthfkfgjhgicfeaaGreatDoor
