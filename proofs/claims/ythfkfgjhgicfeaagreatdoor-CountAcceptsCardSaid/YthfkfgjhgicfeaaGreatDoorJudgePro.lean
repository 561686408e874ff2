/-
  What the program's calls of layer 22 come to, Judge aside. (Written by gen_jprog.py.)
-/
import Derived.Test.YthfkfgjhgicfeaaGreatDoorGJudgeR
import Derived.Test.YthfkfgjhgicfeaaGreatDoorEqB
import Derived.Test.YthfkfgjhgicfeaaGreatDoorGPolyPro
import Derived.Test.YthfkfgjhgicfeaaGreatDoorFoldProg
import Derived.Test.YthfkfgjhgicfeaaGreatDoorGFold
import Derived.BigQuiet
namespace Go.Proofs.YthfkfgjhgicfeaaGreatDoor
open Go Go.RowKit Go.Sort Go.BigFrame
set_option linter.unusedVariables false

def mayJ (k bl fo : Int) : Prop := 0 ≤ k ∧ k ≤ 10 ∧ 1 ≤ bl ∧ bl ≤ 4 ∧ 0 ≤ fo ∧ fo ≤ k
instance (k bl fo : Int) : Decidable (mayJ k bl fo) := by unfold mayJ; exact inferInstance
set_option maxRecDepth 100000 in
set_option maxHeartbeats 4000000 in
theorem jmay_is (k bl fo qu gr : Int) (r : Bool) (w : World) (hr : decide (mayJ k bl fo) = r) :
    Calls Tryz.prog 54 #[.int .i64 k, .agg #[.int .i64 bl, .int .i64 fo, .int .i64 qu, .int .i64 gr]] w fun e w' => e = .returned (.bool r) ∧ Below w.heap.size w w' := by
  have HNO : Hid (¬ mayJ k bl fo → false = r) := Lib.hid fun h => by rw [← hr]; exact (decide_eq_false h).symm
  have HYES : Hid (mayJ k bl fo → true = r) := Lib.hid fun h => by rw [← hr]; exact (decide_eq_true h).symm
  clear hr
  go_enter Tryz.func54, Tryz.ntmps54
  go_upto_region 1 with fail
  obtain ⟨g, hg⟩ : ∃ g, w.heap.size = g := ⟨_, rfl⟩
  refine wp_gen (fun W => Below w.heap.size w W ∧ RjBox W g bl fo qu gr) ⟨(Below.refl _ _).alloc (Nat.le_refl _) _, by subst hg; simp [RjBox, go_sem]⟩ ?_
  rintro w0 ⟨hB0, c0, c1, c2, c3⟩
  simp only [hg]
  have HB := Lib.hid hB0
  clear hB0 hg
  by_cases h1 : 0 ≤ k
  case neg =>
    obtain rfl := HNO.out (fun h => h1 h.1)
    clear HNO HYES
    go_wp2_with fail
    go_ret
    exact ⟨rfl, HB.out⟩
  by_cases h2 : k ≤ 10
  case neg =>
    obtain rfl := HNO.out (fun h => h2 h.2.1)
    clear HNO HYES
    go_wp2_with fail
    go_ret
    exact ⟨rfl, HB.out⟩
  by_cases h3 : 1 ≤ bl
  case neg =>
    obtain rfl := HNO.out (fun h => h3 h.2.2.1)
    clear HNO HYES
    go_wp2_with fail
    go_ret
    exact ⟨rfl, HB.out⟩
  by_cases h4 : bl ≤ 4
  case neg =>
    obtain rfl := HNO.out (fun h => h4 h.2.2.2.1)
    clear HNO HYES
    go_wp2_with fail
    go_ret
    exact ⟨rfl, HB.out⟩
  by_cases h5 : 0 ≤ fo
  case neg =>
    obtain rfl := HNO.out (fun h => h5 h.2.2.2.2.1)
    clear HNO HYES
    go_wp2_with fail
    go_ret
    exact ⟨rfl, HB.out⟩
  by_cases h6 : fo ≤ k
  case neg =>
    obtain rfl := HNO.out (fun h => h6 h.2.2.2.2.2)
    clear HNO HYES
    go_wp2_with fail
    go_ret
    exact ⟨rfl, HB.out⟩
  obtain rfl := HYES.out ⟨h1, h2, h3, h4, h5, h6⟩
  clear HNO HYES
  go_wp2_with fail
  go_ret
  exact ⟨rfl, HB.out⟩
set_option maxRecDepth 100000 in
set_option maxHeartbeats 8000000 in
theorem jright_is (k bl fo qu gr : Int) (a : Option Addr) (n c : Nat) (pl : Int) (la : Option Addr) (ln lc : Nat) (fa : Option Addr) (fn fc : Nat) (r : Bool) (w : World) (hr : decide (rightJ k bl fo n pl ln fn) = r) :
    Calls Tryz.prog 24 #[.int .i64 k, .agg #[.int .i64 bl, .int .i64 fo, .int .i64 qu, .int .i64 gr], .slice a n c, .int .i64 pl, .slice la ln lc, .slice fa fn fc] w fun e w' => e = .returned (.bool r) ∧ Below w.heap.size w w' := by
  have HNO : Hid (¬ rightJ k bl fo n pl ln fn → false = r) := Lib.hid fun h => by rw [← hr]; exact (decide_eq_false h).symm
  have HYES : Hid (rightJ k bl fo n pl ln fn → true = r) := Lib.hid fun h => by rw [← hr]; exact (decide_eq_true h).symm
  clear hr
  go_enter Tryz.func24, Tryz.ntmps24
  go_upto_region 1 with fail
  obtain ⟨g, hg⟩ : ∃ g, w.heap.size = g := ⟨_, rfl⟩
  refine wp_gen (fun W => Below w.heap.size w W ∧ RjBox W g bl fo qu gr) ⟨(Below.refl _ _).alloc (Nat.le_refl _) _, by subst hg; simp [RjBox, go_sem]⟩ ?_
  rintro w0 ⟨hB0, hP⟩
  simp only [hg]
  have HB := Lib.hid hB0; have HP := Lib.hid hP
  obtain ⟨c0, c1, c2, c3⟩ := hP
  clear hB0 hg
  obtain ⟨b, hb⟩ : ∃ b, decide (mayJ k bl fo) = b := ⟨_, rfl⟩
  have k1 := fun W => jmay_is k bl fo qu gr b W hb
  cases b
  · obtain rfl := HNO.out (fun h => absurd (show mayJ k bl fo from h.1) (of_decide_eq_false hb))
    clear HNO HYES hb
    go_wp2_with (go_at_call 54; (with_reducible refine (k1 _).mono ?_); rintro e w1 ⟨rfl, hb1⟩; replace HB := Lib.hid (bthen HB.out hb1); replace c0 := bkeep hb1 c0; replace c1 := bkeep hb1 c1; clear hb1)
    go_ret
    exact ⟨rfl, HB.out⟩
  have hmay : mayJ k bl fo := of_decide_eq_true hb
  clear hb
  have hm2 := hmay
  obtain ⟨h1, h2, h3, h4, h5, h6⟩ := hm2
  obtain ⟨K, rfl⟩ := Int.eq_ofNat_of_zero_le (show 0 ≤ k by omega)
  obtain ⟨B, rfl⟩ := Int.eq_ofNat_of_zero_le (show 0 ≤ bl by omega)
  obtain ⟨O, rfl⟩ := Int.eq_ofNat_of_zero_le (show 0 ≤ fo by omega)
  have b1 : K ≤ 10 := by omega
  have b2 : 1 ≤ B ∧ B ≤ 4 := by omega
  have b3 : O ≤ K := by omega
  obtain ⟨M, hM⟩ : ∃ M, K + B = M := ⟨_, rfl⟩
  have hM1 : 1 ≤ M ∧ M ≤ 14 := by omega
  have HJ : Hid (rightJ (K : Int) (B : Int) (O : Int) n pl ln fn ↔ ((n : Int) = (O : Int) ∧ 0 ≤ pl ∧ pl < ((2 ^ (M - 1) : Nat) : Int) ∧ (ln : Int) = max 0 ((O : Int) - 1) ∧ (fn : Int) = ((2 ^ (K - O) : Nat) : Int))) := Lib.hid (by
    have e1 : ((K : Int) + (B : Int) - 1).toNat = M - 1 := by omega
    have e2 : ((K : Int) - (O : Int)).toNat = K - O := by omega
    unfold rightJ
    rw [e1, e2]
    exact ⟨fun h => h.2, fun h => ⟨hmay, h⟩⟩)
  obtain ⟨w1, w1'⟩ := w_add K B (by omega) (by omega)
  rw [hM] at w1 w1'
  have hMd : M - 1 ≤ 40 := by omega
  have hKd : K - O ≤ 40 := by omega
  have g1 := w_sub1 M hM1.1 (by have := hM1.2; omega)
  have g2 := w_sub K O b3 (by omega)
  have g3 := w_u64 (M - 1) (by omega)
  have g4 := w_u64 (K - O) (by omega)
  have g5 := w_less O (by omega)
  have g6 := pw_wrap (M - 1) hMd
  have g7 := pw_wrap (K - O) hKd
  obtain ⟨m1, hm1⟩ : ∃ m, M - 1 = m := ⟨_, rfl⟩
  obtain ⟨d, hd⟩ : ∃ m, K - O = m := ⟨_, rfl⟩
  rw [hm1] at g1 g3 g6 HJ hMd
  rw [hd] at g2 g4 g7 HJ hKd
  obtain ⟨X, hX⟩ : ∃ X, 2 ^ m1 = X := ⟨_, rfl⟩
  obtain ⟨Y, hY⟩ : ∃ X, 2 ^ d = X := ⟨_, rfl⟩
  rw [hX] at g6 HJ
  rw [hY] at g7 HJ
  obtain ⟨g1, g1'⟩ := g1
  obtain ⟨g2, g2'⟩ := g2
  obtain ⟨g5, g5'⟩ := g5
  clear hM hM1 hm1 hd hX hY b1 b2 b3 h1 h2 h3 h4 h5 h6 hmay
  by_cases n1 : (n : Int) = (O : Int)
  case neg =>
    obtain rfl := HNO.out (fun h => n1 (HJ.out.1 h).1)
    clear HNO HYES HJ
    go_wp2_with (go_at_call 54; (with_reducible refine (k1 _).mono ?_); rintro e w1 ⟨rfl, hb1⟩; replace HB := Lib.hid (bthen HB.out hb1); replace c0 := bkeep hb1 c0; replace c1 := bkeep hb1 c1; clear hb1)
    go_ret
    exact ⟨rfl, HB.out⟩
  by_cases n2 : 0 ≤ pl
  case neg =>
    obtain rfl := HNO.out (fun h => n2 (HJ.out.1 h).2.1)
    clear HNO HYES HJ
    go_wp2_with (go_at_call 54; (with_reducible refine (k1 _).mono ?_); rintro e w1 ⟨rfl, hb1⟩; replace HB := Lib.hid (bthen HB.out hb1); replace c0 := bkeep hb1 c0; replace c1 := bkeep hb1 c1; clear hb1)
    go_ret
    exact ⟨rfl, HB.out⟩
  by_cases n3 : pl < (X : Int)
  case neg =>
    obtain rfl := HNO.out (fun h => n3 (HJ.out.1 h).2.2.1)
    clear HNO HYES HJ
    go_wp2_with (go_at_call 54; (with_reducible refine (k1 _).mono ?_); rintro e w1 ⟨rfl, hb1⟩; replace HB := Lib.hid (bthen HB.out hb1); replace c0 := bkeep hb1 c0; replace c1 := bkeep hb1 c1; clear hb1)
    go_ret
    exact ⟨rfl, HB.out⟩
  by_cases n4 : (ln : Int) = max 0 ((O : Int) - 1)
  case neg =>
    obtain rfl := HNO.out (fun h => n4 (HJ.out.1 h).2.2.2.1)
    clear HNO HYES HJ
    go_wp2_with (go_at_call 54; (with_reducible refine (k1 _).mono ?_); rintro e w1 ⟨rfl, hb1⟩; replace HB := Lib.hid (bthen HB.out hb1); replace c0 := bkeep hb1 c0; replace c1 := bkeep hb1 c1; clear hb1)
    go_ret
    exact ⟨rfl, HB.out⟩
  by_cases n5 : (fn : Int) = (Y : Int)
  case neg =>
    obtain rfl := HNO.out (fun h => n5 (HJ.out.1 h).2.2.2.2)
    have n5b : ((fn : Int) == (Y : Int)) = false := beq_eq_false_iff_ne.2 n5
    clear HNO HYES HJ
    go_wp2_with (go_at_call 54; (with_reducible refine (k1 _).mono ?_); rintro e w1 ⟨rfl, hb1⟩; replace HB := Lib.hid (bthen HB.out hb1); replace c0 := bkeep hb1 c0; replace c1 := bkeep hb1 c1; clear hb1)
    go_ret
    exact ⟨rfl, HB.out⟩
  obtain rfl := HYES.out (HJ.out.2 ⟨n1, n2, n3, n4, n5⟩)
  clear HNO HYES HJ
  go_wp2_with (go_at_call 54; (with_reducible refine (k1 _).mono ?_); rintro e w1 ⟨rfl, hb1⟩; replace HB := Lib.hid (bthen HB.out hb1); replace c0 := bkeep hb1 c0; replace c1 := bkeep hb1 c1; clear hb1)
  go_ret
  exact ⟨rfl, HB.out⟩
set_option maxHeartbeats 2000000 in
theorem jsame_is (a b c d : Int) (x y : F2) (r : Bool) (w : World) (hx : Rep a b x) (hy : Rep c d y) (hr : decide (x = y) = r) :
    Calls Tryz.prog 94 #[.agg #[.int .u64 a, .int .u64 b], .agg #[.int .u64 c, .int .u64 d]] w fun e w' => e = .returned (.bool r) ∧ Below w.heap.size w w' := by
  obtain ⟨z, hz⟩ : ∃ z, x - y = z := ⟨_, rfl⟩
  have k1 := fun W => psub_q a b c d x y z hx hy hz W
  have hr2 : decide (z = 0) = r := by
    rw [← hr, ← hz]
    exact decide_eq_decide.2 ⟨fun h => sub_eq_zero' h, fun h => by rw [h]; exact sub_self' y⟩
  have e2 := eqB_enc z 0 r hr2
  rw [show enc (0 : F2).a = 0 from rfl, show enc (0 : F2).b = 0 from rfl] at e2
  clear hx hy hr hz hr2
  generalize enc z.a = za at *
  generalize enc z.b = zb at *
  go_enter Tryz.func94, Tryz.ntmps94
  go_upto_region 1 with fail
  refine wp_gen (fun W => Below w.heap.size w W ∧ Duo W w.heap.size (.int .u64 a) (.int .u64 b) ∧ Duo W (w.heap.size + 1) (.int .u64 c) (.int .u64 d)) ⟨((Below.refl _ _).alloc (Nat.le_refl _) _).alloc (by simp) _, by simp [Duo, go_sem], by simp [Duo, go_sem]⟩ ?_
  rintro w0 ⟨hB0, ⟨c0, c1, _, _⟩, d0, d1, _, _⟩
  have HB := Lib.hid hB0
  clear hB0
  rcases e2 with ⟨rfl, rfl, rfl⟩ | ⟨rfl, h1⟩ | ⟨rfl, rfl, h1⟩
  all_goals
    go_wp2_with (go_at_call 75; (with_reducible refine (k1 _).mono ?_); rintro e w1 ⟨rfl, hb1⟩; replace HB := Lib.hid (bthen HB.out hb1); clear hb1)
    go_ret
    exact ⟨rfl, HB.out⟩
set_option maxRecDepth 100000 in
set_option maxHeartbeats 4000000 in
theorem jends_is (m f i : Int) (x0 x1 : Int) (v : F2) (a : Option Addr) (n c : Nat) (zs : QL) (r : Bool) (w : World) (hi : i ≤ 9223372036854775807) (hx : Rep x0 x1 v) (hf : QRowA w a n zs) (hfu : ∀ n ∈ zs, U n.1 ∧ U n.2) (hn : n ≤ 4294967296) (hr : decide (finAt zs (pointF m f i) = v) = r) :
    Calls Tryz.prog 55 #[.int .i64 m, .int .i64 f, .int .i64 i, .agg #[.int .u64 x0, .int .u64 x1], .slice a n c] w fun e w' => e = .returned (.bool r) ∧ Below w.heap.size w w' := by
  have HPA := Lib.hid (polyA_q hf hfu)
  obtain ⟨x, hx1⟩ : ∃ x, pointF m f i = x := ⟨_, rfl⟩
  rw [hx1] at hr
  obtain ⟨y, hy⟩ : ∃ y, finAt zs x = y := ⟨_, rfl⟩
  rw [hy] at hr
  go_enter Tryz.func55, Tryz.ntmps55
  go_upto_region 1 with fail
  refine wp_gen (fun W => Below w.heap.size w W ∧ Duo W w.heap.size (.int .u64 x0) (.int .u64 x1)) ⟨(Below.refl _ _).alloc (Nat.le_refl _) _, by simp [Duo, go_sem]⟩ ?_
  rintro w0 ⟨hB0, c0, c1, _, _⟩
  have HB := Lib.hid hB0
  have p1 := fun W (h : Below w0.heap.size w0 W) => fpoint_is m f i (enc x) hi (by rw [hx1]) W
  have l1 := fun W (h : Below w0.heap.size w0 W) => lift_q (enc x) (lift x) (enc_U _) (by rw [toF_enc]) W
  have f1 := fun W (h : Below w0.heap.size w0 W) => pat_any a n c (zs.map toQ) (enc (lift x).a) (enc (lift x).b) (lift x) y W (HPA.out.keep (bthen HB.out h)) (rep_enc _) hn hy
  have s1 := fun W (h : Below w0.heap.size w0 W) => jsame_is (enc y.a) (enc y.b) x0 x1 y v r W (rep_enc y) hx hr
  clear hB0 hi hx hf hfu hn hr hx1 hy
  replace c0 := fun q : Regrown => cell_regrown c0 q.d q.os
  replace c1 := fun q : Regrown => cell_regrown c1 q.d q.os
  refine wp_region_quiet_below (by kernel_rfl) (by kernel_rfl) ?_
  repeat (first | go_big_quiet_step (first
    | (go_at_call 66; with_reducible exact Calls.regrown_of (p1 _ (below_regrown w0 _ _)))
    | (go_at_call 65; with_reducible exact Calls.regrown_of (l1 _ (below_regrown w0 _ _)))
    | (go_at_call 64; with_reducible exact Calls.regrown_of (f1 _ (below_regrown w0 _ _)))
    | (go_at_call 94; with_reducible exact Calls.regrown_of (s1 _ (below_regrown w0 _ _)))) | quiet_step (fail))
  refine wpQuiet_nil ?_
  rintro _ ⟨pq, rfl⟩
  have HBE := Lib.hid (bthen HB.out (below_regrown w0 pq.d pq.os))
  clear c0 c1 p1 l1 f1 s1
  go_wp2_with fail
  go_ret
  exact ⟨rfl, HBE.out⟩
def JpFB (g8 g9 j m1 A M : Nat) (s0 s1 s2 s3 y0 y1 : Int) (x : F) (vv : F2) (sl : Nat) (v : Value) : Prop :=
  match sl with
  | 14 => v = .pointer (some ⟨g8, 0, none⟩)
  | 15 => v = .agg #[.int .u64 s0, .int .u64 s1]
  | 16 => v = .pointer (some ⟨g8, 2, none⟩)
  | 17 => v = .agg #[.int .u64 s2, .int .u64 s3]
  | 18 => v = .agg #[.int .u64 y0, .int .u64 y1]
  | 19 => v = .int .i64 (M : Int)
  | 20 => v = .int .i64 (j : Int)
  | 21 => v = .int .i64 (m1 : Int)
  | 22 => v = .int .i64 (j : Int)
  | 23 => v = .int .i64 (A : Int)
  | 24 => v = .int .u64 (enc x)
  | 25 => v = .tuple #[.agg #[.int .u64 (enc vv.a), .int .u64 (enc vv.b)], .bool true]
  | 13 => v = .tuple #[.agg #[.int .u64 (enc vv.a), .int .u64 (enc vv.b)], .bool true]
  | 26 => v = .agg #[.int .u64 (enc vv.a), .int .u64 (enc vv.b)]
  | _ => v = .bool true
def JpFA (B : Nat) (g8 g9 j m1 A M : Nat) (s0 s1 s2 s3 y0 y1 : Int) (x : F) (vv : F2) (s : Bool) (v : Value) (W : World) : Prop := ∃ q : Nat, B ≤ q ∧ v = .pointer (some ⟨q, 0, none⟩) ∧ Duo W q (if s then .int .u64 (enc vv.a) else .int .u64 0) (if s then .int .u64 (enc vv.b) else .int .u64 0)
def JpFG (B : Nat) (g8 g9 j m1 A M : Nat) (s0 s1 s2 s3 y0 y1 : Int) (x : F) (vv : F2) (s : Bool) (sl : Nat) (v : Value) (W : World) : Prop := if sl = 11 then JpFA B g8 g9 j m1 A M s0 s1 s2 s3 y0 y1 x vv s v W else JpFB g8 g9 j m1 A M s0 s1 s2 s3 y0 y1 x vv sl v
theorem JpFG.keep {B : Nat} {g8 g9 j m1 A M : Nat} {s0 s1 s2 s3 y0 y1 : Int} {x : F} {vv : F2} (s : Bool) (sl : Nat) (v : Value) (W W' : World) (h : JpFG B g8 g9 j m1 A M s0 s1 s2 s3 y0 y1 x vv s sl v W) (hb : Below W.heap.size W W') : JpFG B g8 g9 j m1 A M s0 s1 s2 s3 y0 y1 x vv s sl v W' := by
  unfold JpFG at *
  split
  · next c => rw [if_pos c] at h; obtain ⟨q, h0, h1, h2⟩ := h; exact ⟨q, h0, h1, h2.keep hb⟩
  · next c => rw [if_neg c] at h; exact h
set_option maxRecDepth 100000 in
set_option maxHeartbeats 8000000 in
theorem jfolded_is (M j A : Nat) (q : Quad) (y0 y1 : Int) (y vv : F2) (w : World) (hq : UsQ q) (hy : Rep y0 y1 y) (hj : j ≤ M) (hM : M ≤ 14) (hA : (A : Int) ≤ 9223372036854775807) (hv : foldV (toQ q.1) (toQ q.2) y (pointF ((M - j : Nat) : Int) (j : Int) (A : Int)) = vv) :
    Calls Tryz.prog 95 #[.int .i64 (M : Int), .int .i64 (j : Int), .int .i64 (A : Int), quadV q, .agg #[.int .u64 y0, .int .u64 y1]] w fun e w' => e = .returned (.agg #[.int .u64 (enc vv.a), .int .u64 (enc vv.b)]) ∧ Below w.heap.size w w' := by
  obtain ⟨n1, n2⟩ := w_sub M j hj (by omega)
  obtain ⟨x, hx⟩ : ∃ x, pointF ((M - j : Nat) : Int) (j : Int) (A : Int) = x := ⟨_, rfl⟩
  have hxne : x ≠ 0 := by rw [← hx, pointF_pt (M - j) (sub_le32 hM) (j : Int)]; exact pt_ne (shiftF_ne _) (M - j) (sub_le32 hM) _
  rw [hx] at hv
  have p1 := fun W => fpoint_is ((M - j : Nat) : Int) (j : Int) (A : Int) (enc x) hA (by rw [hx]) W
  have ra := rep_raw hq.1.1 hq.1.2
  have rb := rep_raw hq.2.1 hq.2.2
  have o1 := fun W => fone_is q.1.1 q.1.2 q.2.1 q.2.2 y0 y1 (enc x) (toQ q.1) (toQ q.2) y vv x true W ra rb hy (enc_U _) (toF_enc _) (by unfold oneRes; rw [if_neg hxne, hv])
  obtain ⟨m1, hm1⟩ : ∃ m, M - j = m := ⟨_, rfl⟩
  rw [hm1] at p1 n1 n2
  obtain ⟨⟨s0, s1⟩, ⟨s2, s3⟩⟩ := q
  simp only at o1
  clear hq hy hj hM hA hv hx hxne ra rb hm1
  go_enter Tryz.func95, Tryz.ntmps95
  go_upto_region 1 with fail
  obtain ⟨g8, hg8⟩ : ∃ g, w.heap.size = g := ⟨_, rfl⟩
  obtain ⟨g9, hg9⟩ : ∃ g, g8 + 1 = g := ⟨_, rfl⟩
  obtain ⟨gr, hgr⟩ : ∃ g, g9 + 1 = g := ⟨_, rfl⟩
  refine wp_gen (fun W => Below w.heap.size w W ∧ QuadC W g8 ((s0, s1), (s2, s3)) ∧ Duo W g9 (.int .u64 y0) (.int .u64 y1) ∧ Duo W gr (.int .u64 0) (.int .u64 0)) ⟨(((Below.refl _ _).alloc (Nat.le_refl _) _).alloc (by simp) _).alloc (by simp; omega) _, by rw [← hg8]; simp [QuadC, go_sem], by rw [← hg9, ← hg8]; simp [Duo, go_sem], by rw [← hgr, ← hg9, ← hg8]; simp [Duo, go_sem]⟩ ?_
  rintro wr ⟨hB, hQ, hY, hR⟩
  have HGR : Hid (w.heap.size ≤ gr) := Lib.hid (by omega)
  simp only [hg8, hg9, hgr]
  have HB := Lib.hid hB; have HR := Lib.hid hR
  obtain ⟨t0c, t1c, t2c, t3c⟩ := hQ
  obtain ⟨y0c, y1c, _, _⟩ := hY
  clear hB hR hg8 hg9 hgr
  refine wp_twow [(some 14, [], true), (some 15, [14], true), (some 16, [], true), (some 17, [16], true), (some 18, [], true), (some 19, [], true), (some 20, [], true), (some 21, [19, 20], true), (some 22, [], true), (some 23, [], true), (some 24, [21, 22, 23], true), (some 25, [15, 17, 18, 24], true), (some 13, [25], true), (some 26, [13], true), (some 27, [13], false), (some 11, [], true), (none, [11, 26], false)]
    16 (JpFG wr.heap.size g8 g9 j m1 A M s0 s1 s2 s3 y0 y1 x vv) (fun _ W => Below wr.heap.size wr W) (by kernel_rfl) (by kernel_rfl) (below_drewN (Below.refl _ _) 1) JpFG.keep ?_ ?_
  · refine opsv_one ?_ (opsv_one ?_ (opsv_one ?_ (opsv_one ?_ (opsv_one ?_ (opsv_one ?_ (opsv_one ?_ (opsv_one ?_ (opsv_one ?_ (opsv_one ?_ (opsv_one ?_ (opsv_one ?_ (opsv_one ?_ (opsv_one ?_ (opsv_one ?_ (opsv_one ?_ (opsv_st ?_ opsv_nil))))))))))))))))
    all_goals
      first | refine OpRunsV.any ?_ | refine StRunsV.any ?_
    · intro Q0 σ s W' KK hs1 hb hn hK
      simp only [fill, List.filterMap, Act.put, List.setIfInBounds_toArray, List.set_cons_zero, List.set_cons_succ] at hK ⊢
      clear hn
      have HH := Lib.hid hb
      clear hb
      go_simp
      exact hK _ _ rfl (Below.refl _ _) HH.out
    · intro Q0 σ s W' KK hs1 hb hn hK
      simp only [fill, List.filterMap, Act.put, List.setIfInBounds_toArray, List.set_cons_zero, List.set_cons_succ] at hK ⊢
      have h14 : σ 14 = _ := hn 14 (by decide)
      clear hn
      simp only [h14] at hK
      have t0c' := bkeep hb t0c
      have t1c' := bkeep hb t1c
      clear t0c t1c
      have HH := Lib.hid hb
      clear hb
      go_simp
      exact hK _ _ rfl (Below.refl _ _) HH.out
    · intro Q0 σ s W' KK hs1 hb hn hK
      simp only [fill, List.filterMap, Act.put, List.setIfInBounds_toArray, List.set_cons_zero, List.set_cons_succ] at hK ⊢
      clear hn
      have HH := Lib.hid hb
      clear hb
      go_simp
      exact hK _ _ rfl (Below.refl _ _) HH.out
    · intro Q0 σ s W' KK hs1 hb hn hK
      simp only [fill, List.filterMap, Act.put, List.setIfInBounds_toArray, List.set_cons_zero, List.set_cons_succ] at hK ⊢
      have h16 : σ 16 = _ := hn 16 (by decide)
      clear hn
      simp only [h16] at hK
      have t2c' := bkeep hb t2c
      have t3c' := bkeep hb t3c
      clear t2c t3c
      have HH := Lib.hid hb
      clear hb
      go_simp
      exact hK _ _ rfl (Below.refl _ _) HH.out
    · intro Q0 σ s W' KK hs1 hb hn hK
      simp only [fill, List.filterMap, Act.put, List.setIfInBounds_toArray, List.set_cons_zero, List.set_cons_succ] at hK ⊢
      clear hn
      have y0c' := bkeep hb y0c
      have y1c' := bkeep hb y1c
      clear y0c y1c
      have HH := Lib.hid hb
      clear hb
      go_simp
      exact hK _ _ rfl (Below.refl _ _) HH.out
    · intro Q0 σ s W' KK hs1 hb hn hK
      simp only [fill, List.filterMap, Act.put, List.setIfInBounds_toArray, List.set_cons_zero, List.set_cons_succ] at hK ⊢
      clear hn
      have HH := Lib.hid hb
      clear hb
      go_simp
      exact hK _ _ rfl (Below.refl _ _) HH.out
    · intro Q0 σ s W' KK hs1 hb hn hK
      simp only [fill, List.filterMap, Act.put, List.setIfInBounds_toArray, List.set_cons_zero, List.set_cons_succ] at hK ⊢
      clear hn
      have HH := Lib.hid hb
      clear hb
      go_simp
      exact hK _ _ rfl (Below.refl _ _) HH.out
    · intro Q0 σ s W' KK hs1 hb hn hK
      simp only [fill, List.filterMap, Act.put, List.setIfInBounds_toArray, List.set_cons_zero, List.set_cons_succ] at hK ⊢
      have h19 : σ 19 = _ := hn 19 (by decide)
      have h20 : σ 20 = _ := hn 20 (by decide)
      clear hn
      simp only [h19, h20] at hK
      have HH := Lib.hid hb
      clear hb
      go_simp
      exact hK _ _ rfl (Below.refl _ _) HH.out
    · intro Q0 σ s W' KK hs1 hb hn hK
      simp only [fill, List.filterMap, Act.put, List.setIfInBounds_toArray, List.set_cons_zero, List.set_cons_succ] at hK ⊢
      clear hn
      have HH := Lib.hid hb
      clear hb
      go_simp
      exact hK _ _ rfl (Below.refl _ _) HH.out
    · intro Q0 σ s W' KK hs1 hb hn hK
      simp only [fill, List.filterMap, Act.put, List.setIfInBounds_toArray, List.set_cons_zero, List.set_cons_succ] at hK ⊢
      clear hn
      have HH := Lib.hid hb
      clear hb
      go_simp
      exact hK _ _ rfl (Below.refl _ _) HH.out
    · intro Q0 σ s W' KK hs1 hb hn hK
      simp only [fill, List.filterMap, Act.put, List.setIfInBounds_toArray, List.set_cons_zero, List.set_cons_succ] at hK ⊢
      have h21 : σ 21 = _ := hn 21 (by decide)
      have h22 : σ 22 = _ := hn 22 (by decide)
      have h23 : σ 23 = _ := hn 23 (by decide)
      clear hn
      simp only [h21, h22, h23] at hK
      go_simp
      go_at_call 66
      refine (p1 _).mono ?_
      rintro e w1 ⟨rfl, hb1⟩
      exact hK _ _ rfl hb1 (bthen hb hb1)
    · intro Q0 σ s W' KK hs1 hb hn hK
      simp only [fill, List.filterMap, Act.put, List.setIfInBounds_toArray, List.set_cons_zero, List.set_cons_succ] at hK ⊢
      have h15 : σ 15 = _ := hn 15 (by decide)
      have h17 : σ 17 = _ := hn 17 (by decide)
      have h18 : σ 18 = _ := hn 18 (by decide)
      have h24 : σ 24 = _ := hn 24 (by decide)
      clear hn
      simp only [h15, h17, h18, h24] at hK
      go_simp
      go_at_call 119
      refine (o1 _).mono ?_
      rintro e w1 ⟨rfl, hb1⟩
      exact hK _ _ rfl hb1 (bthen hb hb1)
    · intro Q0 σ s W' KK hs1 hb hn hK
      simp only [fill, List.filterMap, Act.put, List.setIfInBounds_toArray, List.set_cons_zero, List.set_cons_succ] at hK ⊢
      have h25 : σ 25 = _ := hn 25 (by decide)
      clear hn
      simp only [h25] at hK
      have HH := Lib.hid hb
      clear hb
      go_simp
      exact hK _ _ rfl (Below.refl _ _) HH.out
    · intro Q0 σ s W' KK hs1 hb hn hK
      simp only [fill, List.filterMap, Act.put, List.setIfInBounds_toArray, List.set_cons_zero, List.set_cons_succ] at hK ⊢
      have h13 : σ 13 = _ := hn 13 (by decide)
      clear hn
      simp only [h13] at hK
      have HH := Lib.hid hb
      clear hb
      go_simp
      exact hK _ _ rfl (Below.refl _ _) HH.out
    · intro Q0 σ s W' KK hs1 hb hn hK
      simp only [fill, List.filterMap, Act.put, List.setIfInBounds_toArray, List.set_cons_zero, List.set_cons_succ] at hK ⊢
      have h13 : σ 13 = _ := hn 13 (by decide)
      clear hn
      simp only [h13] at hK
      have HH := Lib.hid hb
      clear hb
      go_simp
      exact hK _ _ rfl (Below.refl _ _) HH.out
    · intro Q0 σ s W' KK hs1 hb hn hK
      simp only [fill, List.filterMap, Act.put, List.setIfInBounds_toArray, List.set_cons_zero, List.set_cons_succ] at hK ⊢
      obtain rfl := hs1 rfl
      clear hn
      go_simp
      refine hK _ _ ?_ ((Below.refl _ _).alloc (Nat.le_refl _) _) (bthen hb ((Below.refl _ _).alloc (Nat.le_refl _) _))
      exact ⟨W'.heap.size, hb.size, rfl, by simp [Duo, go_sem]⟩
    · intro Q0 σ W' KK hb hn hK
      simp only [fill, List.filterMap, Act.put, List.setIfInBounds_toArray, List.set_cons_zero, List.set_cons_succ] at hK ⊢
      have hs26 : σ 26 = _ := hn 26 (by decide)
      obtain ⟨q, hq, eA, hV⟩ : JpFA wr.heap.size g8 g9 j m1 A M s0 s1 s2 s3 y0 y1 x vv false (σ 11) W' := hn 11 (by decide)
      clear hn
      have HKP : Hid (∀ (kk : Nat) (W'' : World), Duo W'' q (.int .u64 (enc vv.a)) (.int .u64 (enc vv.b)) → JpFG wr.heap.size g8 g9 j m1 A M s0 s1 s2 s3 y0 y1 x vv false kk (σ kk) W' → JpFG wr.heap.size g8 g9 j m1 A M s0 s1 s2 s3 y0 y1 x vv true kk (σ kk) W'') := Lib.hid fun kk W'' hD hk => by
          by_cases c : kk = 11
          · subst c; exact ⟨q, hq, eA, hD⟩
          · unfold JpFG at *; rw [if_neg c] at *; exact hk
      have HQ' := Lib.hid hq
      simp only [if_neg Bool.false_ne_true] at hV
      have HV := Lib.hid hV
      obtain ⟨v0, v1, f0, f1⟩ := hV
      clear hq
      simp only [hs26, eA] at hK
      go_simp
      exact hK undef ((W'.setCell ⟨q, 0, none⟩ (.int .u64 (enc vv.a))).setCell ⟨q, 1, none⟩ (.int .u64 (enc vv.b))) (fun kk e => by cases e) (fun kk hk => HKP.out kk _ (HV.out.set _ _) hk) ((hb.setCell HQ'.out _).setCell HQ'.out _)
  · intro σ W' hb hR'
    have h26 : σ 26 = .agg #[.int .u64 (enc vv.a), .int .u64 (enc vv.b)] := hR' 26 (by decide)
    have h27 : σ 27 = .bool true := hR' 27 (by decide)
    obtain ⟨g21, hg21, h21, hV21⟩ : JpFA wr.heap.size g8 g9 j m1 A M s0 s1 s2 s3 y0 y1 x vv true (σ 11) W' := hR' 11 (by decide)
    simp only [if_true] at hV21
    obtain ⟨r0, r1, f0, f1⟩ := HR.out.keep hb
    obtain ⟨v0, v1, _, _⟩ := hV21
    have HBE := Lib.hid (bthen HB.out hb)
    clear hR' hb hg21 t0c t1c t2c t3c y0c y1c p1 o1 HB HR n1 n2
    simp only [fill, List.filterMap, Act.put, List.setIfInBounds_toArray, List.set_cons_zero, List.set_cons_succ, List.length_cons, List.length_nil, List.drop_succ_cons, List.drop_zero, Nat.reduceAdd, h26, h27, h21]
    clear h26 h27 h21
    go_wp2_with fail
    exact bodyPost_ret (v := .agg #[.int .u64 (enc vv.a), .int .u64 (enc vv.b)]) (by simp [results, Tryz.results95, go_sem, r0, r1]) rfl ⟨rfl, (HBE.out.setCell HGR.out _).setCell HGR.out _⟩
theorem QuadN.put {W : World} {g : Nat} {q : Quad} (h : QuadN W g q) (a b c d : Int) : QuadN ((((W.setCell ⟨g, 0, none⟩ (.int .u64 a)).setCell ⟨g, 1, none⟩ (.int .u64 b)).setCell ⟨g, 2, none⟩ (.int .u64 c)).setCell ⟨g, 3, none⟩ (.int .u64 d)) g ((a, b), (c, d)) := by
  obtain ⟨⟨c0, c1, c2, c3⟩, f0, f1, f2, f3⟩ := h
  simp [QuadN, QuadC, go_sem, c0, c1, c2, c3, f0, f1, f2, f3]
theorem QuadN.far {W : World} {g g' : Nat} {q : Quad} (h : QuadN W g q) (hne : g' ≠ g) (o : Nat) (x : Value) : QuadN (W.setCell ⟨g', o, none⟩ x) g q := by
  obtain ⟨⟨c0, c1, c2, c3⟩, f0, f1, f2, f3⟩ := h
  exact ⟨⟨(World.cell?_setCell_far _ _ _ _ hne).trans c0, (World.cell?_setCell_far _ _ _ _ hne).trans c1, (World.cell?_setCell_far _ _ _ _ hne).trans c2, (World.cell?_setCell_far _ _ _ _ hne).trans c3⟩, by simp [f0], by simp [f1], by simp [f2], by simp [f3]⟩
def JpD (A X R : Nat) (z0 z1 z2 z3 : Int) (sl : Nat) (v : Value) : Prop :=
  match sl with
  | 45 => v = .agg #[.int .u64 z0, .int .u64 z1, .int .u64 z2, .int .u64 z3]
  | 46 => v = .int .i64 (A : Int)
  | 47 => v = .int .i64 (X : Int)
  | _ => v = .int .i64 (R : Int)
def JpDW (w : World) (g9 g14 : Nat) (q1 q2 : Quad) (s : Bool) (W : World) : Prop := Below w.heap.size w W ∧ QuadN W g9 (if s then q2 else q1) ∧ QuadN W g14 q2
def JdRel (w : World) (M O PL : Nat) (bys : QL) (first : Quad) (layers : List Quad) (fin : QL) (g ln : Nat) (v i : Value) (W : World) : Prop :=
  ∃ j : Nat, j ≤ ln ∧ i = .int .i64 (j : Int) ∧ v = .int .i64 (jAt M PL j : Int) ∧ Below w.heap.size w W ∧ QuadN W g (jTwo first layers j) ∧ jAll M O PL bys first layers fin j = true
set_option maxRecDepth 100000 in
set_option maxHeartbeats 8000000 in
theorem jdown_is (M O PL : Nat) (a : Option Addr) (n c : Nat) (bys : QL) (first : Quad) (la : Option Addr) (ln lc : Nat) (layers : List Quad) (fa : Option Addr) (fn fc : Nat) (fin : QL) (r : Bool) (w : World) (hby : QRowA w a n bys) (hbu : ∀ n ∈ bys, U n.1 ∧ U n.2) (hq : UsQ first) (hly : QuadsA w la ln layers) (hlu : ∀ q ∈ layers, UsQ q) (hf : QRowA w fa fn fin) (hfu : ∀ n ∈ fin, U n.1 ∧ U n.2)
    (hO0 : 0 < O) (hOM : O < M) (hM14 : M ≤ 14) (hnO : n = O) (hPL : PL < 2 ^ (M - 1)) (hln : ln = O - 1) (hfn : fn ≤ 4294967296) (hr : jAll M O PL bys first layers fin O = r) :
    Calls Tryz.prog 56 #[.int .i64 (M : Int), .slice a n c, .int .i64 (PL : Int), quadV first, .slice la ln lc, .slice fa fn fc] w fun e w' => e = .returned (.bool r) ∧ Below w.heap.size w w' := by
  have HN := Lib.hid (And.intro hO0 (And.intro hOM hM14))
  have HLN := Lib.hid hln; have HBN := Lib.hid hnO
  have HBY := Lib.hid hby; have HBU := Lib.hid hbu; have HLY := Lib.hid hly; have HLU := Lib.hid hlu; have HF := Lib.hid hf; have HFU := Lib.hid hfu; have HFN := Lib.hid hfn; have HR := Lib.hid hr; have HQU := Lib.hid hq
  have HAT0 := Lib.hid (jAt_zero hPL)
  have hlm := hly.2.1
  unfold maxLen at hlm
  have HLM := Lib.hid hlm
  obtain ⟨⟨q0, q1⟩, ⟨q2, q3⟩⟩ := first
  clear hr hfn hO0 hOM hM14 hnO hPL hln hby hbu hly hlu hf hfu hq hlm
  go_enter Tryz.func56, Tryz.ntmps56
  go_upto_region 1 with fail
  refine wp_gen (fun W => Below w.heap.size w W ∧ QuadN W w.heap.size ((q0, q1), (q2, q3))) ⟨(Below.refl _ _).alloc (Nat.le_refl _) _, by simp [QuadN, QuadC, go_sem]⟩ ?_
  obtain ⟨g9, hg9⟩ : ∃ g, w.heap.size = g := ⟨_, rfl⟩
  simp only [hg9]
  rintro w0 ⟨hB0, hN0⟩
  have HB0 := Lib.hid hB0; have HN0 := Lib.hid hN0
  have HG : Hid (w.heap.size ≤ g9) := Lib.hid (Nat.le_of_eq hg9)
  clear hB0 hN0
  go_upto_region 2 with fail
  go_loopw [2, 19] (JdRel w M O PL bys ((q0, q1), (q2, q3)) layers fin g9 ln) (fun _ i _ => ln - (intOf i).toNat)
  case atStart => exact ⟨0, Nat.zero_le _, rfl, by rw [HAT0.out], by rw [hg9]; exact HB0.out, HN0.out, rfl⟩
  case round =>
    clear HB0 HN0 HAT0 hg9
    obtain ⟨j, hj, rfl, rfl, hB, hN, hall⟩ := hrel
    obtain ⟨hO0, hOM, hM14⟩ := HN.out
    have hjO : j < O := by have := HLN.out; omega
    have hA := jAt_lt M PL j
    have hjM : j ≤ M := by omega
    have hAi := jAt_int PL hM14 (j := j)
    obtain ⟨bb, bo, hae, y0c, y1c⟩ := (HBY.out.keep hB).2.2 j (by rw [HBN.out]; exact hjO)
    subst hae
    have hjn : (j : Int) < (n : Int) := by rw [HBN.out]; exact Int.ofNat_lt.2 hjO
    have ry := qAt_rep HBU.out (show j < bys.length by rw [HBY.out.1, HBN.out]; exact hjO)
    have hUT := jTwo_U HQU.out HLU.out j
    have hNN := jfN hjO hOM hM14
    obtain ⟨vv, hv⟩ : ∃ v, jV M PL bys ((q0, q1), (q2, q3)) layers j = v := ⟨_, rfl⟩
    have HV := Lib.hid hv
    obtain ⟨TW, hTW⟩ : ∃ T, jTwo ((q0, q1), (q2, q3)) layers j = T := ⟨_, rfl⟩
    rw [hTW] at hN hUT
    have hv2 : foldV (toQ TW.1) (toQ TW.2) (qAt bys j) (pointF ((M - j : Nat) : Int) (j : Int) (jAt M PL j : Int)) = vv := by rw [← hTW]; exact hv
    have k0 := fun W => jfolded_is M j (jAt M PL j) TW _ _ (qAt bys j) vv W hUT ry hjM hM14 hAi hv2
    have hj0 : (0 : Int) ≤ (j : Int) := Int.natCast_nonneg j
    have HB := Lib.hid hB; have HNT := Lib.hid hN; have HALL := Lib.hid hall; have HJ2 := Lib.hid hjO; have HA := Lib.hid hA; have HAI := Lib.hid hAi; have HNN := Lib.hid hNN
    obtain ⟨A, hAe⟩ : ∃ A, jAt M PL j = A := ⟨_, rfl⟩
    have HAE := Lib.hid hAe
    rw [hAe] at k0
    rw [hAe]
    obtain ⟨⟨s0, s1⟩, ⟨s2, s3⟩⟩ := TW
    generalize (bys.getD j (0, 0)).1 = y0 at *
    generalize (bys.getD j (0, 0)).2 = y1 at *
    simp only [quadV] at k0
    by_cases hlt : j < ln
    · have HJL := Lib.hid (show j + 1 ≤ ln from hlt)
      have hMj : j + 2 ≤ M := by have := HLN.out; omega
      have hlast : ¬ j + 1 = O := by have := HLN.out; omega
      have hnx := jAt_next M PL j hMj
      rw [hAe] at hA hnx
      obtain ⟨h1, h2, h3, h4, h5, h6, h7, h8, h9, ⟨h10, h11⟩, ⟨h12, h13⟩⟩ := jfH hMj hM14 hA
      have hw : jWant M O PL layers fin j = jSel (layers.getD j zeroQ) (A / 2 ^ (M - j - 2)) := by
        unfold jWant
        rw [if_neg hlast, hAe]
      obtain ⟨n1, n2, _, _, _, _, _, _⟩ := hNN
      obtain ⟨m1, hm1⟩ : ∃ m, M - j = m := ⟨_, rfl⟩
      rw [hm1] at n1 n2 h1 h2 h3 h4 h5 h6 h7 h8 h9 h10 h11 h12 h13 hnx hw
      obtain ⟨m3, hm3⟩ : ∃ m, m1 - 2 = m := ⟨_, rfl⟩
      obtain ⟨X, hX⟩ : ∃ X, 2 ^ m3 = X := ⟨_, rfl⟩
      rw [hm3] at h1 h2 h3 h4 h5 h6 h7 h8 h9 h10 h11 h12 h13 hnx hw
      rw [hX] at h5 h6 h7 h8 h9 h10 h11 h12 h13 hnx hw
      obtain ⟨S, hS⟩ : ∃ S, A / X = S := ⟨_, rfl⟩
      obtain ⟨R, hR⟩ : ∃ R, A % X = R := ⟨_, rfl⟩
      rw [hS] at h7 h9 h10 h11 hw
      rw [hR] at h8 h12 h13 hnx
      have HNX := Lib.hid hnx; have HW := Lib.hid hw; have HS := Lib.hid h9
      have HDIV := Lib.hid (And.intro h7 (And.intro h10 h11)); have HMOD := Lib.hid (And.intro h8 (And.intro h12 h13))
      have HNZ := Lib.hid h6
      obtain ⟨lb, lo, hle, l0c, l1c, l2c, l3c⟩ := (HLY.out.keep HB.out).2.2 j hlt
      subst hle
      have hu4 := (HLU.out (layers.getD j zeroQ) (by
        rw [show layers.getD j zeroQ = layers[j]'(by rw [HLY.out.1]; exact hlt) by simp [List.getD, show j < layers.length by rw [HLY.out.1]; exact hlt]]
        exact List.getElem_mem _))
      have hTJ : jTwo ((q0, q1), (q2, q3)) layers (j + 1) = layers.getD j zeroQ := by
        unfold jTwo
        rw [if_neg (Nat.succ_ne_zero j)]
        rfl
      have hjlI : (j : Int) < (ln : Int) := Int.ofNat_lt.2 hlt
      generalize layers.getD j zeroQ = L at *
      obtain ⟨⟨z0, z1⟩, ⟨z2, z3⟩⟩ := L
      simp only at l0c l1c l2c l3c
      have HU4 := Lib.hid hu4; have HTJ := Lib.hid hTJ; have HJN := Lib.hid hjn
      clear hB hN hall hjO hA hO0 hOM hM14 ry hUT hv hv2 hTW hAe hAi hjM hj hMj hnx h7 h8 h9 h10 h11 h12 h13 hw hm1 hm3 hX hS hR hu4 hTJ hlast hlt hjn
      have HY0 := Lib.hid y0c; have HY1 := Lib.hid y1c
      have hbl := HB.out.size
      clear y0c y1c
      go_upto_region 4 with fail
      obtain ⟨g14, hg14⟩ : ∃ g, wr.heap.size = g := ⟨_, rfl⟩
      have HNE9 : Hid (g9 ≠ g14) := Lib.hid (by rw [← hg14]; exact Nat.ne_of_lt (World.block_lt_of_cell? wr _ HNT.out.1.1))
      simp only [hg14]
      refine wp_gen (fun W => Below wr.heap.size wr W ∧ QuadN W g14 ((z0, z1), (z2, z3))) ⟨?_, ?_⟩ ?_
      · have hgl : wr.heap.size ≤ g14 := Nat.le_of_eq hg14
        exact Below.alloc (Below.refl _ _) (Nat.le_refl _) _
      · rw [← hg14]; simp [QuadN, QuadC, go_sem]
      rintro w5 ⟨hb4, hE4⟩
      have HN5 := Lib.hid (HNT.out.keep hb4); have HB5 := Lib.hid (bthen HB.out hb4); have HE5 := Lib.hid hE4
      have y0c := bkeep hb4 HY0.out; have y1c := bkeep hb4 HY1.out
      clear l0c l1c l2c l3c hb4 hE4 HNT HB HY0 HY1 hg14 hbl hjlI
      go_upto_region 5 with fail
      simp only [h5]
      clear h1 h2 h3 h4 h5 n1 n2
      obtain ⟨⟨t0c, t1c, t2c, t3c⟩, _, _, _, _⟩ := HN5.out
      obtain ⟨⟨e0c, e1c, e2c, e3c⟩, _, _, _, _⟩ := HE5.out
      have k1 := fun W (h : Below w5.heap.size w5 W) => k0 W
      have hjn := HJN.out
      clear k0
      rcases HS.out with hs | hs
      · subst hs
        obtain ⟨sel, hsel⟩ : ∃ z, jSel ((z0, z1), (z2, z3)) 0 = z := ⟨_, rfl⟩
        have hrep : Rep z0 z1 sel := by rw [← hsel]; exact rep_raw HU4.out.1.1 HU4.out.1.2
        obtain ⟨r2, hr2⟩ : ∃ b, decide (vv = sel) = b := ⟨_, rfl⟩
        have k2 := fun W (h : Below w5.heap.size w5 W) => jsame_is (enc vv.a) (enc vv.b) _ _ vv sel r2 W (rep_enc vv) hrep hr2
        have HOK : Hid (jOk M O PL bys ((q0, q1), (q2, q3)) layers fin j = r2) := Lib.hid (by unfold jOk; rw [HV.out, HW.out, hsel]; exact hr2)
        have hd : (A : Int).tdiv (X : Int) = 0 := HDIV.out.1
        have hnz := HNZ.out
        clear hr2 hsel hrep
        cases r2
        · have hrf : r = false := by
            cases hr' : r
            · rfl
            · exfalso
              have := jAll_at (HR.out.trans hr') (Nat.lt_of_lt_of_le HJ2.out (Nat.le_refl _))
              rw [HOK.out] at this
              cases this
          subst hrf
          replace t0c := fun q : Regrown => cell_regrown t0c q.d q.os
          replace t1c := fun q : Regrown => cell_regrown t1c q.d q.os
          replace t2c := fun q : Regrown => cell_regrown t2c q.d q.os
          replace t3c := fun q : Regrown => cell_regrown t3c q.d q.os
          replace e0c := fun q : Regrown => cell_regrown e0c q.d q.os
          replace e1c := fun q : Regrown => cell_regrown e1c q.d q.os
          replace e2c := fun q : Regrown => cell_regrown e2c q.d q.os
          replace e3c := fun q : Regrown => cell_regrown e3c q.d q.os
          replace y0c := fun q : Regrown => cell_regrown y0c q.d q.os
          replace y1c := fun q : Regrown => cell_regrown y1c q.d q.os
          refine wp_region_quiet_below (by kernel_rfl) (by kernel_rfl) ?_
          repeat (first | go_big_quiet_step (first
            | (go_at_call 95; with_reducible exact Calls.regrown_of (k1 _ (below_regrown w5 _ _)))
            | (go_at_call 94; with_reducible exact Calls.regrown_of (k2 _ (below_regrown w5 _ _)))) | quiet_step (fail))
          refine wpQuiet_nil ?_
          rintro _ ⟨pq, rfl⟩
          have hb5 := below_regrown w5 pq.d pq.os
          have HBE := Lib.hid (bthen HB5.out hb5)
          have HNE := Lib.hid (HN5.out.keep hb5); have HE5' := Lib.hid (HE5.out.keep hb5)
          clear t0c t1c t2c t3c e0c e1c e2c e3c y0c y1c k1 k2 hd hb5
          refine exit_gen (fun W => Below w.heap.size w W ∧ QuadN W g9 ((s0, s1), (s2, s3)) ∧ QuadN W g14 ((z0, z1), (z2, z3))) ⟨HBE.out, HNE.out, HE5'.out⟩ ?_
          rintro w6 ⟨hB6, hN6, hE6⟩
          have HBE := Lib.hid hB6; have HNE := Lib.hid hN6; have HE5' := Lib.hid hE6
          clear hB6 hN6 hE6
          clear hnz
          go_wp2_with fail
          go_ret
          exact ⟨rfl, HBE.out⟩
        · replace t0c := fun q : Regrown => cell_regrown t0c q.d q.os
          replace t1c := fun q : Regrown => cell_regrown t1c q.d q.os
          replace t2c := fun q : Regrown => cell_regrown t2c q.d q.os
          replace t3c := fun q : Regrown => cell_regrown t3c q.d q.os
          replace e0c := fun q : Regrown => cell_regrown e0c q.d q.os
          replace e1c := fun q : Regrown => cell_regrown e1c q.d q.os
          replace e2c := fun q : Regrown => cell_regrown e2c q.d q.os
          replace e3c := fun q : Regrown => cell_regrown e3c q.d q.os
          replace y0c := fun q : Regrown => cell_regrown y0c q.d q.os
          replace y1c := fun q : Regrown => cell_regrown y1c q.d q.os
          refine wp_region_quiet_below (by kernel_rfl) (by kernel_rfl) ?_
          repeat (first | go_big_quiet_step (first
            | (go_at_call 95; with_reducible exact Calls.regrown_of (k1 _ (below_regrown w5 _ _)))
            | (go_at_call 94; with_reducible exact Calls.regrown_of (k2 _ (below_regrown w5 _ _)))) | quiet_step (fail))
          refine wpQuiet_nil ?_
          rintro _ ⟨pq, rfl⟩
          have hb5 := below_regrown w5 pq.d pq.os
          have HBE := Lib.hid (bthen HB5.out hb5)
          have HNE := Lib.hid (HN5.out.keep hb5); have HE5' := Lib.hid (HE5.out.keep hb5)
          clear t0c t1c t2c t3c e0c e1c e2c e3c y0c y1c k1 k2 hd hb5
          refine exit_gen (fun W => Below w.heap.size w W ∧ QuadN W g9 ((s0, s1), (s2, s3)) ∧ QuadN W g14 ((z0, z1), (z2, z3))) ⟨HBE.out, HNE.out, HE5'.out⟩ ?_
          rintro w6 ⟨hB6, hN6, hE6⟩
          have HBE := Lib.hid hB6; have HNE := Lib.hid hN6; have HE5' := Lib.hid hE6
          clear hB6 hN6 hE6
          obtain ⟨hm, hmw1, hmw2⟩ := HMOD.out
          obtain ⟨e0c, e1c, e2c, e3c⟩ := HE5'.out.1
          clear hj0
          go_upto_region 7 with fail
          refine wp_two [(some 45, [], true), (some 46, [], false), (some 47, [], false), (some 48, [46, 47], false), (none, [45], false)]
            4 (JpD A X R z0 z1 z2 z3) (JpDW w g9 g14 ((s0, s1), (s2, s3)) ((z0, z1), (z2, z3))) (by kernel_rfl) (by kernel_rfl) ⟨HBE.out.drew, (HNE.out.keep ((Below.refl _ _).drew)), (HE5'.out.keep ((Below.refl _ _).drew))⟩ ?_ ?_
          · refine ops2_one ?_ (ops2_one ?_ (ops2_one ?_ (ops2_one ?_ (ops2_st ?_ ops2_nil))))
            all_goals
              first | refine OpRuns1.any ?_ | refine StRuns.any ?_
            · intro Q0 σ s W K hs1 hW hn hK
              simp only [fill, List.filterMap, Act.put, List.setIfInBounds_toArray, List.set_cons_zero, List.set_cons_succ] at hK ⊢
              obtain rfl := hs1 rfl
              clear hn
              obtain ⟨hWB, hW9, hW14⟩ := hW
              have HWB := Lib.hid hWB; have H9 := Lib.hid hW9; have H14 := Lib.hid hW14
              obtain ⟨⟨e0c, e1c, e2c, e3c⟩, _, _, _, _⟩ := hW14
              clear hWB hW9 hm hmw1 hmw2 hnz
              go_simp
              exact hK _ _ rfl ⟨HWB.out, H9.out, H14.out⟩
            · intro Q0 σ s W K hs1 hW hn hK
              simp only [fill, List.filterMap, Act.put, List.setIfInBounds_toArray, List.set_cons_zero, List.set_cons_succ] at hK ⊢
              clear hn
              have HW := Lib.hid hW
              clear hW
              go_simp
              exact hK _ _ rfl HW.out
            · intro Q0 σ s W K hs1 hW hn hK
              simp only [fill, List.filterMap, Act.put, List.setIfInBounds_toArray, List.set_cons_zero, List.set_cons_succ] at hK ⊢
              clear hn
              have HW := Lib.hid hW
              clear hW
              go_simp
              exact hK _ _ rfl HW.out
            · intro Q0 σ s W K hs1 hW hn hK
              simp only [fill, List.filterMap, Act.put, List.setIfInBounds_toArray, List.set_cons_zero, List.set_cons_succ] at hK ⊢
              have h46 : σ 46 = _ := hn 46 (by decide)
              have h47 : σ 47 = _ := hn 47 (by decide)
              clear hn
              simp only [h46, h47] at hK
              have HW := Lib.hid hW
              have hx0 : ¬ X = 0 := fun e => hnz (by rw [e]; rfl)
              clear hW
              go_simp
              exact hK _ _ rfl HW.out
            · intro Q0 σ W K hW hn hK
              simp only [fill, List.filterMap, Act.put, List.setIfInBounds_toArray, List.set_cons_zero, List.set_cons_succ] at hK ⊢
              have h45 : σ 45 = _ := hn 45 (by decide)
              clear hn
              simp only [h45] at hK
              obtain ⟨hWB, hW9, hW14⟩ := hW
              simp only [if_neg Bool.false_ne_true] at hW9
              have H9 := Lib.hid hW9; have H14 := Lib.hid hW14; have HWB := Lib.hid hWB
              obtain ⟨⟨t0c, t1c, t2c, t3c⟩, f0c, f1c, f2c, f3c⟩ := hW9
              clear hWB hW14 hm hmw1 hmw2 hnz
              go_simp
              exact hK undef ((((W.setCell ⟨g9, 0, none⟩ (.int .u64 z0)).setCell ⟨g9, 1, none⟩ (.int .u64 z1)).setCell ⟨g9, 2, none⟩ (.int .u64 z2)).setCell ⟨g9, 3, none⟩ (.int .u64 z3)) (fun k e => by cases e) ⟨(((HWB.out.setCell HG.out _).setCell HG.out _).setCell HG.out _).setCell HG.out _, by rw [if_pos rfl]; exact H9.out.put _ _ _ _, (((H14.out.far HNE9.out _ _).far HNE9.out _ _).far HNE9.out _ _).far HNE9.out _ _⟩
          intro σ W' hW' hR'
          have h48 : σ 48 = _ := hR' 48 (by decide)
          obtain ⟨hB8, hN8, _⟩ := hW'
          simp only [if_true] at hN8
          have HB8 := Lib.hid hB8; have HN8 := Lib.hid hN8
          clear hR' hB8 hN8 hm hmw1 hmw2 hnz
          simp only [fill, List.filterMap, Act.put, List.setIfInBounds_toArray, List.set_cons_zero, List.set_cons_succ, List.length_cons, List.length_nil, List.drop_succ_cons, List.drop_zero, Nat.reduceAdd, h48]
          clear h48
          go_wp2_with fail
          go_roundw
          case rel => exact ⟨j + 1, HJL.out, by go_num, by rw [← HNX.out], HB8.out, by rw [HTJ.out]; exact HN8.out, by rw [jAll, HALL.out, HOK.out]; rfl⟩
          case measure =>
            have := HJL.out
            simp [intOf]
            omega
      · subst hs
        obtain ⟨sel, hsel⟩ : ∃ z, jSel ((z0, z1), (z2, z3)) 1 = z := ⟨_, rfl⟩
        have hrep : Rep z2 z3 sel := by rw [← hsel]; exact rep_raw HU4.out.2.1 HU4.out.2.2
        obtain ⟨r2, hr2⟩ : ∃ b, decide (vv = sel) = b := ⟨_, rfl⟩
        have k2 := fun W (h : Below w5.heap.size w5 W) => jsame_is (enc vv.a) (enc vv.b) _ _ vv sel r2 W (rep_enc vv) hrep hr2
        have HOK : Hid (jOk M O PL bys ((q0, q1), (q2, q3)) layers fin j = r2) := Lib.hid (by unfold jOk; rw [HV.out, HW.out, hsel]; exact hr2)
        have hd : (A : Int).tdiv (X : Int) = 1 := HDIV.out.1
        have hnz := HNZ.out
        clear hr2 hsel hrep
        cases r2
        · have hrf : r = false := by
            cases hr' : r
            · rfl
            · exfalso
              have := jAll_at (HR.out.trans hr') (Nat.lt_of_lt_of_le HJ2.out (Nat.le_refl _))
              rw [HOK.out] at this
              cases this
          subst hrf
          replace t0c := fun q : Regrown => cell_regrown t0c q.d q.os
          replace t1c := fun q : Regrown => cell_regrown t1c q.d q.os
          replace t2c := fun q : Regrown => cell_regrown t2c q.d q.os
          replace t3c := fun q : Regrown => cell_regrown t3c q.d q.os
          replace e0c := fun q : Regrown => cell_regrown e0c q.d q.os
          replace e1c := fun q : Regrown => cell_regrown e1c q.d q.os
          replace e2c := fun q : Regrown => cell_regrown e2c q.d q.os
          replace e3c := fun q : Regrown => cell_regrown e3c q.d q.os
          replace y0c := fun q : Regrown => cell_regrown y0c q.d q.os
          replace y1c := fun q : Regrown => cell_regrown y1c q.d q.os
          refine wp_region_quiet_below (by kernel_rfl) (by kernel_rfl) ?_
          repeat (first | go_big_quiet_step (first
            | (go_at_call 95; with_reducible exact Calls.regrown_of (k1 _ (below_regrown w5 _ _)))
            | (go_at_call 94; with_reducible exact Calls.regrown_of (k2 _ (below_regrown w5 _ _)))) | quiet_step (fail))
          refine wpQuiet_nil ?_
          rintro _ ⟨pq, rfl⟩
          have hb5 := below_regrown w5 pq.d pq.os
          have HBE := Lib.hid (bthen HB5.out hb5)
          have HNE := Lib.hid (HN5.out.keep hb5); have HE5' := Lib.hid (HE5.out.keep hb5)
          clear t0c t1c t2c t3c e0c e1c e2c e3c y0c y1c k1 k2 hd hb5
          refine exit_gen (fun W => Below w.heap.size w W ∧ QuadN W g9 ((s0, s1), (s2, s3)) ∧ QuadN W g14 ((z0, z1), (z2, z3))) ⟨HBE.out, HNE.out, HE5'.out⟩ ?_
          rintro w6 ⟨hB6, hN6, hE6⟩
          have HBE := Lib.hid hB6; have HNE := Lib.hid hN6; have HE5' := Lib.hid hE6
          clear hB6 hN6 hE6
          clear hnz
          go_wp2_with fail
          go_ret
          exact ⟨rfl, HBE.out⟩
        · replace t0c := fun q : Regrown => cell_regrown t0c q.d q.os
          replace t1c := fun q : Regrown => cell_regrown t1c q.d q.os
          replace t2c := fun q : Regrown => cell_regrown t2c q.d q.os
          replace t3c := fun q : Regrown => cell_regrown t3c q.d q.os
          replace e0c := fun q : Regrown => cell_regrown e0c q.d q.os
          replace e1c := fun q : Regrown => cell_regrown e1c q.d q.os
          replace e2c := fun q : Regrown => cell_regrown e2c q.d q.os
          replace e3c := fun q : Regrown => cell_regrown e3c q.d q.os
          replace y0c := fun q : Regrown => cell_regrown y0c q.d q.os
          replace y1c := fun q : Regrown => cell_regrown y1c q.d q.os
          refine wp_region_quiet_below (by kernel_rfl) (by kernel_rfl) ?_
          repeat (first | go_big_quiet_step (first
            | (go_at_call 95; with_reducible exact Calls.regrown_of (k1 _ (below_regrown w5 _ _)))
            | (go_at_call 94; with_reducible exact Calls.regrown_of (k2 _ (below_regrown w5 _ _)))) | quiet_step (fail))
          refine wpQuiet_nil ?_
          rintro _ ⟨pq, rfl⟩
          have hb5 := below_regrown w5 pq.d pq.os
          have HBE := Lib.hid (bthen HB5.out hb5)
          have HNE := Lib.hid (HN5.out.keep hb5); have HE5' := Lib.hid (HE5.out.keep hb5)
          clear t0c t1c t2c t3c e0c e1c e2c e3c y0c y1c k1 k2 hd hb5
          refine exit_gen (fun W => Below w.heap.size w W ∧ QuadN W g9 ((s0, s1), (s2, s3)) ∧ QuadN W g14 ((z0, z1), (z2, z3))) ⟨HBE.out, HNE.out, HE5'.out⟩ ?_
          rintro w6 ⟨hB6, hN6, hE6⟩
          have HBE := Lib.hid hB6; have HNE := Lib.hid hN6; have HE5' := Lib.hid hE6
          clear hB6 hN6 hE6
          obtain ⟨hm, hmw1, hmw2⟩ := HMOD.out
          obtain ⟨e0c, e1c, e2c, e3c⟩ := HE5'.out.1
          clear hj0
          go_upto_region 7 with fail
          refine wp_two [(some 45, [], true), (some 46, [], false), (some 47, [], false), (some 48, [46, 47], false), (none, [45], false)]
            4 (JpD A X R z0 z1 z2 z3) (JpDW w g9 g14 ((s0, s1), (s2, s3)) ((z0, z1), (z2, z3))) (by kernel_rfl) (by kernel_rfl) ⟨HBE.out.drew, (HNE.out.keep ((Below.refl _ _).drew)), (HE5'.out.keep ((Below.refl _ _).drew))⟩ ?_ ?_
          · refine ops2_one ?_ (ops2_one ?_ (ops2_one ?_ (ops2_one ?_ (ops2_st ?_ ops2_nil))))
            all_goals
              first | refine OpRuns1.any ?_ | refine StRuns.any ?_
            · intro Q0 σ s W K hs1 hW hn hK
              simp only [fill, List.filterMap, Act.put, List.setIfInBounds_toArray, List.set_cons_zero, List.set_cons_succ] at hK ⊢
              obtain rfl := hs1 rfl
              clear hn
              obtain ⟨hWB, hW9, hW14⟩ := hW
              have HWB := Lib.hid hWB; have H9 := Lib.hid hW9; have H14 := Lib.hid hW14
              obtain ⟨⟨e0c, e1c, e2c, e3c⟩, _, _, _, _⟩ := hW14
              clear hWB hW9 hm hmw1 hmw2 hnz
              go_simp
              exact hK _ _ rfl ⟨HWB.out, H9.out, H14.out⟩
            · intro Q0 σ s W K hs1 hW hn hK
              simp only [fill, List.filterMap, Act.put, List.setIfInBounds_toArray, List.set_cons_zero, List.set_cons_succ] at hK ⊢
              clear hn
              have HW := Lib.hid hW
              clear hW
              go_simp
              exact hK _ _ rfl HW.out
            · intro Q0 σ s W K hs1 hW hn hK
              simp only [fill, List.filterMap, Act.put, List.setIfInBounds_toArray, List.set_cons_zero, List.set_cons_succ] at hK ⊢
              clear hn
              have HW := Lib.hid hW
              clear hW
              go_simp
              exact hK _ _ rfl HW.out
            · intro Q0 σ s W K hs1 hW hn hK
              simp only [fill, List.filterMap, Act.put, List.setIfInBounds_toArray, List.set_cons_zero, List.set_cons_succ] at hK ⊢
              have h46 : σ 46 = _ := hn 46 (by decide)
              have h47 : σ 47 = _ := hn 47 (by decide)
              clear hn
              simp only [h46, h47] at hK
              have HW := Lib.hid hW
              have hx0 : ¬ X = 0 := fun e => hnz (by rw [e]; rfl)
              clear hW
              go_simp
              exact hK _ _ rfl HW.out
            · intro Q0 σ W K hW hn hK
              simp only [fill, List.filterMap, Act.put, List.setIfInBounds_toArray, List.set_cons_zero, List.set_cons_succ] at hK ⊢
              have h45 : σ 45 = _ := hn 45 (by decide)
              clear hn
              simp only [h45] at hK
              obtain ⟨hWB, hW9, hW14⟩ := hW
              simp only [if_neg Bool.false_ne_true] at hW9
              have H9 := Lib.hid hW9; have H14 := Lib.hid hW14; have HWB := Lib.hid hWB
              obtain ⟨⟨t0c, t1c, t2c, t3c⟩, f0c, f1c, f2c, f3c⟩ := hW9
              clear hWB hW14 hm hmw1 hmw2 hnz
              go_simp
              exact hK undef ((((W.setCell ⟨g9, 0, none⟩ (.int .u64 z0)).setCell ⟨g9, 1, none⟩ (.int .u64 z1)).setCell ⟨g9, 2, none⟩ (.int .u64 z2)).setCell ⟨g9, 3, none⟩ (.int .u64 z3)) (fun k e => by cases e) ⟨(((HWB.out.setCell HG.out _).setCell HG.out _).setCell HG.out _).setCell HG.out _, by rw [if_pos rfl]; exact H9.out.put _ _ _ _, (((H14.out.far HNE9.out _ _).far HNE9.out _ _).far HNE9.out _ _).far HNE9.out _ _⟩
          intro σ W' hW' hR'
          have h48 : σ 48 = _ := hR' 48 (by decide)
          obtain ⟨hB8, hN8, _⟩ := hW'
          simp only [if_true] at hN8
          have HB8 := Lib.hid hB8; have HN8 := Lib.hid hN8
          clear hR' hB8 hN8 hm hmw1 hmw2 hnz
          simp only [fill, List.filterMap, Act.put, List.setIfInBounds_toArray, List.set_cons_zero, List.set_cons_succ, List.length_cons, List.length_nil, List.drop_succ_cons, List.drop_zero, Nat.reduceAdd, h48]
          clear h48
          go_wp2_with fail
          go_roundw
          case rel => exact ⟨j + 1, HJL.out, by go_num, by rw [← HNX.out], HB8.out, by rw [HTJ.out]; exact HN8.out, by rw [jAll, HALL.out, HOK.out]; rfl⟩
          case measure =>
            have := HJL.out
            simp [intOf]
            omega
    · obtain rfl : j = ln := by omega
      have hlt0 : ¬ (j : Int) < (j : Int) := by omega
      have ho : j + 1 = O := by have := HLN.out; omega
      obtain ⟨m1, hm1⟩ : ∃ m, M - j = m := ⟨_, rfl⟩
      obtain ⟨m2, hm2⟩ : ∃ m, M - j - 1 = m := ⟨_, rfl⟩
      obtain ⟨n1, n2, n3, n4, _, _, _, _⟩ := hNN
      rw [hm2] at n3 n4
      rw [hm1] at n1 n2 n3 n4
      have hr2 : decide (finAt fin (pointF (m2 : Int) ((j : Int) + 1) (A : Int)) = vv) = r := by
        have h1 := HR.out
        have h2 := hall
        rw [← ho] at h1 h2
        rw [jAll, h2, Bool.true_and] at h1
        rw [← h1]
        unfold jOk jWant
        rw [hv, if_pos rfl, hAe, hm2]
        rw [show ((j + 1 : Nat) : Int) = (j : Int) + 1 from rfl]
        exact decide_eq_decide.2 eq_comm
      have HF1 := Lib.hid (HF.out.keep hB)
      obtain ⟨⟨t0c, t1c, t2c, t3c⟩, _, _, _, _⟩ := hN
      have k1 := fun W (h : Below wr.heap.size wr W) => k0 W
      have k2 := fun W (h : Below wr.heap.size wr W) => jends_is (m2 : Int) ((j : Int) + 1) (A : Int) (enc vv.a) (enc vv.b) vv fa fn fc fin r W (by rw [← hAe]; exact hAi) (rep_enc vv) (HF1.out.keep h) HFU.out HFN.out hr2
      clear hB hall hjO hA hO0 hOM hM14 ry hUT hv hv2 hTW hAe hAi hjM hj hlt hm1 hm2 hr2 ho k0
      go_upto_region 10 with fail
      clear hlt0
      replace t0c := fun q : Regrown => cell_regrown t0c q.d q.os
      replace t1c := fun q : Regrown => cell_regrown t1c q.d q.os
      replace t2c := fun q : Regrown => cell_regrown t2c q.d q.os
      replace t3c := fun q : Regrown => cell_regrown t3c q.d q.os
      replace y0c := fun q : Regrown => cell_regrown y0c q.d q.os
      replace y1c := fun q : Regrown => cell_regrown y1c q.d q.os
      refine wp_region_quiet_below (by kernel_rfl) (by kernel_rfl) ?_
      repeat (first | go_big_quiet_step (first
        | (go_at_call 95; with_reducible exact Calls.regrown_of (k1 _ (below_regrown wr _ _)))
        | (go_at_call 55; with_reducible exact Calls.regrown_of (k2 _ (below_regrown wr _ _)))) | quiet_step (fail))
      refine wpQuiet_nil ?_
      rintro _ ⟨pq, rfl⟩
      have HBE := Lib.hid (bthen HB.out (below_regrown wr pq.d pq.os))
      clear t0c t1c t2c t3c y0c y1c k1 k2 n1 n2 n3 n4
      go_wp2_with fail
      go_ret
      exact ⟨rfl, HBE.out⟩
end Go.Proofs.YthfkfgjhgicfeaaGreatDoor
