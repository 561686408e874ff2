/-
  The walk of EvalLines: it answers true, where the program's calls do what is asked of them. (Written by gen_vlines.py.)
-/
import Derived.Test.YtlgfnlkblehlbaaVLineM
import Derived.Test.YtlgfnlkblehlbaaVLTells
import Derived.Lib.QuietBelow
import Derived.BigQuiet
namespace Go.Proofs.Ytlgfnlkblehlbaa
open Go Go.RowKit Go.Sort Go.BigFrame
set_option linter.unusedVariables false

theorem min_four (a b c d : Nat) : ∃ m : Nat, min (a : Int) (min (b : Int) (min (c : Int) (d : Int))) = (m : Int) ∧ m ≤ a ∧ m ≤ b ∧ m ≤ c ∧ m ≤ d := ⟨min (min (min a b) c) d, by omega, by omega, by omega, by omega, by omega⟩
@[go_sem] theorem run_min_four {P : Program} {w : World} (ts : Array TypeId) (t : TypeId) (x y z u : Int) : (Builtin.min_ ts t #[.int .i64 x, .int .i64 y, .int .i64 z, .int .i64 u]).run P w = .ok (.int .i64 (min (min (min x y) z) u)) w := by
  have two : ∀ a b : Int, (if b < a then b else a) = min a b := fun a b => by split <;> omega
  simp [Builtin.min_, Builtin.min2, two]
theorem w_one (d D : Nat) (h : d ≤ 4) (hD : d + 1 = D) : IntKind.i64.wrap ((d : Int) + 1) = (D : Int) ∧ wrap64 ((d : Int) + 1) = (D : Int) ∧ D ≤ 5 ∧ 0 < D := ⟨by rw [IntWalk.i64_in _ (by omega)]; omega, by rw [IntWalk.wrap64_in _ (by omega)]; omega, by omega, by omega⟩
theorem w_t (t : Nat) (h : t ≤ 8) : IntKind.u64.wrap (t : Int) = (t : Int) := IntWalk.u64_in _ (by omega)
theorem ln_rel (cols : Int) (l0 l1 : Nat) (D t : Nat) (h1 : D ≤ 5) (h : t ≤ D) : t ≤ 8 ∧ D + 1 - (((t : Int) + 1)).toNat < D + 1 - ((t : Int)).toNat := ⟨by omega, by omega⟩
def LnV1 (v62 v63 v64 v65 v66 v67 v68 v69 v70 v71 v72 v73 v74 v75 : Value) (k : Nat) : Value :=
  match k with
  | 62 => v62
  | 63 => v63
  | 64 => v64
  | 65 => v65
  | 66 => v66
  | 67 => v67
  | 68 => v68
  | 69 => v69
  | 70 => v70
  | 71 => v71
  | 72 => v72
  | 73 => v73
  | 74 => v74
  | _ => v75
def LnV2 (v78 v79 v80 v81 v82 v83 v84 v85 v86 v87 v88 v89 v90 v91 : Value) (k : Nat) : Value :=
  match k with
  | 78 => v78
  | 79 => v79
  | 80 => v80
  | 81 => v81
  | 82 => v82
  | 83 => v83
  | 84 => v84
  | 85 => v85
  | 86 => v86
  | 87 => v87
  | 88 => v88
  | 89 => v89
  | 90 => v90
  | _ => v91
theorem small1 (k m : Nat) (h : k < m ∧ m ≤ 8) : k + 1 ≤ maxLen := by unfold maxLen; omega
theorem small2 (k m : Nat) (h : k < m ∧ m ≤ 8) : (k + 1) * 16 ≤ 140737488355328 := by omega
theorem small3 (t D : Nat) (h : t ≤ D) (h5 : D ≤ 5) : (t + 1) * 16 ≤ 140737488355328 := by omega
theorem small4 (t D : Nat) (h : t ≤ D) (h5 : D ≤ 5) : t + 1 ≤ maxLen := by unfold maxLen; omega
theorem ln_rep {t : Nat} (h : t ≤ 1000) : Rep (t : Int) 0 (lnX t) := ⟨by unfold U; omega, by unfold U; decide, rfl, by show toF 0 = 0; decide +kernel⟩
theorem ln_cong (f g : Nat → F2) {m d : Nat} {zs : List Opn} (hp : ∀ o ∈ zs, 0 ≤ o.2) (h : checkB zs (m : Int) true = (d, 0)) :
    evB pairA (rowQ ((List.range m).map fun j => (enc (f j).a, enc (f j).b))) (rowQ ((List.range m).map fun j => (enc (g j).a, enc (g j).b))) zs = evB pairA f g zs :=
  evB_map (A := pairA) (B := pairA) id (fun _ => rfl) (fun _ _ => rfl) (fun _ _ => rfl) (fun _ _ => rfl) f g (fun i hi => by
    have hi : i < m := by omega
    unfold rowQ
    rw [range_getD _ _ _ _ hi]
    exact F2.eq (toF_enc _) (toF_enc _)) (fun i hi => by
    have hi : i < m := by omega
    unfold rowQ
    rw [range_getD _ _ _ _ hi]
    exact F2.eq (toF_enc _) (toF_enc _)) hp h
theorem encs_U (f : Nat → F2) (m : Nat) : ∀ n ∈ (List.range m).map fun j => (enc (f j).a, enc (f j).b), U n.1 ∧ U n.2 := by
  intro n hn
  obtain ⟨j, _, rfl⟩ := List.mem_map.1 hn
  exact ⟨enc_U _, enc_U _⟩
theorem apart_low {W W' : World} {B n n' : Nat} {e : TypeId} {v v' : Value} {xs ys : List Value} (h : W.ownsRow B e 2 v n xs) (h' : W'.ownsRow W.heap.size e 2 v' n' ys) : ∀ k, v.ownBlock = some k → v'.ownBlock ≠ some k := fun k hk hc => by
  have h1 := (h.lt k hk).2
  have h2 := own_ge h' k hc
  omega
theorem apart_new {W : World} {B n : Nat} {e : TypeId} {v v' v9 : Value} {ys : List Value} (h9 : W.ownsRow B e 2 v9 n ys) (ap : ∀ k, v.ownBlock = some k → v9.ownBlock ≠ some k) (hat : v'.ownBlock = v.ownBlock ∨ v'.ownBlock = some W.heap.size) : ∀ k, v'.ownBlock = some k → v9.ownBlock ≠ some k := fun k hk => by
  rcases hat with he | he
  · exact ap k (he ▸ hk)
  · intro c
    have := (h9.lt k c).2
    rw [hk] at he
    cases he
    omega
def LnV3 (v106 v107 v108 v109 v110 v111 v112 v113 v116 v16 : Value) (k : Nat) : Value :=
  match k with
  | 106 => v106
  | 107 => v107
  | 108 => v108
  | 109 => v109
  | 110 => v110
  | 111 => v111
  | 112 => v112
  | 113 => v113
  | 116 => v116
  | _ => v16
theorem ln_cap (D cx : Nat) (h : D + 1 ≤ cx) : (D : Int) ≤ (cx : Int) ∧ D ≤ cx ∧ ¬ (D : Int) < 0 := ⟨by omega, by omega, by omega⟩
set_option maxRecDepth 100000 in
set_option maxHeartbeats 8000000 in
theorem vlines_body (G : World → Prop) (hA : AskEval G) (aw : ∀ W, G W → Calls Try.prog 10 #[] W fun e w' => e = .returned (.bool true) ∧ Below W.heap.size W w') (a : Option Addr) (n cap : Nat) (zs : List Opn) (b0 : Option Addr) (l0 p0 : Nat) (q0 : List (Int × Int)) (b1 : Option Addr) (l1 p1 : Nat) (q1 : List (Int × Int)) (b2 : Option Addr) (l2 p2 : Nat) (q2 : List (Int × Int)) (b3 : Option Addr) (l3 p3 : Nat) (q3 : List (Int × Int)) (w : World) (hG0 : G w) (hO : OpA w a n zs) (hu : ∀ o ∈ zs, OkO o) (h0 : QRowA w b0 l0 q0) (u0 : ∀ n ∈ q0, U n.1 ∧ U n.2) (h1 : QRowA w b1 l1 q1) (u1 : ∀ n ∈ q1, U n.1 ∧ U n.2) (h2 : QRowA w b2 l2 q2) (u2 : ∀ n ∈ q2, U n.1 ∧ U n.2) (h3 : QRowA w b3 l3 q3) (u3 : ∀ n ∈ q3, U n.1 ∧ U n.2) :
    Calls Try.prog 7 #[.slice a n cap, .agg #[.slice b0 l0 p0, .slice b1 l1 p1, .slice b2 l2 p2, .slice b3 l3 p3]] w fun e w' => e = .returned (.bool true) ∧ Below w.heap.size w w' := by
  obtain ⟨i0, hi, hz0, hz1, hz2⟩ := info_parts infoQe
  have HK := Lib.hid (fun (W W' : World) => @AskEval.keep G hA W W')
  have HG0 := Lib.hid hG0
  have hmax := hO.2.1
  have hm0 := h0.2.1; have hm1 := h1.2.1; have hm2 := h2.2.1; have hm3 := h3.2.1
  unfold maxLen at hmax hm0 hm1 hm2 hm3
  obtain rfl := hO.1
  obtain ⟨m, hmn, c0, c1, c2, c3⟩ := min_four l0 l1 l2 l3
  obtain ⟨d, e, hz⟩ : ∃ d e, checkB zs (m : Int) true = (d, e) := ⟨_, _, rfl⟩
  have HO := Lib.hid hO
  have H0 := Lib.hid h0; have H1 := Lib.hid h1; have H2 := Lib.hid h2; have H3 := Lib.hid h3
  have k0 := fun (W : World) (hb : Below w.heap.size w W) => rscheck_is a cap zs (m : Int) true d e W (HO.out.keep hb) hu (by omega) hz
  have HU := Lib.hid hu; have HZ := Lib.hid hz
  have U0 := Lib.hid u0; have U1 := Lib.hid u1; have U2 := Lib.hid u2; have U3 := Lib.hid u3
  clear hO h0 h1 h2 h3 hu hz u0 u1 u2 u3
  go_enter Try.func7, Try.ntmps7
  go_upto_region 1 with fail
  refine wp_gen (fun W => Below w.heap.size w W ∧ W.cell? ⟨w.heap.size, 0, none⟩ = some (.slice b0 l0 p0) ∧ W.cell? ⟨w.heap.size, 1, none⟩ = some (.slice b1 l1 p1) ∧ W.cell? ⟨w.heap.size, 2, none⟩ = some (.slice b2 l2 p2) ∧ W.cell? ⟨w.heap.size, 3, none⟩ = some (.slice b3 l3 p3)) ⟨(Below.refl _ _).alloc (Nat.le_refl _) _, by simp [go_sem], by simp [go_sem], by simp [go_sem], by simp [go_sem]⟩ ?_
  obtain ⟨g5, hg5⟩ : ∃ g, w.heap.size = g := ⟨_, rfl⟩
  rintro W1 ⟨hB, g0, g1, g2, g3⟩
  rw [hg5] at g0 g1 g2 g3
  simp only [hg5]
  have HB := Lib.hid hB
  have HLOW : Hid (g5 = w.heap.size) := Lib.hid hg5.symm
  clear hB hg5
  by_cases hb1 : (100 : Int) < (zs.length : Int)
  · go_wp2_with (first | (go_at_call 20; (with_reducible refine (k0 _ HB.out).mono ?_); rintro e w1 ⟨rfl, hb⟩; replace HB := Lib.hid (bthen HB.out hb); clear hb) | (go_at_call 10; (with_reducible refine (aw _ (HK.out _ _ HG0.out HB.out)).mono ?_); rintro e w1 ⟨rfl, hb⟩; replace HB := Lib.hid (bthen HB.out hb); clear hb))
    go_ret
    exact ⟨rfl, HB.out⟩
  by_cases hb2 : (8 : Int) < (m : Int)
  · go_wp2_with (first | (go_at_call 20; (with_reducible refine (k0 _ HB.out).mono ?_); rintro e w1 ⟨rfl, hb⟩; replace HB := Lib.hid (bthen HB.out hb); clear hb) | (go_at_call 10; (with_reducible refine (aw _ (HK.out _ _ HG0.out HB.out)).mono ?_); rintro e w1 ⟨rfl, hb⟩; replace HB := Lib.hid (bthen HB.out hb); clear hb))
    go_ret
    exact ⟨rfl, HB.out⟩
  by_cases he : e = 0
  case neg =>
    have he' : (e != 0) = true := by simp [he]
    go_wp2_with (first | (go_at_call 20; (with_reducible refine (k0 _ HB.out).mono ?_); rintro e w1 ⟨rfl, hb⟩; replace HB := Lib.hid (bthen HB.out hb); clear hb) | (go_at_call 10; (with_reducible refine (aw _ (HK.out _ _ HG0.out HB.out)).mono ?_); rintro e w1 ⟨rfl, hb⟩; replace HB := Lib.hid (bthen HB.out hb); clear hb))
    go_ret
    exact ⟨rfl, HB.out⟩
  subst he
  have hL := ln_key q0 q1 q2 q3 (fun o ho => (HU.out o ho).2.1) HZ.out
  obtain ⟨hd4, hL1, hL2, hL3⟩ := hL
  obtain ⟨D, hD⟩ : ∃ D, d + 1 = D := ⟨_, rfl⟩
  rw [hD] at hL1 hL2 hL3
  obtain ⟨hw1, hw2, hD5, hD1⟩ := w_one d D hd4 hD
  have HW := Lib.hid (And.intro hw1 hw2)
  clear hw1 hw2
  have HL := Lib.hid (And.intro hL1 (And.intro hL2 hL3))
  clear hL1 hL2 hL3 hD hd4
  have hmm : m ≤ 8 := by omega
  go_upto_region 7 with (go_at_call 20; (with_reducible refine (k0 _ HB.out).mono ?_); rintro e w1 ⟨rfl, hb⟩; replace HB := Lib.hid (bthen HB.out hb); replace g0 := bkeep hb g0; replace g1 := bkeep hb g1; replace g2 := bkeep hb g2; replace g3 := bkeep hb g3; clear hb)
  clear k0 hmn
  refine wp_gen (fun W => Below w.heap.size w W ∧ W.cell? ⟨g5, 0, none⟩ = some (.slice b0 l0 p0) ∧ W.cell? ⟨g5, 1, none⟩ = some (.slice b1 l1 p1) ∧ W.cell? ⟨g5, 2, none⟩ = some (.slice b2 l2 p2) ∧ W.cell? ⟨g5, 3, none⟩ = some (.slice b3 l3 p3)) ⟨HB.out, g0, g1, g2, g3⟩ ?_
  clear HB g0 g1 g2 g3
  rintro w0 ⟨hB0, g0, g1, g2, g3⟩
  have HB0 := Lib.hid hB0
  have hlow : g5 < w0.heap.size := World.block_lt_of_cell? w0 _ g0
  have G := Lib.hid (And.intro g0 (And.intro g1 (And.intro g2 g3)))
  have HL5 := Lib.hid hlow
  clear hB0 g0 g1 g2 g3 hlow
  go_loopw [8, 9, 10] (TwoRel w0 29 2 (D + 1) (fun j => stQ (lnX j)) (fun j => stQ (lnZ q0 q1 q2 q3 zs j))) (fun _ _ i _ => D + 1 - (intOf i).toNat)
  case atStart => exact ⟨0, Nat.zero_le _, rfl, Below.refl _ _, World.ownsRow_nil _ _ _ _, World.ownsRow_nil _ _ _ _, fun q hq => by cases hq⟩
  case round =>
    obtain ⟨t, ht, rfl, hB, hx, hy, hap⟩ := hrel
    have HB := Lib.hid hB; have HX := Lib.hid hx; have HY := Lib.hid hy; have HAP := Lib.hid hap
    clear hB hx hy hap
    obtain ⟨hw1, hw2⟩ := HW.out
    by_cases hlt : t ≤ D
    · have hltI : (t : Int) ≤ (D : Int) := Int.ofNat_le.2 hlt
      go_upto_region 9 with fail
      clear hw1 hw2
      have ht8 : t ≤ 1000 := Nat.le_trans hlt (Nat.le_trans hD5 (by decide))
      have hw3 := w_t t (Nat.le_trans hlt (Nat.le_trans hD5 (by decide)))
      obtain ⟨ax, cx, rfl⟩ := own_form HX.out
      obtain ⟨ay, cy, rfl⟩ := own_form HY.out
      go_upto_region 12 with fail
      clear hw3
      have hal := (Below.refl wr.heap.size wr).alloc (Nat.le_refl _) (.cells #[.int .u64 (t : Int), .int .u64 0] 29)
      refine wp_gen (fun W => Below w0.heap.size w0 W ∧ W.ownsRow w0.heap.size 29 2 (.slice ax t cx) t (cellsK (fun j => stQ (lnX j)) t) ∧ W.ownsRow w0.heap.size 29 2 (.slice ay t cy) t (cellsK (fun j => stQ (lnZ q0 q1 q2 q3 zs j)) t) ∧ W.cell? ⟨wr.heap.size, 0, none⟩ = some (.int .u64 (t : Int)) ∧ W.cell? ⟨wr.heap.size, 1, none⟩ = some (.int .u64 0)) ⟨HB.out.alloc HB.out.size _, own_keep HX.out hal, own_keep HY.out hal, by simp [go_sem], by simp [go_sem]⟩ ?_
      clear HB HX HY hal
      obtain ⟨g11, hg11⟩ : ∃ g, wr.heap.size = g := ⟨_, rfl⟩
      rintro wi ⟨hB, hx, hy, x0, x1⟩
      rw [hg11] at x0 x1
      simp only [hg11]
      clear hg11
      have HBI := Lib.hid hB; have HXO := Lib.hid hx; have HYO := Lib.hid hy; have XC := Lib.hid (And.intro x0 x1); have HAPO := Lib.hid HAP.out
      have GI0 := Lib.hid (bkeep hB G.out.1); have GI1 := Lib.hid (bkeep hB G.out.2.1); have GI2 := Lib.hid (bkeep hB G.out.2.2.1); have GI3 := Lib.hid (bkeep hB G.out.2.2.2)
      clear hB hx hy x0 x1 HAP
      go_loopw [12, 13, 14] (TwoRel wi 29 2 m (fun j => stQ (rowQ q0 j + lnX t * rowQ q1 j)) (fun j => stQ (rowQ q2 j + lnX t * rowQ q3 j))) (fun _ _ i _ => m - (intOf i).toNat)
      case atStart => exact ⟨0, Nat.zero_le _, rfl, Below.refl _ _, World.ownsRow_nil _ _ _ _, World.ownsRow_nil _ _ _ _, fun q hq => by cases hq⟩
      case round =>
        obtain ⟨k, hk, rfl, hB, hx, hy, hap⟩ := hrel
        have HB := Lib.hid hB; have HX := Lib.hid hx; have HY := Lib.hid hy; have HAP := Lib.hid hap
        clear hB hx hy hap
        by_cases hlk : k < m
        · have hlkI : (k : Int) < (m : Int) := Int.ofNat_lt.2 hlk
          have hk8 : k < m ∧ m ≤ 8 := ⟨hlk, hmm⟩
          have hk0 : (0 : Int) ≤ (k : Int) := Int.natCast_nonneg k
          have hkl0 : (k : Int) < (l0 : Int) := Int.ofNat_lt.2 (Nat.lt_of_lt_of_le hlk c0)
          obtain ⟨bb0, ob0, rfl, z0, y0⟩ := H0.out.2.2 k (Nat.lt_of_lt_of_le hlk c0)
          have uu0 := UU_getD U0.out k (by rw [H0.out.1]; exact Nat.lt_of_lt_of_le hlk c0)
          have R0 := Lib.hid (And.intro (bkeep (bthen HB0.out HBI.out) z0) (bkeep (bthen HB0.out HBI.out) y0))
          have hkl1 : (k : Int) < (l1 : Int) := Int.ofNat_lt.2 (Nat.lt_of_lt_of_le hlk c1)
          obtain ⟨bb1, ob1, rfl, z1, y1⟩ := H1.out.2.2 k (Nat.lt_of_lt_of_le hlk c1)
          have uu1 := UU_getD U1.out k (by rw [H1.out.1]; exact Nat.lt_of_lt_of_le hlk c1)
          have R1 := Lib.hid (And.intro (bkeep (bthen HB0.out HBI.out) z1) (bkeep (bthen HB0.out HBI.out) y1))
          have hkl2 : (k : Int) < (l2 : Int) := Int.ofNat_lt.2 (Nat.lt_of_lt_of_le hlk c2)
          obtain ⟨bb2, ob2, rfl, z2, y2⟩ := H2.out.2.2 k (Nat.lt_of_lt_of_le hlk c2)
          have uu2 := UU_getD U2.out k (by rw [H2.out.1]; exact Nat.lt_of_lt_of_le hlk c2)
          have R2 := Lib.hid (And.intro (bkeep (bthen HB0.out HBI.out) z2) (bkeep (bthen HB0.out HBI.out) y2))
          have hkl3 : (k : Int) < (l3 : Int) := Int.ofNat_lt.2 (Nat.lt_of_lt_of_le hlk c3)
          obtain ⟨bb3, ob3, rfl, z3, y3⟩ := H3.out.2.2 k (Nat.lt_of_lt_of_le hlk c3)
          have uu3 := UU_getD U3.out k (by rw [H3.out.1]; exact Nat.lt_of_lt_of_le hlk c3)
          have R3 := Lib.hid (And.intro (bkeep (bthen HB0.out HBI.out) z3) (bkeep (bthen HB0.out HBI.out) y3))
          clear z0 y0 z1 y1 z2 y2 z3 y3
          obtain ⟨P1, hP1⟩ : ∃ z, lnX t * rowQ q1 k = z := ⟨_, rfl⟩
          obtain ⟨S1, hS1⟩ : ∃ z, rowQ q0 k + P1 = z := ⟨_, rfl⟩
          have km1 := fun W => rmul_q (t : Int) 0 (q1.getD k (0, 0)).1 (q1.getD k (0, 0)).2 (lnX t) (rowQ q1 k) P1 (ln_rep ht8) (rep_raw uu1.1 uu1.2) hP1 W
          have ka0 := fun W => radd_q (q0.getD k (0, 0)).1 (q0.getD k (0, 0)).2 (enc P1.a) (enc P1.b) (rowQ q0 k) P1 S1 (rep_raw uu0.1 uu0.2) (rep_enc P1) hS1 W
          have HSX : Hid (cellsK (fun j => stQ (rowQ q0 j + lnX t * rowQ q1 j)) (k + 1) = cellsK (fun j => stQ (rowQ q0 j + lnX t * rowQ q1 j)) k ++ [Value.int .u64 (enc S1.a), .int .u64 (enc S1.b)]) := Lib.hid (by rw [cellsK_succ, ← hS1, ← hP1])
          obtain ⟨P3, hP3⟩ : ∃ z, lnX t * rowQ q3 k = z := ⟨_, rfl⟩
          obtain ⟨S3, hS3⟩ : ∃ z, rowQ q2 k + P3 = z := ⟨_, rfl⟩
          have km3 := fun W => rmul_q (t : Int) 0 (q3.getD k (0, 0)).1 (q3.getD k (0, 0)).2 (lnX t) (rowQ q3 k) P3 (ln_rep ht8) (rep_raw uu3.1 uu3.2) hP3 W
          have ka2 := fun W => radd_q (q2.getD k (0, 0)).1 (q2.getD k (0, 0)).2 (enc P3.a) (enc P3.b) (rowQ q2 k) P3 S3 (rep_raw uu2.1 uu2.2) (rep_enc P3) hS3 W
          have HSY : Hid (cellsK (fun j => stQ (rowQ q2 j + lnX t * rowQ q3 j)) (k + 1) = cellsK (fun j => stQ (rowQ q2 j + lnX t * rowQ q3 j)) k ++ [Value.int .u64 (enc S3.a), .int .u64 (enc S3.b)]) := Lib.hid (by rw [cellsK_succ, ← hS3, ← hP3])
          clear hP1 hS1 hP3 hS3 uu0 uu1 uu2 uu3
          obtain ⟨a12, c12, rfl⟩ := own_form HX.out
          obtain ⟨a13, c13, rfl⟩ := own_form HY.out
          obtain ⟨FX, hFX⟩ : ∃ f, cellsK (fun j => stQ (rowQ q0 j + lnX t * rowQ q1 j)) k = f := ⟨_, rfl⟩
          obtain ⟨FY, hFY⟩ : ∃ f, cellsK (fun j => stQ (rowQ q2 j + lnX t * rowQ q3 j)) k = f := ⟨_, rfl⟩
          rw [hFX] at HX HSX
          rw [hFY] at HY HSY
          clear hFX hFY
          go_upto_region 14 with fail
          refine wp_lay [(62, []), (63, []), (64, [63]), (65, []), (66, [64, 65]), (67, [66]), (68, []), (69, []), (70, [69]), (71, []), (72, [70, 71]), (73, [72]), (74, [68, 73]), (75, [67, 74]), (76, [75]), (77, [62, 76])]
            (AppOp wi wr 29 2 76 77 (.slice a13 k c13) k k FX FY [.int .u64 (enc S1.a), .int .u64 (enc S1.b)] [62, 63, 64, 65, 66, 67, 68, 69, 70, 71, 72, 73, 74, 75] (LnV1 (.slice a12 k c12) (.pointer (some ⟨g5, 0, none⟩)) (.slice (some ⟨bb0, ob0, none⟩) l0 p0) (.int .i64 (k : Int)) (.pointer (some ⟨bb0, ob0 + k * 2, none⟩)) (.agg #[.int .u64 (q0.getD k (0, 0)).1, .int .u64 (q0.getD k (0, 0)).2]) (.agg #[.int .u64 (t : Int), .int .u64 0]) (.pointer (some ⟨g5, 1, none⟩)) (.slice (some ⟨bb1, ob1, none⟩) l1 p1) (.int .i64 (k : Int)) (.pointer (some ⟨bb1, ob1 + k * 2, none⟩)) (.agg #[.int .u64 (q1.getD k (0, 0)).1, .int .u64 (q1.getD k (0, 0)).2]) (.agg #[.int .u64 (enc P1.a), .int .u64 (enc P1.b)]) (.agg #[.int .u64 (enc S1.a), .int .u64 (enc S1.b)]))) (by kernel_rfl) (by kernel_rfl) (fun σ => AppOp.start HB.out.drew (Below.refl _ _).drew σ) ?_ ?_
          · refine opsw_cons ?_ (opsw_cons ?_ (opsw_cons ?_ (opsw_cons ?_ (opsw_cons ?_ (opsw_cons ?_ (opsw_cons ?_ (opsw_cons ?_ (opsw_cons ?_ (opsw_cons ?_ (opsw_cons ?_ (opsw_cons ?_ (opsw_cons ?_ (opsw_cons ?_ (opsw_cons ?_ (opsw_cons ?_ opsw_nil)))))))))))))))
            all_goals
              refine OpRunsW.any ?_
              intro Q0 D1 σ W K hW hd hn hK
              simp only [fill, List.map, Act.put, List.setIfInBounds_toArray, List.set_cons_zero, List.set_cons_succ] at hK ⊢
            · have HW := Lib.hid hW
              clear hW
              go_simp
              exact hK _ _ (HW.out.next (Below.refl _ _) (by decide) rfl)
            · have HW := Lib.hid hW
              clear hW
              go_simp
              exact hK _ _ (HW.out.next (Below.refl _ _) (by decide) rfl)
            · have h63 : σ 63 = (.pointer (some ⟨g5, 0, none⟩)) := hW.sv 63 (by decide) (hn 63 (by decide))
              simp only [h63] at hK
              have c0 := bkeep hW.bel GI0.out
              have HW := Lib.hid hW
              clear hW
              go_simp
              exact hK _ _ (HW.out.next (Below.refl _ _) (by decide) rfl)
            · have HW := Lib.hid hW
              clear hW
              go_simp
              exact hK _ _ (HW.out.next (Below.refl _ _) (by decide) rfl)
            · have h64 : σ 64 = (.slice (some ⟨bb0, ob0, none⟩) l0 p0) := hW.sv 64 (by decide) (hn 64 (by decide))
              have h65 : σ 65 = (.int .i64 (k : Int)) := hW.sv 65 (by decide) (hn 65 (by decide))
              simp only [h64, h65] at hK
              have HW := Lib.hid hW
              clear hW
              go_simp
              exact hK _ _ (HW.out.next (Below.refl _ _) (by decide) rfl)
            · have h66 : σ 66 = (.pointer (some ⟨bb0, ob0 + k * 2, none⟩)) := hW.sv 66 (by decide) (hn 66 (by decide))
              simp only [h66] at hK
              have c0 := bkeep hW.bel R0.out.1
              have c1 := bkeep hW.bel R0.out.2
              have HW := Lib.hid hW
              clear hW
              go_simp
              exact hK _ _ (HW.out.next (Below.refl _ _) (by decide) rfl)
            · have c0 := bkeep hW.bel XC.out.1
              have c1 := bkeep hW.bel XC.out.2
              have HW := Lib.hid hW
              clear hW
              go_simp
              exact hK _ _ (HW.out.next (Below.refl _ _) (by decide) rfl)
            · have HW := Lib.hid hW
              clear hW
              go_simp
              exact hK _ _ (HW.out.next (Below.refl _ _) (by decide) rfl)
            · have h69 : σ 69 = (.pointer (some ⟨g5, 1, none⟩)) := hW.sv 69 (by decide) (hn 69 (by decide))
              simp only [h69] at hK
              have c0 := bkeep hW.bel GI1.out
              have HW := Lib.hid hW
              clear hW
              go_simp
              exact hK _ _ (HW.out.next (Below.refl _ _) (by decide) rfl)
            · have HW := Lib.hid hW
              clear hW
              go_simp
              exact hK _ _ (HW.out.next (Below.refl _ _) (by decide) rfl)
            · have h70 : σ 70 = (.slice (some ⟨bb1, ob1, none⟩) l1 p1) := hW.sv 70 (by decide) (hn 70 (by decide))
              have h71 : σ 71 = (.int .i64 (k : Int)) := hW.sv 71 (by decide) (hn 71 (by decide))
              simp only [h70, h71] at hK
              have HW := Lib.hid hW
              clear hW
              go_simp
              exact hK _ _ (HW.out.next (Below.refl _ _) (by decide) rfl)
            · have h72 : σ 72 = (.pointer (some ⟨bb1, ob1 + k * 2, none⟩)) := hW.sv 72 (by decide) (hn 72 (by decide))
              simp only [h72] at hK
              have c0 := bkeep hW.bel R1.out.1
              have c1 := bkeep hW.bel R1.out.2
              have HW := Lib.hid hW
              clear hW
              go_simp
              exact hK _ _ (HW.out.next (Below.refl _ _) (by decide) rfl)
            · have h68 : σ 68 = (.agg #[.int .u64 (t : Int), .int .u64 0]) := hW.sv 68 (by decide) (hn 68 (by decide))
              have h73 : σ 73 = (.agg #[.int .u64 (q1.getD k (0, 0)).1, .int .u64 (q1.getD k (0, 0)).2]) := hW.sv 73 (by decide) (hn 73 (by decide))
              simp only [h68, h73] at hK
              have HW := Lib.hid hW
              clear hW
              go_simp
              go_at_call 22
              refine (km1 _).mono ?_
              rintro e w2 ⟨rfl, hb⟩
              exact hK _ _ (HW.out.next hb (by decide) rfl)
            · have h67 : σ 67 = (.agg #[.int .u64 (q0.getD k (0, 0)).1, .int .u64 (q0.getD k (0, 0)).2]) := hW.sv 67 (by decide) (hn 67 (by decide))
              have h74 : σ 74 = (.agg #[.int .u64 (enc P1.a), .int .u64 (enc P1.b)]) := hW.sv 74 (by decide) (hn 74 (by decide))
              simp only [h67, h74] at hK
              have HW := Lib.hid hW
              clear hW
              go_simp
              go_at_call 21
              refine (ka0 _).mono ?_
              rintro e w2 ⟨rfl, hb⟩
              exact hK _ _ (HW.out.next hb (by decide) rfl)
            · have h75 : σ 75 = (.agg #[.int .u64 (enc S1.a), .int .u64 (enc S1.b)]) := hW.sv 75 (by decide) (hn 75 (by decide))
              simp only [h75] at hK
              have HW := Lib.hid hW
              clear hW
              go_simp
              exact hK _ _ (HW.out.build hd ((Below.refl _ _).alloc (Nat.le_refl _) _) (by decide) (by decide) (two_src (by simp [go_sem]) (by simp [go_sem])))
            · have h62 : σ 62 = (.slice a12 k c12) := hW.sv 62 (by decide) (hn 62 (by decide))
              obtain ⟨g, hg, hz⟩ := hW.li hd (hn 76 (by decide))
              rw [if_pos (by rfl)]
              refine wp_append_at3 (.tmp 62) (.tmp 76) 23 (by rfl) wi.heap.size 29 i0 (.agg #[.int .u64 0, .int .u64 0]) 2 16 Try.underlying23 hi hz0 hz1 hz2 rfl (by decide) (.slice a12 k c12) k FX (by exact h62) (own_keep HX.out (hW.pre hd)) (some ⟨g, 0, none⟩) 1 1 [.int .u64 (enc S1.a), .int .u64 (enc S1.b)] (by exact hg) rfl (fun h => by cases h) (fun h => by cases h) (by rintro ad e; cases e; exact hz) (by intro u hu; simp at hu; rcases hu with rfl | rfl <;> rfl) (small1 k m hk8) (small2 k m hk8) hW.bel.size ?_
              intro v' w' q1 q2 q3
              exact hK _ _ (hW.app hd (hn 76 (by decide)) (by decide) (by decide) HX.out HY.out HAP.out q1 q2 q3)
          · intro D1 σ wB hW hD
            obtain ⟨q1, q2, q3⟩ := hW.post (hD 77 (by decide))
            have HB2 := Lib.hid hW.bel
            obtain ⟨t77, h77⟩ : ∃ v, σ 77 = v := ⟨_, rfl⟩
            rw [h77] at q1 q3
            obtain ⟨a14, c14, rfl⟩ := own_form q1
            have HX2 := Lib.hid q1; have HY2 := Lib.hid q2; have HAP2 := Lib.hid (fun q (hq : (Value.slice a13 k c13).ownBlock = some q) (hc : (Value.slice a14 (k + 1) c14).ownBlock = some q) => q3 q hc hq)
            clear hW hD q1 q2 q3 HB HX HY HAP
            simp only [fill, List.map, Act.put, List.setIfInBounds_toArray, List.set_cons_zero, List.set_cons_succ, List.length_cons, List.length_nil, List.drop_succ_cons, List.drop_zero, Nat.reduceAdd, h77]
            clear h77
            have HB := HB2
            clear HB2
            go_upto_region 15 with fail
            refine wp_lay [(78, []), (79, []), (80, [79]), (81, []), (82, [80, 81]), (83, [82]), (84, []), (85, []), (86, [85]), (87, []), (88, [86, 87]), (89, [88]), (90, [84, 89]), (91, [83, 90]), (92, [91]), (93, [78, 92])]
              (AppOp wi wB 29 2 92 93 (.slice a14 (k + 1) c14) k (k + 1) FY (FX ++ [.int .u64 (enc S1.a), .int .u64 (enc S1.b)]) [.int .u64 (enc S3.a), .int .u64 (enc S3.b)] [78, 79, 80, 81, 82, 83, 84, 85, 86, 87, 88, 89, 90, 91] (LnV2 (.slice a13 k c13) (.pointer (some ⟨g5, 2, none⟩)) (.slice (some ⟨bb2, ob2, none⟩) l2 p2) (.int .i64 (k : Int)) (.pointer (some ⟨bb2, ob2 + k * 2, none⟩)) (.agg #[.int .u64 (q2.getD k (0, 0)).1, .int .u64 (q2.getD k (0, 0)).2]) (.agg #[.int .u64 (t : Int), .int .u64 0]) (.pointer (some ⟨g5, 3, none⟩)) (.slice (some ⟨bb3, ob3, none⟩) l3 p3) (.int .i64 (k : Int)) (.pointer (some ⟨bb3, ob3 + k * 2, none⟩)) (.agg #[.int .u64 (q3.getD k (0, 0)).1, .int .u64 (q3.getD k (0, 0)).2]) (.agg #[.int .u64 (enc P3.a), .int .u64 (enc P3.b)]) (.agg #[.int .u64 (enc S3.a), .int .u64 (enc S3.b)]))) (by kernel_rfl) (by kernel_rfl) (fun σ => AppOp.start HB.out.drew (Below.refl _ _).drew σ) ?_ ?_
            · refine opsw_cons ?_ (opsw_cons ?_ (opsw_cons ?_ (opsw_cons ?_ (opsw_cons ?_ (opsw_cons ?_ (opsw_cons ?_ (opsw_cons ?_ (opsw_cons ?_ (opsw_cons ?_ (opsw_cons ?_ (opsw_cons ?_ (opsw_cons ?_ (opsw_cons ?_ (opsw_cons ?_ (opsw_cons ?_ opsw_nil)))))))))))))))
              all_goals
                refine OpRunsW.any ?_
                intro Q0 D1 σ W K hW hd hn hK
                simp only [fill, List.map, Act.put, List.setIfInBounds_toArray, List.set_cons_zero, List.set_cons_succ] at hK ⊢
              · have HW := Lib.hid hW
                clear hW
                go_simp
                exact hK _ _ (HW.out.next (Below.refl _ _) (by decide) rfl)
              · have HW := Lib.hid hW
                clear hW
                go_simp
                exact hK _ _ (HW.out.next (Below.refl _ _) (by decide) rfl)
              · have h79 : σ 79 = (.pointer (some ⟨g5, 2, none⟩)) := hW.sv 79 (by decide) (hn 79 (by decide))
                simp only [h79] at hK
                have c0 := bkeep hW.bel GI2.out
                have HW := Lib.hid hW
                clear hW
                go_simp
                exact hK _ _ (HW.out.next (Below.refl _ _) (by decide) rfl)
              · have HW := Lib.hid hW
                clear hW
                go_simp
                exact hK _ _ (HW.out.next (Below.refl _ _) (by decide) rfl)
              · have h80 : σ 80 = (.slice (some ⟨bb2, ob2, none⟩) l2 p2) := hW.sv 80 (by decide) (hn 80 (by decide))
                have h81 : σ 81 = (.int .i64 (k : Int)) := hW.sv 81 (by decide) (hn 81 (by decide))
                simp only [h80, h81] at hK
                have HW := Lib.hid hW
                clear hW
                go_simp
                exact hK _ _ (HW.out.next (Below.refl _ _) (by decide) rfl)
              · have h82 : σ 82 = (.pointer (some ⟨bb2, ob2 + k * 2, none⟩)) := hW.sv 82 (by decide) (hn 82 (by decide))
                simp only [h82] at hK
                have c0 := bkeep hW.bel R2.out.1
                have c1 := bkeep hW.bel R2.out.2
                have HW := Lib.hid hW
                clear hW
                go_simp
                exact hK _ _ (HW.out.next (Below.refl _ _) (by decide) rfl)
              · have c0 := bkeep hW.bel XC.out.1
                have c1 := bkeep hW.bel XC.out.2
                have HW := Lib.hid hW
                clear hW
                go_simp
                exact hK _ _ (HW.out.next (Below.refl _ _) (by decide) rfl)
              · have HW := Lib.hid hW
                clear hW
                go_simp
                exact hK _ _ (HW.out.next (Below.refl _ _) (by decide) rfl)
              · have h85 : σ 85 = (.pointer (some ⟨g5, 3, none⟩)) := hW.sv 85 (by decide) (hn 85 (by decide))
                simp only [h85] at hK
                have c0 := bkeep hW.bel GI3.out
                have HW := Lib.hid hW
                clear hW
                go_simp
                exact hK _ _ (HW.out.next (Below.refl _ _) (by decide) rfl)
              · have HW := Lib.hid hW
                clear hW
                go_simp
                exact hK _ _ (HW.out.next (Below.refl _ _) (by decide) rfl)
              · have h86 : σ 86 = (.slice (some ⟨bb3, ob3, none⟩) l3 p3) := hW.sv 86 (by decide) (hn 86 (by decide))
                have h87 : σ 87 = (.int .i64 (k : Int)) := hW.sv 87 (by decide) (hn 87 (by decide))
                simp only [h86, h87] at hK
                have HW := Lib.hid hW
                clear hW
                go_simp
                exact hK _ _ (HW.out.next (Below.refl _ _) (by decide) rfl)
              · have h88 : σ 88 = (.pointer (some ⟨bb3, ob3 + k * 2, none⟩)) := hW.sv 88 (by decide) (hn 88 (by decide))
                simp only [h88] at hK
                have c0 := bkeep hW.bel R3.out.1
                have c1 := bkeep hW.bel R3.out.2
                have HW := Lib.hid hW
                clear hW
                go_simp
                exact hK _ _ (HW.out.next (Below.refl _ _) (by decide) rfl)
              · have h84 : σ 84 = (.agg #[.int .u64 (t : Int), .int .u64 0]) := hW.sv 84 (by decide) (hn 84 (by decide))
                have h89 : σ 89 = (.agg #[.int .u64 (q3.getD k (0, 0)).1, .int .u64 (q3.getD k (0, 0)).2]) := hW.sv 89 (by decide) (hn 89 (by decide))
                simp only [h84, h89] at hK
                have HW := Lib.hid hW
                clear hW
                go_simp
                go_at_call 22
                refine (km3 _).mono ?_
                rintro e w2 ⟨rfl, hb⟩
                exact hK _ _ (HW.out.next hb (by decide) rfl)
              · have h83 : σ 83 = (.agg #[.int .u64 (q2.getD k (0, 0)).1, .int .u64 (q2.getD k (0, 0)).2]) := hW.sv 83 (by decide) (hn 83 (by decide))
                have h90 : σ 90 = (.agg #[.int .u64 (enc P3.a), .int .u64 (enc P3.b)]) := hW.sv 90 (by decide) (hn 90 (by decide))
                simp only [h83, h90] at hK
                have HW := Lib.hid hW
                clear hW
                go_simp
                go_at_call 21
                refine (ka2 _).mono ?_
                rintro e w2 ⟨rfl, hb⟩
                exact hK _ _ (HW.out.next hb (by decide) rfl)
              · have h91 : σ 91 = (.agg #[.int .u64 (enc S3.a), .int .u64 (enc S3.b)]) := hW.sv 91 (by decide) (hn 91 (by decide))
                simp only [h91] at hK
                have HW := Lib.hid hW
                clear hW
                go_simp
                exact hK _ _ (HW.out.build hd ((Below.refl _ _).alloc (Nat.le_refl _) _) (by decide) (by decide) (two_src (by simp [go_sem]) (by simp [go_sem])))
              · have h78 : σ 78 = (.slice a13 k c13) := hW.sv 78 (by decide) (hn 78 (by decide))
                obtain ⟨g, hg, hz⟩ := hW.li hd (hn 92 (by decide))
                rw [if_pos (by rfl)]
                refine wp_append_at3 (.tmp 78) (.tmp 92) 23 (by rfl) wi.heap.size 29 i0 (.agg #[.int .u64 0, .int .u64 0]) 2 16 Try.underlying23 hi hz0 hz1 hz2 rfl (by decide) (.slice a13 k c13) k FY (by exact h78) (own_keep HY2.out (hW.pre hd)) (some ⟨g, 0, none⟩) 1 1 [.int .u64 (enc S3.a), .int .u64 (enc S3.b)] (by exact hg) rfl (fun h => by cases h) (fun h => by cases h) (by rintro ad e; cases e; exact hz) (by intro u hu; simp at hu; rcases hu with rfl | rfl <;> rfl) (small1 k m hk8) (small2 k m hk8) hW.bel.size ?_
                intro v' w' q1 q2 q3
                exact hK _ _ (hW.app hd (hn 92 (by decide)) (by decide) (by decide) HY2.out HX2.out HAP2.out q1 q2 q3)
            · intro D1 σ W hW hD
              obtain ⟨q1, q2, q3⟩ := hW.post (hD 93 (by decide))
              have HB3 := Lib.hid hW.bel
              obtain ⟨t93, h93⟩ : ∃ v, σ 93 = v := ⟨_, rfl⟩
              rw [h93] at q1 q3
              obtain ⟨a15, c15, rfl⟩ := own_form q1
              have R := Lib.hid (And.intro q1 (And.intro q2 q3))
              clear hW hD q1 q2 q3 HX2 HY2 HAP2 HB
              simp only [fill, List.map, Act.put, List.setIfInBounds_toArray, List.set_cons_zero, List.set_cons_succ, List.length_cons, List.length_nil, List.drop_succ_cons, List.drop_zero, Nat.reduceAdd, h93]
              clear h93
              go_wp2_with fail
              go_roundw
              case rel => exact ⟨k + 1, hlk, by go_num, HB3.out, by rw [HSX.out]; exact R.out.2.1, by rw [HSY.out]; exact R.out.1, fun q hq hc => R.out.2.2 q hc hq⟩
              case measure => simp [intOf]; omega
        · have hlkI : ¬ (k : Int) < (m : Int) := fun c => hlk (Int.ofNat_lt.1 c)
          obtain rfl : k = m := Nat.le_antisymm hk (Nat.le_of_not_lt hlk)
          obtain ⟨a12, c12, e12, _, _, _, hq12⟩ := own_isP HX.out
          obtain ⟨a13, c13, e13, _, _, _, hq13⟩ := own_isP HY.out
          subst e12 e13
          have hZ := ln_cong (fun j => rowQ q0 j + lnX t * rowQ q1 j) (fun j => rowQ q2 j + lnX t * rowQ q3 j) (fun o ho => (HU.out o ho).2.1) HZ.out
          have hu12 := encs_U (fun j => rowQ q0 j + lnX t * rowQ q1 j) k
          have hu13 := encs_U (fun j => rowQ q2 j + lnX t * rowQ q3 j) k
          obtain ⟨X, hX⟩ : ∃ l, ((List.range k).map fun j => (enc (rowQ q0 j + lnX t * rowQ q1 j).a, enc (rowQ q0 j + lnX t * rowQ q1 j).b)) = l := ⟨_, rfl⟩
          obtain ⟨Y, hY⟩ : ∃ l, ((List.range k).map fun j => (enc (rowQ q2 j + lnX t * rowQ q3 j).a, enc (rowQ q2 j + lnX t * rowQ q3 j).b)) = l := ⟨_, rfl⟩
          simp only [hX, hY] at hZ
          simp only [hX] at hu12 hq12
          simp only [hY] at hu13 hq13
          have HXE := Lib.hid hX; have HYE := Lib.hid hY
          clear hX hY
          obtain ⟨Z, hZZ⟩ : ∃ z, lnZ q0 q1 q2 q3 zs t = z := ⟨_, rfl⟩
          have hZ : evB pairA (rowQ X) (rowQ Y) zs = Z := hZ.trans hZZ
          have kp := Lib.hid (fun (W : World) (hb : Below w.heap.size w W) (hx : QRowA W a12 k X) (hy : QRowA W a13 k Y) => hA.pairs a zs.length cap zs a12 k c12 X a13 k c13 Y k d Z W (HO.out.keep hb) HU.out HZ.out hx hu12 (Int.le_refl _) hy hu13 (Int.le_refl _) hZ (HK.out _ _ HG0.out hb))
          have HSX : Hid (cellsK (fun j => stQ (lnX j)) (t + 1) = cellsK (fun j => stQ (lnX j)) t ++ [Value.int .u64 (t : Int), .int .u64 0]) := Lib.hid (by rw [cellsK_succ]; show _ ++ [Value.int .u64 (enc (lnX t).a), .int .u64 (enc (lnX t).b)] = _; rw [ln_enc ht8]; rfl)
          have HSY : Hid (cellsK (fun j => stQ (lnZ q0 q1 q2 q3 zs j)) (t + 1) = cellsK (fun j => stQ (lnZ q0 q1 q2 q3 zs j)) t ++ [Value.int .u64 (enc Z.a), .int .u64 (enc Z.b)]) := Lib.hid (by rw [cellsK_succ, ← hZZ])
          clear hZ hZZ hu12 hu13 hq12 hq13
          have hxo := own_keep HXO.out HB.out
          have hyo := own_keep HYO.out HB.out
          have HA1 := Lib.hid (apart_low HXO.out HX.out); have HA2 := Lib.hid (apart_low HXO.out HY.out)
          obtain ⟨FX, hFX⟩ : ∃ f, cellsK (fun j => stQ (lnX j)) t = f := ⟨_, rfl⟩
          obtain ⟨FY, hFY⟩ : ∃ f, cellsK (fun j => stQ (lnZ q0 q1 q2 q3 zs j)) t = f := ⟨_, rfl⟩
          rw [hFX] at hxo HSX
          rw [hFY] at hyo HSY
          clear hFX hFY HXO HYO
          have HXK := Lib.hid hxo; have HYK := Lib.hid hyo
          clear hxo hyo
          have HBK := Lib.hid (bthen HBI.out HB.out)
          have g0 := bkeep HB.out XC.out.1; have g1 := bkeep HB.out XC.out.2
          go_wp2_with (first
            | (at_builtin; refine wpList_append3 rfl _ _ 23 rfl w0.heap.size 29 i0 (.agg #[.int .u64 0, .int .u64 0]) 2 16 Try.underlying23 hi hz0 hz1 hz2 rfl (by decide) _ t FX rfl (HXK.out.alloc _) (some ⟨wr.heap.size, 0, none⟩) 1 1 [.int .u64 (t : Int), .int .u64 0] rfl rfl (fun h => by cases h) (fun h => by cases h) (by rintro ad e; cases e; exact two_src (by simp [go_sem]) (by simp [go_sem])) (by intro u hu; simp at hu; rcases hu with rfl | rfl <;> rfl) (small4 t D hlt hD5) (small3 t D hlt hD5) (HBK.out.alloc HBK.out.size _).size ?_; intro v1 w1 s1 s2 s3; have HB1 := Lib.hid (own_row_below (HXK.out.alloc (.cells #[.int .u64 (t : Int), .int .u64 0] 29)) (HBK.out.alloc HBK.out.size _) s2 (Nat.le_refl _) (HBK.out.alloc HBK.out.size _).size); have HY1 := Lib.hid ((HYK.out.alloc (.cells #[.int .u64 (t : Int), .int .u64 0] 29)).kept s2 (own_apart HAPO.out)); have h12 := (HX.out.alloc (.cells #[.int .u64 (t : Int), .int .u64 0] 29)).kept s2 (own_apart HA1.out); have h13 := (HY.out.alloc (.cells #[.int .u64 (t : Int), .int .u64 0] 29)).kept s2 (own_apart HA2.out); have hap1 := apart_new (HYK.out.alloc (.cells #[.int .u64 (t : Int), .int .u64 0] 29)) HAPO.out s3; obtain ⟨a1, c1', rfl⟩ := own_form s1; have HX1 := Lib.hid s1; have HAP1 := Lib.hid hap1; obtain ⟨_, _, e12', _, _, _, hq12'⟩ := own_isP (f := (fun j => rowQ q0 j + lnX t * rowQ q1 j)) h12; cases e12'; obtain ⟨_, _, e13', _, _, _, hq13'⟩ := own_isP (f := (fun j => rowQ q2 j + lnX t * rowQ q3 j)) h13; cases e13'; rw [HXE.out] at hq12'; rw [HYE.out] at hq13'; have HQ12 := Lib.hid hq12'; have HQ13 := Lib.hid hq13'; clear s1 s2 s3 h12 h13 hq12' hq13' hap1)
            | (go_at_call 13; (with_reducible refine (kp.out _ (bthen HB0.out HB1.out) HQ12.out HQ13.out).mono ?_); rintro e w2 ⟨rfl, hb⟩; replace HB1 := Lib.hid (bthen HB1.out hb); replace HX1 := Lib.hid (own_keep HX1.out hb); replace HY1 := Lib.hid (own_keep HY1.out hb); clear hb HQ12 HQ13)
            | (at_builtin; refine wpList_append3 rfl _ _ 23 rfl w0.heap.size 29 i0 (.agg #[.int .u64 0, .int .u64 0]) 2 16 Try.underlying23 hi hz0 hz1 hz2 rfl (by decide) _ t FY rfl (HY1.out.alloc _) (some ⟨w2.heap.size, 0, none⟩) 1 1 [.int .u64 (enc Z.a), .int .u64 (enc Z.b)] rfl rfl (fun h => by cases h) (fun h => by cases h) (by rintro ad e; cases e; exact two_src (by simp [go_sem]) (by simp [go_sem])) (by intro u hu; simp at hu; rcases hu with rfl | rfl <;> rfl) (small4 t D hlt hD5) (small3 t D hlt hD5) (HB1.out.alloc HB1.out.size _).size ?_; intro v2 w3 s1 s2 s3; have HB2 := Lib.hid (own_row_below (HY1.out.alloc (.cells #[.int .u64 (enc Z.a), .int .u64 (enc Z.b)] 29)) (HB1.out.alloc HB1.out.size _) s2 (Nat.le_refl _) (HB1.out.alloc HB1.out.size _).size); have HX2 := Lib.hid ((HX1.out.alloc (.cells #[.int .u64 (enc Z.a), .int .u64 (enc Z.b)] 29)).kept s2 (own_apart (fun q hq hc => HAP1.out q hc hq))); have hap2 := apart_new (HX1.out.alloc (.cells #[.int .u64 (enc Z.a), .int .u64 (enc Z.b)] 29)) (fun q hq hc => HAP1.out q hc hq) s3; obtain ⟨a2, c2', rfl⟩ := own_form s1; have HY2 := Lib.hid s1; have HAP2 := Lib.hid hap2; clear s1 s2 s3 hap2))
          go_roundw
          case rel => exact ⟨t + 1, Nat.succ_le_succ hlt, by go_num, HB2.out, by rw [HSX.out]; exact HX2.out, by rw [HSY.out]; exact HY2.out, fun q hq hc => HAP2.out q hc hq⟩
          case measure => simp [intOf]; omega
    · have hltI : ¬ (t : Int) ≤ (D : Int) := fun c => hlt (Int.ofNat_le.1 c)
      obtain rfl : t = D + 1 := Nat.le_antisymm ht (Nat.lt_of_not_le hlt)
      obtain ⟨ax, cx, ex, hcx, _, hpx, hqx⟩ := own_isP (f := lnX) HX.out
      obtain ⟨ay, cy, ey, hcy, _, hpy, hqy⟩ := own_isP (f := lnZ q0 q1 q2 q3 zs) HY.out
      subst ex ey
      clear HX HY HAP
      obtain ⟨bx, ox, rfl, gx0, gx1⟩ := hqx.2.2 D (Nat.lt_succ_self D)
      obtain ⟨b_y, oy, rfl, gy0, gy1⟩ := hqy.2.2 D (Nat.lt_succ_self D)
      rw [range_getD _ _ _ _ (Nat.lt_succ_self D)] at gx0 gx1 gy0 gy1
      have PX := Lib.hid (hpx D hD1 (Nat.le_succ D)); have PY := Lib.hid (hpy D hD1 (Nat.le_succ D))
      obtain ⟨cx1, cx2, cx3⟩ := ln_cap D cx hcx
      obtain ⟨cy1, cy2, cy3⟩ := ln_cap D cy hcy
      clear hpx hpy hqx hqy
      obtain ⟨TL, hTL⟩ : ∃ l, thrL (mk D lnX) (mk D (lnZ q0 q1 q2 q3 zs)) = l := ⟨_, rfl⟩
      obtain ⟨ZD, hZD⟩ : ∃ z, lnZ q0 q1 q2 q3 zs D = z := ⟨_, rfl⟩
      obtain ⟨XD, hXD⟩ : ∃ z, lnX D = z := ⟨_, rfl⟩
      have hl1 := HL.out.1
      have hl2 := HL.out.2.1
      have hl3 := HL.out.2.2
      rw [hTL, hXD, hZD] at hl2
      rw [hTL] at hl3
      rw [hZD] at gy0 gy1
      rw [hXD] at gx0 gx1
      have kt := fun (W : World) (hb : Below wr.heap.size wr W) => (dthrough (.slice (some ⟨bx, ox, none⟩) D cx) (.slice (some ⟨b_y, oy, none⟩) D cy) _ _ W (PX.out.keep hb).poly (PY.out.keep hb).poly (by rw [mk_len]; exact Nat.le_trans hD5 (by decide)) (by rw [mk_len]; exact Nat.le_trans hD5 (by decide))).mono (fun e w' (h : RetT _ _ W e w') => show ∃ v, e = .returned (.tuple #[v, .bool true]) ∧ Below W.heap.size W w' ∧ IsP w' v TL by rw [← hTL, ← hl1]; exact h)
      have ka := fun (W : World) (v : Value) (hv : IsP W v TL) => (show Calls Try.prog 24 #[v, .agg #[.int .u64 (enc XD.a), .int .u64 (enc XD.b)]] W fun e w' => e = .returned (.agg #[.int .u64 (enc ZD.a), .int .u64 (enc ZD.b)]) ∧ Below W.heap.size W w' by have := dat v TL (enc XD.a) (enc XD.b) XD W hv.poly (rep_enc XD) (Nat.le_trans hl3 (Nat.le_trans hD5 (by decide))); rw [hl2] at this; exact this)
      have KT := Lib.hid kt; have KA := Lib.hid ka
      have GX := Lib.hid (And.intro gx0 gx1); have GY := Lib.hid (And.intro gy0 gy1)
      clear hTL hZD hXD hl1 hl2 hl3 kt ka gx0 gx1 gy0 gy1 hcx hcy
      go_upto_region 17 with fail
      have kt := KT.out
      refine wp_lay [(106, []), (107, []), (108, [107]), (109, [106, 108]), (110, []), (111, []), (112, [111]), (113, [110, 112]), (114, [109, 113]), (105, [114]), (115, [105]), (116, [105]), (15, [115]), (16, [116])]
        (CallT wr TL [114, 105] [115, 15] [106, 107, 108, 109, 110, 111, 112, 113, 116, 16] (LnV3 (.slice (some ⟨bx, ox, none⟩) (D + 1) cx) (.int .i64 (d : Int)) (.int .i64 (D : Int)) (.slice (some ⟨bx, ox, none⟩) D cx) (.slice (some ⟨b_y, oy, none⟩) (D + 1) cy) (.int .i64 (d : Int)) (.int .i64 (D : Int)) (.slice (some ⟨b_y, oy, none⟩) D cy) (.bool true) (.bool true))) (by kernel_rfl) (by kernel_rfl) (fun σ => CallT.start (Below.refl _ _).drew σ) ?_ ?_
      · refine opsw_cons ?_ (opsw_cons ?_ (opsw_cons ?_ (opsw_cons ?_ (opsw_cons ?_ (opsw_cons ?_ (opsw_cons ?_ (opsw_cons ?_ (opsw_cons ?_ (opsw_cons ?_ (opsw_cons ?_ (opsw_cons ?_ (opsw_cons ?_ (opsw_cons ?_ opsw_nil)))))))))))))
        all_goals
          refine OpRunsW.any ?_
          intro Q0 D1 σ W K hW hd hn hK
          simp only [fill, List.map, Act.put, List.setIfInBounds_toArray, List.set_cons_zero, List.set_cons_succ] at hK ⊢
        · have HW := Lib.hid hW
          clear hW
          go_simp
          exact hK _ _ (HW.out.next (Below.refl _ _) (fun h => absurd h (by decide)) (fun h => absurd h (by decide)) (fun _ => rfl))
        · have HW := Lib.hid hW
          clear hW
          go_simp
          exact hK _ _ (HW.out.next (Below.refl _ _) (fun h => absurd h (by decide)) (fun h => absurd h (by decide)) (fun _ => rfl))
        · have h107 : σ 107 = (.int .i64 (d : Int)) := hW.sv 107 (by decide) (hn 107 (by decide))
          simp only [h107] at hK
          have HW := Lib.hid hW
          clear hW
          go_simp
          exact hK _ _ (HW.out.next (Below.refl _ _) (fun h => absurd h (by decide)) (fun h => absurd h (by decide)) (fun _ => rfl))
        · have h106 : σ 106 = (.slice (some ⟨bx, ox, none⟩) (D + 1) cx) := hW.sv 106 (by decide) (hn 106 (by decide))
          have h108 : σ 108 = (.int .i64 (D : Int)) := hW.sv 108 (by decide) (hn 108 (by decide))
          simp only [h106, h108] at hK
          have HW := Lib.hid hW
          clear hW
          go_simp
          exact hK _ _ (HW.out.next (Below.refl _ _) (fun h => absurd h (by decide)) (fun h => absurd h (by decide)) (fun _ => rfl))
        · have HW := Lib.hid hW
          clear hW
          go_simp
          exact hK _ _ (HW.out.next (Below.refl _ _) (fun h => absurd h (by decide)) (fun h => absurd h (by decide)) (fun _ => rfl))
        · have HW := Lib.hid hW
          clear hW
          go_simp
          exact hK _ _ (HW.out.next (Below.refl _ _) (fun h => absurd h (by decide)) (fun h => absurd h (by decide)) (fun _ => rfl))
        · have h111 : σ 111 = (.int .i64 (d : Int)) := hW.sv 111 (by decide) (hn 111 (by decide))
          simp only [h111] at hK
          have HW := Lib.hid hW
          clear hW
          go_simp
          exact hK _ _ (HW.out.next (Below.refl _ _) (fun h => absurd h (by decide)) (fun h => absurd h (by decide)) (fun _ => rfl))
        · have h110 : σ 110 = (.slice (some ⟨b_y, oy, none⟩) (D + 1) cy) := hW.sv 110 (by decide) (hn 110 (by decide))
          have h112 : σ 112 = (.int .i64 (D : Int)) := hW.sv 112 (by decide) (hn 112 (by decide))
          simp only [h110, h112] at hK
          have HW := Lib.hid hW
          clear hW
          go_simp
          exact hK _ _ (HW.out.next (Below.refl _ _) (fun h => absurd h (by decide)) (fun h => absurd h (by decide)) (fun _ => rfl))
        · have h109 : σ 109 = (.slice (some ⟨bx, ox, none⟩) D cx) := hW.sv 109 (by decide) (hn 109 (by decide))
          have h113 : σ 113 = (.slice (some ⟨b_y, oy, none⟩) D cy) := hW.sv 113 (by decide) (hn 113 (by decide))
          simp only [h109, h113] at hK
          have HW := Lib.hid hW
          clear hW
          go_simp
          go_at_call 23
          refine (kt _ HW.out.bel).mono ?_
          rintro e w2 ⟨v, rfl, hb, hp⟩
          exact hK _ _ (HW.out.next hb (fun _ => ⟨v, rfl, hp⟩) (fun h => absurd h (by decide)) (fun h => absurd h (by decide)))
        · obtain ⟨v, e114, hp⟩ := hW.tp 114 (by decide) (hn 114 (by decide))
          simp only [e114] at hK
          have HP := Lib.hid hp
          clear hp
          have HW := Lib.hid hW
          clear hW
          go_simp
          exact hK _ _ (HW.out.next (Below.refl _ _) (fun _ => ⟨v, rfl, HP.out⟩) (fun h => absurd h (by decide)) (fun h => absurd h (by decide)))
        · obtain ⟨v, e105, hp⟩ := hW.tp 105 (by decide) (hn 105 (by decide))
          simp only [e105] at hK
          have HP := Lib.hid hp
          clear hp
          have HW := Lib.hid hW
          clear hW
          go_simp
          exact hK _ _ (HW.out.next (Below.refl _ _) (fun h => absurd h (by decide)) (fun _ => HP.out) (fun h => absurd h (by decide)))
        · obtain ⟨v, e105, hp⟩ := hW.tp 105 (by decide) (hn 105 (by decide))
          simp only [e105] at hK
          have HP := Lib.hid hp
          clear hp
          have HW := Lib.hid hW
          clear hW
          go_simp
          exact hK _ _ (HW.out.next (Below.refl _ _) (fun h => absurd h (by decide)) (fun h => absurd h (by decide)) (fun _ => rfl))
        · have hp := hW.sl 115 (by decide) (hn 115 (by decide))
          obtain ⟨v, e115⟩ : ∃ v, σ 115 = v := ⟨_, rfl⟩
          rw [e115] at hp
          simp only [e115] at hK
          have HP := Lib.hid hp
          clear hp
          have HW := Lib.hid hW
          clear hW
          go_simp
          exact hK _ _ (HW.out.next (Below.refl _ _) (fun h => absurd h (by decide)) (fun _ => HP.out) (fun h => absurd h (by decide)))
        · have h116 : σ 116 = (.bool true) := hW.sv 116 (by decide) (hn 116 (by decide))
          simp only [h116] at hK
          have HW := Lib.hid hW
          clear hW
          go_simp
          exact hK _ _ (HW.out.next (Below.refl _ _) (fun h => absurd h (by decide)) (fun h => absurd h (by decide)) (fun _ => rfl))
      · intro D1 σ W hW hDn
        have hp := hW.sl 15 (by decide) (hDn 15 (by decide))
        have h16 : σ 16 = .bool true := hW.sv 16 (by decide) (hDn 16 (by decide))
        obtain ⟨v, h15⟩ : ∃ v, σ 15 = v := ⟨_, rfl⟩
        rw [h15] at hp
        have HB3 := Lib.hid (bthen (bthen HB0.out HB.out) hW.bel)
        have gx0 := bkeep hW.bel GX.out.1; have gx1 := bkeep hW.bel GX.out.2; have gy0 := bkeep hW.bel GY.out.1; have gy1 := bkeep hW.bel GY.out.2
        obtain ⟨aL, cL, rfl⟩ := hp.slice
        have HP := Lib.hid hp
        clear hW hDn hp kt KT GX GY PX PY HB HB0
        simp only [fill, List.map, Act.put, List.setIfInBounds_toArray, List.set_cons_zero, List.set_cons_succ, List.length_cons, List.length_nil, List.drop_succ_cons, List.drop_zero, Nat.reduceAdd, h15, h16]
        clear h15 h16
        go_upto_region 18 with fail
        have k0 := fun (W' : World) (hb : Below W.heap.size W W') => aw W' (HK.out _ _ HG0.out (bthen HB3.out hb))
        have k1 := fun (W' : World) (hb : Below W.heap.size W W') => KA.out W' _ (HP.out.keep hb)
        replace gx0 := fun q : Regrown => cell_regrown gx0 q.d q.os
        replace gx1 := fun q : Regrown => cell_regrown gx1 q.d q.os
        replace gy0 := fun q : Regrown => cell_regrown gy0 q.d q.os
        replace gy1 := fun q : Regrown => cell_regrown gy1 q.d q.os
        refine wp_region_quiet_below (by kernel_rfl) (by kernel_rfl) ?_
        repeat (first | go_big_quiet_step (first
          | (go_at_call 10; with_reducible exact Calls.regrown_of (k0 _ (below_regrown W _ _)))
          | (go_at_call 24; with_reducible exact Calls.regrown_of (k1 _ (below_regrown W _ _)))) | quiet_step (fail))
        refine wpQuiet_nil ?_
        rintro _ ⟨pq, rfl⟩
        have HB := Lib.hid (bthen HB3.out (below_regrown W pq.d pq.os))
        go_wp2
        go_ret
        exact ⟨rfl, HB.out⟩
end Go.Proofs.Ytlgfnlkblehlbaa
