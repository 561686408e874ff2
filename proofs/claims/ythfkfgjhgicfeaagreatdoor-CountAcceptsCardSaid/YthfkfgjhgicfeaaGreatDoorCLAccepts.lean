/-
  The body of CountAccepts, where the program's calls do what is asked of them. (Written by gen_clacc.py.)
-/
import Derived.Test.YthfkfgjhgicfeaaGreatDoorGCntRef
import Derived.Test.YthfkfgjhgicfeaaGreatDoorCountAw
import Derived.BigQuiet
namespace Go.Proofs.YthfkfgjhgicfeaaGreatDoor
open Go Go.RowKit Go.Sort Go.BigFrame
set_option linter.unusedVariables false
attribute [local go_sem] quad_eq
def CapOk (W : World) (ta : Option Addr) (tn : Nat) (rows : List QL) : Prop := 0 < tn → ∃ (b off : Nat) (ak : Option Addr) (ck : Nat), ta = some ⟨b, off, none⟩ ∧ W.cell? ⟨b, off, none⟩ = some (.slice ak (rows.getD 0 []).length ck) ∧ QRowA W ak (rows.getD 0 []).length (rows.getD 0 []) ∧ (rows.getD 0 []).length ≤ ck
theorem CapOk.keep {W W' : World} {ta : Option Addr} {tn : Nat} {rows : List QL} (h : CapOk W ta tn rows) (hb : Below W.heap.size W W') : CapOk W' ta tn rows := fun h0 => by
  obtain ⟨b, off, ak, ck, e, h1, h2, h3⟩ := h h0
  exact ⟨b, off, ak, ck, e, bkeep hb h1, h2.keep hb, h3⟩
theorem sameq_blw (a1 a2 : Option Addr) (l1 l2 c1 c2 : Nat) (xs : QL) (w : World) (h1 : QRowA w a1 l1 xs) (h2 : QRowA w a2 l2 xs) :
    Calls Tryz.prog 11 #[.slice a1 l1 c1, .slice a2 l2 c2] w fun e w' => e = .returned (.bool true) ∧ Below w.heap.size w w' :=
  (sameq_is a1 a2 l1 l2 c1 c2 xs xs w h1 h2 rfl).mono fun e w' ⟨h, n, hn⟩ => ⟨h, by subst hn; exact below_drewN (Below.refl _ _) n⟩
def QLoop (w0 : World) (N : Nat) (i : Value) (W : World) : Prop := ∃ q : Nat, q ≤ N ∧ i = .int .i64 (q : Int) ∧ Below w0.heap.size w0 W
def Acc18 (ak a : Option Addr) (g b0 o0 tn tc L ck n c RN : Nat) (RW : List QL) (sl : Nat) (v : Value) (W : World) : Prop :=
  match sl with
  | 111 => v = .pointer (some ⟨g, 6, none⟩)
  | 112 => v = .slice (some ⟨b0, o0, none⟩) tn tc
  | 113 => v = .pointer (some ⟨b0, o0, none⟩)
  | 114 => v = .slice ak L ck
  | 115 => v = .pointer (some ⟨g, 5, none⟩)
  | 116 => v = .slice a n c
  | 117 => ∃ (qa : Option Addr) (qc : Nat), v = .slice qa RN qc ∧ TabQ W qa RN RW
  | 118 => v = .pointer (some ⟨g, 6, none⟩)
  | 119 => v = .slice (some ⟨b0, o0, none⟩) tn tc
  | 120 => v = .pointer (some ⟨b0, o0, none⟩)
  | 121 => v = .slice ak L ck
  | 122 => v = .pointer (some ⟨g, 5, none⟩)
  | 123 => v = .slice a n c
  | 124 => ∃ (qa : Option Addr) (qc : Nat), v = .slice qa RN qc ∧ TabQ W qa RN RW
  | 9 => ∃ (qa : Option Addr) (qc : Nat), v = .slice qa RN qc ∧ TabQ W qa RN RW
  | 10 => ∃ (qa : Option Addr) (qc : Nat), v = .slice qa RN qc ∧ TabQ W qa RN RW
  | _ => v = .bool true
theorem Acc18.keep {ak a : Option Addr} {g b0 o0 tn tc L ck n c RN : Nat} {RW : List QL} {sl : Nat} {v : Value} {W W' : World} (h : Acc18 ak a g b0 o0 tn tc L ck n c RN RW sl v W) (hb : Below W.heap.size W W') : Acc18 ak a g b0 o0 tn tc L ck n c RN RW sl v W' := by
  unfold Acc18 at *
  split at h
  all_goals first | exact h | (obtain ⟨qa, qc, e, ht⟩ := h; exact ⟨qa, qc, e, ht.keep hb⟩)
def CapRel (w0 : World) (tn : Nat) (rows : List QL) (i : Value) (W : World) : Prop := ∃ q : Nat, q ≤ tn ∧ i = .int .i64 (q : Int) ∧ (∀ j, j < q → (rows.getD j []).length ≤ 130) ∧ W = w0
set_option maxRecDepth 100000 in
set_option maxHeartbeats 8000000 in
theorem count_accepts (G : World → Prop) (hA : AskCount G) (k bl fo qu gr pl : Int) (a : Option Addr) (n c : Nat) (bys : QL) (ta : Option Addr) (tn tc : Nat) (rows : List QL) (fa : Option Addr) (fn fc : Nat) (fin : QL) (w : World) (hG : G w) (hfo : I64 fo) (hpl : I64 pl)
    (hby : QRowA w a n bys) (hbu : UsR bys) (ht : TabQ w ta tn rows) (htu : UsT rows) (hcap : 0 < tn → ∀ b off ak ck, ta = some ⟨b, off, none⟩ → w.cell? ⟨b, off, none⟩ = some (.slice ak (rows.getD 0 []).length ck) → (rows.getD 0 []).length ≤ ck) (hf : QRowA w fa fn fin) (hfu : UsR fin) :
    Calls Tryz.prog 3 #[.agg #[.int .i64 k, .int .i64 bl, .int .i64 fo, .int .i64 qu, .int .i64 gr, .slice a n c, .slice ta tn tc, .int .i64 pl, .slice fa fn fc]] w fun e w' => e = .returned (.bool true) ∧ Below w.heap.size w w' := by
  have HG0 := Lib.hid hG; have HFO := Lib.hid hfo; have HPL := Lib.hid hpl; have HBY0 := Lib.hid hby; have HBU := Lib.hid hbu; have HT0 := Lib.hid ht; have HTU := Lib.hid htu; have HCAP0 := Lib.hid hcap; have HF0 := Lib.hid hf; have HFU := Lib.hid hfu
  clear hG hfo hpl hby hbu ht htu hcap hf hfu
  go_enter Tryz.func3, Tryz.ntmps3
  go_upto_region 1 with fail
  obtain ⟨g, hg⟩ : ∃ g, w.heap.size = g := ⟨_, rfl⟩
  refine wp_gen (fun W => Below w.heap.size w W ∧ W.cell? ⟨g, 0, none⟩ = some (.int .i64 k) ∧ W.cell? ⟨g, 1, none⟩ = some (.int .i64 bl) ∧ W.cell? ⟨g, 2, none⟩ = some (.int .i64 fo) ∧ W.cell? ⟨g, 3, none⟩ = some (.int .i64 qu) ∧ W.cell? ⟨g, 4, none⟩ = some (.int .i64 gr) ∧ W.cell? ⟨g, 5, none⟩ = some (.slice a n c) ∧ W.cell? ⟨g, 6, none⟩ = some (.slice ta tn tc) ∧ W.cell? ⟨g, 7, none⟩ = some (.int .i64 pl) ∧ W.cell? ⟨g, 8, none⟩ = some (.slice fa fn fc)) ⟨(Below.refl _ _).alloc (Nat.le_refl _) _, by subst hg; simp [go_sem], by subst hg; simp [go_sem], by subst hg; simp [go_sem], by subst hg; simp [go_sem], by subst hg; simp [go_sem], by subst hg; simp [go_sem], by subst hg; simp [go_sem], by subst hg; simp [go_sem], by subst hg; simp [go_sem]⟩ ?_
  rintro w0 ⟨hB0, c0, c1, c2, c3, c4, c5, c6, c7, c8⟩
  simp only [hg]
  have HB0 := Lib.hid hB0
  have HG := Lib.hid (hA.keep HG0.out hB0); have HBY := Lib.hid (HBY0.out.keep hB0); have HT := Lib.hid (HT0.out.keep hB0); have HF := Lib.hid (HF0.out.keep hB0)
  have HCAP : Hid (CapOk w0 ta tn rows) := Lib.hid (fun h => by
    obtain ⟨b, off, e, ak, ck, h1, h2⟩ := HT0.out.2.2 0 h
    rw [Nat.add_zero] at h1
    exact ⟨b, off, ak, ck, e, bkeep hB0 h1, h2.keep hB0, HCAP0.out h b off ak ck e h1⟩)
  have HB : Hid (Below w0.heap.size w0 w0) := Lib.hid (Below.refl _ _)
  have aw := fun W (h : Below w0.heap.size w0 W) => cntawake G hA W (hA.keep HG.out h)
  clear hB0 hg HG0 HBY0 HT0 HF0 HCAP0
  by_cases f0 : k < 0
  · go_wp2_with (go_at_call 6; (with_reducible refine (aw _ HB.out).mono ?_); rintro e w1 ⟨rfl, hb⟩; replace HB := Lib.hid (bthen HB.out hb); clear hb)
    go_ret
    exact ⟨rfl, bthen HB0.out HB.out⟩
  by_cases f1 : 4 < k
  · go_wp2_with (go_at_call 6; (with_reducible refine (aw _ HB.out).mono ?_); rintro e w1 ⟨rfl, hb⟩; replace HB := Lib.hid (bthen HB.out hb); clear hb)
    go_ret
    exact ⟨rfl, bthen HB0.out HB.out⟩
  by_cases f2 : bl < 1
  · go_wp2_with (go_at_call 6; (with_reducible refine (aw _ HB.out).mono ?_); rintro e w1 ⟨rfl, hb⟩; replace HB := Lib.hid (bthen HB.out hb); clear hb)
    go_ret
    exact ⟨rfl, bthen HB0.out HB.out⟩
  by_cases f3 : 3 < bl
  · go_wp2_with (go_at_call 6; (with_reducible refine (aw _ HB.out).mono ?_); rintro e w1 ⟨rfl, hb⟩; replace HB := Lib.hid (bthen HB.out hb); clear hb)
    go_ret
    exact ⟨rfl, bthen HB0.out HB.out⟩
  by_cases f4 : (6 : Int) < (tn : Int)
  · go_wp2_with (go_at_call 6; (with_reducible refine (aw _ HB.out).mono ?_); rintro e w1 ⟨rfl, hb⟩; replace HB := Lib.hid (bthen HB.out hb); clear hb)
    go_ret
    exact ⟨rfl, bthen HB0.out HB.out⟩
  by_cases f5 : (6 : Int) < (n : Int)
  · go_wp2_with (go_at_call 6; (with_reducible refine (aw _ HB.out).mono ?_); rintro e w1 ⟨rfl, hb⟩; replace HB := Lib.hid (bthen HB.out hb); clear hb)
    go_ret
    exact ⟨rfl, bthen HB0.out HB.out⟩
  by_cases f6 : (20 : Int) < (fn : Int)
  · go_wp2_with (go_at_call 6; (with_reducible refine (aw _ HB.out).mono ?_); rintro e w1 ⟨rfl, hb⟩; replace HB := Lib.hid (bthen HB.out hb); clear hb)
    go_ret
    exact ⟨rfl, bthen HB0.out HB.out⟩
  go_upto_region 4 with fail
  have HTN := Lib.hid (show tn ≤ 6 by omega)
  have HN6 := Lib.hid (show n ≤ 6 by omega)
  clear f4 f5 f6
  have HK := Lib.hid (show 0 ≤ k ∧ k ≤ 10 by omega)
  have HBL := Lib.hid (show 1 ≤ bl ∧ bl ≤ 4 by omega)
  clear f0 f1 f2 f3
  go_loopw [3] (CapRel w0 tn rows) (fun i _ => tn - (intOf i).toNat)
  case atStart => exact ⟨0, Nat.zero_le _, rfl, fun j hj => absurd hj (Nat.not_lt_zero j), rfl⟩
  case round =>
    obtain ⟨q, hq, rfl, hall, rfl⟩ := hrel
    have hq0 : (0 : Int) ≤ (q : Int) := Int.natCast_nonneg q
    by_cases hlt : q < tn
    · obtain ⟨b9, o9, e9, aj, cj, c9, hj9⟩ := HT.out.2.2 q hlt
      subst e9
      have hltI : (q : Int) < (tn : Int) := Int.ofNat_lt.2 hlt
      have hq20 : (q : Int) < 20 := by have := HTN.out; omega
      obtain ⟨J, hJ⟩ : ∃ J, (rows.getD q []).length = J := ⟨_, rfl⟩
      rw [hJ] at c9
      by_cases hgt : (130 : Int) < (J : Int)
      · clear hall hj9
        go_wp2_with (go_at_call 6; (with_reducible refine (aw _ HB.out).mono ?_); rintro e w1 ⟨rfl, hb⟩; replace HB := Lib.hid (bthen HB.out hb); clear hb)
        go_ret
        exact ⟨rfl, bthen HB0.out HB.out⟩
      · have HALL := Lib.hid hall; have HJ := Lib.hid hJ
        clear hall hj9 hJ
        go_wp2_with fail
        go_roundw
        case rel => exact ⟨q + 1, hlt, by go_num, fun j hj => by (rcases Nat.lt_or_ge j q with h | h; · exact HALL.out j h); (obtain rfl : j = q := by omega); rw [HJ.out]; omega, rfl⟩
        case measure => simp [intOf]; omega
    · obtain rfl : tn = q := by omega
      have hltI : ¬ (tn : Int) < (tn : Int) := by omega
      have hlen : ∀ r ∈ rows, r.length ≤ 4294967296 := fun r hr => by
        obtain ⟨j, hj, rfl⟩ := List.mem_iff_getElem.1 hr
        have h1 := hall j (by have := HT.out.1; omega)
        rw [show rows.getD j [] = rows[j] by simp [List.getD, hj]] at h1
        omega
      have HLEN := Lib.hid hlen
      have s1 := fun W (h : Below wr.heap.size wr W) => hA.seen ta tn tc rows pl W (HT.out.keep h) HTU.out (by have := HTN.out; omega) HLEN.out HPL.out (hA.keep HG.out h)
      have s2 := fun W (h : Below wr.heap.size wr W) => rseen_is ta tn tc rows pl W (HT.out.keep h) (by have := HTN.out; omega) HLEN.out HPL.out
      unfold SeenPost at s1 s2
      clear hall hq hq0 hlt hlen
      obtain ⟨⟨⟨z0, z1⟩, ⟨z2, z3⟩⟩, hz⟩ : ∃ z, (opnV rows pl).getD 0 zeroQ = z := ⟨_, rfl⟩
      rw [hz] at s1 s2
      generalize (opnV rows pl).drop 1 = ql at s1 s2
      obtain ⟨Q, hQ⟩ : ∃ Q, ql.length = Q := ⟨_, rfl⟩
      rw [hQ] at s1 s2
      simp only [quadV] at s1 s2
      clear hz hQ
      go_upto_region 8 with fail
      clear hltI
      go_upto_region 9 with (go_at_call 7; (with_reducible refine (s1 _ HB.out).mono ?_); rintro e w1 ⟨hb, qa, qc, rfl, hq⟩; have HQ1 := Lib.hid hq; replace HB := Lib.hid (bthen HB.out hb); clear hb hq)
      obtain ⟨g4, hg4⟩ : ∃ x, w1.heap.size = x := ⟨_, rfl⟩
      have hsz := HB.out.size
      refine wp_gen (fun W => Below wr.heap.size wr W ∧ Below w1.heap.size w1 W ∧ W.cell? ⟨g4, 0, none⟩ = some (.int .u64 z0) ∧ W.cell? ⟨g4, 1, none⟩ = some (.int .u64 z1) ∧ W.cell? ⟨g4, 2, none⟩ = some (.int .u64 z2) ∧ W.cell? ⟨g4, 3, none⟩ = some (.int .u64 z3)) ⟨HB.out.alloc hsz _, (Below.refl _ _).alloc (Nat.le_refl _) _, by subst hg4; simp [go_sem], by subst hg4; simp [go_sem], by subst hg4; simp [go_sem], by subst hg4; simp [go_sem]⟩ ?_
      rintro w2 ⟨hb, hb1, d0, d1, d2, d3⟩
      simp only [hg4]
      replace HQ1 := Lib.hid (HQ1.out.keep hb1)
      replace HB := Lib.hid hb
      clear hb hb1 hg4 hsz s1
      replace c0 := bkeep HB.out c0
      replace c1 := bkeep HB.out c1
      replace c2 := bkeep HB.out c2
      replace c3 := bkeep HB.out c3
      replace c4 := bkeep HB.out c4
      replace c5 := bkeep HB.out c5
      replace c6 := bkeep HB.out c6
      replace c7 := bkeep HB.out c7
      replace c8 := bkeep HB.out c8
      go_upto_region 10 with (go_at_call 8; (with_reducible refine (s2 _ HB.out).mono ?_); rintro e w3 ⟨hb, ra, rc, rfl, hq⟩; have HQ2 := Lib.hid hq; replace HQ1 := Lib.hid (HQ1.out.keep hb); replace d0 := bkeep hb d0; replace d1 := bkeep hb d1; replace d2 := bkeep hb d2; replace d3 := bkeep hb d3; replace c0 := bkeep hb c0; replace c1 := bkeep hb c1; replace c2 := bkeep hb c2; replace c3 := bkeep hb c3; replace c4 := bkeep hb c4; replace c5 := bkeep hb c5; replace c6 := bkeep hb c6; replace c7 := bkeep hb c7; replace c8 := bkeep hb c8; replace HB := Lib.hid (bthen HB.out hb); clear hb hq)
      obtain ⟨g6, hg6⟩ : ∃ x, w3.heap.size = x := ⟨_, rfl⟩
      have hsz := HB.out.size
      refine wp_gen (fun W => Below wr.heap.size wr W ∧ Below w3.heap.size w3 W ∧ W.cell? ⟨g6, 0, none⟩ = some (.int .u64 z0) ∧ W.cell? ⟨g6, 1, none⟩ = some (.int .u64 z1) ∧ W.cell? ⟨g6, 2, none⟩ = some (.int .u64 z2) ∧ W.cell? ⟨g6, 3, none⟩ = some (.int .u64 z3)) ⟨HB.out.alloc hsz _, (Below.refl _ _).alloc (Nat.le_refl _) _, by subst hg6; simp [go_sem], by subst hg6; simp [go_sem], by subst hg6; simp [go_sem], by subst hg6; simp [go_sem]⟩ ?_
      rintro w4 ⟨hb, hb1, x0, x1, x2, x3⟩
      simp only [hg6]
      replace d0 := bkeep hb1 d0; replace d1 := bkeep hb1 d1; replace d2 := bkeep hb1 d2; replace d3 := bkeep hb1 d3
      replace HQ1 := Lib.hid (HQ1.out.keep hb1)
      replace HQ2 := Lib.hid (HQ2.out.keep hb1)
      replace HB := Lib.hid hb
      replace c0 := bkeep hb1 c0; replace c1 := bkeep hb1 c1; replace c2 := bkeep hb1 c2; replace c3 := bkeep hb1 c3; replace c4 := bkeep hb1 c4; replace c5 := bkeep hb1 c5; replace c6 := bkeep hb1 c6; replace c7 := bkeep hb1 c7; replace c8 := bkeep hb1 c8
      clear hb hb1 hg6 hsz s2
      have hbx := HB.out
      replace HB0 := Lib.hid (bthen HB0.out hbx)
      replace HG := Lib.hid (hA.keep HG.out hbx)
      replace HBY := Lib.hid (HBY.out.keep hbx)
      replace HT := Lib.hid (HT.out.keep hbx)
      replace HF := Lib.hid (HF.out.keep hbx)
      replace HCAP := Lib.hid (HCAP.out.keep hbx)
      replace aw := fun W (h : Below w4.heap.size w4 W) => cntawake G hA W (hA.keep HG.out h)
      clear hbx
      replace HB : Hid (Below w4.heap.size w4 w4) := Lib.hid (Below.refl _ _)
      have HC := Lib.hid (And.intro c0 (And.intro c1 (And.intro c2 (And.intro c3 (And.intro c4 (And.intro c5 (And.intro c6 c8)))))))
      clear c0 c1 c2 c3 c4 c5 c6 c7 c8
      go_upto_region 12 with fail
      clear d0 d1 d2 d3 x0 x1 x2 x3
      go_upto_region 13 with fail
      go_loopw [8] (QLoop w4 Q) (fun i _ => Q - (intOf i).toNat)
      case atStart => exact ⟨0, Nat.zero_le _, rfl, Below.refl _ _⟩
      case round =>
        obtain ⟨q, hq, rfl, hB⟩ := hrel
        have hq0 : (0 : Int) ≤ (q : Int) := Int.natCast_nonneg q
        by_cases hlt : q < Q
        · obtain ⟨b1, o1, e1, p0, p1, p2, p3⟩ := HQ1.out.2.2 q hlt
          obtain ⟨b2, o2, e2, r0, r1, r2, r3⟩ := HQ2.out.2.2 q hlt
          subst e1
          subst e2
          have hltI : (q : Int) < (Q : Int) := Int.ofNat_lt.2 hlt
          have hqm : (q : Int) < 9223372036854775807 := by have := HQ1.out.2.1; unfold maxLen at this; omega
          generalize (ql.getD q zeroQ).1.1 = y0 at p0 r0
          generalize (ql.getD q zeroQ).1.2 = y1 at p1 r1
          generalize (ql.getD q zeroQ).2.1 = y2 at p2 r2
          generalize (ql.getD q zeroQ).2.2 = y3 at p3 r3
          replace p0 := bkeep hB p0; replace p1 := bkeep hB p1; replace p2 := bkeep hB p2; replace p3 := bkeep hB p3
          replace r0 := bkeep hB r0; replace r1 := bkeep hB r1; replace r2 := bkeep hB r2; replace r3 := bkeep hB r3
          go_upto_region 15 with fail
          replace p0 := fun q : Regrown => cell_regrown p0 q.d q.os
          replace p1 := fun q : Regrown => cell_regrown p1 q.d q.os
          replace p2 := fun q : Regrown => cell_regrown p2 q.d q.os
          replace p3 := fun q : Regrown => cell_regrown p3 q.d q.os
          replace r0 := fun q : Regrown => cell_regrown r0 q.d q.os
          replace r1 := fun q : Regrown => cell_regrown r1 q.d q.os
          replace r2 := fun q : Regrown => cell_regrown r2 q.d q.os
          replace r3 := fun q : Regrown => cell_regrown r3 q.d q.os
          refine wp_region_quiet_below (by kernel_rfl) (by kernel_rfl) ?_
          repeat (first | go_big_quiet_step (fail) | quiet_step (fail))
          refine wpQuiet_nil ?_
          rintro _ ⟨pq, rfl⟩
          have hbq := below_regrown wr pq.d pq.os
          have HBQ := Lib.hid (bthen hB hbq)
          clear p0 p1 p2 p3 r0 r1 r2 r3 hbq hB
          go_wp2_with fail
          go_roundw
          case rel => exact ⟨q + 1, hlt, by go_num, HBQ.out⟩
          case measure => simp [intOf]; omega
        · obtain rfl : Q = q := by omega
          have hltI : ¬ (Q : Int) < (Q : Int) := by omega
          clear hq hq0 hlt HQ1 HQ2
          replace HB0 := Lib.hid (bthen HB0.out hB)
          replace HG := Lib.hid (hA.keep HG.out hB)
          replace HBY := Lib.hid (HBY.out.keep hB)
          replace HT := Lib.hid (HT.out.keep hB)
          replace HF := Lib.hid (HF.out.keep hB)
          replace HCAP := Lib.hid (HCAP.out.keep hB)
          replace aw := fun W (h : Below wr.heap.size wr W) => cntawake G hA W (hA.keep HG.out h)
          obtain ⟨c0, c1, c2, c3, c4, c5, c6, c8⟩ := HC.out
          replace c0 := bkeep hB c0; replace c1 := bkeep hB c1; replace c2 := bkeep hB c2; replace c3 := bkeep hB c3; replace c4 := bkeep hB c4; replace c5 := bkeep hB c5; replace c6 := bkeep hB c6; replace c8 := bkeep hB c8
          clear HC hB HB
          go_upto_region 17 with fail
          clear hltI
          by_cases ht0 : 0 < tn
          · obtain ⟨b0, o0, ak, ck, e0, c9, hr0, hck⟩ := HCAP.out ht0
            subst e0
            have hm : rows.getD 0 [] ∈ rows := by
              have h1 := HT.out.1
              rw [show rows.getD 0 [] = rows[0]'(by omega) by simp [List.getD, show 0 < rows.length by omega]]
              exact List.getElem_mem _
            have hw1 := HTU.out _ hm
            have hw2 := HLEN.out _ hm
            generalize rows.getD 0 [] = word at *
            obtain ⟨L, hL⟩ : ∃ L, word.length = L := ⟨_, rfl⟩
            rw [hL] at c9 hr0 hck hw2
            have HR0 := Lib.hid hr0
            have HW := Lib.hid (And.intro hw1 (And.intro hw2 hck))
            have k1 := fun W (h : Below wr.heap.size wr W) => hA.words ak L ck word a n c bys W (HR0.out.keep h) HW.out.1 HW.out.2.1 HW.out.2.2 (HBY.out.keep h) HBU.out (by have := HN6.out; omega) (hA.keep HG.out h)
            have k2 := fun W (h : Below wr.heap.size wr W) => rwords_is ak L ck word a n c bys W (HR0.out.keep h) HW.out.1 HW.out.2.1 (HBY.out.keep h) HBU.out (by have := HN6.out; omega)
            unfold TabPost at k1 k2
            clear hm hw1 hw2 hL hr0 hck
            generalize wordsV word bys = RW at k1 k2
            obtain ⟨RN, hRN⟩ : ∃ x, RW.length = x := ⟨_, rfl⟩
            rw [hRN] at k1 k2
            clear hRN
            go_upto_region 18 with fail
            try simp only [decide_eq_true ht0]
            have HC := Lib.hid (And.intro c0 (And.intro c1 (And.intro c2 (And.intro c3 (And.intro c4 (And.intro c5 (And.intro c6 c8)))))))
            clear c0 c1 c2 c3 c4 c8
            refine wp_loose [(111, []), (112, [111]), (113, [112]), (114, [113]), (115, []), (116, [115]), (117, [114, 116]), (118, []), (119, [118]), (120, [119]), (121, [120]), (122, []), (123, [122]), (124, [121, 123]), (9, [117]), (10, [124])]
              (Acc18 ak a g b0 o0 tn tc L ck n c RN RW) (fun d => false) (by kernel_rfl) (by kernel_rfl) (fun _ _ _ _ h hb => h.keep hb) ?_ ?_
            · refine opsrun_cons ?_ (opsrun_cons ?_ (opsrun_cons ?_ (opsrun_cons ?_ (opsrun_cons ?_ (opsrun_cons ?_ (opsrun_cons ?_ (opsrun_cons ?_ (opsrun_cons ?_ (opsrun_cons ?_ (opsrun_cons ?_ (opsrun_cons ?_ (opsrun_cons ?_ (opsrun_cons ?_ (opsrun_cons ?_ (opsrun_cons ?_ opsrun_nil)))))))))))))))
              all_goals
                refine OpRuns.any ?_
                intro Q0 σ W' K hb hn hK
                simp only [fill, List.map, Act.put, List.setIfInBounds_toArray, List.set_cons_zero, List.set_cons_succ] at hK ⊢
              · clear hn
                go_simp
                exact hK _ _ rfl (Below.refl _ _) (fun h => absurd h (by decide))
              · have h111 : σ 111 = _ := hn 111 (by decide)
                clear hn
                simp only [h111] at hK
                have c6' := bkeep hb c6
                clear c6
                go_simp
                exact hK _ _ rfl (Below.refl _ _) (fun h => absurd h (by decide))
              · have h112 : σ 112 = _ := hn 112 (by decide)
                clear hn
                simp only [h112] at hK
                go_simp
                exact hK _ _ rfl (Below.refl _ _) (fun h => absurd h (by decide))
              · have h113 : σ 113 = _ := hn 113 (by decide)
                clear hn
                simp only [h113] at hK
                have c9' := bkeep hb c9
                clear c9
                go_simp
                exact hK _ _ rfl (Below.refl _ _) (fun h => absurd h (by decide))
              · clear hn
                go_simp
                exact hK _ _ rfl (Below.refl _ _) (fun h => absurd h (by decide))
              · have h115 : σ 115 = _ := hn 115 (by decide)
                clear hn
                simp only [h115] at hK
                have c5' := bkeep hb c5
                clear c5
                go_simp
                exact hK _ _ rfl (Below.refl _ _) (fun h => absurd h (by decide))
              · have h114 : σ 114 = _ := hn 114 (by decide)
                have h116 : σ 116 = _ := hn 116 (by decide)
                clear hn
                simp only [h114, h116] at hK
                go_simp
                go_at_call 9
                refine (k1 _ hb).mono ?_
                rintro e w1 ⟨hb1, qa, qc, rfl, ht, _⟩
                exact hK _ _ ⟨qa, qc, rfl, ht⟩ hb1 (fun h => absurd h (by decide))
              · clear hn
                go_simp
                exact hK _ _ rfl (Below.refl _ _) (fun h => absurd h (by decide))
              · have h118 : σ 118 = _ := hn 118 (by decide)
                clear hn
                simp only [h118] at hK
                have c6' := bkeep hb c6
                clear c6
                go_simp
                exact hK _ _ rfl (Below.refl _ _) (fun h => absurd h (by decide))
              · have h119 : σ 119 = _ := hn 119 (by decide)
                clear hn
                simp only [h119] at hK
                go_simp
                exact hK _ _ rfl (Below.refl _ _) (fun h => absurd h (by decide))
              · have h120 : σ 120 = _ := hn 120 (by decide)
                clear hn
                simp only [h120] at hK
                have c9' := bkeep hb c9
                clear c9
                go_simp
                exact hK _ _ rfl (Below.refl _ _) (fun h => absurd h (by decide))
              · clear hn
                go_simp
                exact hK _ _ rfl (Below.refl _ _) (fun h => absurd h (by decide))
              · have h122 : σ 122 = _ := hn 122 (by decide)
                clear hn
                simp only [h122] at hK
                have c5' := bkeep hb c5
                clear c5
                go_simp
                exact hK _ _ rfl (Below.refl _ _) (fun h => absurd h (by decide))
              · have h121 : σ 121 = _ := hn 121 (by decide)
                have h123 : σ 123 = _ := hn 123 (by decide)
                clear hn
                simp only [h121, h123] at hK
                go_simp
                go_at_call 10
                refine (k2 _ hb).mono ?_
                rintro e w1 ⟨hb1, qa, qc, rfl, ht, _⟩
                exact hK _ _ ⟨qa, qc, rfl, ht⟩ hb1 (fun h => absurd h (by decide))
              · have p117 : ∃ (qa : Option Addr) (qc : Nat), (σ 117) = .slice qa RN qc ∧ TabQ W' qa RN RW := hn 117 (by decide)
                clear hn
                obtain ⟨qa, qc, e1, ht⟩ := p117
                simp only [e1] at hK
                go_simp
                exact hK _ _ ⟨qa, qc, rfl, ht⟩ (Below.refl _ _) (fun h => absurd h (by decide))
              · have p124 : ∃ (qa : Option Addr) (qc : Nat), (σ 124) = .slice qa RN qc ∧ TabQ W' qa RN RW := hn 124 (by decide)
                clear hn
                obtain ⟨qa, qc, e1, ht⟩ := p124
                simp only [e1] at hK
                go_simp
                exact hK _ _ ⟨qa, qc, rfl, ht⟩ (Below.refl _ _) (fun h => absurd h (by decide))
            · intro σ w5 hb hR' hF'
              obtain ⟨xa, xc, h9, hx⟩ := hR' 9 (by decide)
              obtain ⟨ya, yc, h10, hy⟩ := hR' 10 (by decide)
              have HX := Lib.hid hx; have HY := Lib.hid hy
              clear hR' hF' hx hy k1 k2 c5 c6 c9 HR0 HW
              simp only [fill, List.map, Act.put, List.setIfInBounds_toArray, List.set_cons_zero, List.set_cons_succ, List.length_cons, List.length_nil, List.drop_succ_cons, List.drop_zero, Nat.reduceAdd, h9, h10]
              clear h9 h10
              replace HB0 := Lib.hid (bthen HB0.out hb)
              replace HG := Lib.hid (hA.keep HG.out hb)
              replace HBY := Lib.hid (HBY.out.keep hb)
              replace HT := Lib.hid (HT.out.keep hb)
              replace HF := Lib.hid (HF.out.keep hb)
              replace HCAP := Lib.hid (HCAP.out.keep hb)
              replace aw := fun W (h : Below w5.heap.size w5 W) => cntawake G hA W (hA.keep HG.out h)
              obtain ⟨c0, c1, c2, c3, c4, c5, c6, c8⟩ := HC.out
              replace c0 := bkeep hb c0; replace c1 := bkeep hb c1; replace c2 := bkeep hb c2; replace c3 := bkeep hb c3; replace c4 := bkeep hb c4; replace c5 := bkeep hb c5; replace c6 := bkeep hb c6; replace c8 := bkeep hb c8
              replace HC := Lib.hid (And.intro c0 (And.intro c1 (And.intro c2 (And.intro c3 (And.intro c4 (And.intro c5 (And.intro c6 c8)))))))
              clear hb c0 c1 c2 c3 c4 c5 c6 c8
              go_upto_region 22 with fail
              go_loopw [11] (QLoop w5 RN) (fun i _ => RN - (intOf i).toNat)
              case atStart => exact ⟨0, Nat.zero_le _, rfl, Below.refl _ _⟩
              case round =>
                obtain ⟨q, hq, rfl, hB⟩ := hrel
                have hq0 : (0 : Int) ≤ (q : Int) := Int.natCast_nonneg q
                by_cases hlt : q < RN
                · obtain ⟨b1, o1, e1, a1, d1, p1, hj1⟩ := HX.out.2.2 q hlt
                  obtain ⟨b2, o2, e2, a2, d2, p2, hj2⟩ := HY.out.2.2 q hlt
                  subst e1
                  subst e2
                  have hltI : (q : Int) < (RN : Int) := Int.ofNat_lt.2 hlt
                  have hqm : (q : Int) < 9223372036854775807 := by have := HX.out.2.1; unfold maxLen at this; omega
                  generalize RW.getD q [] = line at p1 p2 hj1 hj2
                  obtain ⟨L1, hL1⟩ : ∃ L, line.length = L := ⟨_, rfl⟩
                  rw [hL1] at p1 p2 hj1 hj2
                  clear hL1
                  replace p1 := bkeep hB p1
                  replace p2 := bkeep hB p2
                  have HJ1 := Lib.hid (hj1.keep hB)
                  have HJ2 := Lib.hid (hj2.keep hB)
                  have k3 := fun W (h : Below wr.heap.size wr W) => sameq_blw a1 a2 L1 L1 d1 d2 line W (HJ1.out.keep h) (HJ2.out.keep h)
                  clear hj1 hj2
                  go_upto_region 24 with fail
                  replace p1 := fun q : Regrown => cell_regrown p1 q.d q.os
                  replace p2 := fun q : Regrown => cell_regrown p2 q.d q.os
                  refine wp_region_quiet_below (by kernel_rfl) (by kernel_rfl) ?_
                  repeat (first | go_big_quiet_step (first
                    | (go_at_call 11; with_reducible exact Calls.regrown_of (k3 _ (below_regrown wr _ _)))) | quiet_step (fail))
                  refine wpQuiet_nil ?_
                  rintro _ ⟨pq, rfl⟩
                  have hbq := below_regrown wr pq.d pq.os
                  have HBQ := Lib.hid (bthen hB hbq)
                  clear p1 p2 k3 hbq hB
                  go_wp2_with fail
                  go_roundw
                  case rel => exact ⟨q + 1, hlt, by go_num, HBQ.out⟩
                  case measure => simp [intOf]; omega
                · obtain rfl : RN = q := by omega
                  have hltI : ¬ (RN : Int) < (RN : Int) := by omega
                  clear hq hq0 hlt HX HY
                  replace HB0 := Lib.hid (bthen HB0.out hB)
                  replace HG := Lib.hid (hA.keep HG.out hB)
                  replace HBY := Lib.hid (HBY.out.keep hB)
                  replace HT := Lib.hid (HT.out.keep hB)
                  replace HF := Lib.hid (HF.out.keep hB)
                  replace HCAP := Lib.hid (HCAP.out.keep hB)
                  replace aw := fun W (h : Below wr.heap.size wr W) => cntawake G hA W (hA.keep HG.out h)
                  obtain ⟨c0, c1, c2, c3, c4, c5, c6, c8⟩ := HC.out
                  replace c0 := bkeep hB c0; replace c1 := bkeep hB c1; replace c2 := bkeep hB c2; replace c3 := bkeep hB c3; replace c4 := bkeep hB c4; replace c5 := bkeep hB c5; replace c6 := bkeep hB c6; replace c8 := bkeep hB c8
                  clear HC hB
                  have A1 := fun W (h : Below wr.heap.size wr W) => hA.accepts k bl fo qu gr a n c bys _ tn tc rows fa fn fc fin W HK.out HBL.out HFO.out (HBY.out.keep h) HBU.out (HT.out.keep h) HTU.out (by have := HTN.out; omega) HLEN.out (HF.out.keep h) HFU.out (hA.keep HG.out h)
                  have A2 := fun W (h : Below wr.heap.size wr W) => raccepts_is k bl fo qu gr a n c bys _ tn tc rows fa fn fc fin W HK.out HBL.out (HBY.out.keep h) HBU.out (HT.out.keep h) HTU.out (by have := HTN.out; omega) HLEN.out (HF.out.keep h) HFU.out
                  unfold IntPost at A1 A2
                  generalize acceptsV k bl fo bys rows fin = V at A1 A2
                  go_upto_region 26 with fail
                  replace c0 := fun q : Regrown => cell_regrown c0 q.d q.os
                  replace c1 := fun q : Regrown => cell_regrown c1 q.d q.os
                  replace c2 := fun q : Regrown => cell_regrown c2 q.d q.os
                  replace c3 := fun q : Regrown => cell_regrown c3 q.d q.os
                  replace c4 := fun q : Regrown => cell_regrown c4 q.d q.os
                  replace c5 := fun q : Regrown => cell_regrown c5 q.d q.os
                  replace c6 := fun q : Regrown => cell_regrown c6 q.d q.os
                  replace c8 := fun q : Regrown => cell_regrown c8 q.d q.os
                  refine wp_region_quiet_below (by kernel_rfl) (by kernel_rfl) ?_
                  repeat (first | go_big_quiet_step (first
                    | (go_at_call 6; with_reducible exact Calls.regrown_of (aw _ (below_regrown wr _ _)))
                    | (go_at_call 12; with_reducible exact Calls.regrown_of (A1 _ (below_regrown wr _ _)))
                    | (go_at_call 13; with_reducible exact Calls.regrown_of (A2 _ (below_regrown wr _ _)))) | quiet_step (fail))
                  refine wpQuiet_nil ?_
                  rintro _ ⟨pq, rfl⟩
                  have hbq := below_regrown wr pq.d pq.os
                  have HBQ := Lib.hid (bthen HB0.out hbq)
                  clear c0 c1 c2 c3 c4 c5 c6 c8 A1 A2 hbq
                  go_wp2_with fail
                  go_ret
                  exact ⟨rfl, HBQ.out⟩
          · have A1 := fun W (h : Below wr.heap.size wr W) => hA.accepts k bl fo qu gr a n c bys _ tn tc rows fa fn fc fin W HK.out HBL.out HFO.out (HBY.out.keep h) HBU.out (HT.out.keep h) HTU.out (by have := HTN.out; omega) HLEN.out (HF.out.keep h) HFU.out (hA.keep HG.out h)
            have A2 := fun W (h : Below wr.heap.size wr W) => raccepts_is k bl fo qu gr a n c bys _ tn tc rows fa fn fc fin W HK.out HBL.out (HBY.out.keep h) HBU.out (HT.out.keep h) HTU.out (by have := HTN.out; omega) HLEN.out (HF.out.keep h) HFU.out
            unfold IntPost at A1 A2
            generalize acceptsV k bl fo bys rows fin = V at A1 A2
            go_upto_region 26 with fail
            replace c0 := fun q : Regrown => cell_regrown c0 q.d q.os
            replace c1 := fun q : Regrown => cell_regrown c1 q.d q.os
            replace c2 := fun q : Regrown => cell_regrown c2 q.d q.os
            replace c3 := fun q : Regrown => cell_regrown c3 q.d q.os
            replace c4 := fun q : Regrown => cell_regrown c4 q.d q.os
            replace c5 := fun q : Regrown => cell_regrown c5 q.d q.os
            replace c6 := fun q : Regrown => cell_regrown c6 q.d q.os
            replace c8 := fun q : Regrown => cell_regrown c8 q.d q.os
            refine wp_region_quiet_below (by kernel_rfl) (by kernel_rfl) ?_
            repeat (first | go_big_quiet_step (first
              | (go_at_call 6; with_reducible exact Calls.regrown_of (aw _ (below_regrown wr _ _)))
              | (go_at_call 12; with_reducible exact Calls.regrown_of (A1 _ (below_regrown wr _ _)))
              | (go_at_call 13; with_reducible exact Calls.regrown_of (A2 _ (below_regrown wr _ _)))) | quiet_step (fail))
            refine wpQuiet_nil ?_
            rintro _ ⟨pq, rfl⟩
            have hbq := below_regrown wr pq.d pq.os
            have HBQ := Lib.hid (bthen HB0.out hbq)
            clear c0 c1 c2 c3 c4 c5 c6 c8 A1 A2 hbq
            go_wp2_with fail
            go_ret
            exact ⟨rfl, HBQ.out⟩
end Go.Proofs.YthfkfgjhgicfeaaGreatDoor
