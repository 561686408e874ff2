/-
  What the program's Judge of layer 22 comes to: ask22. (Written by gen_jprog.py.)
-/
import Derived.Test.YthfkfgjhgicfeaaGreatDoorJudgePro
namespace Go.Proofs.YthfkfgjhgicfeaaGreatDoor
open Go Go.RowKit Go.Sort Go.BigFrame
set_option linter.unusedVariables false

set_option maxRecDepth 100000 in
set_option maxHeartbeats 8000000 in
theorem jjudge_is (k bl fo qu gr : Int) (a : Option Addr) (n c : Nat) (bys : QL) (pl : Int) (first : Quad) (la : Option Addr) (ln lc : Nat) (layers : List Quad) (fa : Option Addr) (fn fc : Nat) (fin : QL) (r : Bool) (w : World) (hby : QRowA w a n bys) (hbu : ∀ n ∈ bys, U n.1 ∧ U n.2) (hq : UsQ first) (hly : QuadsA w la ln layers) (hlu : ∀ q ∈ layers, UsQ q) (hf : QRowA w fa fn fin) (hfu : ∀ n ∈ fin, U n.1 ∧ U n.2)
    (hr : judgeB k bl fo bys pl first layers fin = r) :
    Calls Tryz.prog 25 #[.int .i64 k, .agg #[.int .i64 bl, .int .i64 fo, .int .i64 qu, .int .i64 gr], .slice a n c, .int .i64 pl, quadV first, .slice la ln lc, .slice fa fn fc] w fun e w' => e = .returned (.bool r) ∧ Below w.heap.size w w' := by
  unfold judgeB at hr
  rw [hby.1, hly.1, hf.1] at hr
  have HBY := Lib.hid hby; have HLY := Lib.hid hly; have HF := Lib.hid hf
  obtain ⟨⟨q0, q1⟩, ⟨q2, q3⟩⟩ := first
  obtain ⟨b, hb⟩ : ∃ b, decide (rightJ k bl fo n pl ln fn) = b := ⟨_, rfl⟩
  have kR := fun W => jright_is k bl fo qu gr a n c pl la ln lc fa fn fc b W hb
  clear hby hly hf
  go_enter Tryz.func25, Tryz.ntmps25
  go_upto_region 1 with fail
  obtain ⟨g, hg⟩ : ∃ g, w.heap.size = g := ⟨_, rfl⟩
  obtain ⟨g', hg'⟩ : ∃ h, g + 1 = h := ⟨_, rfl⟩
  refine wp_gen (fun W => Below w.heap.size w W ∧ RjBox W g bl fo qu gr ∧ QuadC W g' ((q0, q1), (q2, q3))) ⟨((Below.refl _ _).alloc (Nat.le_refl _) _).alloc (by simp) _, by subst hg' hg; simp [RjBox, go_sem], by subst hg' hg; simp [QuadC, go_sem]⟩ ?_
  rintro w0 ⟨hB0, hP, hQ⟩
  simp only [hg, hg']
  have HB := Lib.hid hB0; have HP := Lib.hid hP; have HQ := Lib.hid hQ
  obtain ⟨c0, c1, c2, c3⟩ := hP
  clear hB0 hg hg' hQ
  cases b
  · rw [if_neg (of_decide_eq_false hb)] at hr
    subst hr
    clear hb
    go_wp2_with (go_at_call 24; (with_reducible refine (kR _).mono ?_); rintro e w1 ⟨rfl, hb1⟩; replace HB := Lib.hid (bthen HB.out hb1); clear hb1)
    go_ret
    exact ⟨rfl, HB.out⟩
  have hj : rightJ k bl fo n pl ln fn := of_decide_eq_true hb
  rw [if_pos hj] at hr
  clear hb
  obtain ⟨K, rfl⟩ := Int.eq_ofNat_of_zero_le hj.1.1
  obtain ⟨B, rfl⟩ := Int.eq_ofNat_of_zero_le (show 0 ≤ bl by have := hj.1.2.2.1; omega)
  obtain ⟨O, PL, rfl, rfl, b1, b2, b3, b4, b5, b6, b7, b8⟩ := right_nat hj
  rw [show ((K : Int) + (B : Int)).toNat = K + B from by rw [← Int.natCast_add, Int.toNat_natCast], Int.toNat_natCast, Int.toNat_natCast] at hr
  obtain ⟨k1, k2⟩ := w_add K B (by omega) (by omega)
  obtain ⟨M, hM⟩ : ∃ M, K + B = M := ⟨_, rfl⟩
  rw [hM] at hr b6 k1 k2
  have hfn : fn ≤ 4294967296 := by
    have h1 := pow13 (show K - O ≤ 13 by omega)
    omega
  have hM14 : M ≤ 14 := by omega
  have hM1 : 1 ≤ M := by omega
  have hOM : O < M := by omega
  have H5 := Lib.hid b5; have H7 := Lib.hid b7
  clear hj b1 b2 b3 b4 b5 b7 b8 hM
  go_upto_region 4 with (go_at_call 24; go_loud ((with_reducible refine (kR _).mono ?_); rintro e w1 ⟨rfl, hb1⟩; replace HB := Lib.hid (bthen HB.out hb1); replace HP := Lib.hid (HP.out.keep hb1); replace HQ := Lib.hid (HQ.out.keep hb1); replace c0 := bkeep hb1 c0; replace c1 := bkeep hb1 c1; clear hb1))
  clear kR k1 k2 c0 c2 c3
  by_cases h0 : (O : Int) = 0
  · obtain rfl : O = 0 := by omega
    rw [if_pos h0] at hr
    have hN := jnN hM1 hM14 b6
    have HF1 := Lib.hid (HF.out.keep HB.out)
    obtain ⟨w5, hw5⟩ : ∃ W, W = w1 := ⟨_, rfl⟩
    subst hw5
    obtain ⟨va, hva⟩ : ∃ v, toQ (q0, q1) = v := ⟨_, rfl⟩
    obtain ⟨vb, hvb⟩ : ∃ v, toQ (q2, q3) = v := ⟨_, rfl⟩
    have ra : Rep q0 q1 va := by rw [← hva]; exact rep_raw hq.1.1 hq.1.2
    have rb : Rep q2 q3 vb := by rw [← hvb]; exact rep_raw hq.2.1 hq.2.2
    obtain ⟨r1, hr1⟩ : ∃ b, decide (finAt fin (pointF (M : Int) 0 (PL : Int)) = va) = b := ⟨_, rfl⟩
    obtain ⟨r2, hr2⟩ : ∃ b, decide (finAt fin (pointF (M : Int) 0 ((PL + 2 ^ (M - 1) : Nat) : Int)) = vb) = b := ⟨_, rfl⟩
    have hrr : (r1 && r2) = r := by
      rw [← hr, ← hr1, ← hr2, ← hva, ← hvb]
      unfold jNone
      exact congr (congrArg and (decide_eq_decide.2 eq_comm)) (decide_eq_decide.2 eq_comm)
    have k1 := fun W (h : Below w5.heap.size w5 W) => jends_is (M : Int) 0 (PL : Int) q0 q1 va fa fn fc fin r1 W hN.b1 ra (HF1.out.keep h) hfu hfn hr1
    have k2 := fun W (h : Below w5.heap.size w5 W) => jends_is (M : Int) 0 ((PL + 2 ^ (M - 1) : Nat) : Int) q2 q3 vb fa fn fc fin r2 W hN.b2 rb (HF1.out.keep h) hfu hfn hr2
    obtain ⟨n1, n2, n3, n4, n5, n6, n7, _, _⟩ := hN
    obtain ⟨m1, hm1⟩ : ∃ m, M - 1 = m := ⟨_, rfl⟩
    rw [hm1] at n1 n2 n3 n4 n5 n6 n7 k2
    obtain ⟨X, hX⟩ : ∃ X, 2 ^ m1 = X := ⟨_, rfl⟩
    rw [hX] at n5 n6 n7 k2
    obtain ⟨Y, hY⟩ : ∃ Y, PL + X = Y := ⟨_, rfl⟩
    rw [hY] at n6 n7 k2
    clear hr hva hvb ra rb hr1 hr2 hm1 hX hY b6 hfn hM14 hM1 hOM hq hfu hlu hbu h0
    go_upto_region 5 with fail
    clear c1
    obtain ⟨d0, d1, d2, d3⟩ := HQ.out
    cases r1
    all_goals
      simp only [Bool.false_and, Bool.true_and] at hrr
      subst hrr
      replace d0 := fun q : Regrown => cell_regrown d0 q.d q.os
      replace d1 := fun q : Regrown => cell_regrown d1 q.d q.os
      replace d2 := fun q : Regrown => cell_regrown d2 q.d q.os
      replace d3 := fun q : Regrown => cell_regrown d3 q.d q.os
      refine wp_region_quiet_below (by kernel_rfl) (by kernel_rfl) ?_
      repeat (first | go_big_quiet_step (first
        | (go_at_call 55; first | with_reducible exact Calls.regrown_of (k1 _ (below_regrown w5 _ _)) | with_reducible exact Calls.regrown_of (k2 _ (below_regrown w5 _ _)))) | quiet_step (fail))
      refine wpQuiet_nil ?_
      rintro _ ⟨pq, rfl⟩
      have HBE := Lib.hid (bthen HB.out (below_regrown w5 pq.d pq.os))
      clear d0 d1 d2 d3 k1 k2 n1 n2 n3 n4 n5 n6 n7
      go_wp2_with fail
      go_ret
      exact ⟨rfl, HBE.out⟩
  · rw [if_neg h0] at hr
    have hO0 : 0 < O := by omega
    have kD := jdown_is M O PL a n c bys ((q0, q1), (q2, q3)) la ln lc layers fa fn fc fin r w1 (HBY.out.keep HB.out) hbu hq (HLY.out.keep HB.out) hlu (HF.out.keep HB.out) hfu hO0 hOM hM14 H5.out b6 H7.out hfn hr
    clear hr hO0 hOM hM14 b6 hfn hM1 hfu hlu hbu hq
    obtain ⟨d0, d1, d2, d3⟩ := HQ.out
    go_wp2_with (go_at_call 56; (with_reducible refine kD.mono ?_); rintro e w2 ⟨rfl, hb2⟩; have HBE := Lib.hid (bthen HB.out hb2); clear hb2)
    go_ret
    exact ⟨rfl, HBE.out⟩
end Go.Proofs.YthfkfgjhgicfeaaGreatDoor
