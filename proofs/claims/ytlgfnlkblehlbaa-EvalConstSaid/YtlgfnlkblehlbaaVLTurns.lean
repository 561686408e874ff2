/-
  The walk of EvalTurns: it answers true, where the program's calls do what is asked of them. (Written by gen_vlaws.py.)
-/
import Derived.Test.YtlgfnlkblehlbaaVLLifts
import Derived.Lib.QuietBelow
import Derived.BigQuiet
namespace Go.Proofs.Ytlgfnlkblehlbaa
open Go Go.RowKit Go.Sort Go.BigFrame
set_option linter.unusedVariables false

def EvVTurns (v35 v36 v37 v38 v39 v40 v43 v44 v45 v46 v47 v48 : Value) (k : Nat) : Value :=
  match k with
  | 35 => v35
  | 36 => v36
  | 37 => v37
  | 38 => v38
  | 39 => v39
  | 40 => v40
  | 43 => v43
  | 44 => v44
  | 45 => v45
  | 46 => v46
  | 47 => v47
  | _ => v48
set_option maxRecDepth 100000 in
set_option maxHeartbeats 8000000 in
theorem vturns_body (G : World → Prop) (hA : AskEval G) (aw : ∀ W, G W → Calls Try.prog 10 #[] W fun e w' => e = .returned (.bool true) ∧ Below W.heap.size W w') (a : Option Addr) (n cap : Nat) (zs : List Opn) (b : Option Addr) (lb capb : Nat) (cs : List (Int × Int)) (c : Option Addr) (lc capc : Nat) (ds : List (Int × Int)) (w : World) (hG0 : G w) (hO : OpA w a n zs) (hu : ∀ o ∈ zs, OkO o) (hc : QRowA w b lb cs) (hcu : ∀ n ∈ cs, U n.1 ∧ U n.2) (hcb : lb ≤ capb ∧ capb ≤ maxLen) (hd : QRowA w c lc ds) (hdu : ∀ n ∈ ds, U n.1 ∧ U n.2) (hcc : lc ≤ capc ∧ capc ≤ maxLen) :
    Calls Try.prog 5 #[.slice a n cap, .slice b lb capb, .slice c lc capc] w fun e w' => e = .returned (.bool true) ∧ Below w.heap.size w w' := by
  obtain ⟨i0, hi, hz0, hz1, hz2⟩ := info_parts infoQe
  have HK := Lib.hid (fun (W W' : World) => @AskEval.keep G hA W W')
  have HG0 := Lib.hid hG0
  have hmax := hO.2.1; have hmb := hc.2.1; have hmc := hd.2.1
  have HCAP := Lib.hid (And.intro hcb hcc)
  unfold maxLen at hmax hmb hmc
  obtain rfl := hO.1
  obtain ⟨m, hm⟩ : ∃ m, min lb lc = m := ⟨_, rfl⟩
  have hmn : min (lb : Int) (lc : Int) = (m : Int) := by rw [← hm]; exact min_nat lb lc
  have hm1 : m ≤ lb := by omega
  have hm2 : m ≤ lc := by omega
  obtain ⟨d, e, hz⟩ : ∃ d e, checkB zs (m : Int) true = (d, e) := ⟨_, _, rfl⟩
  have HB : Hid (Below w.heap.size w w) := Lib.hid (Below.refl _ _)
  have HO := Lib.hid hO; have HC := Lib.hid hc; have HD := Lib.hid hd
  have kr := fun (W : World) (hb : Below w.heap.size w W) => rright_is a zs.length cap zs (m : Int) d e (e == 0) W (HO.out.keep hb) hu (by omega) hz rfl
  clear hO hc hd hm hcb hcc
  by_cases b1 : (300 : Int) < (zs.length : Int)
  · go_enter Try.func5, Try.ntmps5
    go_wp2_with (go_at_call 10; (with_reducible refine (aw _ (HK.out _ _ HG0.out HB.out)).mono ?_); rintro e w1 ⟨rfl, hb⟩; replace HB := Lib.hid (bthen HB.out hb); clear hb)
    go_ret
    exact ⟨rfl, HB.out⟩
  by_cases b2 : (8 : Int) < (m : Int)
  · go_enter Try.func5, Try.ntmps5
    go_wp2_with (go_at_call 10; (with_reducible refine (aw _ (HK.out _ _ HG0.out HB.out)).mono ?_); rintro e w1 ⟨rfl, hb⟩; replace HB := Lib.hid (bthen HB.out hb); clear hb)
    go_ret
    exact ⟨rfl, HB.out⟩
  by_cases he : e = 0
  case neg =>
    have he' : (e == 0) = false := by simp [he]
    rw [he'] at kr
    clear hz he he'
    go_enter Try.func5, Try.ntmps5
    go_wp2_with (first | (go_at_call 9; (with_reducible refine (kr _ HB.out).mono ?_); rintro e w1 ⟨rfl, hb⟩; replace HB := Lib.hid (bthen HB.out hb); clear hb) | (go_at_call 10; (with_reducible refine (aw _ (HK.out _ _ HG0.out HB.out)).mono ?_); rintro e w1 ⟨rfl, hb⟩; replace HB := Lib.hid (bthen HB.out hb); clear hb))
    go_ret
    exact ⟨rfl, HB.out⟩
  subst he
  have he' : ((0 : Int) == 0) = true := rfl
  rw [he'] at kr
  clear he'
  have HZ := Lib.hid hz; have HU := Lib.hid hu; have HUC := Lib.hid hcu; have HUD := Lib.hid hdu
  clear hz hu hcu hdu
  go_enter Try.func5, Try.ntmps5
  go_upto_region 6 with (go_at_call 9; (with_reducible refine (kr _ HB.out).mono ?_); rintro e w1 ⟨rfl, hb⟩; replace HB := Lib.hid (bthen HB.out hb); clear hb)
  clear kr
  refine wp_gen (fun W => Below w.heap.size w W) HB.out ?_
  clear HB
  rintro w0 hB0
  have HB0 := Lib.hid hB0
  clear hB0
  go_loopw [8, 9, 10] (TwoRel w0 29 2 m (fun j => [.int .u64 ((fun j => (enc (turn (rowQ cs j)).a, enc (turn (rowQ cs j)).b)) j).1, .int .u64 ((fun j => (enc (turn (rowQ cs j)).a, enc (turn (rowQ cs j)).b)) j).2]) (fun j => [.int .u64 ((fun j => (enc (turn (rowQ ds j)).a, enc (turn (rowQ ds j)).b)) j).1, .int .u64 ((fun j => (enc (turn (rowQ ds j)).a, enc (turn (rowQ ds j)).b)) j).2])) (fun _ _ i _ => m - (intOf i).toNat)
  case atStart => exact ⟨0, Nat.zero_le _, rfl, Below.refl _ _, World.ownsRow_nil _ _ _ _, World.ownsRow_nil _ _ _ _, fun q hq => by cases hq⟩
  case round =>
    obtain ⟨k, hk, rfl, hB, hx, hy, hap⟩ := hrel
    have HB := Lib.hid hB; have HX := Lib.hid hx; have HY := Lib.hid hy; have HAP := Lib.hid hap
    clear hB hx hy hap
    by_cases hlt : k < m
    · have hltI : (k : Int) < (m : Int) := by omega
      have hk0 : (0 : Int) ≤ (k : Int) := by omega
      have hkb : (k : Int) < (lb : Int) := by omega
      have hkc : (k : Int) < (lc : Int) := by omega
      obtain ⟨bb, ob, rfl, x0, x1⟩ := HC.out.2.2 k (by omega)
      have xU : U (cs.getD k (0, 0)).1 ∧ U (cs.getD k (0, 0)).2 := by
        have e : cs.getD k (0, 0) = cs[k]'(by rw [HC.out.1]; omega) := by simp [List.getD, show k < cs.length by rw [HC.out.1]; omega]
        rw [e]
        exact HUC.out _ (List.getElem_mem _)
      have hlox : bb < w0.heap.size := Nat.lt_of_lt_of_le (World.block_lt_of_cell? w _ x0) HB0.out.size
      replace x0 := bkeep (bthen HB0.out HB.out) x0; replace x1 := bkeep (bthen HB0.out HB.out) x1
      obtain ⟨bc, oc, rfl, y0, y1⟩ := HD.out.2.2 k (by omega)
      have yU : U (ds.getD k (0, 0)).1 ∧ U (ds.getD k (0, 0)).2 := by
        have e : ds.getD k (0, 0) = ds[k]'(by rw [HD.out.1]; omega) := by simp [List.getD, show k < ds.length by rw [HD.out.1]; omega]
        rw [e]
        exact HUD.out _ (List.getElem_mem _)
      have hloy : bc < w0.heap.size := Nat.lt_of_lt_of_le (World.block_lt_of_cell? w _ y0) HB0.out.size
      replace y0 := bkeep (bthen HB0.out HB.out) y0; replace y1 := bkeep (bthen HB0.out HB.out) y1
      have kx := fun W => rturn_q (cs.getD k (0, 0)).1 (cs.getD k (0, 0)).2 (rowQ cs k) (turn (rowQ cs k)) (rep_raw xU.1 xU.2) rfl W
      have ky := fun W => rturn_q (ds.getD k (0, 0)).1 (ds.getD k (0, 0)).2 (rowQ ds k) (turn (rowQ ds k)) (rep_raw yU.1 yU.2) rfl W
      have HSX := Lib.hid (cellsK_succ (fun j => [.int .u64 ((fun j => (enc (turn (rowQ cs j)).a, enc (turn (rowQ cs j)).b)) j).1, .int .u64 ((fun j => (enc (turn (rowQ cs j)).a, enc (turn (rowQ cs j)).b)) j).2]) k); have HSY := Lib.hid (cellsK_succ (fun j => [.int .u64 ((fun j => (enc (turn (rowQ ds j)).a, enc (turn (rowQ ds j)).b)) j).1, .int .u64 ((fun j => (enc (turn (rowQ ds j)).a, enc (turn (rowQ ds j)).b)) j).2]) k)
      obtain ⟨ax, cx, rfl⟩ := own_form HX.out
      obtain ⟨ay, cy, rfl⟩ := own_form HY.out
      obtain ⟨FX, hFX⟩ : ∃ f, cellsK (fun j => [.int .u64 ((fun j => (enc (turn (rowQ cs j)).a, enc (turn (rowQ cs j)).b)) j).1, .int .u64 ((fun j => (enc (turn (rowQ cs j)).a, enc (turn (rowQ cs j)).b)) j).2]) k = f := ⟨_, rfl⟩
      obtain ⟨FY, hFY⟩ : ∃ f, cellsK (fun j => [.int .u64 ((fun j => (enc (turn (rowQ ds j)).a, enc (turn (rowQ ds j)).b)) j).1, .int .u64 ((fun j => (enc (turn (rowQ ds j)).a, enc (turn (rowQ ds j)).b)) j).2]) k = f := ⟨_, rfl⟩
      rw [hFX] at HX HSX
      rw [hFY] at HY HSY
      have HLOx : Hid (bb < w0.heap.size) := Lib.hid hlox; have HLOy : Hid (bc < w0.heap.size) := Lib.hid hloy
      clear hlox hloy
      have X0 := Lib.hid x0; have Y0 := Lib.hid y0
      have X1 := Lib.hid x1; have Y1 := Lib.hid y1
      clear x0 y0 hFX hFY x1 y1
      go_upto_region 8 with fail
      refine wp_lay [(35, []), (36, []), (37, []), (38, [36, 37]), (39, [38]), (40, [39]), (41, [40]), (42, [35, 41]), (43, []), (44, []), (45, []), (46, [44, 45]), (47, [46]), (48, [47]), (49, [48]), (50, [43, 49])]
        (TwoRows w0 29 2 41 42 49 50 (.slice ax k cx) (.slice ay k cy) k FX FY [(.int .u64 (enc (turn (rowQ cs k)).a)), (.int .u64 (enc (turn (rowQ cs k)).b))] [(.int .u64 (enc (turn (rowQ ds k)).a)), (.int .u64 (enc (turn (rowQ ds k)).b))] [35, 36, 37, 38, 39, 40, 43, 44, 45, 46, 47, 48] (EvVTurns (.slice ax k cx) (.slice (some ⟨bb, ob, none⟩) lb capb) (.int .i64 (k : Int)) (.pointer (some ⟨bb, ob + k * 2, none⟩)) (.agg #[.int .u64 (cs.getD k (0, 0)).1, .int .u64 (cs.getD k (0, 0)).2]) (.agg #[.int .u64 (enc (turn (rowQ cs k)).a), .int .u64 (enc (turn (rowQ cs k)).b)]) (.slice ay k cy) (.slice (some ⟨bc, oc, none⟩) lc capc) (.int .i64 (k : Int)) (.pointer (some ⟨bc, oc + k * 2, none⟩)) (.agg #[.int .u64 (ds.getD k (0, 0)).1, .int .u64 (ds.getD k (0, 0)).2]) (.agg #[.int .u64 (enc (turn (rowQ ds k)).a), .int .u64 (enc (turn (rowQ ds k)).b)]))) (by kernel_rfl) (by kernel_rfl) (fun σ => TwoRows.start HB.out.drew HX.out.drew HY.out.drew HAP.out σ) ?_ ?_
      · refine opsw_cons ?_ (opsw_cons ?_ (opsw_cons ?_ (opsw_cons ?_ (opsw_cons ?_ (opsw_cons ?_ (opsw_cons ?_ (opsw_cons ?_ (opsw_cons ?_ (opsw_cons ?_ (opsw_cons ?_ (opsw_cons ?_ (opsw_cons ?_ (opsw_cons ?_ (opsw_cons ?_ (opsw_cons ?_ opsw_nil)))))))))))))))
        all_goals
          refine OpRunsW.any ?_
          intro Q0 D σ W K hW hd hn hK
          simp only [fill, List.map, Act.put, List.setIfInBounds_toArray, List.set_cons_zero, List.set_cons_succ] at hK ⊢
        · have HW := Lib.hid hW
          clear hW
          go_simp
          exact hK _ _ (HW.out.next (Below.refl _ _) (by decide) rfl)
        · have HW := Lib.hid hW
          clear hW
          go_simp
          exact hK _ _ (HW.out.next (Below.refl _ _) (by decide) rfl)
        · have HW := Lib.hid hW
          clear hW
          go_simp
          exact hK _ _ (HW.out.next (Below.refl _ _) (by decide) rfl)
        · have h36 : σ 36 = (.slice (some ⟨bb, ob, none⟩) lb capb) := hW.sv 36 (by decide) (hn 36 (by decide))
          have h37 : σ 37 = (.int .i64 (k : Int)) := hW.sv 37 (by decide) (hn 37 (by decide))
          simp only [h36, h37] at hK
          have HW := Lib.hid hW
          clear hW
          go_simp
          exact hK _ _ (HW.out.next (Below.refl _ _) (by decide) rfl)
        · have h38 : σ 38 = (.pointer (some ⟨bb, ob + k * 2, none⟩)) := hW.sv 38 (by decide) (hn 38 (by decide))
          simp only [h38] at hK
          have c0 := low_keep HB.out hW.below X0.out (HLOx.out)
          have c1 := low_keep HB.out hW.below X1.out (HLOx.out)
          have HW := Lib.hid hW
          clear hW
          go_simp
          exact hK _ _ (HW.out.next (Below.refl _ _) (by decide) rfl)
        · have h39 : σ 39 = (.agg #[.int .u64 (cs.getD k (0, 0)).1, .int .u64 (cs.getD k (0, 0)).2]) := hW.sv 39 (by decide) (hn 39 (by decide))
          simp only [h39] at hK
          have HW := Lib.hid hW
          clear hW
          go_simp
          go_at_call 16
          refine (kx _).mono ?_
          rintro e w2 ⟨rfl, hb⟩
          exact hK _ _ (HW.out.next hb (by decide) rfl)
        · have h40 : σ 40 = (.agg #[.int .u64 (enc (turn (rowQ cs k)).a), .int .u64 (enc (turn (rowQ cs k)).b)]) := hW.sv 40 (by decide) (hn 40 (by decide))
          simp only [h40] at hK
          have HW := Lib.hid hW
          clear hW
          go_simp
          exact hK _ _ (HW.out.lay1 ((Below.refl _ _).alloc (Nat.le_refl _) _) (by simp) (by decide) (by decide) (two_src (by simp [go_sem]) (by simp [go_sem])))
        · have h35 : σ 35 = (.slice ax k cx) := hW.sv 35 (by decide) (hn 35 (by decide))
          have hW2 := hW
          obtain ⟨g, hg, hgl, hz, hg1, hg2⟩ := hW2.n1 (hn 41 (by decide)) hd
          have hr := hW2.row1 hd
          rw [if_pos (by rfl)]
          refine wp_append_at3 (.tmp 35) (.tmp 41) 23 (by rfl) w0.heap.size 29 i0 (.agg #[.int .u64 0, .int .u64 0]) 2 16 Try.underlying23 hi hz0 hz1 hz2 rfl (by decide) (.slice ax k cx) k FX (by exact h35) hr (some ⟨g, 0, none⟩) 1 1 [(.int .u64 (enc (turn (rowQ cs k)).a)), (.int .u64 (enc (turn (rowQ cs k)).b))] (by exact hg) rfl (fun h => by cases h) (fun h => by cases h) (by rintro ad e; cases e; exact hz) (by intro u hu; simp at hu; rcases hu with rfl | rfl <;> rfl) (by unfold maxLen; omega) (by omega) hW2.below.size ?_
          intro v' w' q1 q2 q3
          exact hK _ _ (hW2.app1 hd (by decide) (by decide) q1 q2 q3)
        · have HW := Lib.hid hW
          clear hW
          go_simp
          exact hK _ _ (HW.out.next (Below.refl _ _) (by decide) rfl)
        · have HW := Lib.hid hW
          clear hW
          go_simp
          exact hK _ _ (HW.out.next (Below.refl _ _) (by decide) rfl)
        · have HW := Lib.hid hW
          clear hW
          go_simp
          exact hK _ _ (HW.out.next (Below.refl _ _) (by decide) rfl)
        · have h44 : σ 44 = (.slice (some ⟨bc, oc, none⟩) lc capc) := hW.sv 44 (by decide) (hn 44 (by decide))
          have h45 : σ 45 = (.int .i64 (k : Int)) := hW.sv 45 (by decide) (hn 45 (by decide))
          simp only [h44, h45] at hK
          have HW := Lib.hid hW
          clear hW
          go_simp
          exact hK _ _ (HW.out.next (Below.refl _ _) (by decide) rfl)
        · have h46 : σ 46 = (.pointer (some ⟨bc, oc + k * 2, none⟩)) := hW.sv 46 (by decide) (hn 46 (by decide))
          simp only [h46] at hK
          have c0 := low_keep HB.out hW.below Y0.out (HLOy.out)
          have c1 := low_keep HB.out hW.below Y1.out (HLOy.out)
          have HW := Lib.hid hW
          clear hW
          go_simp
          exact hK _ _ (HW.out.next (Below.refl _ _) (by decide) rfl)
        · have h47 : σ 47 = (.agg #[.int .u64 (ds.getD k (0, 0)).1, .int .u64 (ds.getD k (0, 0)).2]) := hW.sv 47 (by decide) (hn 47 (by decide))
          simp only [h47] at hK
          have HW := Lib.hid hW
          clear hW
          go_simp
          go_at_call 16
          refine (ky _).mono ?_
          rintro e w2 ⟨rfl, hb⟩
          exact hK _ _ (HW.out.next hb (by decide) rfl)
        · have h48 : σ 48 = (.agg #[.int .u64 (enc (turn (rowQ ds k)).a), .int .u64 (enc (turn (rowQ ds k)).b)]) := hW.sv 48 (by decide) (hn 48 (by decide))
          simp only [h48] at hK
          have HW := Lib.hid hW.swap
          clear hW
          go_simp
          exact hK _ _ (TwoRows.swap (HW.out.lay1 ((Below.refl _ _).alloc (Nat.le_refl _) _) (by simp) (by decide) (by decide) (two_src (by simp [go_sem]) (by simp [go_sem]))))
        · have h43 : σ 43 = (.slice ay k cy) := hW.sv 43 (by decide) (hn 43 (by decide))
          have hW2 := hW.swap
          obtain ⟨g, hg, hgl, hz, hg1, hg2⟩ := hW2.n1 (hn 49 (by decide)) hd
          have hr := hW2.row1 hd
          rw [if_pos (by rfl)]
          refine wp_append_at3 (.tmp 43) (.tmp 49) 23 (by rfl) w0.heap.size 29 i0 (.agg #[.int .u64 0, .int .u64 0]) 2 16 Try.underlying23 hi hz0 hz1 hz2 rfl (by decide) (.slice ay k cy) k FY (by exact h43) hr (some ⟨g, 0, none⟩) 1 1 [(.int .u64 (enc (turn (rowQ ds k)).a)), (.int .u64 (enc (turn (rowQ ds k)).b))] (by exact hg) rfl (fun h => by cases h) (fun h => by cases h) (by rintro ad e; cases e; exact hz) (by intro u hu; simp at hu; rcases hu with rfl | rfl <;> rfl) (by unfold maxLen; omega) (by omega) hW2.below.size ?_
          intro v' w' q1 q2 q3
          exact hK _ _ (TwoRows.swap (hW2.app1 hd (by decide) (by decide) q1 q2 q3))
      · intro D σ W hW hD
        obtain ⟨q1, q2, q3⟩ := hW.done (hD 42 (by decide)) (hD 50 (by decide))
        have hbW := hW.below
        obtain ⟨t42, h42⟩ : ∃ v, σ 42 = v := ⟨_, rfl⟩
        obtain ⟨t50, h50⟩ : ∃ v, σ 50 = v := ⟨_, rfl⟩
        rw [h42] at q1 q3
        rw [h50] at q2 q3
        obtain ⟨ax', cx', rfl⟩ := own_form q1
        obtain ⟨ay', cy', rfl⟩ := own_form q2
        have R := Lib.hid (And.intro hbW (And.intro q1 (And.intro q2 q3)))
        clear hW hD q1 q2 q3 hbW
        simp only [fill, List.map, Act.put, List.setIfInBounds_toArray, List.set_cons_zero, List.set_cons_succ, List.length_cons, List.length_nil, List.drop_succ_cons, List.drop_zero, Nat.reduceAdd, h42, h50]
        clear h42 h50
        go_wp2_with fail
        go_roundw
        case rel => exact ⟨k + 1, by omega, by go_num, R.out.1, by rw [HSX.out]; exact R.out.2.1, by rw [HSY.out]; exact R.out.2.2.1, R.out.2.2.2⟩
        case measure => simp [intOf]; omega
    · obtain rfl : k = m := by omega
      obtain ⟨ax, cx, rfl, hx, _⟩ := own_qrowK (f := (fun j => (enc (turn (rowQ cs j)).a, enc (turn (rowQ cs j)).b))) HX.out
      obtain ⟨ay, cy, rfl, hy, _⟩ := own_qrowK (f := (fun j => (enc (turn (rowQ ds j)).a, enc (turn (rowQ ds j)).b))) HY.out
      clear HX HY HAP
      have HX := Lib.hid hx; have HY := Lib.hid hy
      clear hx hy
      have HBk := Lib.hid (bthen HB0.out HB.out)
      clear HB
      have ux : ∀ n ∈ (List.range k).map (fun j => (enc (turn (rowQ cs j)).a, enc (turn (rowQ cs j)).b)), U n.1 ∧ U n.2 := by
        intro n hn
        obtain ⟨j, hj, rfl⟩ := List.mem_map.1 hn
        exact ⟨enc_U _, enc_U _⟩
      have uy : ∀ n ∈ (List.range k).map (fun j => (enc (turn (rowQ ds j)).a, enc (turn (rowQ ds j)).b)), U n.1 ∧ U n.2 := by
        intro n hn
        obtain ⟨j, hj, rfl⟩ := List.mem_map.1 hn
        exact ⟨enc_U _, enc_U _⟩
      have hq1 := fun i (h : i < k) => rowQ_turn cs k i h
      have hq2 := fun i (h : i < k) => rowQ_turn ds k i h
      obtain ⟨X, hX⟩ : ∃ l, (List.range k).map (fun j => (enc (turn (rowQ cs j)).a, enc (turn (rowQ cs j)).b)) = l := ⟨_, rfl⟩
      obtain ⟨Y, hY⟩ : ∃ l, (List.range k).map (fun j => (enc (turn (rowQ ds j)).a, enc (turn (rowQ ds j)).b)) = l := ⟨_, rfl⟩
      rw [hX] at HX ux
      rw [hY] at HY uy
      simp only [hX] at hq1
      simp only [hY] at hq2
      clear hX hY
      have hE := evB_turn (rowQ (cs.take k)) (rowQ (ds.take k)) (cur' := rowQ X) (next' := rowQ Y) (cols := (k : Int)) (nx := true) (l := zs) (d := d) (fun i hi => hq1 i (by omega)) (fun i hi => hq2 i (by omega)) (fun o ho => (HU.out o ho).2.1) HZ.out
      clear hq1 hq2
      obtain ⟨Z, hZ⟩ : ∃ z, evB pairA (rowQ (cs.take k)) (rowQ (ds.take k)) zs = z := ⟨_, rfl⟩
      rw [hZ] at hE
      obtain ⟨L, hL⟩ : ∃ z, turn Z = z := ⟨_, rfl⟩
      rw [hL] at hE
      have k0 := fun (W : World) (hb : Below wr.heap.size wr W) => aw W (HK.out _ _ HG0.out (bthen HBk.out hb))
      have k1 := fun (W : World) (hb : Below wr.heap.size wr W) => hA.pairs a zs.length cap zs ax k cx X ay k cy Y k d L W (HO.out.keep (bthen HBk.out hb)) HU.out HZ.out (HX.out.keep hb) ux (Int.le_refl _) (HY.out.keep hb) uy (Int.le_refl _) hE (HK.out _ _ HG0.out (bthen HBk.out hb))
      have k2 := fun (W : World) (hb : Below wr.heap.size wr W) => hA.pairs a zs.length cap zs b k capb (cs.take k) c k capc (ds.take k) k d Z W (HO.out.keep (bthen HBk.out hb)) HU.out HZ.out ((HC.out.keep (bthen HBk.out hb)).cut hm1) (fun n hn => HUC.out n (List.mem_of_mem_take hn)) (Int.le_refl _) ((HD.out.keep (bthen HBk.out hb)).cut hm2) (fun n hn => HUD.out n (List.mem_of_mem_take hn)) (Int.le_refl _) hZ (HK.out _ _ HG0.out (bthen HBk.out hb))
      have k3 := fun (W : World) => rturn_q (enc Z.a) (enc Z.b) Z L (rep_enc Z) hL W
      have hcap := HCAP.out
      have hc1 : (k : Int) ≤ (capb : Int) := by omega
      have hc2 : (k : Int) ≤ (capc : Int) := by omega
      have hc3 : k ≤ capb := by omega
      have hc4 : k ≤ capc := by omega
      have hc5 : ¬ (k : Int) < 0 := by omega
      have HB := HBk
      have HN1 := Lib.hid (fun (e : b = none) => (HC.out.nil0 e)); have HN2 := Lib.hid (fun (e : c = none) => (HD.out.nil0 e))
      clear hE hZ hL ux uy HX HY HO HC HD HUC HUD HU HZ hcap HBk HCAP
      have key : ∀ (b c : Option Addr), True := fun _ _ => trivial
      clear key
      cases b with
      | none =>
        obtain rfl : lb = 0 := HN1.out rfl
        obtain rfl : k = 0 := by omega
        cases c with
        | none =>
          obtain rfl : lc = 0 := HN2.out rfl
          go_upto_region 9 with fail
          refine wp_region_quiet_below (by kernel_rfl) (by kernel_rfl) ?_
          repeat (first | go_big_quiet_step (first
            | (go_at_call 10; first | with_reducible exact Calls.regrown_of (k0 _ (below_regrown wr _ _)))
            | (go_at_call 13; first | with_reducible exact Calls.regrown_of (k1 _ (below_regrown wr _ _)) | with_reducible exact Calls.regrown_of (k2 _ (below_regrown wr _ _)))
            | (go_at_call 16; first | with_reducible exact Calls.regrown_of (k3 _))) | quiet_step (fail))
          refine wpQuiet_nil ?_
          rintro _ ⟨pq, rfl⟩
          replace HB := Lib.hid (bthen HB.out (below_regrown wr pq.d pq.os))
          go_wp2
          go_ret
          exact ⟨rfl, HB.out⟩
        | some adc =>
          go_upto_region 9 with fail
          refine wp_region_quiet_below (by kernel_rfl) (by kernel_rfl) ?_
          repeat (first | go_big_quiet_step (first
            | (go_at_call 10; first | with_reducible exact Calls.regrown_of (k0 _ (below_regrown wr _ _)))
            | (go_at_call 13; first | with_reducible exact Calls.regrown_of (k1 _ (below_regrown wr _ _)) | with_reducible exact Calls.regrown_of (k2 _ (below_regrown wr _ _)))
            | (go_at_call 16; first | with_reducible exact Calls.regrown_of (k3 _))) | quiet_step (fail))
          refine wpQuiet_nil ?_
          rintro _ ⟨pq, rfl⟩
          replace HB := Lib.hid (bthen HB.out (below_regrown wr pq.d pq.os))
          go_wp2
          go_ret
          exact ⟨rfl, HB.out⟩
      | some adb =>
        cases c with
        | none =>
          obtain rfl : lc = 0 := HN2.out rfl
          obtain rfl : k = 0 := by omega
          go_upto_region 9 with fail
          refine wp_region_quiet_below (by kernel_rfl) (by kernel_rfl) ?_
          repeat (first | go_big_quiet_step (first
            | (go_at_call 10; first | with_reducible exact Calls.regrown_of (k0 _ (below_regrown wr _ _)))
            | (go_at_call 13; first | with_reducible exact Calls.regrown_of (k1 _ (below_regrown wr _ _)) | with_reducible exact Calls.regrown_of (k2 _ (below_regrown wr _ _)))
            | (go_at_call 16; first | with_reducible exact Calls.regrown_of (k3 _))) | quiet_step (fail))
          refine wpQuiet_nil ?_
          rintro _ ⟨pq, rfl⟩
          replace HB := Lib.hid (bthen HB.out (below_regrown wr pq.d pq.os))
          go_wp2
          go_ret
          exact ⟨rfl, HB.out⟩
        | some adc =>
          go_upto_region 9 with fail
          refine wp_region_quiet_below (by kernel_rfl) (by kernel_rfl) ?_
          repeat (first | go_big_quiet_step (first
            | (go_at_call 10; first | with_reducible exact Calls.regrown_of (k0 _ (below_regrown wr _ _)))
            | (go_at_call 13; first | with_reducible exact Calls.regrown_of (k1 _ (below_regrown wr _ _)) | with_reducible exact Calls.regrown_of (k2 _ (below_regrown wr _ _)))
            | (go_at_call 16; first | with_reducible exact Calls.regrown_of (k3 _))) | quiet_step (fail))
          refine wpQuiet_nil ?_
          rintro _ ⟨pq, rfl⟩
          replace HB := Lib.hid (bthen HB.out (below_regrown wr pq.d pq.os))
          go_wp2
          go_ret
          exact ⟨rfl, HB.out⟩
end Go.Proofs.Ytlgfnlkblehlbaa
