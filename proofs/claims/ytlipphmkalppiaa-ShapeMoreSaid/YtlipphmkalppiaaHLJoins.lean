/-
  The walk of ShapeJoins: it answers true, where the program's call does what is asked of it. (Written by gen_hjoins.py.)
-/
import Derived.Test.YtlipphmkalppiaaHAw
import Derived.Test.YtlipphmkalppiaaOpsRow
namespace Go.Proofs.Ytlipphmkalppiaa
open Go Go.RowKit
set_option linter.unusedVariables false

def JVal (V57 V59 V61 d e : Value) (k : Nat) : Value := if k = 57 then V57 else if k = 59 then V59 else if k = 61 then V61 else if k = 65 ∨ k = 13 then d else if k = 66 ∨ k = 14 then e else .tuple #[d, e]
theorem tri3 (kd : Int) (h : 0 ≤ kd ∧ kd ≤ 255) : ∃ t : Int, kd.tmod 3 = t ∧ 0 ≤ t ∧ t ≤ 2 := ⟨_, rfl, by rw [Int.tmod_eq_emod_of_nonneg h.1]; omega, by rw [Int.tmod_eq_emod_of_nonneg h.1]; omega⟩
theorem okAll {l m : List Opn} {kk : Int} (hl : ∀ o ∈ l, OkO o) (hm : ∀ o ∈ m, OkO o) (hk : 4 ≤ kk ∧ kk ≤ 6) : ∀ o ∈ l ++ m ++ [(kk, 0)], OkO o := by
  intro o ho
  simp only [List.mem_append, List.mem_singleton] at ho
  rcases ho with (h | h) | rfl
  · exact hl o h
  · exact hm o h
  · exact ⟨⟨by show _ ≤ kk; omega, by show kk ≤ _; omega⟩, by unfold U; omega⟩
set_option maxRecDepth 100000 in
set_option maxHeartbeats 8000000 in
theorem hjoins_body (G : World → Prop) (hA : AskShape G) (aw : ∀ W, G W → Calls Try.prog 6 #[] W fun e w' => e = .returned (.bool true) ∧ Below W.heap.size W w') (a : Option Addr) (n cap : Nat) (zs : List Opn) (b : Option Addr) (m capb : Nat) (ys : List Opn) (kd : Int) (w : World) (hG0 : G w) (hO : OpA w a n zs) (hu : ∀ o ∈ zs, OkO o) (hna : a = none → cap = 0) (hO2 : OpA w b m ys) (hu2 : ∀ o ∈ ys, OkO o) (hnb : b = none → capb = 0) (hkd : 0 ≤ kd ∧ kd ≤ 255) :
    Calls Try.prog 5 #[.slice a n cap, .slice b m capb, .int .u8 kd] w fun e w' => e = .returned (.bool true) ∧ Below w.heap.size w w' := by
  obtain ⟨i0, hi, hz0, hz1, hz2⟩ := info_parts infoOp
  have HK := Lib.hid (fun (W W' : World) => @AskShape.keep G hA W W')
  have HG0 := Lib.hid hG0
  have hmax := hO.2.1
  have hmax2 := hO2.2.1
  unfold maxLen at hmax hmax2
  obtain rfl := hO.1
  obtain rfl := hO2.1
  have HO := Lib.hid hO; have HO2 := Lib.hid hO2
  have HN := Lib.hid (And.intro hna hnb)
  clear hna hnb
  have HB : Hid (Below w.heap.size w w) := Lib.hid (Below.refl _ _)
  by_cases b1 : (100 : Int) < (zs.length : Int)
  · clear hO hu hO2 hu2
    go_enter Try.func5, Try.ntmps5
    go_wp2_with (go_at_call 6; (with_reducible refine (aw _ (HK.out _ _ HG0.out HB.out)).mono ?_); rintro e w1 ⟨rfl, hb⟩; replace HB := Lib.hid (bthen HB.out hb); clear hb)
    go_ret
    exact ⟨rfl, HB.out⟩
  by_cases b2 : (100 : Int) < (ys.length : Int)
  · clear hO hu hO2 hu2
    go_enter Try.func5, Try.ntmps5
    go_wp2_with (go_at_call 6; (with_reducible refine (aw _ (HK.out _ _ HG0.out HB.out)).mono ?_); rintro e w1 ⟨rfl, hb⟩; replace HB := Lib.hid (bthen HB.out hb); clear hb)
    go_ret
    exact ⟨rfl, HB.out⟩
  obtain ⟨d1, e1, hz1'⟩ : ∃ d e, checkB zs 4 true = (d, e) := ⟨_, _, rfl⟩
  obtain ⟨d2, e2, hz2'⟩ : ∃ d e, checkB ys 4 true = (d, e) := ⟨_, _, rfl⟩
  have k1 := fun (W : World) (hb : Below w.heap.size w W) => hA.check a zs.length cap zs 4 true d1 e1 W (hO.keep hb) hu (by omega) (by omega) hz1' (HK.out _ _ HG0.out hb)
  have k2 := fun (W : World) (hb : Below w.heap.size w W) => hA.check b ys.length capb ys 4 true d2 e2 W (hO2.keep hb) hu2 (by omega) (by omega) hz2' (HK.out _ _ HG0.out hb)
  clear hO hO2
  by_cases he1 : e1 = 0
  case neg =>
    have he' : (e1 != 0) = true := by simp [he1]
    clear hz1' hz2' hu hu2
    go_enter Try.func5, Try.ntmps5
    go_wp2_with (first | (go_at_call 7; (first | with_reducible refine (k1 _ HB.out).mono ?_ | with_reducible refine (k2 _ HB.out).mono ?_); rintro e w1 ⟨rfl, hb⟩; replace HB := Lib.hid (bthen HB.out hb); clear hb) | (go_at_call 6; (with_reducible refine (aw _ (HK.out _ _ HG0.out HB.out)).mono ?_); rintro e w1 ⟨rfl, hb⟩; replace HB := Lib.hid (bthen HB.out hb); clear hb))
    go_ret
    exact ⟨rfl, HB.out⟩
  subst he1
  by_cases he2 : e2 = 0
  case neg =>
    have he' : (e2 != 0) = true := by simp [he2]
    clear hz1' hz2' hu hu2
    go_enter Try.func5, Try.ntmps5
    go_wp2_with (first | (go_at_call 7; (first | with_reducible refine (k1 _ HB.out).mono ?_ | with_reducible refine (k2 _ HB.out).mono ?_); rintro e w1 ⟨rfl, hb⟩; replace HB := Lib.hid (bthen HB.out hb); clear hb) | (go_at_call 6; (with_reducible refine (aw _ (HK.out _ _ HG0.out HB.out)).mono ?_); rintro e w1 ⟨rfl, hb⟩; replace HB := Lib.hid (bthen HB.out hb); clear hb))
    go_ret
    exact ⟨rfl, HB.out⟩
  subst he2
  obtain ⟨t, ht, ht0, ht2⟩ := tri3 kd hkd
  obtain ⟨kk, hkk⟩ : ∃ kk, 4 + t = kk := ⟨_, rfl⟩
  have hkb : 4 ≤ kk ∧ kk ≤ 6 := by omega
  have hw0 : IntKind.u8.wrap t = t := IntWalk.u8_in _ (by omega)
  have hw1 : IntKind.i64.wrap t = t := IntWalk.i64_in _ (by omega)
  have hw2 : IntKind.i64.wrap (4 + t) = kk := by rw [IntWalk.i64_in _ (by omega)]; exact hkk
  have hw3 : wrap64 (4 + t) = kk := by rw [IntWalk.wrap64_in _ (by omega)]; exact hkk
  have hd1 : d1 ≤ 4 := (checkB_ok hz1').2.2.2.2.1
  have hd2 : d2 ≤ 4 := (checkB_ok hz2').2.2.2.2.1
  have hd12 : d1 + d2 ≤ 512 := Nat.le_trans (Nat.add_le_add hd1 hd2) (by decide)
  obtain ⟨d3, e3, hz3'⟩ : ∃ d e, checkB (zs ++ ys ++ [(kk, 0)]) 4 true = (d, e) := ⟨_, _, rfl⟩
  have HJ := Lib.hid (checkB_joins (by omega) (by omega) hz1' hz2' (show kk = 4 ∨ kk = 5 ∨ kk = 6 by omega))
  rw [hz3'] at HJ
  have HZ3 := Lib.hid (fun (h : e3 = 4) => checkB_zero hz3' (by rw [h]; decide))
  have k3 := fun (W : World) (hb : Below w.heap.size w W) (c : Option Addr) (capc : Nat) (h : OpA W c (zs.length + ys.length + 1) (zs ++ ys ++ [(kk, 0)])) => hA.check c (zs.length + ys.length + 1) capc (zs ++ ys ++ [(kk, 0)]) 4 true d3 e3 W h (okAll hu hu2 hkb) (by omega) (by omega) hz3' (HK.out _ _ HG0.out hb)
  have HFL : Hid (flatO (zs ++ ys ++ [(kk, 0)]) = flatO zs ++ flatO ys ++ [.int .i64 kk, .int .u64 0]) := Lib.hid (by simp [flatO])
  have HLN : Hid ((zs ++ ys ++ [(kk, 0)]).length = zs.length + ys.length + 1) := Lib.hid (by simp; omega)
  clear hz1' hz2' hz3' hu hu2 hkk
  have hst0 : zs.length ≤ 100 := by omega
  have hst1 : ys.length ≤ 100 := by omega
  by_cases h6 : kk = 6
  · subst h6
    obtain ⟨V, hV⟩ : ∃ V, d1 + d2 = V := ⟨_, rfl⟩
    have hval : wrap64 ((d1 : Int) + (d2 : Int)) = (V : Int) := by rw [← hV]; exact (w_add d1 d2 hd12).1
    have hval2 : IntKind.i64.wrap ((d1 : Int) + (d2 : Int)) = (V : Int) := by rw [← hV]; exact (w_add d1 d2 hd12).2
    have HV : Hid (e3 = 4 ∨ (d3, e3) = if 4 < V then (0, 5) else (V, 0)) := Lib.hid (by
      have := HJ.out
      rw [if_pos rfl, hV] at this
      exact this)
    clear HJ hV
    go_enter Try.func5, Try.ntmps5
    go_upto_region 8 with (go_at_call 7; (first | with_reducible refine (k1 _ HB.out).mono ?_ | with_reducible refine (k2 _ HB.out).mono ?_); rintro e w1 ⟨rfl, hb⟩; replace HB := Lib.hid (bthen HB.out hb); clear hb)
    clear k1 k2 hw0 hw1 hw2 hw3 ht
    refine wp_gen (fun W => Below w.heap.size w W ∧ W.cell? ⟨w1.heap.size, 0, none⟩ = some (.int .i64 6) ∧ W.cell? ⟨w1.heap.size, 1, none⟩ = some (.int .u64 0)) ⟨HB.out.alloc HB.out.size _, by simp [go_sem], by simp [go_sem]⟩ ?_
    obtain ⟨g6, hg6⟩ : ∃ g, w1.heap.size = g := ⟨_, rfl⟩
    rw [hg6]
    rintro W0 ⟨hB, c0, c1⟩
    clear hg6
    have HB := Lib.hid hB
    clear hB
    go_upto_region 11 with fail
    have HO0 := Lib.hid (HO.out.keep HB.out); have HP0 := Lib.hid (HO2.out.keep HB.out)
    clear HO HO2
    have C0 := Lib.hid c0; have C1 := Lib.hid c1
    clear c0 c1 hval hval2
    refine wp_lay [(56, []), (57, []), (58, [56, 57]), (59, []), (60, [58, 59]), (61, []), (62, [61]), (63, [60, 62]), (64, [63]), (55, [64]), (65, [55]), (66, [55]), (13, [65]), (14, [66])]
      (Rows4 W0 31 56 58 60 62 63 (flatO zs) (flatO ys) zs.length ys.length (.int .i64 6) (.int .u64 0) [57, 59, 61, 64, 55, 65, 66, 13, 14] (JVal (.slice a zs.length cap) (.slice b ys.length capb) (.agg #[.int .i64 6, .int .u64 0]) (.int .i64 (d3 : Int)) (.int .i64 e3))) (by kernel_rfl) (by kernel_rfl) (fun σ => Rows4.start (Below.refl _ _).drew σ) ?_ ?_
    · refine opsw_cons ?_ (opsw_cons ?_ (opsw_cons ?_ (opsw_cons ?_ (opsw_cons ?_ (opsw_cons ?_ (opsw_cons ?_ (opsw_cons ?_ (opsw_cons ?_ (opsw_cons ?_ (opsw_cons ?_ (opsw_cons ?_ (opsw_cons ?_ (opsw_cons ?_ opsw_nil)))))))))))))
      all_goals
        refine OpRunsW.any ?_
        intro Q0 D σ W K hW hd hn hK
        simp only [fill, List.map, Act.put, List.setIfInBounds_toArray, List.set_cons_zero, List.set_cons_succ] at hK ⊢
      · have HW := Lib.hid hW
        clear hW
        go_simp
        exact hK _ _ (HW.out.step (by decide) (HW.out.open0 hd) ((HW.out.1 (HW.out.open0 hd)).lit0 hd (by decide) (by decide)))
      · have HW := Lib.hid hW
        clear hW
        go_simp
        exact hK _ _ (HW.out.next (Below.refl _ _) (by decide) rfl)
      · have h57 : σ 57 = .slice a zs.length cap := hW.2.2.1 57 (by decide) (hn 57 (by decide))
        have hs0 := hn 56 (by decide)
        have hop := hW.open1 hd
        rw [if_pos (by rfl)]
        refine wp_append_at3 (.tmp 56) (.tmp 57) 22 (by rfl) W0.heap.size 31 i0 (.agg #[.int .i64 0, .int .u64 0]) 2 16 Try.underlying22 hi hz0 hz1 hz2 rfl (by decide) (σ 56) 0 [] (by rfl) ((hW.1 hop).own0 hs0 hd) a zs.length cap (flatO zs) (by exact h57) (flatO_len2 zs) HN.out.1 (opA_nil0 HO0.out) (opA_cells (HO0.out.keep hW.2.1)) (flatO_one zs) (by unfold maxLen; omega) (by omega) hW.2.1.size ?_
        intro v' w' q1 q2 q3
        exact hK _ _ (hW.step (by decide) hop ((hW.1 hop).app1 hd hs0 (by decide) (by decide) (by simpa using q1) q2 q3))
      · have HW := Lib.hid hW
        clear hW
        go_simp
        exact hK _ _ (HW.out.next (Below.refl _ _) (by decide) rfl)
      · have h59 : σ 59 = .slice b ys.length capb := hW.2.2.1 59 (by decide) (hn 59 (by decide))
        have hs1 := hn 58 (by decide)
        have hop := hW.open2 hd
        rw [if_pos (by rfl)]
        refine wp_append_at3 (.tmp 58) (.tmp 59) 22 (by rfl) W0.heap.size 31 i0 (.agg #[.int .i64 0, .int .u64 0]) 2 16 Try.underlying22 hi hz0 hz1 hz2 rfl (by decide) (σ 58) zs.length (flatO zs) (by rfl) ((hW.1 hop).own1 hs1 hd) b ys.length capb (flatO ys) (by exact h59) (flatO_len2 ys) HN.out.2 (opA_nil0 HP0.out) (opA_cells (HP0.out.keep hW.2.1)) (flatO_one ys) (by unfold maxLen; omega) (by omega) hW.2.1.size ?_
        intro v' w' q1 q2 q3
        exact hK _ _ (hW.step (by decide) hop ((hW.1 hop).app2 hd hs1 (by decide) (by decide) q1 q2 q3))
      · have c0 := bkeep hW.2.1 C0.out
        have c1 := bkeep hW.2.1 C1.out
        have HW := Lib.hid hW
        clear hW
        go_simp
        exact hK _ _ (HW.out.next (Below.refl _ _) (by decide) rfl)
      · have h61 : σ 61 = .agg #[.int .i64 6, .int .u64 0] := hW.2.2.1 61 (by decide) (hn 61 (by decide))
        simp only [h61] at hK
        have HW := Lib.hid hW
        clear hW
        go_simp
        exact hK _ _ (HW.out.step (by decide) (HW.out.openl hd) ((HW.out.1 (HW.out.openl hd)).litX (by decide) (by decide)))
      · have hs2 := hn 60 (by decide)
        have hsl := hn 62 (by decide)
        obtain ⟨hown, gl, hl, l0, l1, hne⟩ := (hW.1 hd).done hs2 hsl
        rw [if_pos (by rfl)]
        refine wp_append_at3 (.tmp 60) (.tmp 62) 22 (by rfl) W0.heap.size 31 i0 (.agg #[.int .i64 0, .int .u64 0]) 2 16 Try.underlying22 hi hz0 hz1 hz2 rfl (by decide) (σ 60) (zs.length + ys.length) (flatO zs ++ flatO ys) (by rfl) hown (some ⟨gl, 0, none⟩) 1 1 [.int .i64 6, .int .u64 0] (by exact hl) rfl (fun h => by cases h) (fun h => by cases h) (by rintro ad e; cases e; exact two_src l0 l1) (by intro u hu; simp at hu; rcases hu with rfl | rfl <;> rfl) (by unfold maxLen; omega) (by omega) hW.2.1.size ?_
        intro v' w' q1 q2 q3
        exact hK _ _ (hW.app3 hd hs2 hsl (by decide) q1 q2)
      · have q := hW.2.2.2 (hn 63 (by decide))
        have q3 : W.ownsRow W0.heap.size 31 2 (σ 63) (zs ++ ys ++ [(6, 0)]).length (flatO (zs ++ ys ++ [(6, 0)])) := by rw [HFL.out, HLN.out]; exact q.2.2.2.2
        obtain ⟨a4, c4, e63, h4, _⟩ := own_oprow q3
        rw [HLN.out] at h4 e63
        have H4 := Lib.hid h4
        simp only [e63] at hK ⊢
        have HB4 := Lib.hid (bthen HB.out hW.2.1)
        have HW := Lib.hid hW
        clear hW q q3 h4
        go_simp
        go_at_call 7
        refine (k3 _ HB4.out a4 c4 H4.out).mono ?_
        rintro e w5 ⟨rfl, hb⟩
        exact hK _ _ (HW.out.next hb (by decide) rfl)
      · have h64 : σ 64 = .tuple #[.int .i64 (d3 : Int), .int .i64 e3] := hW.2.2.1 64 (by decide) (hn 64 (by decide))
        simp only [h64] at hK
        have HW := Lib.hid hW
        clear hW
        go_simp
        exact hK _ _ (HW.out.next (Below.refl _ _) (by decide) rfl)
      · have h55 : σ 55 = .tuple #[.int .i64 (d3 : Int), .int .i64 e3] := hW.2.2.1 55 (by decide) (hn 55 (by decide))
        simp only [h55] at hK
        have HW := Lib.hid hW
        clear hW
        go_simp
        exact hK _ _ (HW.out.next (Below.refl _ _) (by decide) rfl)
      · have h55 : σ 55 = .tuple #[.int .i64 (d3 : Int), .int .i64 e3] := hW.2.2.1 55 (by decide) (hn 55 (by decide))
        simp only [h55] at hK
        have HW := Lib.hid hW
        clear hW
        go_simp
        exact hK _ _ (HW.out.next (Below.refl _ _) (by decide) rfl)
      · have h65 : σ 65 = .int .i64 (d3 : Int) := hW.2.2.1 65 (by decide) (hn 65 (by decide))
        simp only [h65] at hK
        have HW := Lib.hid hW
        clear hW
        go_simp
        exact hK _ _ (HW.out.next (Below.refl _ _) (by decide) rfl)
      · have h66 : σ 66 = .int .i64 e3 := hW.2.2.1 66 (by decide) (hn 66 (by decide))
        simp only [h66] at hK
        have HW := Lib.hid hW
        clear hW
        go_simp
        exact hK _ _ (HW.out.next (Below.refl _ _) (by decide) rfl)
    · intro D σ W hW hD
      have h65 : σ 13 = .int .i64 (d3 : Int) := hW.2.2.1 13 (by decide) (hD 13 (by decide))
      have h66 : σ 14 = .int .i64 e3 := hW.2.2.1 14 (by decide) (hD 14 (by decide))
      replace HB := Lib.hid (bthen HB.out hW.2.1)
      clear hW hD C0 C1 HO0 HP0
      simp only [fill, List.map, Act.put, List.setIfInBounds_toArray, List.set_cons_zero, List.set_cons_succ, List.length_cons, List.length_nil, List.drop_succ_cons, List.drop_zero, Nat.reduceAdd, h65, h66]
      clear h65 h66
      by_cases h4 : e3 = 4
      · subst h4
        obtain rfl := HZ3.out rfl
        clear k3 HV
        go_wp2_with (go_at_call 6; (with_reducible refine (aw _ (HK.out _ _ HG0.out HB.out)).mono ?_); rintro e w1 ⟨rfl, hb⟩; replace HB := Lib.hid (bthen HB.out hb); clear hb)
        go_ret
        exact ⟨rfl, HB.out⟩
      · have hv := (HV.out.resolve_left h4)
        by_cases hbig : 4 < V
        · rw [if_pos hbig] at hv
          obtain ⟨rfl, rfl⟩ := Prod.mk.inj hv
          have hbigI : (4 : Int) < (V : Int) := by omega
          clear hv HV HZ3 k3 h4
          go_wp2_with (go_at_call 6; (with_reducible refine (aw _ (HK.out _ _ HG0.out HB.out)).mono ?_); rintro e w1 ⟨rfl, hb⟩; replace HB := Lib.hid (bthen HB.out hb); clear hb)
          go_ret
          exact ⟨rfl, HB.out⟩
        · rw [if_neg hbig] at hv
          obtain ⟨hd3, rfl⟩ := Prod.mk.inj hv
          have hd3 : d3 = V := hd3
          subst hd3
          have hbigI : ¬ (4 : Int) < (d3 : Int) := by omega
          clear hv HV HZ3 k3 h4
          go_wp2_with (go_at_call 6; (with_reducible refine (aw _ (HK.out _ _ HG0.out HB.out)).mono ?_); rintro e w1 ⟨rfl, hb⟩; replace HB := Lib.hid (bthen HB.out hb); clear hb)
          go_ret
          exact ⟨by simp; omega, HB.out⟩
  · have h6b : (kk == 6) = false := by simp [h6]
    obtain ⟨V, hV⟩ : ∃ V, max d1 d2 = V := ⟨_, rfl⟩
    have hval : max (d1 : Int) (d2 : Int) = (V : Int) := by rw [← hV]; exact max_nat d1 d2
    have HV : Hid (e3 = 4 ∨ (d3, e3) = if 4 < V then (0, 5) else (V, 0)) := Lib.hid (by
      have := HJ.out
      rw [if_neg h6, hV] at this
      exact this)
    clear HJ hV
    go_enter Try.func5, Try.ntmps5
    go_upto_region 8 with (go_at_call 7; (first | with_reducible refine (k1 _ HB.out).mono ?_ | with_reducible refine (k2 _ HB.out).mono ?_); rintro e w1 ⟨rfl, hb⟩; replace HB := Lib.hid (bthen HB.out hb); clear hb)
    clear k1 k2 hw0 hw1 hw2 hw3 ht
    refine wp_gen (fun W => Below w.heap.size w W ∧ W.cell? ⟨w1.heap.size, 0, none⟩ = some (.int .i64 kk) ∧ W.cell? ⟨w1.heap.size, 1, none⟩ = some (.int .u64 0)) ⟨HB.out.alloc HB.out.size _, by simp [go_sem], by simp [go_sem]⟩ ?_
    obtain ⟨g6, hg6⟩ : ∃ g, w1.heap.size = g := ⟨_, rfl⟩
    rw [hg6]
    rintro W0 ⟨hB, c0, c1⟩
    clear hg6
    have HB := Lib.hid hB
    clear hB
    go_upto_region 11 with fail
    have HO0 := Lib.hid (HO.out.keep HB.out); have HP0 := Lib.hid (HO2.out.keep HB.out)
    clear HO HO2
    have C0 := Lib.hid c0; have C1 := Lib.hid c1
    clear c0 c1 hval h6 h6b
    refine wp_lay [(56, []), (57, []), (58, [56, 57]), (59, []), (60, [58, 59]), (61, []), (62, [61]), (63, [60, 62]), (64, [63]), (55, [64]), (65, [55]), (66, [55]), (13, [65]), (14, [66])]
      (Rows4 W0 31 56 58 60 62 63 (flatO zs) (flatO ys) zs.length ys.length (.int .i64 kk) (.int .u64 0) [57, 59, 61, 64, 55, 65, 66, 13, 14] (JVal (.slice a zs.length cap) (.slice b ys.length capb) (.agg #[.int .i64 kk, .int .u64 0]) (.int .i64 (d3 : Int)) (.int .i64 e3))) (by kernel_rfl) (by kernel_rfl) (fun σ => Rows4.start (Below.refl _ _).drew σ) ?_ ?_
    · refine opsw_cons ?_ (opsw_cons ?_ (opsw_cons ?_ (opsw_cons ?_ (opsw_cons ?_ (opsw_cons ?_ (opsw_cons ?_ (opsw_cons ?_ (opsw_cons ?_ (opsw_cons ?_ (opsw_cons ?_ (opsw_cons ?_ (opsw_cons ?_ (opsw_cons ?_ opsw_nil)))))))))))))
      all_goals
        refine OpRunsW.any ?_
        intro Q0 D σ W K hW hd hn hK
        simp only [fill, List.map, Act.put, List.setIfInBounds_toArray, List.set_cons_zero, List.set_cons_succ] at hK ⊢
      · have HW := Lib.hid hW
        clear hW
        go_simp
        exact hK _ _ (HW.out.step (by decide) (HW.out.open0 hd) ((HW.out.1 (HW.out.open0 hd)).lit0 hd (by decide) (by decide)))
      · have HW := Lib.hid hW
        clear hW
        go_simp
        exact hK _ _ (HW.out.next (Below.refl _ _) (by decide) rfl)
      · have h57 : σ 57 = .slice a zs.length cap := hW.2.2.1 57 (by decide) (hn 57 (by decide))
        have hs0 := hn 56 (by decide)
        have hop := hW.open1 hd
        rw [if_pos (by rfl)]
        refine wp_append_at3 (.tmp 56) (.tmp 57) 22 (by rfl) W0.heap.size 31 i0 (.agg #[.int .i64 0, .int .u64 0]) 2 16 Try.underlying22 hi hz0 hz1 hz2 rfl (by decide) (σ 56) 0 [] (by rfl) ((hW.1 hop).own0 hs0 hd) a zs.length cap (flatO zs) (by exact h57) (flatO_len2 zs) HN.out.1 (opA_nil0 HO0.out) (opA_cells (HO0.out.keep hW.2.1)) (flatO_one zs) (by unfold maxLen; omega) (by omega) hW.2.1.size ?_
        intro v' w' q1 q2 q3
        exact hK _ _ (hW.step (by decide) hop ((hW.1 hop).app1 hd hs0 (by decide) (by decide) (by simpa using q1) q2 q3))
      · have HW := Lib.hid hW
        clear hW
        go_simp
        exact hK _ _ (HW.out.next (Below.refl _ _) (by decide) rfl)
      · have h59 : σ 59 = .slice b ys.length capb := hW.2.2.1 59 (by decide) (hn 59 (by decide))
        have hs1 := hn 58 (by decide)
        have hop := hW.open2 hd
        rw [if_pos (by rfl)]
        refine wp_append_at3 (.tmp 58) (.tmp 59) 22 (by rfl) W0.heap.size 31 i0 (.agg #[.int .i64 0, .int .u64 0]) 2 16 Try.underlying22 hi hz0 hz1 hz2 rfl (by decide) (σ 58) zs.length (flatO zs) (by rfl) ((hW.1 hop).own1 hs1 hd) b ys.length capb (flatO ys) (by exact h59) (flatO_len2 ys) HN.out.2 (opA_nil0 HP0.out) (opA_cells (HP0.out.keep hW.2.1)) (flatO_one ys) (by unfold maxLen; omega) (by omega) hW.2.1.size ?_
        intro v' w' q1 q2 q3
        exact hK _ _ (hW.step (by decide) hop ((hW.1 hop).app2 hd hs1 (by decide) (by decide) q1 q2 q3))
      · have c0 := bkeep hW.2.1 C0.out
        have c1 := bkeep hW.2.1 C1.out
        have HW := Lib.hid hW
        clear hW
        go_simp
        exact hK _ _ (HW.out.next (Below.refl _ _) (by decide) rfl)
      · have h61 : σ 61 = .agg #[.int .i64 kk, .int .u64 0] := hW.2.2.1 61 (by decide) (hn 61 (by decide))
        simp only [h61] at hK
        have HW := Lib.hid hW
        clear hW
        go_simp
        exact hK _ _ (HW.out.step (by decide) (HW.out.openl hd) ((HW.out.1 (HW.out.openl hd)).litX (by decide) (by decide)))
      · have hs2 := hn 60 (by decide)
        have hsl := hn 62 (by decide)
        obtain ⟨hown, gl, hl, l0, l1, hne⟩ := (hW.1 hd).done hs2 hsl
        rw [if_pos (by rfl)]
        refine wp_append_at3 (.tmp 60) (.tmp 62) 22 (by rfl) W0.heap.size 31 i0 (.agg #[.int .i64 0, .int .u64 0]) 2 16 Try.underlying22 hi hz0 hz1 hz2 rfl (by decide) (σ 60) (zs.length + ys.length) (flatO zs ++ flatO ys) (by rfl) hown (some ⟨gl, 0, none⟩) 1 1 [.int .i64 kk, .int .u64 0] (by exact hl) rfl (fun h => by cases h) (fun h => by cases h) (by rintro ad e; cases e; exact two_src l0 l1) (by intro u hu; simp at hu; rcases hu with rfl | rfl <;> rfl) (by unfold maxLen; omega) (by omega) hW.2.1.size ?_
        intro v' w' q1 q2 q3
        exact hK _ _ (hW.app3 hd hs2 hsl (by decide) q1 q2)
      · have q := hW.2.2.2 (hn 63 (by decide))
        have q3 : W.ownsRow W0.heap.size 31 2 (σ 63) (zs ++ ys ++ [(kk, 0)]).length (flatO (zs ++ ys ++ [(kk, 0)])) := by rw [HFL.out, HLN.out]; exact q.2.2.2.2
        obtain ⟨a4, c4, e63, h4, _⟩ := own_oprow q3
        rw [HLN.out] at h4 e63
        have H4 := Lib.hid h4
        simp only [e63] at hK ⊢
        have HB4 := Lib.hid (bthen HB.out hW.2.1)
        have HW := Lib.hid hW
        clear hW q q3 h4
        go_simp
        go_at_call 7
        refine (k3 _ HB4.out a4 c4 H4.out).mono ?_
        rintro e w5 ⟨rfl, hb⟩
        exact hK _ _ (HW.out.next hb (by decide) rfl)
      · have h64 : σ 64 = .tuple #[.int .i64 (d3 : Int), .int .i64 e3] := hW.2.2.1 64 (by decide) (hn 64 (by decide))
        simp only [h64] at hK
        have HW := Lib.hid hW
        clear hW
        go_simp
        exact hK _ _ (HW.out.next (Below.refl _ _) (by decide) rfl)
      · have h55 : σ 55 = .tuple #[.int .i64 (d3 : Int), .int .i64 e3] := hW.2.2.1 55 (by decide) (hn 55 (by decide))
        simp only [h55] at hK
        have HW := Lib.hid hW
        clear hW
        go_simp
        exact hK _ _ (HW.out.next (Below.refl _ _) (by decide) rfl)
      · have h55 : σ 55 = .tuple #[.int .i64 (d3 : Int), .int .i64 e3] := hW.2.2.1 55 (by decide) (hn 55 (by decide))
        simp only [h55] at hK
        have HW := Lib.hid hW
        clear hW
        go_simp
        exact hK _ _ (HW.out.next (Below.refl _ _) (by decide) rfl)
      · have h65 : σ 65 = .int .i64 (d3 : Int) := hW.2.2.1 65 (by decide) (hn 65 (by decide))
        simp only [h65] at hK
        have HW := Lib.hid hW
        clear hW
        go_simp
        exact hK _ _ (HW.out.next (Below.refl _ _) (by decide) rfl)
      · have h66 : σ 66 = .int .i64 e3 := hW.2.2.1 66 (by decide) (hn 66 (by decide))
        simp only [h66] at hK
        have HW := Lib.hid hW
        clear hW
        go_simp
        exact hK _ _ (HW.out.next (Below.refl _ _) (by decide) rfl)
    · intro D σ W hW hD
      have h65 : σ 13 = .int .i64 (d3 : Int) := hW.2.2.1 13 (by decide) (hD 13 (by decide))
      have h66 : σ 14 = .int .i64 e3 := hW.2.2.1 14 (by decide) (hD 14 (by decide))
      replace HB := Lib.hid (bthen HB.out hW.2.1)
      clear hW hD C0 C1 HO0 HP0
      simp only [fill, List.map, Act.put, List.setIfInBounds_toArray, List.set_cons_zero, List.set_cons_succ, List.length_cons, List.length_nil, List.drop_succ_cons, List.drop_zero, Nat.reduceAdd, h65, h66]
      clear h65 h66
      by_cases h4 : e3 = 4
      · subst h4
        obtain rfl := HZ3.out rfl
        clear k3 HV
        go_wp2_with (go_at_call 6; (with_reducible refine (aw _ (HK.out _ _ HG0.out HB.out)).mono ?_); rintro e w1 ⟨rfl, hb⟩; replace HB := Lib.hid (bthen HB.out hb); clear hb)
        go_ret
        exact ⟨rfl, HB.out⟩
      · have hv := (HV.out.resolve_left h4)
        by_cases hbig : 4 < V
        · rw [if_pos hbig] at hv
          obtain ⟨rfl, rfl⟩ := Prod.mk.inj hv
          have hbigI : (4 : Int) < (V : Int) := by omega
          clear hv HV HZ3 k3 h4
          go_wp2_with (go_at_call 6; (with_reducible refine (aw _ (HK.out _ _ HG0.out HB.out)).mono ?_); rintro e w1 ⟨rfl, hb⟩; replace HB := Lib.hid (bthen HB.out hb); clear hb)
          go_ret
          exact ⟨rfl, HB.out⟩
        · rw [if_neg hbig] at hv
          obtain ⟨hd3, rfl⟩ := Prod.mk.inj hv
          have hd3 : d3 = V := hd3
          subst hd3
          have hbigI : ¬ (4 : Int) < (d3 : Int) := by omega
          clear hv HV HZ3 k3 h4
          go_wp2_with (go_at_call 6; (with_reducible refine (aw _ (HK.out _ _ HG0.out HB.out)).mono ?_); rintro e w1 ⟨rfl, hb⟩; replace HB := Lib.hid (bthen HB.out hb); clear hb)
          go_ret
          exact ⟨by simp; omega, HB.out⟩
end Go.Proofs.Ytlipphmkalppiaa
