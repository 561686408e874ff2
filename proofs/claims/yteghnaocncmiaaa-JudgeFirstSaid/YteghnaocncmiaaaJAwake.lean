/-
  Layer 22's examples come out as the document says, where the program's calls do what is asked of them.
-/
import Derived.Test.YteghnaocncmiaaaJudgeH
import Derived.Test.YteghnaocncmiaaaJudgeRefJ
import Derived.Test.YteghnaocncmiaaaCNEx
import Derived.BigQuiet
namespace Go.Proofs.Yteghnaocncmiaaa
open Go Go.RowKit Go.Sort Go.BigFrame
set_option linter.unusedVariables false

theorem finAt_one (p : Int × Int) (x : F) : finAt [p] x = toQ p := by
  rw [finAt_ev, ← qe_lift]
  show qe (0 + 1) _ _ = _
  rw [qe_first, qe_none _ (fun i hi => absurd hi (Nat.not_lt_zero i)), F2.mul_zero, F2.add_zero]
  rfl
abbrev exF : Quad := (w12.getD 1 (0, 0), w12.getD 3 (0, 0))
theorem exj_good : judgeB 1 1 1 [(3, 0)] 1 exF [] [(7, 0)] = true := by
  have h := judge_honest z12 [(3, 0)] 1 1 1 exF [] rfl (by decide) (by decide) (by decide) (by decide) (by decide) rfl rfl (fun j hj => absurd hj (by simp))
  rw [show nrmQ (chZ z12 [(3, 0)] 1 [((3 : Int), (0 : Int))].length) = [(7, 0)] by decide +kernel] at h
  exact h
theorem exj_bad : judgeB 1 1 1 [(3, 0)] 1 exF [] [(8, 0)] = false := by
  have h := exj_good
  cases h2 : judgeB 1 1 1 [(3, 0)] 1 exF [] [(8, 0)]
  · rfl
  · exfalso
    have r1 := judge_right h
    have r2 := judge_right h2
    unfold judgeB at h h2
    rw [if_pos r1, if_neg (by decide)] at h
    rw [if_pos r2, if_neg (by decide)] at h2
    have a1 := of_decide_eq_true (jAll_at (j := 0) h (by decide))
    have a2 := of_decide_eq_true (jAll_at (j := 0) h2 (by decide))
    have e := a1.symm.trans a2
    unfold jWant at e
    rw [if_pos (by rfl), if_pos (by rfl), finAt_one, finAt_one] at e
    revert e
    decide +kernel
theorem exj_out (f : Quad) : judgeB 1 1 1 [(3, 0)] 2 f [] [(7, 0)] = false := by
  unfold judgeB
  rw [if_neg (by decide)]
theorem exr_yes : decide (rightJ 1 1 1 [((3 : Int), (0 : Int))].length 1 ([] : List Quad).length [((7 : Int), (0 : Int))].length) = true := by decide
theorem exr_no : decide (rightJ 1 1 1 ([] : QL).length 1 ([] : List Quad).length [((7 : Int), (0 : Int))].length) = false := by decide
set_option maxRecDepth 100000 in
set_option maxHeartbeats 8000000 in
theorem jawake (G : World → Prop) (hA : AskJudge G) (w : World) (hG : G w) : Calls Try.prog 8 #[] w fun e w' => e = .returned (.bool true) ∧ Below w.heap.size w w' := by
  have HK := Lib.hid (fun (W W' : World) => @AskJudge.keep G hA W W')
  have HG := Lib.hid hG
  have hal := fun (W : World) (o : Obj) => (Below.refl W.heap.size W).alloc (Nat.le_refl _) o
  have hwU : ∀ n ∈ w12, U n.1 ∧ U n.2 := joinL_U _ _
  have f1 := fun W a (hq : QRowA W a 2 z12) => refforthq_yes a 2 2 z12 7 (by unfold U; decide) (shiftF 0) (by decide +kernel) 2 (by decide) W hq (by unfold z12 U; decide) (by decide)
  unfold NewOkQ at f1
  simp only [show 2 ^ 2 = 4 from rfl] at f1
  simp only [show ((2 : Nat) : Int) = 2 from rfl] at f1
  have HA := Lib.hid hA
  clear hA hG
  go_enter Try.func8, Try.ntmps8
  go_upto_region 2 with fail
  obtain ⟨g, hg⟩ : ∃ g, w.heap.size = g := ⟨_, rfl⟩
  refine wp_gen (fun W => Below w.heap.size w W ∧ RjBox W g 1 1 1 0) ⟨(Below.refl _ _).alloc (Nat.le_refl _) _, by subst hg; simp [RjBox, go_sem]⟩ ?_
  rintro w0 ⟨hB0, hP⟩
  simp only [hg]
  have HB := Lib.hid hB0; have HP := Lib.hid hP
  clear hB0 hP hg
  go_upto_region 3 with (go_at_call 13; (with_reducible refine (f1 _ _ (cq_two _ _ _ _ _ _)).mono ?_); rintro e w1 ⟨a1, c1, rfl, hb, hq⟩; have HQ : Hid (QRowA w1 a1 4 w12) := Lib.hid hq.at; replace HB := Lib.hid (bthen HB.out (bthen (hal _ _) hb)); replace HP := Lib.hid (HP.out.keep (bthen (hal _ _) hb)); clear hb hq)
  go_upto_region 4 with fail
  clear f1 hal
  obtain ⟨g4, hg4⟩ : ∃ g, w1.heap.size = g := ⟨_, rfl⟩
  refine wp_gen (fun W => Below w1.heap.size w1 W ∧ QRowA W (some ⟨g4, 0, none⟩) 1 [(3, 0)]) ⟨(Below.refl _ _).alloc (Nat.le_refl _) _, by subst hg4; exact cq_one _ _ _ _⟩ ?_
  rintro w2 ⟨hB2, hBY⟩
  simp only [hg4]
  replace HB := Lib.hid (bthen HB.out hB2); replace HP := Lib.hid (HP.out.keep hB2); replace HQ := Lib.hid (HQ.out.keep hB2); have HBY := Lib.hid hBY
  clear hB2 hBY hg4
  obtain ⟨b, o, hab, x0, x1⟩ := HQ.out.2.2 1 (by decide)
  obtain ⟨b', o', hab', y0, y1⟩ := HQ.out.2.2 3 (by decide)
  rw [hab] at hab'
  obtain ⟨rfl, rfl⟩ : b = b' ∧ o = o' := by injection hab' with h; injection h with h1 h2 h3; exact ⟨h1, h2⟩
  subst hab
  have hu1 := hwU (w12.getD 1 (0, 0)) (by rw [show w12.getD 1 (0, 0) = w12[1]'(by rw [w12_len]; decide) by simp [List.getD, w12_len]]; exact List.getElem_mem _)
  have hu3 := hwU (w12.getD 3 (0, 0)) (by rw [show w12.getD 3 (0, 0) = w12[3]'(by rw [w12_len]; decide) by simp [List.getD, w12_len]]; exact List.getElem_mem _)
  have kg : judgeB 1 1 1 [(3, 0)] 1 (w12.getD 1 (0, 0), w12.getD 3 (0, 0)) [] [(7, 0)] = true := exj_good
  have kb : judgeB 1 1 1 [(3, 0)] 1 (w12.getD 1 (0, 0), w12.getD 3 (0, 0)) [] [(8, 0)] = false := exj_bad
  have ko : judgeB 1 1 1 [(3, 0)] 2 (w12.getD 1 (0, 0), w12.getD 3 (0, 0)) [] [(7, 0)] = false := exj_out _
  have hUF : UsQ (w12.getD 1 (0, 0), w12.getD 3 (0, 0)) := ⟨hu1, hu3⟩
  clear hab' hwU hu1 hu3
  generalize w12.getD 1 (0, 0) = p1 at *
  generalize w12.getD 3 (0, 0) = p3 at *
  obtain ⟨p10, p11⟩ := p1
  obtain ⟨p30, p31⟩ := p3
  have x0 : w2.cell? ⟨b, o + 2, none⟩ = some (.int .u64 p10) := x0
  have x1 : w2.cell? ⟨b, o + 2 + 1, none⟩ = some (.int .u64 p11) := x1
  have y0 : w2.cell? ⟨b, o + 6, none⟩ = some (.int .u64 p30) := y0
  have y1 : w2.cell? ⟨b, o + 6 + 1, none⟩ = some (.int .u64 p31) := y1
  have hlt : b < w2.heap.size := World.block_lt_of_cell? w2 _ x0
  have hne : ¬ b = w2.heap.size := Nat.ne_of_lt hlt
  have hne' : ¬ w2.heap.size = b := fun e => hne e.symm
  go_region
  go_upto_region 5 with fail
  obtain ⟨g5, hg5⟩ : ∃ g, w2.heap.size = g := ⟨_, rfl⟩
  refine wp_gen (fun W => Below w2.heap.size w2 W ∧ QuadC W g5 ((p10, p11), (p30, p31))) ⟨((Below.refl _ _).alloc (Nat.le_refl _) _).drew, by subst hg5; simp [QuadC, go_sem]⟩ ?_
  rintro w3 ⟨hB3, hF⟩
  simp only [hg5]
  replace HB := Lib.hid (bthen HB.out hB3); replace HP := Lib.hid (HP.out.keep hB3); replace HBY := Lib.hid (HBY.out.keep hB3)
  obtain ⟨d0, d1, d2, d3⟩ := hF
  obtain ⟨c0, c1, c2, c3⟩ := HP.out
  clear hB3 hg5 x0 x1 y0 y1 HQ HP hlt hne hne'
  have hal := fun (W : World) (o : Obj) => (Below.refl W.heap.size W).alloc (Nat.le_refl _) o
  have i1 : I64 1 := by unfold I64; decide
  have i2 : I64 2 := by unfold I64; decide
  have j1 := fun W fa (h : Below w.heap.size w W) (hby : QRowA W (some ⟨g4, 0, none⟩) 1 [(3, 0)]) (hf : QRowA W fa 1 [(7, 0)]) => HA.out.judge 1 1 1 1 0 _ 1 1 [(3, 0)] 1 ((p10, p11), (p30, p31)) none 0 0 [] fa 1 1 [(7, 0)] true W i1 i1 i1 i1 hby (by unfold U; decide) hUF (QuadsA.nil W) (fun q hq => absurd hq (by simp)) hf (by unfold U; decide) kg (HK.out _ _ HG.out h)
  have j2 := fun W fa (h : Below w.heap.size w W) (hby : QRowA W (some ⟨g4, 0, none⟩) 1 [(3, 0)]) (hf : QRowA W fa 1 [(8, 0)]) => HA.out.judge 1 1 1 1 0 _ 1 1 [(3, 0)] 1 ((p10, p11), (p30, p31)) none 0 0 [] fa 1 1 [(8, 0)] false W i1 i1 i1 i1 hby (by unfold U; decide) hUF (QuadsA.nil W) (fun q hq => absurd hq (by simp)) hf (by unfold U; decide) kb (HK.out _ _ HG.out h)
  have j3 := fun W fa (h : Below w.heap.size w W) (hby : QRowA W (some ⟨g4, 0, none⟩) 1 [(3, 0)]) (hf : QRowA W fa 1 [(7, 0)]) => HA.out.judge 1 1 1 1 0 _ 1 1 [(3, 0)] 2 ((p10, p11), (p30, p31)) none 0 0 [] fa 1 1 [(7, 0)] false W i1 i1 i1 i2 hby (by unfold U; decide) hUF (QuadsA.nil W) (fun q hq => absurd hq (by simp)) hf (by unfold U; decide) ko (HK.out _ _ HG.out h)
  have r1 := fun W fa (h : Below w.heap.size w W) (hby : QRowA W (some ⟨g4, 0, none⟩) 1 [(3, 0)]) (hf : QRowA W fa 1 [(7, 0)]) => HA.out.right 1 1 1 1 0 _ 1 1 [(3, 0)] 1 none 0 0 [] fa 1 1 [(7, 0)] true W i1 i1 i1 i1 hby (QuadsA.nil W) hf exr_yes (HK.out _ _ HG.out h)
  have r2 := fun W fa (h : Below w.heap.size w W) (hf : QRowA W fa 1 [(7, 0)]) => HA.out.right 1 1 1 1 0 none 0 0 [] 1 none 0 0 [] fa 1 1 [(7, 0)] false W i1 i1 i1 i1 ⟨rfl, by unfold maxLen; omega, fun k hk => by omega⟩ (QuadsA.nil W) hf exr_no (HK.out _ _ HG.out h)
  clear kg kb ko hUF i1 i2 HA
  go_upto_region 6 with (go_at_call 11; (with_reducible refine (j1 _ _ (bthen HB.out (hal _ _)) (HBY.out.keep (hal _ _)) (cq_one _ _ _ _)).mono ?_); rintro e w5 ⟨rfl, hb⟩; have hb2 := bthen (hal _ _) hb; replace c0 := bkeep hb2 c0; replace c1 := bkeep hb2 c1; replace c2 := bkeep hb2 c2; replace c3 := bkeep hb2 c3; replace d0 := bkeep hb2 d0; replace d1 := bkeep hb2 d1; replace d2 := bkeep hb2 d2; replace d3 := bkeep hb2 d3; replace HB := Lib.hid (bthen HB.out hb2); replace HBY := Lib.hid (HBY.out.keep hb2); clear hb hb2)
  clear j1
  go_upto_region 7 with (go_at_call 11; (with_reducible refine (j2 _ _ (bthen HB.out (hal _ _)) (HBY.out.keep (hal _ _)) (cq_one _ _ _ _)).mono ?_); rintro e w5 ⟨rfl, hb⟩; have hb2 := bthen (hal _ _) hb; replace c0 := bkeep hb2 c0; replace c1 := bkeep hb2 c1; replace c2 := bkeep hb2 c2; replace c3 := bkeep hb2 c3; replace d0 := bkeep hb2 d0; replace d1 := bkeep hb2 d1; replace d2 := bkeep hb2 d2; replace d3 := bkeep hb2 d3; replace HB := Lib.hid (bthen HB.out hb2); replace HBY := Lib.hid (HBY.out.keep hb2); clear hb hb2)
  clear j2
  go_upto_region 8 with (go_at_call 11; (with_reducible refine (j3 _ _ (bthen HB.out (hal _ _)) (HBY.out.keep (hal _ _)) (cq_one _ _ _ _)).mono ?_); rintro e w5 ⟨rfl, hb⟩; have hb2 := bthen (hal _ _) hb; replace c0 := bkeep hb2 c0; replace c1 := bkeep hb2 c1; replace c2 := bkeep hb2 c2; replace c3 := bkeep hb2 c3; replace d0 := bkeep hb2 d0; replace d1 := bkeep hb2 d1; replace d2 := bkeep hb2 d2; replace d3 := bkeep hb2 d3; replace HB := Lib.hid (bthen HB.out hb2); replace HBY := Lib.hid (HBY.out.keep hb2); clear hb hb2)
  clear j3
  clear d0 d1 d2 d3
  go_wp2_with (first
    | (go_at_call 9; (with_reducible refine (r1 _ _ (bthen HB.out (hal _ _)) (HBY.out.keep (hal _ _)) (cq_one _ _ _ _)).mono ?_); rintro e w6 ⟨rfl, hb⟩; have hb2 := bthen (hal _ _) hb; replace c0 := bkeep hb2 c0; replace c1 := bkeep hb2 c1; replace c2 := bkeep hb2 c2; replace c3 := bkeep hb2 c3; replace HB := Lib.hid (bthen HB.out hb2); replace HBY := Lib.hid (HBY.out.keep hb2); clear hb hb2)
    | (go_at_call 9; (with_reducible refine (r2 _ _ (bthen HB.out (hal _ _)) (cq_one _ _ _ _)).mono ?_); rintro e w6 ⟨rfl, hb⟩; have hb2 := bthen (hal _ _) hb; replace c0 := bkeep hb2 c0; replace c1 := bkeep hb2 c1; replace c2 := bkeep hb2 c2; replace c3 := bkeep hb2 c3; replace HB := Lib.hid (bthen HB.out hb2); replace HBY := Lib.hid (HBY.out.keep hb2); clear hb hb2))
  go_ret
  exact ⟨rfl, HB.out⟩
end Go.Proofs.Yteghnaocncmiaaa
