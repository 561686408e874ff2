/-
  Layer 23's examples come out as the document says, where the program's calls do what is asked of them. (Written by gen_caw.py.)
-/
import Derived.Test.YthfkfgjhgicfeaaGreatDoorCountW
import Derived.Test.YthfkfgjhgicfeaaGreatDoorCountX
import Derived.Test.YthfkfgjhgicfeaaGreatDoorForthOwn
import Derived.Test.YthfkfgjhgicfeaaGreatDoorCNEx
import Derived.Test.YthfkfgjhgicfeaaGreatDoorQuadEq
import Derived.BigQuiet
namespace Go.Proofs.YthfkfgjhgicfeaaGreatDoor
open Go Go.RowKit Go.Sort Go.BigFrame
set_option linter.unusedVariables false

theorem tabq_one {W : World} {a : Option Addr} {c : Nat} {t : TypeId} (h : QRowA W a 8 wordX) : TabQ (W.alloc (.cells #[.slice a 8 c] t)) (some ⟨W.heap.size, 0, none⟩) 1 [wordX] :=
  ⟨rfl, by unfold maxLen; omega, fun k hk => ⟨W.heap.size, 0, rfl, a, c, by
    obtain rfl : k = 0 := by omega
    simp [go_sem, wordX_len], by
    obtain rfl : k = 0 := by omega
    show QRowA _ a wordX.length wordX
    rw [wordX_len]
    exact h.keep ((Below.refl _ _).alloc (Nat.le_refl _) _)⟩⟩
theorem rowX_of {W : World} {g : Nat} (h : Arr W g (8 * 2) (pc fun i => if i = 0 then (0, 5) else wordP.getD i (0, 0))) : QRowA W (some ⟨g, 0, none⟩) 8 wordX := by
  have h2 : Arr W g (8 * 2) (pc fun i => wordX.getD i (0, 0)) := h.same (pc_same fun i hi => by
    by_cases c : i = 0
    · rw [if_pos c, c]
      unfold wordX
      simp [List.getD, wordP_len]
    · rw [if_neg c]
      unfold wordX
      simp only [List.getD, List.getElem?_set_ne (Ne.symm c)])
  exact QRow.at (Arr.qrow h2 wordX_len (by unfold maxLen; omega))
def Caw8 (g gp gb gf lc lbc : Nat) (la lb : Option Addr) (y0 y1 z0 z1 : Int) (sl : Nat) (v : Value) (W : World) : Prop :=
  match sl with
  | 40 => v = .agg #[.int .i64 2, .int .i64 1, .int .i64 1, .int .i64 0]
  | 41 => v = .slice (some ⟨gb, 0, none⟩) 1 1
  | 42 => v = .slice (some ⟨g, 0, none⟩) 8 8
  | 43 => ∃ q : Nat, v = .slice (some ⟨q, 0, none⟩) 1 1 ∧ TabQ W (some ⟨q, 0, none⟩) 1 [wordX]
  | 44 => v = .agg #[.int .u64 7, .int .u64 0]
  | 45 => ∃ q : Nat, v = .slice (some ⟨q, 0, none⟩) 1 1 ∧ QRowA W (some ⟨q, 0, none⟩) 1 [(7, 0)]
  | 46 => v = .int .i64 3
  | 49 => v = .agg #[.int .u64 y0, .int .u64 y1, .int .u64 z0, .int .u64 z1]
  | 50 => v = .slice (some ⟨g, 0, none⟩) 8 8
  | 51 => v = .pointer (some ⟨g, 2, none⟩)
  | 52 => v = .agg #[.int .u64 y0, .int .u64 y1]
  | 53 => v = .slice (some ⟨g, 0, none⟩) 8 8
  | 54 => v = .pointer (some ⟨g, 10, none⟩)
  | 55 => v = .agg #[.int .u64 z0, .int .u64 z1]
  | 56 => v = .agg #[.int .u64 y0, .int .u64 y1, .int .u64 z0, .int .u64 z1]
  | 60 => v = .slice la 0 lc
  | 61 => v = .int .i64 0
  | 65 => v = .slice (some ⟨g, 0, none⟩) 8 8
  | 66 => v = .int .i64 7
  | 70 => v = .slice (some ⟨g, 0, none⟩) 8 8
  | 71 => v = .int .i64 3
  | 75 => v = .slice (some ⟨g, 0, none⟩) 8 8
  | 76 => v = .agg #[.int .u64 1, .int .u64 0]
  | 77 => v = .agg #[.int .u64 2, .int .u64 0]
  | 78 => ∃ q : Nat, v = .slice (some ⟨q, 0, none⟩) 2 2 ∧ QRowA W (some ⟨q, 0, none⟩) 2 [(1, 0), (2, 0)]
  | 79 => v = .int .i64 7
  | 86 => v = .bool false
  | 90 => v = .slice lb 1 lbc
  | 91 => v = .int .i64 1
  | 95 => v = .slice (some ⟨g, 0, none⟩) 8 8
  | 96 => v = .slice (some ⟨gb, 0, none⟩) 1 1
  | 97 => ∃ (qa : Option Addr) (qc : Nat), v = .slice qa 1 qc
  | 98 => v = .int .i64 1
  | _ => v = .bool true
theorem Caw8.keep {g gp gb gf lc lbc : Nat} {la lb : Option Addr} {y0 y1 z0 z1 : Int} {sl : Nat} {v : Value} {W W' : World} (h : Caw8 g gp gb gf lc lbc la lb y0 y1 z0 z1 sl v W) (hb : Below W.heap.size W W') : Caw8 g gp gb gf lc lbc la lb y0 y1 z0 z1 sl v W' := by
  unfold Caw8 at *
  split at h
  all_goals first | exact h | (obtain ⟨q, e, hq⟩ := h; exact ⟨q, e, hq.keep hb⟩)
set_option maxRecDepth 100000 in
set_option maxHeartbeats 8000000 in
theorem cntawake (G : World → Prop) (hA : AskCount G) (w : World) (hG : G w) : Calls Tryz.prog 6 #[] w fun e w' => e = .returned (.bool true) ∧ Below w.heap.size w w' := by
  have HA := Lib.hid hA; have HG := Lib.hid hG
  have hal := fun (W : World) (o : Obj) => (Below.refl W.heap.size W).alloc (Nat.le_refl _) o
  have f1 := fun W a (hq : QRowA W a 2 [(1, 0), (2, 0)]) => refforthq_own a 2 2 [(1, 0), (2, 0)] 7 (by unfold U; decide) (shiftF 0) (by decide +kernel) 3 (by decide) W hq (by unfold U; decide) (by decide)
  unfold NewArrOk at f1
  simp only [show 2 ^ 3 = 8 from rfl] at f1
  simp only [show ((3 : Nat) : Int) = 3 from rfl] at f1
  have HB : Hid (Below w.heap.size w w) := Lib.hid (Below.refl _ _)
  clear hA hG
  go_enter Tryz.func6, Tryz.ntmps6
  go_upto_region 2 with (go_at_call 21; (with_reducible refine (f1 _ _ (cq_two _ _ _ _ _ _)).mono ?_); rintro e w1 ⟨g, rfl, hg, hb, hArr⟩; have HARR := Lib.hid hArr; have HGW := Lib.hid (Nat.le_trans (by simp) hg : w.heap.size ≤ g); replace HB := Lib.hid (bthen HB.out (bthen (hal _ _) hb)); clear hb hg hArr)
  clear f1
  obtain ⟨a0, a1, af0, af1⟩ := HARR.out.cells 0 (by decide)
  simp only [Nat.zero_mul, Nat.zero_add] at a0 a1 af0 af1
  go_upto_region 3 with fail
  refine wp_gen (fun W => Below w.heap.size w W ∧ QRowA W (some ⟨g, 0, none⟩) 8 wordX) ⟨(HB.out.setCell HGW.out _).setCell HGW.out _, rowX_of (HARR.out.setq 0 0 5 (by decide))⟩ ?_
  rintro w2 ⟨hB2, hW2⟩
  replace HB := Lib.hid hB2
  have HW := Lib.hid hW2
  clear hB2 hW2 a0 a1 af0 af1 HARR HGW
  go_upto_region 5 with fail
  obtain ⟨gp, hgp⟩ : ∃ q, w2.heap.size = q := ⟨_, rfl⟩
  obtain ⟨gb, hgb⟩ : ∃ q, gp + 1 = q := ⟨_, rfl⟩
  refine wp_gen (fun W => Below w2.heap.size w2 W ∧ RjBox W gp 2 1 1 0 ∧ QRowA W (some ⟨gb, 0, none⟩) 1 [(3, 0)]) ⟨((Below.refl _ _).alloc (Nat.le_refl _) _).alloc (by simp) _, by subst hgp; simp [RjBox, go_sem], by
    subst hgb hgp
    refine ⟨rfl, by unfold maxLen; omega, fun k hk => ⟨w2.heap.size + 1, 0, rfl, ?_⟩⟩
    obtain rfl : k = 0 := by omega
    simp [go_sem]⟩ ?_
  rintro w3 ⟨hB3, hP3, hBY3⟩
  simp only [hgp, hgb]
  replace HB := Lib.hid (bthen HB.out hB3); replace HW := Lib.hid (HW.out.keep hB3); have HP := Lib.hid hP3; have HBY := Lib.hid hBY3
  clear hB3 hP3 hBY3 hgp hgb
  have hUT : UsT [wordX] := fun r hr => by rw [List.mem_singleton.1 hr]; exact wordX_U
  have hTl : ∀ r ∈ [wordX], r.length ≤ 4294967296 := fun r hr => by rw [List.mem_singleton.1 hr, wordX_len]; decide
  have i1 : I64 1 := by unfold I64; decide
  have s1 := fun W q (h : Below w.heap.size w W) (ht : TabQ W (some ⟨q, 0, none⟩) 1 [wordX]) => HA.out.seen (some ⟨q, 0, none⟩) 1 1 [wordX] 1 W ht hUT (by decide) hTl i1 (HA.out.keep HG.out h)
  unfold SeenPost at s1
  have hop : opnV [wordX] 1 = [twoAt wordX 1 4] := by
    unfold opnV
    rw [if_neg (by decide), opnL, wordX_len, if_neg (by decide)]
    rfl
  rw [hop] at s1
  simp only [show ([twoAt wordX 1 4] : List Quad).getD 0 zeroQ = twoAt wordX 1 4 from rfl, show ([twoAt wordX 1 4] : List Quad).drop 1 = [] from rfl, List.length_nil] at s1
  have b3 := fun W (h : Below w.heap.size w W) (hw : QRowA W (some ⟨g, 0, none⟩) 8 wordX) => HA.out.bad (some ⟨g, 0, none⟩) 8 8 wordX 0 1 3 W hw wordX_U (by decide) (by decide) (by decide) i1 (by decide) (by unfold I64; decide) (HA.out.keep HG.out h)
  have b4 := fun W (h : Below w.heap.size w W) (hw : QRowA W (some ⟨g, 0, none⟩) 8 wordX) => HA.out.bad (some ⟨g, 0, none⟩) 8 8 wordX 0 1 4 W hw wordX_U (by decide) (by decide) (by decide) i1 (by decide) (by unfold I64; decide) (HA.out.keep HG.out h)
  unfold BadPost at b3 b4
  rw [x_bad3] at b3
  simp only [x_bad4.1, x_bad4.2] at b4
  simp only [List.length_nil] at b3
  obtain ⟨⟨⟨y0, y1⟩, ⟨z0, z1⟩⟩, hTW⟩ : ∃ q, twoAt wordX 1 4 = q := ⟨_, rfl⟩
  rw [hTW] at s1
  have HTW := Lib.hid hTW
  clear hTW
  go_upto_region 6 with (go_at_call 7; (with_reducible refine (s1 _ _ (bthen HB.out (hal _ _)) (tabq_one HW.out)).mono ?_); rintro e w4 ⟨hb, la, lc, rfl, _⟩; replace HW := Lib.hid (HW.out.keep (bthen (hal _ _) hb)); replace HP := Lib.hid (HP.out.keep (bthen (hal _ _) hb)); replace HBY := Lib.hid (HBY.out.keep (bthen (hal _ _) hb)); replace HB := Lib.hid (bthen HB.out (bthen (hal _ _) hb)); clear hb)
  clear s1 hop
  obtain ⟨gf, hgf⟩ : ∃ q, w4.heap.size = q := ⟨_, rfl⟩
  refine wp_gen (fun W => Below w4.heap.size w4 W ∧ QuadC W gf ((y0, y1), (z0, z1))) ⟨(Below.refl _ _).alloc (Nat.le_refl _) _, by subst hgf; simp [QuadC, go_sem]⟩ ?_
  rintro w5 ⟨hb5, hq5⟩
  simp only [hgf]
  replace HB := Lib.hid (bthen HB.out hb5); replace HW := Lib.hid (HW.out.keep hb5); replace HP := Lib.hid (HP.out.keep hb5); replace HBY := Lib.hid (HBY.out.keep hb5)
  have HF := Lib.hid hq5
  clear hb5 hq5 hgf
  go_upto_region 8 with (go_at_call 19; (first
    | ((with_reducible refine (b3 _ HB.out HW.out).mono ?_); rintro e w6 ⟨hb, ba, bc, rfl, _⟩; replace HW := Lib.hid (HW.out.keep hb); replace HP := Lib.hid (HP.out.keep hb); replace HBY := Lib.hid (HBY.out.keep hb); replace HF := Lib.hid (HF.out.keep hb); replace HB := Lib.hid (bthen HB.out hb); clear hb)
    | ((with_reducible refine (b4 _ HB.out HW.out).mono ?_); rintro e w7 ⟨hb, lb, lbc, rfl, _⟩; replace HW := Lib.hid (HW.out.keep hb); replace HP := Lib.hid (HP.out.keep hb); replace HBY := Lib.hid (HBY.out.keep hb); replace HF := Lib.hid (HF.out.keep hb); replace HB := Lib.hid (bthen HB.out hb); clear hb)))
  clear b3 b4
  obtain ⟨p0c, p1c, p2c, p3c⟩ := HP.out
  obtain ⟨d0c, d1c, d2c, d3c⟩ := HF.out
  have h1 : wordX.getD 1 (0, 0) = (y0, y1) := congrArg Prod.fst HTW.out
  have h5 : wordX.getD 5 (0, 0) = (z0, z1) := congrArg Prod.snd HTW.out
  obtain ⟨b1, o1, e1, u0, u1⟩ := HW.out.2.2 1 (by decide)
  cases e1
  obtain ⟨b2, o2, e2, v0, v1⟩ := HW.out.2.2 5 (by decide)
  cases e2
  rw [h1] at u0 u1
  rw [h5] at v0 v1
  have y0c : w7.cell? ⟨g, 2, none⟩ = some (.int .u64 y0) := u0
  have y1c : w7.cell? ⟨g, 3, none⟩ = some (.int .u64 y1) := u1
  have z0c : w7.cell? ⟨g, 10, none⟩ = some (.int .u64 z0) := v0
  have z1c : w7.cell? ⟨g, 11, none⟩ = some (.int .u64 z1) := v1
  have k1 := fun W q1 q2 (hb : Below w7.heap.size w7 W) (ht : TabQ W (some ⟨q1, 0, none⟩) 1 [wordX]) (hf : QRowA W (some ⟨q2, 0, none⟩) 1 [(7, 0)]) => HA.out.accepts 1 2 1 1 0 (some ⟨gb, 0, none⟩) 1 1 [(3, 0)] (some ⟨q1, 0, none⟩) 1 1 [wordX] (some ⟨q2, 0, none⟩) 1 1 [(7, 0)] W (by decide) (by decide) i1 (HBY.out.keep hb) (by unfold UsR U; decide) ht hUT (by decide) hTl hf (by unfold UsR U; decide) (HA.out.keep HG.out (bthen HB.out hb))
  have k2 := fun W (hb : Below w7.heap.size w7 W) => HA.out.best (some ⟨g, 0, none⟩) 8 8 wordX 0 2 false W (HW.out.keep hb) wordX_U (by decide) (by decide) (by decide) (HA.out.keep HG.out (bthen HB.out hb))
  have k3 := fun W (hb : Below w7.heap.size w7 W) => HA.out.best (some ⟨g, 0, none⟩) 8 8 wordX 0 2 true W (HW.out.keep hb) wordX_U (by decide) (by decide) (by decide) (HA.out.keep HG.out (bthen HB.out hb))
  have k4 := fun W q (hb : Below w7.heap.size w7 W) (hl : QRowA W (some ⟨q, 0, none⟩) 2 [(1, 0), (2, 0)]) => HA.out.agree (some ⟨g, 0, none⟩) 8 8 wordX 0 (some ⟨q, 0, none⟩) 2 2 [(1, 0), (2, 0)] false W (HW.out.keep hb) wordX_U (by decide) (by decide) hl (by unfold UsR U; decide) (by decide) (HA.out.keep HG.out (bthen HB.out hb))
  have k5 := fun W (hb : Below w7.heap.size w7 W) => HA.out.words (some ⟨g, 0, none⟩) 8 8 wordX (some ⟨gb, 0, none⟩) 1 1 [(3, 0)] W (HW.out.keep hb) wordX_U (by decide) (by decide) (HBY.out.keep hb) (by unfold UsR U; decide) (by decide) (HA.out.keep HG.out (bthen HB.out hb))
  rw [x_accepts] at k1
  rw [x_best] at k2
  rw [x_best2] at k3
  rw [show ([(1, 0), (2, 0)] : QL).map toQ = [1, ⟨2, 0⟩] by decide +kernel, x_agree] at k4
  unfold TabPost at k5
  rw [x_words] at k5
  unfold IntPost at k1 k2 k3 k4
  simp only [show ((3 : Nat) : Int) = 3 from rfl, show ((7 : Nat) : Int) = 7 from rfl] at k1 k2 k3 k4
  clear h1 h5 u0 u1 v0 v1 hal HP HF
  refine wp_loose [(40, []), (41, []), (42, []), (43, [42]), (44, []), (45, [44]), (46, [40, 41, 43, 45]), (47, [46]), (48, [47]), (49, [48]), (50, [48]), (51, [48, 50]), (52, [48, 51]), (53, [48]), (54, [48, 53]), (55, [48, 54]), (56, [48, 52, 55]), (57, [48, 49, 56]), (58, [48, 57]), (59, [58]), (60, [59]), (61, [59, 60]), (62, [59, 61]), (63, [59, 62]), (64, [63]), (65, [64]), (66, [64, 65]), (67, [64, 66]), (68, [64, 67]), (69, [68]), (70, [69]), (71, [69, 70]), (72, [69, 71]), (73, [69, 72]), (74, [73]), (75, [74]), (76, [74]), (77, [74]), (78, [74, 76, 77]), (79, [74, 75, 78]), (80, [74, 79]), (81, [74, 80]), (82, [81]), (83, [82]), (84, [82, 83]), (85, [84]), (86, [85]), (87, [85, 86]), (88, [85, 87]), (89, [88]), (90, [89]), (91, [89, 90]), (92, [89, 91]), (93, [89, 92]), (94, [93]), (95, [94]), (96, [94]), (97, [94, 95, 96]), (98, [94, 97]), (99, [94, 98]), (100, [94, 99]), (0, [100])]
    (Caw8 g gp gb gf lc lbc la lb y0 y1 z0 z1) (fun d => false) (by kernel_rfl) (by kernel_rfl) (fun _ _ _ _ h hb => h.keep hb) ?_ ?_
  · refine opsrun_cons ?_ (opsrun_cons ?_ (opsrun_cons ?_ (opsrun_cons ?_ (opsrun_cons ?_ (opsrun_cons ?_ (opsrun_cons ?_ (opsrun_cons ?_ (opsrun_cons ?_ (opsrun_cons ?_ (opsrun_cons ?_ (opsrun_cons ?_ (opsrun_cons ?_ (opsrun_cons ?_ (opsrun_cons ?_ (opsrun_cons ?_ (opsrun_cons ?_ (opsrun_cons ?_ (opsrun_cons ?_ (opsrun_cons ?_ (opsrun_cons ?_ (opsrun_cons ?_ (opsrun_cons ?_ (opsrun_cons ?_ (opsrun_cons ?_ (opsrun_cons ?_ (opsrun_cons ?_ (opsrun_cons ?_ (opsrun_cons ?_ (opsrun_cons ?_ (opsrun_cons ?_ (opsrun_cons ?_ (opsrun_cons ?_ (opsrun_cons ?_ (opsrun_cons ?_ (opsrun_cons ?_ (opsrun_cons ?_ (opsrun_cons ?_ (opsrun_cons ?_ (opsrun_cons ?_ (opsrun_cons ?_ (opsrun_cons ?_ (opsrun_cons ?_ (opsrun_cons ?_ (opsrun_cons ?_ (opsrun_cons ?_ (opsrun_cons ?_ (opsrun_cons ?_ (opsrun_cons ?_ (opsrun_cons ?_ (opsrun_cons ?_ (opsrun_cons ?_ (opsrun_cons ?_ (opsrun_cons ?_ (opsrun_cons ?_ (opsrun_cons ?_ (opsrun_cons ?_ (opsrun_cons ?_ (opsrun_cons ?_ (opsrun_cons ?_ (opsrun_cons ?_ (opsrun_cons ?_ opsrun_nil)))))))))))))))))))))))))))))))))))))))))))))))))))))))))))))
    all_goals
      refine OpRuns.any ?_
      intro Q0 σ W' K hb hn hK
      simp only [fill, List.map, Act.put, List.setIfInBounds_toArray, List.set_cons_zero, List.set_cons_succ] at hK ⊢
    · clear hn
      have p0c' := bkeep hb p0c
      have p1c' := bkeep hb p1c
      have p2c' := bkeep hb p2c
      have p3c' := bkeep hb p3c
      clear p0c p1c p2c p3c
      go_simp
      exact hK _ _ rfl (Below.refl _ _) (fun h => absurd h (by decide))
    · clear hn
      go_simp
      exact hK _ _ rfl (Below.refl _ _) (fun h => absurd h (by decide))
    · clear hn
      go_simp
      exact hK _ _ rfl (Below.refl _ _) (fun h => absurd h (by decide))
    · have h42 : σ 42 = _ := hn 42 (by decide)
      clear hn
      simp only [h42] at hK
      go_simp
      refine hK _ _ ⟨W'.heap.size, rfl, tabq_one (HW.out.keep hb)⟩ ((Below.refl _ _).alloc (Nat.le_refl _) _) (fun h => absurd h (by decide))
    · clear hn
      go_simp
      exact hK _ _ rfl (Below.refl _ _) (fun h => absurd h (by decide))
    · have h44 : σ 44 = _ := hn 44 (by decide)
      clear hn
      simp only [h44] at hK
      go_simp
      refine hK _ _ ⟨W'.heap.size, rfl, cq_one _ _ _ _⟩ ((Below.refl _ _).alloc (Nat.le_refl _) _) (fun h => absurd h (by decide))
    · have h40 : σ 40 = _ := hn 40 (by decide)
      have h41 : σ 41 = _ := hn 41 (by decide)
      have p43 : ∃ q : Nat, (σ 43) = .slice (some ⟨q, 0, none⟩) 1 1 ∧ TabQ W' (some ⟨q, 0, none⟩) 1 [wordX] := hn 43 (by decide)
      have p45 : ∃ q : Nat, (σ 45) = .slice (some ⟨q, 0, none⟩) 1 1 ∧ QRowA W' (some ⟨q, 0, none⟩) 1 [(7, 0)] := hn 45 (by decide)
      clear hn
      simp only [h40, h41] at hK
      obtain ⟨q1, e1, hq1⟩ := p43
      obtain ⟨q2, e2, hq2⟩ := p45
      simp only [e1, e2] at hK
      go_simp
      go_at_call 12
      refine (k1 _ _ _ hb hq1 hq2).mono ?_
      rintro e w1 ⟨rfl, hb1⟩
      exact hK _ _ rfl hb1 (fun h => absurd h (by decide))
    · have h46 : σ 46 = _ := hn 46 (by decide)
      clear hn
      simp only [h46] at hK
      go_simp
      exact hK _ _ rfl (Below.refl _ _) (fun h => absurd h (by decide))
    · have h47 : σ 47 = _ := hn 47 (by decide)
      clear hn
      simp only [h47] at hK
      go_simp
      exact hK _ _ rfl (Below.refl _ _) (fun h => absurd h (by decide))
    · have h48 : σ 48 = _ := hn 48 (by decide)
      clear hn
      simp only [h48] at hK
      have d0c' := bkeep hb d0c
      have d1c' := bkeep hb d1c
      have d2c' := bkeep hb d2c
      have d3c' := bkeep hb d3c
      clear d0c d1c d2c d3c
      go_simp
      exact hK _ _ rfl (Below.refl _ _) (fun h => absurd h (by decide))
    · have h48 : σ 48 = _ := hn 48 (by decide)
      clear hn
      simp only [h48] at hK
      go_simp
      exact hK _ _ rfl (Below.refl _ _) (fun h => absurd h (by decide))
    · have h48 : σ 48 = _ := hn 48 (by decide)
      have h50 : σ 50 = _ := hn 50 (by decide)
      clear hn
      simp only [h48, h50] at hK
      go_simp
      exact hK _ _ rfl (Below.refl _ _) (fun h => absurd h (by decide))
    · have h48 : σ 48 = _ := hn 48 (by decide)
      have h51 : σ 51 = _ := hn 51 (by decide)
      clear hn
      simp only [h48, h51] at hK
      have y0c' := bkeep hb y0c
      have y1c' := bkeep hb y1c
      clear y0c y1c
      go_simp
      exact hK _ _ rfl (Below.refl _ _) (fun h => absurd h (by decide))
    · have h48 : σ 48 = _ := hn 48 (by decide)
      clear hn
      simp only [h48] at hK
      go_simp
      exact hK _ _ rfl (Below.refl _ _) (fun h => absurd h (by decide))
    · have h48 : σ 48 = _ := hn 48 (by decide)
      have h53 : σ 53 = _ := hn 53 (by decide)
      clear hn
      simp only [h48, h53] at hK
      go_simp
      exact hK _ _ rfl (Below.refl _ _) (fun h => absurd h (by decide))
    · have h48 : σ 48 = _ := hn 48 (by decide)
      have h54 : σ 54 = _ := hn 54 (by decide)
      clear hn
      simp only [h48, h54] at hK
      have z0c' := bkeep hb z0c
      have z1c' := bkeep hb z1c
      clear z0c z1c
      go_simp
      exact hK _ _ rfl (Below.refl _ _) (fun h => absurd h (by decide))
    · have h48 : σ 48 = _ := hn 48 (by decide)
      have h52 : σ 52 = _ := hn 52 (by decide)
      have h55 : σ 55 = _ := hn 55 (by decide)
      clear hn
      simp only [h48, h52, h55] at hK
      go_simp
      exact hK _ _ rfl (Below.refl _ _) (fun h => absurd h (by decide))
    · have h48 : σ 48 = _ := hn 48 (by decide)
      have h49 : σ 49 = _ := hn 49 (by decide)
      have h56 : σ 56 = _ := hn 56 (by decide)
      clear hn
      simp only [h48, h49, h56] at hK
      go_simp
      simp only [quad_eq, Result.andThen_ok, and_self, decide_true]
      first | (exact hK _ _ rfl (Below.refl _ _) (fun h => absurd h (by decide))) | (go_simp; exact hK _ _ rfl (Below.refl _ _) (fun h => absurd h (by decide)))
    · have h48 : σ 48 = _ := hn 48 (by decide)
      have h57 : σ 57 = _ := hn 57 (by decide)
      clear hn
      simp only [h48, h57] at hK
      go_simp
      exact hK _ _ rfl (Below.refl _ _) (fun h => absurd h (by decide))
    · have h58 : σ 58 = _ := hn 58 (by decide)
      clear hn
      simp only [h58] at hK
      go_simp
      exact hK _ _ rfl (Below.refl _ _) (fun h => absurd h (by decide))
    · have h59 : σ 59 = _ := hn 59 (by decide)
      clear hn
      simp only [h59] at hK
      go_simp
      exact hK _ _ rfl (Below.refl _ _) (fun h => absurd h (by decide))
    · have h59 : σ 59 = _ := hn 59 (by decide)
      have h60 : σ 60 = _ := hn 60 (by decide)
      clear hn
      simp only [h59, h60] at hK
      go_simp
      exact hK _ _ rfl (Below.refl _ _) (fun h => absurd h (by decide))
    · have h59 : σ 59 = _ := hn 59 (by decide)
      have h61 : σ 61 = _ := hn 61 (by decide)
      clear hn
      simp only [h59, h61] at hK
      go_simp
      exact hK _ _ rfl (Below.refl _ _) (fun h => absurd h (by decide))
    · have h59 : σ 59 = _ := hn 59 (by decide)
      have h62 : σ 62 = _ := hn 62 (by decide)
      clear hn
      simp only [h59, h62] at hK
      go_simp
      exact hK _ _ rfl (Below.refl _ _) (fun h => absurd h (by decide))
    · have h63 : σ 63 = _ := hn 63 (by decide)
      clear hn
      simp only [h63] at hK
      go_simp
      exact hK _ _ rfl (Below.refl _ _) (fun h => absurd h (by decide))
    · have h64 : σ 64 = _ := hn 64 (by decide)
      clear hn
      simp only [h64] at hK
      go_simp
      exact hK _ _ rfl (Below.refl _ _) (fun h => absurd h (by decide))
    · have h64 : σ 64 = _ := hn 64 (by decide)
      have h65 : σ 65 = _ := hn 65 (by decide)
      clear hn
      simp only [h64, h65] at hK
      go_simp
      go_at_call 17
      refine (k2 _ hb).mono ?_
      rintro e w1 ⟨rfl, hb1⟩
      exact hK _ _ rfl hb1 (fun h => absurd h (by decide))
    · have h64 : σ 64 = _ := hn 64 (by decide)
      have h66 : σ 66 = _ := hn 66 (by decide)
      clear hn
      simp only [h64, h66] at hK
      go_simp
      exact hK _ _ rfl (Below.refl _ _) (fun h => absurd h (by decide))
    · have h64 : σ 64 = _ := hn 64 (by decide)
      have h67 : σ 67 = _ := hn 67 (by decide)
      clear hn
      simp only [h64, h67] at hK
      go_simp
      exact hK _ _ rfl (Below.refl _ _) (fun h => absurd h (by decide))
    · have h68 : σ 68 = _ := hn 68 (by decide)
      clear hn
      simp only [h68] at hK
      go_simp
      exact hK _ _ rfl (Below.refl _ _) (fun h => absurd h (by decide))
    · have h69 : σ 69 = _ := hn 69 (by decide)
      clear hn
      simp only [h69] at hK
      go_simp
      exact hK _ _ rfl (Below.refl _ _) (fun h => absurd h (by decide))
    · have h69 : σ 69 = _ := hn 69 (by decide)
      have h70 : σ 70 = _ := hn 70 (by decide)
      clear hn
      simp only [h69, h70] at hK
      go_simp
      go_at_call 17
      refine (k3 _ hb).mono ?_
      rintro e w1 ⟨rfl, hb1⟩
      exact hK _ _ rfl hb1 (fun h => absurd h (by decide))
    · have h69 : σ 69 = _ := hn 69 (by decide)
      have h71 : σ 71 = _ := hn 71 (by decide)
      clear hn
      simp only [h69, h71] at hK
      go_simp
      exact hK _ _ rfl (Below.refl _ _) (fun h => absurd h (by decide))
    · have h69 : σ 69 = _ := hn 69 (by decide)
      have h72 : σ 72 = _ := hn 72 (by decide)
      clear hn
      simp only [h69, h72] at hK
      go_simp
      exact hK _ _ rfl (Below.refl _ _) (fun h => absurd h (by decide))
    · have h73 : σ 73 = _ := hn 73 (by decide)
      clear hn
      simp only [h73] at hK
      go_simp
      exact hK _ _ rfl (Below.refl _ _) (fun h => absurd h (by decide))
    · have h74 : σ 74 = _ := hn 74 (by decide)
      clear hn
      simp only [h74] at hK
      go_simp
      exact hK _ _ rfl (Below.refl _ _) (fun h => absurd h (by decide))
    · have h74 : σ 74 = _ := hn 74 (by decide)
      clear hn
      simp only [h74] at hK
      go_simp
      exact hK _ _ rfl (Below.refl _ _) (fun h => absurd h (by decide))
    · have h74 : σ 74 = _ := hn 74 (by decide)
      clear hn
      simp only [h74] at hK
      go_simp
      exact hK _ _ rfl (Below.refl _ _) (fun h => absurd h (by decide))
    · have h74 : σ 74 = _ := hn 74 (by decide)
      have h76 : σ 76 = _ := hn 76 (by decide)
      have h77 : σ 77 = _ := hn 77 (by decide)
      clear hn
      simp only [h74, h76, h77] at hK
      go_simp
      refine hK _ _ ⟨W'.heap.size, rfl, cq_two _ _ _ _ _ _⟩ ((Below.refl _ _).alloc (Nat.le_refl _) _) (fun h => absurd h (by decide))
    · have h74 : σ 74 = _ := hn 74 (by decide)
      have h75 : σ 75 = _ := hn 75 (by decide)
      have p78 : ∃ q : Nat, (σ 78) = .slice (some ⟨q, 0, none⟩) 2 2 ∧ QRowA W' (some ⟨q, 0, none⟩) 2 [(1, 0), (2, 0)] := hn 78 (by decide)
      clear hn
      simp only [h74, h75] at hK
      obtain ⟨q1, e1, hq1⟩ := p78
      simp only [e1] at hK
      go_simp
      go_at_call 15
      refine (k4 _ _ hb hq1).mono ?_
      rintro e w1 ⟨rfl, hb1⟩
      exact hK _ _ rfl hb1 (fun h => absurd h (by decide))
    · have h74 : σ 74 = _ := hn 74 (by decide)
      have h79 : σ 79 = _ := hn 79 (by decide)
      clear hn
      simp only [h74, h79] at hK
      go_simp
      exact hK _ _ rfl (Below.refl _ _) (fun h => absurd h (by decide))
    · have h74 : σ 74 = _ := hn 74 (by decide)
      have h80 : σ 80 = _ := hn 80 (by decide)
      clear hn
      simp only [h74, h80] at hK
      go_simp
      exact hK _ _ rfl (Below.refl _ _) (fun h => absurd h (by decide))
    · have h81 : σ 81 = _ := hn 81 (by decide)
      clear hn
      simp only [h81] at hK
      go_simp
      exact hK _ _ rfl (Below.refl _ _) (fun h => absurd h (by decide))
    · have h82 : σ 82 = _ := hn 82 (by decide)
      clear hn
      simp only [h82] at hK
      go_simp
      exact hK _ _ rfl (Below.refl _ _) (fun h => absurd h (by decide))
    · have h82 : σ 82 = _ := hn 82 (by decide)
      have h83 : σ 83 = _ := hn 83 (by decide)
      clear hn
      simp only [h82, h83] at hK
      go_simp
      exact hK _ _ rfl (Below.refl _ _) (fun h => absurd h (by decide))
    · have h84 : σ 84 = _ := hn 84 (by decide)
      clear hn
      simp only [h84] at hK
      go_simp
      exact hK _ _ rfl (Below.refl _ _) (fun h => absurd h (by decide))
    · have h85 : σ 85 = _ := hn 85 (by decide)
      clear hn
      simp only [h85] at hK
      go_simp
      exact hK _ _ rfl (Below.refl _ _) (fun h => absurd h (by decide))
    · have h85 : σ 85 = _ := hn 85 (by decide)
      have h86 : σ 86 = _ := hn 86 (by decide)
      clear hn
      simp only [h85, h86] at hK
      go_simp
      exact hK _ _ rfl (Below.refl _ _) (fun h => absurd h (by decide))
    · have h85 : σ 85 = _ := hn 85 (by decide)
      have h87 : σ 87 = _ := hn 87 (by decide)
      clear hn
      simp only [h85, h87] at hK
      go_simp
      exact hK _ _ rfl (Below.refl _ _) (fun h => absurd h (by decide))
    · have h88 : σ 88 = _ := hn 88 (by decide)
      clear hn
      simp only [h88] at hK
      go_simp
      exact hK _ _ rfl (Below.refl _ _) (fun h => absurd h (by decide))
    · have h89 : σ 89 = _ := hn 89 (by decide)
      clear hn
      simp only [h89] at hK
      go_simp
      exact hK _ _ rfl (Below.refl _ _) (fun h => absurd h (by decide))
    · have h89 : σ 89 = _ := hn 89 (by decide)
      have h90 : σ 90 = _ := hn 90 (by decide)
      clear hn
      simp only [h89, h90] at hK
      go_simp
      exact hK _ _ rfl (Below.refl _ _) (fun h => absurd h (by decide))
    · have h89 : σ 89 = _ := hn 89 (by decide)
      have h91 : σ 91 = _ := hn 91 (by decide)
      clear hn
      simp only [h89, h91] at hK
      go_simp
      exact hK _ _ rfl (Below.refl _ _) (fun h => absurd h (by decide))
    · have h89 : σ 89 = _ := hn 89 (by decide)
      have h92 : σ 92 = _ := hn 92 (by decide)
      clear hn
      simp only [h89, h92] at hK
      go_simp
      exact hK _ _ rfl (Below.refl _ _) (fun h => absurd h (by decide))
    · have h93 : σ 93 = _ := hn 93 (by decide)
      clear hn
      simp only [h93] at hK
      go_simp
      exact hK _ _ rfl (Below.refl _ _) (fun h => absurd h (by decide))
    · have h94 : σ 94 = _ := hn 94 (by decide)
      clear hn
      simp only [h94] at hK
      go_simp
      exact hK _ _ rfl (Below.refl _ _) (fun h => absurd h (by decide))
    · have h94 : σ 94 = _ := hn 94 (by decide)
      clear hn
      simp only [h94] at hK
      go_simp
      exact hK _ _ rfl (Below.refl _ _) (fun h => absurd h (by decide))
    · have h94 : σ 94 = _ := hn 94 (by decide)
      have h95 : σ 95 = _ := hn 95 (by decide)
      have h96 : σ 96 = _ := hn 96 (by decide)
      clear hn
      simp only [h94, h95, h96] at hK
      go_simp
      go_at_call 9
      refine (k5 _ hb).mono ?_
      rintro e w1 ⟨hb1, qa, qc, rfl, _, _⟩
      exact hK _ _ ⟨qa, qc, rfl⟩ hb1 (fun h => absurd h (by decide))
    · have h94 : σ 94 = _ := hn 94 (by decide)
      have p97 : ∃ (qa : Option Addr) (qc : Nat), (σ 97) = .slice qa 1 qc := hn 97 (by decide)
      clear hn
      simp only [h94] at hK
      obtain ⟨qa, qc, e1⟩ := p97
      simp only [e1] at hK
      go_simp
      exact hK _ _ rfl (Below.refl _ _) (fun h => absurd h (by decide))
    · have h94 : σ 94 = _ := hn 94 (by decide)
      have h98 : σ 98 = _ := hn 98 (by decide)
      clear hn
      simp only [h94, h98] at hK
      go_simp
      exact hK _ _ rfl (Below.refl _ _) (fun h => absurd h (by decide))
    · have h94 : σ 94 = _ := hn 94 (by decide)
      have h99 : σ 99 = _ := hn 99 (by decide)
      clear hn
      simp only [h94, h99] at hK
      go_simp
      exact hK _ _ rfl (Below.refl _ _) (fun h => absurd h (by decide))
    · have h100 : σ 100 = _ := hn 100 (by decide)
      clear hn
      simp only [h100] at hK
      go_simp
      exact hK _ _ rfl (Below.refl _ _) (fun h => absurd h (by decide))
  · intro σ W' hb hR' hF
    have h0 : σ 0 = .bool true := hR' 0 (by decide)
    have HBE := Lib.hid (bthen HB.out hb)
    clear hR' hF hb p0c p1c p2c p3c d0c d1c d2c d3c y0c y1c z0c z1c k1 k2 k3 k4 k5
    simp only [fill, List.map, Act.put, List.setIfInBounds_toArray, List.set_cons_zero, List.set_cons_succ, List.length_cons, List.length_nil, List.drop_succ_cons, List.drop_zero, Nat.reduceAdd, h0]
    clear h0
    go_wp2_with fail
    go_ret
    exact ⟨rfl, HBE.out⟩
end Go.Proofs.YthfkfgjhgicfeaaGreatDoor
