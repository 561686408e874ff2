/-
  The awake of layer 13's law. (Written by gen_dlaws.py.)
-/
import Derived.Test.YtgnnliablgbgkaaDoorDLits
import Derived.Test.YtgnnliablgbgkaaDoorDrawRef3
import Derived.Test.YtgnnliablgbgkaaDoorDrawRef4
import Derived.Test.YtgnnliablgbgkaaDoorVars
import Derived.Test.YtgnnliablgbgkaaDoorGNum
namespace Go.Proofs.YtgnnliablgbgkaaDoor
open Go Go.RowKit Go.Sort Go.BigFrame
set_option linter.unusedVariables false

def DAwR (g1 g2 g3 g9 g12 bq oq cp bi oi ci : Nat) (n m r0 : Int) (sl : Nat) (v : Value) (W : World) : Prop :=
  match sl with
  | 44 => v = .pointer (some ⟨g2, 1, none⟩)
  | 45 => v = .int .i64 1
  | 49 => v = .pointer (some ⟨g3, 0, none⟩)
  | 50 => v = .int .u64 n
  | 51 => v = .int .u64 n
  | 58 => v = .slice (some ⟨bq, oq, none⟩) 3 cp
  | 59 => v = .int .i64 3
  | 63 => v = .slice (some ⟨bq, oq, none⟩) 3 cp
  | 64 => v = .pointer (some ⟨bq, oq, none⟩)
  | 65 => v = .agg #[.int .u64 n, .int .u64 m]
  | 66 => v = .agg #[.int .u64 n, .int .u64 m]
  | 70 => v = .pointer (some ⟨g9, 1, none⟩)
  | 71 => v = .int .i64 3
  | 75 => v = .slice (some ⟨bi, oi, none⟩) 4 ci
  | 76 => v = .int .i64 4
  | 80 => v = .slice (some ⟨bi, oi, none⟩) 4 ci
  | 81 => v = .pointer (some ⟨bi, oi, none⟩)
  | 82 => v = .int .i64 r0
  | 83 => v = .int .u64 n
  | 84 => v = .int .u64 r0
  | 85 => v = .int .i64 r0
  | 89 => v = .pointer (some ⟨g12, 1, none⟩)
  | 90 => v = .int .i64 4
  | _ => v = .bool true
theorem DAwR.keep {g1 g2 g3 g9 g12 bq oq cp bi oi ci : Nat} {n m r0 : Int} {sl : Nat} {v : Value} {W W' : World} (h : DAwR g1 g2 g3 g9 g12 bq oq cp bi oi ci n m r0 sl v W) (hb : Below W.heap.size W W') : DAwR g1 g2 g3 g9 g12 bq oq cp bi oi ci n m r0 sl v W' := by
  unfold DAwR at *
  split at h
  all_goals first | exact h
set_option maxRecDepth 100000 in
set_option maxHeartbeats 8000000 in
theorem dawake (G : World → Prop) (hA : AskDraw G) (w : World) (hG0 : G w) : Calls Tryd.prog 7 #[] w fun e w' => e = .returned (.bool true) ∧ Below w.heap.size w w' := by
  have HK := Lib.hid (fun (W W' : World) => @AskDraw.keep G hA W W')
  have HG0 := Lib.hid hG0
  have hz : vZ.size ≤ 10000 := by decide
  have k1 := rnew_is ⟨#[97]⟩ w (by decide)
  rw [new_lit] at k1
  have k2 := fun W hg => hA.pair vZ 0 _ _ _ _ W hz (by decide) pair_a hg
  have k3 := fun W => rsqz_is vZ 0 W hz
  have hu1 : IntKind.i64.wrap (0 + 1) = 1 := up_0
  rw [hu1] at k3
  have hX := sqB_size vZ 0
  have k4 := fun W => rnum_yes (sqB vZ 0) (by omega) W
  have k5 := fun W hg => hA.pairs vZ 0 3 _ _ _ W hz (by decide) (by decide) pairs_a hg
  have k6 := fun W hg => hA.places vZ 0 4 _ 3 _ W hz (by decide) (by decide) (by decide) places_a hg
  have hu := numB_U (sqB vZ 0) 0
  have hrem : (numB (sqB vZ 0) 0).tmod 8 = numB (sqB vZ 0) 0 % 8 := Int.tmod_eq_emod_of_nonneg hu.1
  have hwr : IntKind.i64.wrap (numB (sqB vZ 0) 0 % 8) = numB (sqB vZ 0) 0 % 8 := IntWalk.i64_in _ (by omega)
  have hwr' : wrap64 (numB (sqB vZ 0) 0 % 8) = numB (sqB vZ 0) 0 % 8 := IntWalk.wrap64_in _ (by omega)
  unfold PairsPost at k5
  unfold PlacesPost at k6
  simp only [List.length_cons, List.length_nil, Nat.zero_add, Nat.reduceAdd, show ((3 : Nat) : Int) = 3 from rfl] at k5 k6
  have hXI : ((sqB vZ 0).size : Int) = 32 := by omega
  generalize numB (sqB vZ 0) 0 % 8 = r0 at *
  generalize numB (sqB vZ 1) 0 % 8 = r1 at *
  generalize numB (sqB vZ 2) 0 % 8 = r2 at *
  generalize numB (sqB vZ 3) 0 % 8 = r3 at *
  generalize (numB (sqB vZ 1) 0, numB (sqB vZ 1) 8) = q1 at *
  generalize (numB (sqB vZ 2) 0, numB (sqB vZ 2) 8) = q2 at *
  generalize numB (sqB vZ 0) 0 = n at *
  generalize numB (sqB vZ 0) 8 = m at *
  generalize sqB vZ 0 = X at *
  generalize vZ = Z at *
  clear hA hX hG0 hu hz hu1
  go_enter Tryd.func7, Tryd.ntmps7
  go_upto_region 2 with (go_at_call 19; (with_reducible refine k1.mono ?_); rintro e w1 ⟨rfl, hb⟩)
  refine wp_gen (fun W => Below w.heap.size w W ∧ Duo W w1.heap.size (.string Z) (.int .i64 0)) ⟨hb.alloc hb.size _, by simp [Duo, go_sem]⟩ ?_
  generalize w1.heap.size = g1
  clear hb k1
  rintro W1 ⟨hB, hS⟩
  have HB := Lib.hid hB; have HS := Lib.hid hS; have HV : Hid (Vars W1 []) := Lib.hid trivial
  clear hB hS
  obtain ⟨x0, x1, _, _⟩ := HS.out
  go_upto_region 3 with (go_at_call 8; (with_reducible refine (k2 _ (HK.out _ _ HG0.out HB.out)).mono ?_); rintro e w1 ⟨rfl, hb⟩)
  have hb' := bthen HB.out hb
  have hs := HS.out.keep hb; have hv := Vars.keep hb HV.out
  have hb2 := ((Below.refl w1.heap.size w1).alloc (Nat.le_refl _) (.cells #[.string Z, .int .i64 1] 23)).alloc (by simp) (.cells #[.int .u64 n, .int .u64 m] 27)
  refine wp_gen (fun W => Below w.heap.size w W ∧ Duo W g1 (.string Z) (.int .i64 0) ∧ Vars W [(w1.heap.size, .string Z, .int .i64 1), (w1.heap.size + 1, .int .u64 n, .int .u64 m)]) ⟨bthen hb' hb2, hs.keep hb2, ⟨by simp [Duo, go_sem], by simp [Duo, go_sem], Vars.keep hb2 hv⟩⟩ ?_
  obtain ⟨g2, hg2⟩ : ∃ g, w1.heap.size = g := ⟨_, rfl⟩
  obtain ⟨g3, hg3⟩ : ∃ h, g2 + 1 = h := ⟨_, rfl⟩
  rintro W2 ⟨hB, hS, hV⟩
  simp only [hg2] at hV ⊢
  simp only [hg3] at hV ⊢
  clear HB HS HV x0 x1 hb hb' hs hv hb2 hg2 hg3
  have HB := Lib.hid hB; have HS := Lib.hid hS; have HV := Lib.hid hV
  clear hB hS hV
  obtain ⟨x0, x1, _, _⟩ := HS.out
  go_upto_region 4 with (go_at_call 20; (with_reducible refine (k3 _).mono ?_); rintro e w1 ⟨rfl, hb⟩)
  have hb' := bthen HB.out hb
  have hs := HS.out.keep hb; have hv := Vars.keep hb HV.out
  have hb2 := (Below.refl w1.heap.size w1).alloc (Nat.le_refl _) (.cells #[.string Z, .int .i64 1] 23)
  refine wp_gen (fun W => Below w.heap.size w W ∧ Duo W g1 (.string Z) (.int .i64 0) ∧ Vars W [(w1.heap.size, .string Z, .int .i64 1), (g2, .string Z, .int .i64 1), (g3, .int .u64 n, .int .u64 m)]) ⟨bthen hb' hb2, hs.keep hb2, ⟨by simp [Duo, go_sem], Vars.keep hb2 hv⟩⟩ ?_
  obtain ⟨g5, hg5⟩ : ∃ g, w1.heap.size = g := ⟨_, rfl⟩
  rintro W2 ⟨hB, hS, hV⟩
  simp only [hg5] at hV ⊢
  clear HB HS HV x0 x1 hb hb' hs hv hb2 hg5
  have HB := Lib.hid hB; have HS := Lib.hid hS; have HV := Lib.hid hV
  clear hB hS hV
  go_upto_region 5 with (go_at_call 21; (with_reducible refine (k4 _).mono ?_); rintro e w2 ⟨rfl, rfl⟩)
  obtain ⟨x0, x1, _, _⟩ := HS.out
  go_upto_region 6 with (go_at_call 12; (with_reducible refine (k5 _ (HK.out _ _ HG0.out HB.out)).mono ?_); rintro e w1 ⟨hb, ap, cp, rfl, nHQ⟩)
  have hb' := bthen HB.out hb
  have hs := HS.out.keep hb; have hv := Vars.keep hb HV.out
  have hb2 := (Below.refl w1.heap.size w1).alloc (Nat.le_refl _) (.cells #[.string Z, .int .i64 3] 23)
  refine wp_gen (fun W => Below w.heap.size w W ∧ Duo W g1 (.string Z) (.int .i64 0) ∧ Vars W [(w1.heap.size, .string Z, .int .i64 3), (g5, .string Z, .int .i64 1), (g2, .string Z, .int .i64 1), (g3, .int .u64 n, .int .u64 m)] ∧ QRowA W ap 3 [(n, m), q1, q2]) ⟨bthen hb' hb2, hs.keep hb2, ⟨by simp [Duo, go_sem], Vars.keep hb2 hv⟩, nHQ.keep hb2⟩ ?_
  obtain ⟨g9, hg9⟩ : ∃ g, w1.heap.size = g := ⟨_, rfl⟩
  rintro W2 ⟨hB, hS, hV, iHQ⟩
  simp only [hg9] at hV ⊢
  clear HB HS HV x0 x1 hb hb' hs hv hb2 hg9 nHQ
  have HB := Lib.hid hB; have HS := Lib.hid hS; have HV := Lib.hid hV; have HQ := Lib.hid iHQ
  clear hB hS hV iHQ
  obtain ⟨x0, x1, _, _⟩ := HS.out
  go_upto_region 7 with (go_at_call 10; (with_reducible refine (k6 _ (HK.out _ _ HG0.out HB.out)).mono ?_); rintro e w1 ⟨hb, ai, ci, rfl, nHI⟩)
  have hb' := bthen HB.out hb
  have hs := HS.out.keep hb; have hv := Vars.keep hb HV.out
  have eHQ := HQ.out.keep hb
  have hb2 := (Below.refl w1.heap.size w1).alloc (Nat.le_refl _) (.cells #[.string Z, .int .i64 4] 23)
  refine wp_gen (fun W => Below w.heap.size w W ∧ Duo W g1 (.string Z) (.int .i64 0) ∧ Vars W [(w1.heap.size, .string Z, .int .i64 4), (g9, .string Z, .int .i64 3), (g5, .string Z, .int .i64 1), (g2, .string Z, .int .i64 1), (g3, .int .u64 n, .int .u64 m)] ∧ QRowA W ap 3 [(n, m), q1, q2] ∧ IRowA W ai 4 [r0, r1, r2, r3]) ⟨bthen hb' hb2, hs.keep hb2, ⟨by simp [Duo, go_sem], Vars.keep hb2 hv⟩, eHQ.keep hb2, nHI.keep hb2⟩ ?_
  obtain ⟨g12, hg12⟩ : ∃ g, w1.heap.size = g := ⟨_, rfl⟩
  rintro W2 ⟨hB, hS, hV, iHQ, iHI⟩
  simp only [hg12] at hV ⊢
  clear HB HS HV x0 x1 hb hb' hs hv hb2 hg12 HQ eHQ nHI
  have HB := Lib.hid hB; have HS := Lib.hid hS; have HV := Lib.hid hV; have HQ := Lib.hid iHQ; have HI := Lib.hid iHI
  clear hB hS hV iHQ iHI
  obtain ⟨⟨f0, f1, _, _⟩, ⟨d0, d1, _, _⟩, _, ⟨b0, b1, _, _⟩, ⟨p0, p1, _, _⟩, _⟩ := HV.out
  obtain ⟨bq, oq, rfl, q0c, q1c⟩ := HQ.out.2.2 0 (by decide)
  obtain ⟨bi, oi, rfl, ic⟩ := HI.out.2.2 0 (by decide)
  simp only [Nat.zero_mul, Nat.add_zero, List.getD_cons_zero] at q0c q1c ic
  clear HQ HI HS HV k2 k3 k4 k5 k6
  refine wp_loose [(42, []), (43, [42]), (44, [43]), (45, [43, 44]), (46, [43, 45]), (47, [43, 46]), (48, [47]), (49, [48]), (50, [48, 49]), (51, [48]), (52, [48, 50, 51]), (53, [48, 52]), (54, [53]), (55, [54]), (56, [54, 55]), (57, [56]), (58, [57]), (59, [57, 58]), (60, [57, 59]), (61, [57, 60]), (62, [61]), (63, [62]), (64, [62, 63]), (65, [62, 64]), (66, [62]), (67, [62, 65, 66]), (68, [62, 67]), (69, [68]), (70, [69]), (71, [69, 70]), (72, [69, 71]), (73, [69, 72]), (74, [73]), (75, [74]), (76, [74, 75]), (77, [74, 76]), (78, [74, 77]), (79, [78]), (80, [79]), (81, [79, 80]), (82, [79, 81]), (83, [79]), (84, [79, 83]), (85, [79, 84]), (86, [79, 82, 85]), (87, [79, 86]), (88, [87]), (89, [88]), (90, [88, 89]), (91, [88, 90]), (92, [88, 91])]
    (DAwR g1 g2 g3 g9 g12 bq oq cp bi oi ci n m r0) (fun d => false) (by kernel_rfl) (by kernel_rfl) (fun _ _ _ _ h hb => h.keep hb) ?_ ?_
  · refine opsrun_cons ?_ (opsrun_cons ?_ (opsrun_cons ?_ (opsrun_cons ?_ (opsrun_cons ?_ (opsrun_cons ?_ (opsrun_cons ?_ (opsrun_cons ?_ (opsrun_cons ?_ (opsrun_cons ?_ (opsrun_cons ?_ (opsrun_cons ?_ (opsrun_cons ?_ (opsrun_cons ?_ (opsrun_cons ?_ (opsrun_cons ?_ (opsrun_cons ?_ (opsrun_cons ?_ (opsrun_cons ?_ (opsrun_cons ?_ (opsrun_cons ?_ (opsrun_cons ?_ (opsrun_cons ?_ (opsrun_cons ?_ (opsrun_cons ?_ (opsrun_cons ?_ (opsrun_cons ?_ (opsrun_cons ?_ (opsrun_cons ?_ (opsrun_cons ?_ (opsrun_cons ?_ (opsrun_cons ?_ (opsrun_cons ?_ (opsrun_cons ?_ (opsrun_cons ?_ (opsrun_cons ?_ (opsrun_cons ?_ (opsrun_cons ?_ (opsrun_cons ?_ (opsrun_cons ?_ (opsrun_cons ?_ (opsrun_cons ?_ (opsrun_cons ?_ (opsrun_cons ?_ (opsrun_cons ?_ (opsrun_cons ?_ (opsrun_cons ?_ (opsrun_cons ?_ (opsrun_cons ?_ (opsrun_cons ?_ (opsrun_cons ?_ opsrun_nil))))))))))))))))))))))))))))))))))))))))))))))))))
    all_goals
      refine OpRuns.any ?_
      intro Q0 σ W' K hb hn hK
      simp only [fill, List.map, Act.put, List.setIfInBounds_toArray, List.set_cons_zero, List.set_cons_succ] at hK ⊢
    · clear hn
      go_simp
      exact hK _ _ rfl (Below.refl _ _) (fun h => absurd h (by decide))
    · have h42 : σ 42 = _ := hn 42 (by decide)
      clear hn
      simp only [h42] at hK
      go_simp
      exact hK _ _ rfl (Below.refl _ _) (fun h => absurd h (by decide))
    · have h43 : σ 43 = _ := hn 43 (by decide)
      clear hn
      simp only [h43] at hK
      go_simp
      exact hK _ _ rfl (Below.refl _ _) (fun h => absurd h (by decide))
    · have h43 : σ 43 = _ := hn 43 (by decide)
      have h44 : σ 44 = _ := hn 44 (by decide)
      clear hn
      simp only [h43, h44] at hK
      have b1' := bkeep hb b1
      clear b1
      go_simp
      exact hK _ _ rfl (Below.refl _ _) (fun h => absurd h (by decide))
    · have h43 : σ 43 = _ := hn 43 (by decide)
      have h45 : σ 45 = _ := hn 45 (by decide)
      clear hn
      simp only [h43, h45] at hK
      go_simp
      exact hK _ _ rfl (Below.refl _ _) (fun h => absurd h (by decide))
    · have h43 : σ 43 = _ := hn 43 (by decide)
      have h46 : σ 46 = _ := hn 46 (by decide)
      clear hn
      simp only [h43, h46] at hK
      go_simp
      exact hK _ _ rfl (Below.refl _ _) (fun h => absurd h (by decide))
    · have h47 : σ 47 = _ := hn 47 (by decide)
      clear hn
      simp only [h47] at hK
      go_simp
      exact hK _ _ rfl (Below.refl _ _) (fun h => absurd h (by decide))
    · have h48 : σ 48 = _ := hn 48 (by decide)
      clear hn
      simp only [h48] at hK
      go_simp
      exact hK _ _ rfl (Below.refl _ _) (fun h => absurd h (by decide))
    · have h48 : σ 48 = _ := hn 48 (by decide)
      have h49 : σ 49 = _ := hn 49 (by decide)
      clear hn
      simp only [h48, h49] at hK
      have p0' := bkeep hb p0
      clear p0
      go_simp
      exact hK _ _ rfl (Below.refl _ _) (fun h => absurd h (by decide))
    · have h48 : σ 48 = _ := hn 48 (by decide)
      clear hn
      simp only [h48] at hK
      go_simp
      exact hK _ _ rfl (Below.refl _ _) (fun h => absurd h (by decide))
    · have h48 : σ 48 = _ := hn 48 (by decide)
      have h50 : σ 50 = _ := hn 50 (by decide)
      have h51 : σ 51 = _ := hn 51 (by decide)
      clear hn
      simp only [h48, h50, h51] at hK
      go_simp
      exact hK _ _ rfl (Below.refl _ _) (fun h => absurd h (by decide))
    · have h48 : σ 48 = _ := hn 48 (by decide)
      have h52 : σ 52 = _ := hn 52 (by decide)
      clear hn
      simp only [h48, h52] at hK
      go_simp
      exact hK _ _ rfl (Below.refl _ _) (fun h => absurd h (by decide))
    · have h53 : σ 53 = _ := hn 53 (by decide)
      clear hn
      simp only [h53] at hK
      go_simp
      exact hK _ _ rfl (Below.refl _ _) (fun h => absurd h (by decide))
    · have h54 : σ 54 = _ := hn 54 (by decide)
      clear hn
      simp only [h54] at hK
      go_simp
      exact hK _ _ rfl (Below.refl _ _) (fun h => absurd h (by decide))
    · have h54 : σ 54 = _ := hn 54 (by decide)
      have h55 : σ 55 = _ := hn 55 (by decide)
      clear hn
      simp only [h54, h55] at hK
      go_simp
      exact hK _ _ rfl (Below.refl _ _) (fun h => absurd h (by decide))
    · have h56 : σ 56 = _ := hn 56 (by decide)
      clear hn
      simp only [h56] at hK
      go_simp
      exact hK _ _ rfl (Below.refl _ _) (fun h => absurd h (by decide))
    · have h57 : σ 57 = _ := hn 57 (by decide)
      clear hn
      simp only [h57] at hK
      go_simp
      exact hK _ _ rfl (Below.refl _ _) (fun h => absurd h (by decide))
    · have h57 : σ 57 = _ := hn 57 (by decide)
      have h58 : σ 58 = _ := hn 58 (by decide)
      clear hn
      simp only [h57, h58] at hK
      go_simp
      exact hK _ _ rfl (Below.refl _ _) (fun h => absurd h (by decide))
    · have h57 : σ 57 = _ := hn 57 (by decide)
      have h59 : σ 59 = _ := hn 59 (by decide)
      clear hn
      simp only [h57, h59] at hK
      go_simp
      exact hK _ _ rfl (Below.refl _ _) (fun h => absurd h (by decide))
    · have h57 : σ 57 = _ := hn 57 (by decide)
      have h60 : σ 60 = _ := hn 60 (by decide)
      clear hn
      simp only [h57, h60] at hK
      go_simp
      exact hK _ _ rfl (Below.refl _ _) (fun h => absurd h (by decide))
    · have h61 : σ 61 = _ := hn 61 (by decide)
      clear hn
      simp only [h61] at hK
      go_simp
      exact hK _ _ rfl (Below.refl _ _) (fun h => absurd h (by decide))
    · have h62 : σ 62 = _ := hn 62 (by decide)
      clear hn
      simp only [h62] at hK
      go_simp
      exact hK _ _ rfl (Below.refl _ _) (fun h => absurd h (by decide))
    · have h62 : σ 62 = _ := hn 62 (by decide)
      have h63 : σ 63 = _ := hn 63 (by decide)
      clear hn
      simp only [h62, h63] at hK
      go_simp
      exact hK _ _ rfl (Below.refl _ _) (fun h => absurd h (by decide))
    · have h62 : σ 62 = _ := hn 62 (by decide)
      have h64 : σ 64 = _ := hn 64 (by decide)
      clear hn
      simp only [h62, h64] at hK
      have q0c' := bkeep hb q0c
      have q1c' := bkeep hb q1c
      clear q0c q1c
      go_simp
      exact hK _ _ rfl (Below.refl _ _) (fun h => absurd h (by decide))
    · have h62 : σ 62 = _ := hn 62 (by decide)
      clear hn
      simp only [h62] at hK
      have p0' := bkeep hb p0
      have p1' := bkeep hb p1
      clear p0 p1
      go_simp
      exact hK _ _ rfl (Below.refl _ _) (fun h => absurd h (by decide))
    · have h62 : σ 62 = _ := hn 62 (by decide)
      have h65 : σ 65 = _ := hn 65 (by decide)
      have h66 : σ 66 = _ := hn 66 (by decide)
      clear hn
      simp only [h62, h65, h66] at hK
      go_simp
      exact hK _ _ rfl (Below.refl _ _) (fun h => absurd h (by decide))
    · have h62 : σ 62 = _ := hn 62 (by decide)
      have h67 : σ 67 = _ := hn 67 (by decide)
      clear hn
      simp only [h62, h67] at hK
      go_simp
      exact hK _ _ rfl (Below.refl _ _) (fun h => absurd h (by decide))
    · have h68 : σ 68 = _ := hn 68 (by decide)
      clear hn
      simp only [h68] at hK
      go_simp
      exact hK _ _ rfl (Below.refl _ _) (fun h => absurd h (by decide))
    · have h69 : σ 69 = _ := hn 69 (by decide)
      clear hn
      simp only [h69] at hK
      go_simp
      exact hK _ _ rfl (Below.refl _ _) (fun h => absurd h (by decide))
    · have h69 : σ 69 = _ := hn 69 (by decide)
      have h70 : σ 70 = _ := hn 70 (by decide)
      clear hn
      simp only [h69, h70] at hK
      have d1' := bkeep hb d1
      clear d1
      go_simp
      exact hK _ _ rfl (Below.refl _ _) (fun h => absurd h (by decide))
    · have h69 : σ 69 = _ := hn 69 (by decide)
      have h71 : σ 71 = _ := hn 71 (by decide)
      clear hn
      simp only [h69, h71] at hK
      go_simp
      exact hK _ _ rfl (Below.refl _ _) (fun h => absurd h (by decide))
    · have h69 : σ 69 = _ := hn 69 (by decide)
      have h72 : σ 72 = _ := hn 72 (by decide)
      clear hn
      simp only [h69, h72] at hK
      go_simp
      exact hK _ _ rfl (Below.refl _ _) (fun h => absurd h (by decide))
    · have h73 : σ 73 = _ := hn 73 (by decide)
      clear hn
      simp only [h73] at hK
      go_simp
      exact hK _ _ rfl (Below.refl _ _) (fun h => absurd h (by decide))
    · have h74 : σ 74 = _ := hn 74 (by decide)
      clear hn
      simp only [h74] at hK
      go_simp
      exact hK _ _ rfl (Below.refl _ _) (fun h => absurd h (by decide))
    · have h74 : σ 74 = _ := hn 74 (by decide)
      have h75 : σ 75 = _ := hn 75 (by decide)
      clear hn
      simp only [h74, h75] at hK
      go_simp
      exact hK _ _ rfl (Below.refl _ _) (fun h => absurd h (by decide))
    · have h74 : σ 74 = _ := hn 74 (by decide)
      have h76 : σ 76 = _ := hn 76 (by decide)
      clear hn
      simp only [h74, h76] at hK
      go_simp
      exact hK _ _ rfl (Below.refl _ _) (fun h => absurd h (by decide))
    · have h74 : σ 74 = _ := hn 74 (by decide)
      have h77 : σ 77 = _ := hn 77 (by decide)
      clear hn
      simp only [h74, h77] at hK
      go_simp
      exact hK _ _ rfl (Below.refl _ _) (fun h => absurd h (by decide))
    · have h78 : σ 78 = _ := hn 78 (by decide)
      clear hn
      simp only [h78] at hK
      go_simp
      exact hK _ _ rfl (Below.refl _ _) (fun h => absurd h (by decide))
    · have h79 : σ 79 = _ := hn 79 (by decide)
      clear hn
      simp only [h79] at hK
      go_simp
      exact hK _ _ rfl (Below.refl _ _) (fun h => absurd h (by decide))
    · have h79 : σ 79 = _ := hn 79 (by decide)
      have h80 : σ 80 = _ := hn 80 (by decide)
      clear hn
      simp only [h79, h80] at hK
      go_simp
      exact hK _ _ rfl (Below.refl _ _) (fun h => absurd h (by decide))
    · have h79 : σ 79 = _ := hn 79 (by decide)
      have h81 : σ 81 = _ := hn 81 (by decide)
      clear hn
      simp only [h79, h81] at hK
      have ic' := bkeep hb ic
      clear ic
      go_simp
      exact hK _ _ rfl (Below.refl _ _) (fun h => absurd h (by decide))
    · have h79 : σ 79 = _ := hn 79 (by decide)
      clear hn
      simp only [h79] at hK
      go_simp
      exact hK _ _ rfl (Below.refl _ _) (fun h => absurd h (by decide))
    · have h79 : σ 79 = _ := hn 79 (by decide)
      have h83 : σ 83 = _ := hn 83 (by decide)
      clear hn
      simp only [h79, h83] at hK
      go_simp
      exact hK _ _ rfl (Below.refl _ _) (fun h => absurd h (by decide))
    · have h79 : σ 79 = _ := hn 79 (by decide)
      have h84 : σ 84 = _ := hn 84 (by decide)
      clear hn
      simp only [h79, h84] at hK
      go_simp
      exact hK _ _ rfl (Below.refl _ _) (fun h => absurd h (by decide))
    · have h79 : σ 79 = _ := hn 79 (by decide)
      have h82 : σ 82 = _ := hn 82 (by decide)
      have h85 : σ 85 = _ := hn 85 (by decide)
      clear hn
      simp only [h79, h82, h85] at hK
      go_simp
      exact hK _ _ rfl (Below.refl _ _) (fun h => absurd h (by decide))
    · have h79 : σ 79 = _ := hn 79 (by decide)
      have h86 : σ 86 = _ := hn 86 (by decide)
      clear hn
      simp only [h79, h86] at hK
      go_simp
      exact hK _ _ rfl (Below.refl _ _) (fun h => absurd h (by decide))
    · have h87 : σ 87 = _ := hn 87 (by decide)
      clear hn
      simp only [h87] at hK
      go_simp
      exact hK _ _ rfl (Below.refl _ _) (fun h => absurd h (by decide))
    · have h88 : σ 88 = _ := hn 88 (by decide)
      clear hn
      simp only [h88] at hK
      go_simp
      exact hK _ _ rfl (Below.refl _ _) (fun h => absurd h (by decide))
    · have h88 : σ 88 = _ := hn 88 (by decide)
      have h89 : σ 89 = _ := hn 89 (by decide)
      clear hn
      simp only [h88, h89] at hK
      have f1' := bkeep hb f1
      clear f1
      go_simp
      exact hK _ _ rfl (Below.refl _ _) (fun h => absurd h (by decide))
    · have h88 : σ 88 = _ := hn 88 (by decide)
      have h90 : σ 90 = _ := hn 90 (by decide)
      clear hn
      simp only [h88, h90] at hK
      go_simp
      exact hK _ _ rfl (Below.refl _ _) (fun h => absurd h (by decide))
    · have h88 : σ 88 = _ := hn 88 (by decide)
      have h91 : σ 91 = _ := hn 91 (by decide)
      clear hn
      simp only [h88, h91] at hK
      go_simp
      exact hK _ _ rfl (Below.refl _ _) (fun h => absurd h (by decide))
  · intro σ W' hb hR' hF
    have HB' := Lib.hid (bthen HB.out hb)
    have h92 : σ 92 = .bool true := hR' 92 (by decide)
    clear hR' hF hb
    simp only [fill, List.map, Act.put, List.setIfInBounds_toArray, List.set_cons_zero, List.set_cons_succ, List.length_cons, List.length_nil, List.drop_succ_cons, List.drop_zero, Nat.reduceAdd, h92]
    go_wp2_with fail
    go_ret
    exact ⟨rfl, HB'.out⟩
end Go.Proofs.YtgnnliablgbgkaaDoor
