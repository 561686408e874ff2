/-
  The walk of FoldHalves: it answers true, where the program's calls do what is asked of them. (Written by gen_fhalves.py.)
-/
import Derived.Test.YtepfdhcdalkddaaDoorGFold
import Derived.Test.YtepfdhcdalkddaaDoorSame
import Derived.BigQuiet
namespace Go.Proofs.YtepfdhcdalkddaaDoor
open Go Go.RowKit Go.Sort Go.BigFrame
set_option linter.unusedVariables false

def FHvRel (w : World) (n : Nat) (l : List (Int × Int)) (y : F2) (o i : Value) (W : World) : Prop := ∃ k : Nat, k ≤ (n + 1) / 2 ∧ i = .int .i64 ((2 * k : Nat) : Int) ∧ MadeQ w W o (halfL l y k)
def FHv16 (b1 o1 n cp g j gx K : Nat) (y0 y1 a0 a1 : Int) (x p z : F2) (sl : Nat) (v : Value) (W : World) : Prop :=
  match sl with
  | 66 => v = .agg #[.int .u64 (enc x.a), .int .u64 (enc x.b)]
  | 67 => v = .agg #[.int .u64 y0, .int .u64 y1]
  | 68 => v = .slice (some ⟨b1, o1, none⟩) n cp
  | 69 => v = .int .i64 (j : Int)
  | 70 => v = .int .i64 (K : Int)
  | 71 => v = .pointer (some ⟨b1, o1 + K * 2, none⟩)
  | 72 => v = .agg #[.int .u64 a0, .int .u64 a1]
  | 73 => v = .agg #[.int .u64 (enc p.a), .int .u64 (enc p.b)]
  | 74 => v = .agg #[.int .u64 (enc z.a), .int .u64 (enc z.b)]
  | _ => v = .bool true
theorem FHv16.keep {b1 o1 n cp g j gx K : Nat} {y0 y1 a0 a1 : Int} {x p z : F2} {sl : Nat} {v : Value} {W W' : World} (h : FHv16 b1 o1 n cp g j gx K y0 y1 a0 a1 x p z sl v W) (hb : Below W.heap.size W W') : FHv16 b1 o1 n cp g j gx K y0 y1 a0 a1 x p z sl v W' := by
  unfold FHv16 at *
  split at h
  all_goals first | exact h
set_option maxRecDepth 100000 in
set_option maxHeartbeats 8000000 in
theorem fhalves_body (G : World → Prop) (hAk : AskFold G) (aw : ∀ W, G W → Calls Tryd.prog 8 #[] W fun e w' => e = .returned (.bool true) ∧ Below W.heap.size W w') (a1 : Option Addr) (n cp : Nat) (l : List (Int × Int)) (y0 y1 t0 t1 : Int) (w : World) (hG : G w) (ha : QRowA w a1 n l) (hu : ∀ n ∈ l, U n.1 ∧ U n.2) (h0 : U y0) (h1 : U y1) (ht0 : 0 ≤ t0 ∧ t0 < 256) (ht1 : 0 ≤ t1 ∧ t1 < 256) :
    Calls Tryd.prog 5 #[.slice a1 n cp, .agg #[.int .u64 y0, .int .u64 y1], .agg #[.int .u8 t0, .int .u8 t1]] w fun e w' => e = .returned (.bool true) ∧ Below w.heap.size w w' := by
  have hl1 := ha.1
  have hm := ha.2.1
  unfold maxLen at hm
  obtain ⟨i0, hi, hz0, hz1, hz2⟩ := info_parts infoQf
  have HK := Lib.hid (fun (W W' : World) => @AskFold.keep G hAk W W')
  have HG0 := Lib.hid hG
  have HA10 := Lib.hid ha
  have hy := rep_raw h0 h1
  obtain ⟨y, hyy⟩ : ∃ y : F2, (⟨toF y0, toF y1⟩ : F2) = y := ⟨_, rfl⟩
  rw [hyy] at hy
  obtain ⟨fo, hfo, e0⟩ : ∃ fo : Nat, fo < 4 ∧ t0.tmod 4 = (fo : Int) := ⟨(t0.tmod 4).toNat, by rw [Int.tmod_eq_emod_of_nonneg ht0.1]; omega, by rw [Int.tmod_eq_emod_of_nonneg ht0.1]; omega⟩
  obtain ⟨mo, hmo, e1⟩ : ∃ mo : Nat, mo < 4 ∧ t1.tmod 4 = (mo : Int) := ⟨(t1.tmod 4).toNat, by rw [Int.tmod_eq_emod_of_nonneg ht1.1]; omega, by rw [Int.tmod_eq_emod_of_nonneg ht1.1]; omega⟩
  clear ha h0 h1 hG hyy ht0 ht1
  have q0 : IntKind.u8.wrap (fo : Int) = fo := by rw [IntKind.wrap_u8]; omega
  have q1 : IntKind.u8.wrap (mo : Int) = mo := by rw [IntKind.wrap_u8]; omega
  have q2 : IntKind.i64.wrap (fo : Int) = fo := IntWalk.i64_in _ (by omega)
  have q3 : IntKind.i64.wrap (mo : Int) = mo := IntWalk.i64_in _ (by omega)
  have q4 : IntKind.i64.wrap (1 + (mo : Int)) = ((1 + mo : Nat) : Int) := by rw [IntWalk.i64_in _ (by omega)]; omega
  have q5 : wrap64 (1 + (mo : Int)) = ((1 + mo : Nat) : Int) := by rw [IntWalk.wrap64_in _ (by omega)]; omega
  go_enter Tryd.func5, Tryd.ntmps5
  go_upto_region 1 with fail
  obtain ⟨g, hg⟩ : ∃ g, w.heap.size = g := ⟨_, rfl⟩
  obtain ⟨g', hg'⟩ : ∃ h, g + 1 = h := ⟨_, rfl⟩
  refine wp_gen (fun W => Below w.heap.size w W ∧ Duo W g (.int .u64 y0) (.int .u64 y1) ∧ Duo W g' (.int .u8 t0) (.int .u8 t1)) ⟨((Below.refl _ _).alloc (Nat.le_refl _) _).alloc (by simp) _, by subst hg' hg; simp [Duo, go_sem]⟩ ?_
  rintro w0 ⟨hB0, hY, hT⟩
  simp only [hg, hg']
  have HB0 := Lib.hid hB0
  have HA1 := Lib.hid (HA10.out.keep hB0); have HG := Lib.hid (HK.out _ _ HG0.out hB0)
  have HB : Hid (Below w0.heap.size w0 w0) := Lib.hid (Below.refl _ _)
  obtain ⟨y0c, y1c, _, _⟩ := hY
  obtain ⟨t0c, t1c, _, _⟩ := hT
  clear hB0 hg hg' HG0 HA10
  have aw := fun W (h : Below w0.heap.size w0 W) => aw W (HK.out _ _ HG.out h)
  by_cases h32 : (32 : Int) < (n : Int)
  · clear q0 q1 q2 q3 q4 q5 e0 e1 t0c t1c
    go_wp2_with (go_at_call 8; (with_reducible refine (aw _ HB.out).mono ?_); rintro e w1 ⟨rfl, hb⟩; replace y0c := bkeep hb y0c; replace y1c := bkeep hb y1c; replace HB := Lib.hid (bthen HB.out hb); clear hb)
    go_ret
    exact ⟨rfl, bthen HB0.out HB.out⟩
  have hn : n ≤ 32 := by omega
  go_upto_region 5 with fail
  clear e0 e1 q0 q1 q3 q4 q5 t0c t1c
  go_loopw [8] (fun v W => ∃ M : Nat, 1 ≤ M ∧ M ≤ 5 ∧ v = .int .i64 (M : Int) ∧ W = w0) (fun v _ => 5 - (intOf v).toNat)
  case atStart => exact ⟨1 + mo, by omega, by omega, rfl, rfl⟩
  case round =>
    obtain ⟨M, hM1, hM5, rfl, rfl⟩ := hrel
    by_cases hlt : 2 ^ M < n
    · have hc : M = 1 ∨ M = 2 ∨ M = 3 ∨ M = 4 := by
        have h5 : M ≠ 5 := by intro h; subst h; omega
        omega
      have HA1 := HA1
      rcases hc with rfl | rfl | rfl | rfl
      · have hI : (2 : Int) < (n : Int) := by omega
        go_wp2_with fail
        go_roundw
        case rel => exact ⟨2, by omega, by omega, by go_num, by first | rfl | trivial⟩
        case measure => simp [intOf]
      · have hI : (4 : Int) < (n : Int) := by omega
        go_wp2_with fail
        go_roundw
        case rel => exact ⟨3, by omega, by omega, by go_num, by first | rfl | trivial⟩
        case measure => simp [intOf]
      · have hI : (8 : Int) < (n : Int) := by omega
        go_wp2_with fail
        go_roundw
        case rel => exact ⟨4, by omega, by omega, by go_num, by first | rfl | trivial⟩
        case measure => simp [intOf]
      · have hI : (16 : Int) < (n : Int) := by omega
        go_wp2_with fail
        go_roundw
        case rel => exact ⟨5, by omega, by omega, by go_num, by first | rfl | trivial⟩
        case measure => simp [intOf]
    · have hw := fh_pow M hM5
      have hKn : ¬ (((2 ^ M : Nat) : Int) < (n : Int)) := fun h => hlt (Int.ofNat_lt.1 h)
      have HNM := Lib.hid (Nat.le_of_not_lt hlt)
      obtain ⟨K, hK⟩ : ∃ K : Nat, 2 ^ M = K := ⟨_, rfl⟩
      rw [hK] at hw hKn
      clear hK hlt
      go_upto_region 7 with fail
      clear hw hKn
      obtain ⟨k5, hk5⟩ : ∃ k, M = k + 1 := ⟨M - 1, by omega⟩
      have HKM := Lib.hid hk5
      clear hk5
      obtain ⟨sv, hs⟩ : ∃ s, enc (shiftF fo) = s := ⟨_, rfl⟩
      obtain ⟨sw, hs'⟩ : ∃ s, enc (shiftF ((fo + 1 : Nat) : Int)) = s := ⟨_, rfl⟩
      have s1 := fun W (h : Below wr.heap.size wr W) => rfshift_is fo sv hs W
      have s2 := fun W => rfshift_is ((fo + 1 : Nat) : Int) sw hs' W
      have f1 := fun W (h : Below wr.heap.size wr W) => refforthq_yes a1 n cp l sv (by rw [← hs]; exact enc_U _) (shiftF fo) (by rw [← hs]; exact toF_enc _) M (by omega) W (HA1.out.keep h) hu HNM.out
      unfold NewOkQ at f1
      clear hs
      have HL1 := Lib.hid hl1
      clear hl1
      go_upto_region 12 with (first | (go_at_call 12; (with_reducible refine (s1 _ HB.out).mono ?_); rintro e w1 ⟨rfl, hb⟩; replace y0c := bkeep hb y0c; replace y1c := bkeep hb y1c; replace HB := Lib.hid (bthen HB.out hb); clear hb) | (go_at_call 18; (with_reducible refine (f1 _ HB.out).mono ?_); rintro e w2 ⟨a2, c2, rfl, hb, hq2⟩; replace y0c := bkeep hb y0c; replace y1c := bkeep hb y1c; have HQ2 := Lib.hid hq2.at; have HC2 := Lib.hid hq2.cap; replace HB := Lib.hid (bthen HB.out hb); clear hb hq2))
      generalize hK2 : 2 ^ M = K at *
      have HKK := Lib.hid hK2
      have HHF := Lib.hid (fh_half n)
      have HY := Lib.hid (And.intro y0c y1c)
      have HAA := Lib.hid (HA1.out.keep HB.out)
      have HU := Lib.hid hu
      clear hK2 y0c y1c s1 f1 hu
      go_loopw [11, 12] (FHvRel w2 n l y) (fun _ i _ => n + 1 - (intOf i).toNat)
      case atStart => exact ⟨0, Nat.zero_le _, rfl, MadeQ.start _⟩
      case round =>
        obtain ⟨k, hk, rfl, hM⟩ := hrel
        have hsl := halfL_len l y k
        obtain ⟨ad, cpk, hv0⟩ := own_form hM.1
        rw [hsl] at hv0
        subst hv0
        obtain ⟨j, hj⟩ : ∃ j, 2 * k = j := ⟨_, rfl⟩
        rw [hj]
        by_cases hlt : j < n
        · have hltI : (j : Int) < (n : Int) := by omega
          have hj0 : (0 : Int) ≤ (j : Int) := by omega
          obtain ⟨b1, o1, rfl, a0c, a1c⟩ := (HAA.out.keep hM.2).2.2 j hlt
          have r1 := qAt_rep HU.out (show j < l.length by rw [HL1.out]; exact hlt)
          obtain ⟨x, hx⟩ : ∃ x, qAt l j = x := ⟨_, rfl⟩
          rw [hx] at r1
          have ka0 := fun W => radd_q _ _ _ _ _ _ x r1 rep_zero (F2.add_zero x) W
          have y0c := bkeep hM.2 HY.out.1
          have y1c := bkeep hM.2 HY.out.2
          have hol : ∀ k', (Value.slice ad k cpk).ownBlock = some k' → k' < wr.heap.size := fun k' hk' => (hM.1.lt k' hk').2
          have HM := Lib.hid hM
          have hJ1 : 2 * k = j := hj
          have HX := Lib.hid hx
          clear hM r1 hx
          generalize (l.getD j (0, 0)).1 = d0 at *
          generalize (l.getD j (0, 0)).2 = d1 at *
          go_upto_region 15 with (go_at_call 19; (with_reducible refine (ka0 _).mono ?_); rintro e w4 ⟨rfl, hb4⟩)
          have hg5 : w2.heap.size ≤ w4.heap.size := Nat.le_trans HM.out.2.size hb4.size
          refine wp_gen (fun W => MadeQ w2 W (.slice ad k cpk) (halfL l y k) ∧ Duo W w4.heap.size (.int .u64 (enc x.a)) (.int .u64 (enc x.b)) ∧ Below wr.heap.size wr W) ⟨(HM.out.keep hb4).keep ((Below.refl _ _).alloc (Nat.le_refl _) _), by simp [Duo, go_sem], bthen hb4 ((Below.refl _ _).alloc (Nat.le_refl _) _)⟩ ?_
          obtain ⟨gx, hgx⟩ : ∃ q, w4.heap.size = q := ⟨_, rfl⟩
          have hol2 : ∀ k', (Value.slice ad k cpk).ownBlock = some k' → k' ≠ gx := fun k' hk' => by have := hol k' hk'; have := hb4.size; omega
          simp only [hgx]
          rw [hgx] at hg5
          rintro W5 ⟨hM5, hD5, hB5⟩
          replace y0c := bkeep hB5 y0c; replace y1c := bkeep hB5 y1c; replace a0c := bkeep hB5 a0c; replace a1c := bkeep hB5 a1c
          have HM := Lib.hid hM5; have HD5 := Lib.hid hD5
          clear hgx hb4 hM5 hB5 ka0 hol
          have HD6 := HD5
          obtain ⟨xc0, xc1, _, _⟩ := hD5
          by_cases hl2 : j + 1 < n
          · have hlI2 : (j : Int) + 1 < (n : Int) := by omega
            obtain ⟨K1, hK1⟩ : ∃ q, j + 1 = q := ⟨_, rfl⟩
            have hKI : (j : Int) + 1 = (K1 : Int) := by omega
            have hw1 : IntKind.i64.wrap ((j : Int) + 1) = (K1 : Int) := by rw [IntWalk.i64_in _ (by omega)]; omega
            have hw2 : wrap64 ((j : Int) + 1) = (K1 : Int) := by rw [IntWalk.wrap64_in _ (by omega)]; omega
            rw [hK1] at hl2
            rw [hKI] at hlI2
            clear a0c a1c
            obtain ⟨b1', o1', e, a0c, a1c⟩ := (HAA.out.keep HM.out.2).2.2 K1 hl2
            cases e
            have r1 := qAt_rep HU.out (show K1 < l.length by rw [HL1.out]; exact hl2)
            obtain ⟨p, hp⟩ : ∃ p, y * qAt l K1 = p := ⟨_, rfl⟩
            obtain ⟨z, hz⟩ : ∃ z, x + p = z := ⟨_, rfl⟩
            have km := fun W => rmul_q _ _ _ _ _ _ p hy r1 hp W
            have ka := fun W => radd_q _ _ _ _ _ _ z (rep_enc x) (rep_enc p) hz W
            have HS : Hid (halfL l y (k + 1) = halfL l y k ++ [(enc z.a, enc z.b)]) := Lib.hid (by
              rw [halfL_snoc, hJ1, HX.out, hK1, hp, hz]; rfl)
            have hK1I : (0 : Int) ≤ (K1 : Int) := by omega
            have hK1n : (K1 : Int) < (n : Int) := by omega
            have HKI := Lib.hid hKI
            clear r1 hp hz HX hKI
            generalize (l.getD K1 (0, 0)).1 = a0 at *
            generalize (l.getD K1 (0, 0)).2 = a1 at *
            go_upto_region 16 with fail
            refine wp_loose [(66, []), (67, []), (68, []), (69, []), (70, [69]), (71, [68, 70]), (72, [71]), (73, [67, 72]), (74, [66, 73])]
              (FHv16 b1 o1 n cp g j gx K1 y0 y1 a0 a1 x p z) (fun d => false) (by kernel_rfl) (by kernel_rfl) (fun _ _ _ _ h hb => h.keep hb) ?_ ?_
            · refine opsrun_cons ?_ (opsrun_cons ?_ (opsrun_cons ?_ (opsrun_cons ?_ (opsrun_cons ?_ (opsrun_cons ?_ (opsrun_cons ?_ (opsrun_cons ?_ (opsrun_cons ?_ opsrun_nil))))))))
              all_goals
                refine OpRuns.any ?_
                intro Q0 σ W' K hb hn hK
                simp only [fill, List.map, Act.put, List.setIfInBounds_toArray, List.set_cons_zero, List.set_cons_succ] at hK ⊢
              · clear hn
                have xc0' := bkeep hb xc0
                have xc1' := bkeep hb xc1
                clear xc0 xc1
                go_simp
                exact hK _ _ rfl (Below.refl _ _) (fun h => absurd h (by decide))
              · clear hn
                have y0c' := bkeep hb y0c
                have y1c' := bkeep hb y1c
                clear y0c y1c
                go_simp
                exact hK _ _ rfl (Below.refl _ _) (fun h => absurd h (by decide))
              · clear hn
                go_simp
                exact hK _ _ rfl (Below.refl _ _) (fun h => absurd h (by decide))
              · clear hn
                go_simp
                exact hK _ _ rfl (Below.refl _ _) (fun h => absurd h (by decide))
              · have h69 : σ 69 = _ := hn 69 (by decide)
                clear hn
                simp only [h69] at hK
                go_simp
                exact hK _ _ rfl (Below.refl _ _) (fun h => absurd h (by decide))
              · have h68 : σ 68 = _ := hn 68 (by decide)
                have h70 : σ 70 = _ := hn 70 (by decide)
                clear hn
                simp only [h68, h70] at hK
                go_simp
                exact hK _ _ rfl (Below.refl _ _) (fun h => absurd h (by decide))
              · have h71 : σ 71 = _ := hn 71 (by decide)
                clear hn
                simp only [h71] at hK
                have a0c' := bkeep hb a0c
                have a1c' := bkeep hb a1c
                clear a0c a1c
                go_simp
                exact hK _ _ rfl (Below.refl _ _) (fun h => absurd h (by decide))
              · have h67 : σ 67 = _ := hn 67 (by decide)
                have h72 : σ 72 = _ := hn 72 (by decide)
                clear hn
                simp only [h67, h72] at hK
                go_simp
                go_at_call 20
                refine (km _).mono ?_
                rintro e w1 ⟨rfl, hb1⟩
                exact hK _ _ rfl hb1 (fun h => absurd h (by decide))
              · have h66 : σ 66 = _ := hn 66 (by decide)
                have h73 : σ 73 = _ := hn 73 (by decide)
                clear hn
                simp only [h66, h73] at hK
                go_simp
                go_at_call 19
                refine (ka _).mono ?_
                rintro e w1 ⟨rfl, hb1⟩
                exact hK _ _ rfl hb1 (fun h => absurd h (by decide))
            · intro σ W6 hb hR' hF
              have h74 : σ 74 = _ := hR' 74 (by decide)
              have HM6 := Lib.hid (HM.out.keep hb)
              have hxg : Duo W6 gx (.int .u64 (enc x.a)) (.int .u64 (enc x.b)) := HD6.out.keep hb
              have HXG := Lib.hid hxg
              obtain ⟨xc0, xc1, xf0, xf1⟩ := hxg
              clear hR' hF hb a0c a1c y0c y1c km ka HM HD6
              simp only [fill, List.map, Act.put, List.setIfInBounds_toArray, List.set_cons_zero, List.set_cons_succ, List.length_cons, List.length_nil, List.drop_succ_cons, List.drop_zero, Nat.reduceAdd, h74]
              clear h74
              go_upto_region 17 with fail
              refine wp_gen (fun W => MadeQ w2 W (.slice ad k cpk) (halfL l y k) ∧ Duo W gx (.int .u64 (enc z.a)) (.int .u64 (enc z.b))) ⟨(HM6.out.store hol2 hg5).store hol2 hg5, HXG.out.set _ _⟩ ?_
              clear HM6 HXG xc0 xc1 xf0 xf1
              rintro W7 ⟨hM7, hD7⟩
              have HM := Lib.hid hM7; have HD5 := Lib.hid hD7
              have hown := hM7.1
              have hsz := hM7.2.size
              rw [hsl] at hown
              obtain ⟨x0c, x1c, _, _⟩ := hD7
              clear hM7
              generalize enc z.a = z0 at *
              generalize enc z.b = z1 at *
              go_upto_region 13 with (at_builtin; refine wpList_append_own _ rfl _ _ 33 rfl w2.heap.size 24 i0 (.agg #[.int .u64 0, .int .u64 0]) 2 16 Tryd.underlying33 hi hz0 hz1 hz2 rfl (by decide) _ _ _ rfl (hown.alloc _) ⟨W7.heap.size, 0, none⟩ 1 1 [.int .u64 z0, .int .u64 z1] rfl rfl ?f1 ?f2 ?f3 ?f4 ?f5 ?_)
              any_goals first | exact two_src (by simp [go_sem]) (by simp [go_sem]) | exact ⟨rfl, rfl⟩ | (intro u hu; simp at hu; rcases hu with rfl | rfl <;> rfl) | (unfold maxLen; omega) | (show (k + 1) * 16 ≤ _; omega) | (show _ ≤ (W7.alloc _).heap.size; simp; omega) | (show _ ≤ W7.heap.size + 1; omega)
              intro v' w6 hown' hgrow _
              have HR : Hid (MadeQ w2 w6 v' (halfL l y (k + 1))) := Lib.hid (by
                rw [HS.out]
                refine MadeQ.step HM.out (.cells #[.int .u64 z0, .int .u64 z1] 24) ?_ hgrow
                rw [hsl]
                exact hown')
              clear hown hown' hgrow HM HD5 x0c x1c HS hsz
              go_wp2_with fail
              go_roundw
              case rel => exact ⟨k + 1, by omega, by go_num, HR.out⟩
              case measure => simp [intOf]; omega
          · have hlI2 : ¬ (j : Int) + 1 < (n : Int) := by omega
            have HS : Hid (halfL l y (k + 1) = halfL l y k ++ [(enc x.a, enc x.b)]) := Lib.hid (by
              rw [halfL_snoc, hJ1, HX.out, qAt_out (show l.length ≤ j + 1 by rw [HL1.out]; omega), F2.mul_zero, F2.add_zero]; rfl)
            have hown := HM.out.1
            have hsz := HM.out.2.size
            rw [hsl] at hown
            have x0c := xc0; have x1c := xc1
            clear xc0 xc1 a0c a1c y0c y1c HX
            generalize enc x.a = z0 at *
            generalize enc x.b = z1 at *
            go_upto_region 13 with (at_builtin; refine wpList_append_own _ rfl _ _ 33 rfl w2.heap.size 24 i0 (.agg #[.int .u64 0, .int .u64 0]) 2 16 Tryd.underlying33 hi hz0 hz1 hz2 rfl (by decide) _ _ _ rfl (hown.alloc _) ⟨W5.heap.size, 0, none⟩ 1 1 [.int .u64 z0, .int .u64 z1] rfl rfl ?d1 ?d2 ?d3 ?d4 ?d5 ?_)
            any_goals first | exact two_src (by simp [go_sem]) (by simp [go_sem]) | exact ⟨rfl, rfl⟩ | (intro u hu; simp at hu; rcases hu with rfl | rfl <;> rfl) | (unfold maxLen; omega) | (show (k + 1) * 16 ≤ _; omega) | (show _ ≤ (W5.alloc _).heap.size; simp; omega) | (show _ ≤ W5.heap.size + 1; omega)
            intro v' w6 hown' hgrow _
            have HR : Hid (MadeQ w2 w6 v' (halfL l y (k + 1))) := Lib.hid (by
              rw [HS.out]
              refine MadeQ.step HM.out (.cells #[.int .u64 z0, .int .u64 z1] 24) ?_ hgrow
              rw [hsl]
              exact hown')
            clear hown hown' hgrow HM HD5 x0c x1c HS hsz
            go_wp2_with fail
            go_roundw
            case rel => exact ⟨k + 1, by omega, by go_num, HR.out⟩
            case measure => simp [intOf]; omega
        · have hkn : k = (n + 1) / 2 := by omega
          obtain ⟨ad', cp', hv, hq0⟩ := hM.told
          rw [hsl] at hv hq0
          cases hv
          have y0c := bkeep hM.2 HY.out.1
          have y1c := bkeep hM.2 HY.out.2
          have hltI : ¬ (j : Int) < (n : Int) := by omega
          have HKN := Lib.hid hkn
          have HB2 := Lib.hid (bthen HB.out hM.2)
          have HQ0 := Lib.hid hq0
          have HQ2' := Lib.hid (HQ2.out.keep hM.2)
          have HK5 := HKM.out
          have hfo1 : IntKind.i64.wrap ((fo : Int) + 1) = ((fo + 1 : Nat) : Int) := by rw [IntWalk.i64_in _ (by omega)]; omega
          have hfo2 : wrap64 ((fo : Int) + 1) = ((fo + 1 : Nat) : Int) := by rw [IntWalk.wrap64_in _ (by omega)]; omega
          have hmw1 : IntKind.i64.wrap ((M : Int) - 1) = ((k5 : Nat) : Int) := by rw [IntWalk.i64_in _ (by omega)]; omega
          have hmw2 : wrap64 ((M : Int) - 1) = ((k5 : Nat) : Int) := by rw [IntWalk.wrap64_in _ (by omega)]; omega
          obtain ⟨f1', hf1'⟩ : ∃ q, fo + 1 = q := ⟨_, rfl⟩
          rw [hf1'] at hfo1 hfo2 s2 hs'
          have hk5 : k5 + 1 ≤ 20 := by omega
          have f2 := fun W (h : Below wr.heap.size wr W) => refforthq_yes ad k cpk (halfL l y k) sw (by rw [← hs']; exact enc_U _) (shiftF (f1' : Int)) (by rw [← hs']; exact toF_enc _) k5 (by omega) W (HQ0.out.keep h) (halfL_U l y k) (by rw [HKN.out]; exact HHF.out k5 (by rw [← HKM.out, HKK.out]; exact HNM.out))
          unfold NewOkQ at f2
          have hwv : wordV (forthQ l (shiftF (fo : Int)) M) y (fo : Int) = (forthQ (halfL l y k) (shiftF (f1' : Int)) k5, true) := by
            rw [HKM.out, ← hf1', Int.natCast_add]
            exact word_halves l (halfL l y k) y fo k5 hk5 (by rw [HL1.out, ← HKM.out, HKK.out]; exact HNM.out) (by omega) (by rw [hsl, HL1.out]; exact HKN.out) (fun j => by rw [HKN.out]; exact halfL_at l y HL1.out j)
          have hRl : (forthQ (halfL l y k) (shiftF (f1' : Int)) k5).length = 2 ^ k5 := forthQ_len _ _ _
          have hWl : (forthQ l (shiftF (fo : Int)) M).length = K := by rw [forthQ_len]; exact HKK.out
          have hWU : ∀ n ∈ forthQ l (shiftF (fo : Int)) M, U n.1 ∧ U n.2 := joinL_U _ _
          have hK32 : K ≤ 1048576 := by rw [← HKK.out]; exact Nat.le_trans (Nat.pow_le_pow_right (by decide) hM5) (by decide)
          have k6 := fun W (h : Below wr.heap.size wr W) => hAk.word a2 K c2 (forthQ l (shiftF (fo : Int)) M) y0 y1 fo y _ true W (HQ2'.out.keep h) HC2.out hWU (by omega) hy (by unfold I64; omega) hwv (HK.out _ _ HG.out (bthen HB2.out h))
          unfold WordPost at k6
          rw [hRl] at k6
          have k7 := fun W a1 c1 a2 c2 (q1 : QRowA W a1 (2 ^ k5) (forthQ (halfL l y k) (shiftF (f1' : Int)) k5)) (q2 : QRowA W a2 (2 ^ k5) (forthQ (halfL l y k) (shiftF (f1' : Int)) k5)) => sameq_is a1 a2 (2 ^ k5) (2 ^ k5) c1 c2 _ _ W q1 q2 rfl
          have aw := fun W (h : Below wr.heap.size wr W) => aw W (bthen HB2.out h)
          have HB : Hid (Below wr.heap.size wr wr) := Lib.hid (Below.refl _ _)
          generalize forthQ (halfL l y k) (shiftF (f1' : Int)) k5 = R at *
          generalize 2 ^ k5 = K5 at *
          clear hwv hRl hWl hWU hM hq0 HKN HKM HNM HKK HHF hj HK5 hk5 hkn hs' hf1'
          go_upto_region 19 with (first | (go_at_call 12; (with_reducible refine (s2 _).mono ?_); rintro e w5 ⟨rfl, hb⟩; replace y0c := bkeep hb y0c; replace y1c := bkeep hb y1c; replace HB := Lib.hid (bthen HB.out hb); clear hb) | (go_at_call 18; (with_reducible refine (f2 _ HB.out).mono ?_); rintro e w6 ⟨a6, c6, rfl, hb, hq6⟩; replace y0c := bkeep hb y0c; replace y1c := bkeep hb y1c; have HQ6 := Lib.hid hq6.at; replace HB := Lib.hid (bthen HB.out hb); clear hb hq6))
          go_upto_region 20 with (go_at_call 15; (with_reducible refine (k6 _ HB.out).mono ?_); rintro e w7 ⟨hb, a7, c7, rfl, hq7⟩; replace HQ6 := Lib.hid (HQ6.out.keep hb); have HQ7 := Lib.hid hq7; replace HB := Lib.hid (bthen HB.out hb); clear hb hq7)
          go_wp2_with (first
              | (go_at_call 8; (with_reducible refine (aw _ HB.out).mono ?_); rintro e w8 ⟨rfl, hb⟩; replace HQ6 := Lib.hid (HQ6.out.keep hb); replace HQ7 := Lib.hid (HQ7.out.keep hb); replace HB := Lib.hid (bthen HB.out hb); clear hb)
              | (go_at_call 17; (with_reducible refine (k7 _ _ _ _ _ HQ7.out HQ6.out).mono ?_); rintro e w9 ⟨rfl, nq, rfl⟩; replace HB := Lib.hid (below_drewN HB.out nq)))
          go_ret
          exact ⟨rfl, bthen HB0.out (bthen HB2.out HB.out)⟩
end Go.Proofs.YtepfdhcdalkddaaDoor
