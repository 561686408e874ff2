/-
  What the document's ForthPairs of layer 4 come to, in memory of its own.
-/
import Derived.Test.YthfkfgjhgicfeaaGreatDoorGNtt
namespace Go.Proofs.YthfkfgjhgicfeaaGreatDoor
open Go Go.RowKit
set_option linter.unusedVariables false

def NewArrQ (w : World) (n : Nat) (zs : List (Int × Int)) (e : Ending) (w' : World) : Prop := e = .returned (.slice (some ⟨w.heap.size, 0, none⟩) n n) ∧ Below w.heap.size w w' ∧ Arr w' w.heap.size (n * 2) (pc fun i => zs.getD i (0, 0))
def NewArrOk (w : World) (n : Nat) (zs : List (Int × Int)) (e : Ending) (w' : World) : Prop := ∃ g, e = .returned (.tuple #[.slice (some ⟨g, 0, none⟩) n n, .int .i64 0]) ∧ w.heap.size ≤ g ∧ Below w.heap.size w w' ∧ Arr w' g (n * 2) (pc fun i => zs.getD i (0, 0))
set_option maxHeartbeats 4000000 in
theorem refjoin_own (a b : Option Addr) (len ca cb : Nat) (xs ys : List Int) (w : World) (hx : RowA w a len xs) (hy : RowA w b len ys) (ux : ∀ n ∈ xs, U n) (uy : ∀ n ∈ ys, U n) (hl : len ≤ 4294967296) :
    Calls Tryz.prog 50 #[.slice a len ca, .slice b len cb] w (NewArrQ w len (joinL xs ys)) := by
  have hmk := fun W => run_make_pairs (P := Tryz.prog) 24 31 (.agg #[.int .u64 0, .int .u64 0]) Tryz.underlying24 infoQ' rfl len hl W
  obtain ⟨rfl, hlm, hcx⟩ := hx
  obtain ⟨hly, _, hcy⟩ := hy
  have HX := Lib.hid hcx; have HY := Lib.hid hcy; have HM := Lib.hid hlm; have HLY := Lib.hid hly
  have UX := Lib.hid (U_getD ux); have UY := Lib.hid (U_getD uy)
  have HJ := Lib.hid (joinL_at xs ys)
  unfold maxLen at hlm
  clear hcx hcy ux uy hly
  go_enter Tryz.func50, Tryz.ntmps50
  go_upto_region 3 with fail
  go_loopw [6] (JoinHead w xs.length w.heap.size (joinL xs ys)) (fun i _ => xs.length - (intOf i).toNat)
  case atStart => exact ⟨0, Nat.zero_le _, rfl, (Below.refl _ _).alloc (Nat.le_refl _) _, (Arr.newq w _ _).same (pc_same (fun i hi => by unfold uptoq; rw [if_neg (by omega)]))⟩
  case round =>
    obtain ⟨k, hk, rfl, hW, hA⟩ := hrel
    by_cases hlt : k < xs.length
    · obtain ⟨b1, o1, rfl, g0⟩ := HX.out k hlt
      obtain ⟨b2, o2, rfl, g1⟩ := HY.out k hlt
      replace g0 := bkeep hW g0
      replace g1 := bkeep hW g1
      have gx := UX.out k hlt
      have gy := UY.out k (by rw [HLY.out]; exact hlt)
      have m1 := radd_q (xs.getD k 0) (ys.getD k 0) 0 0 (toQ (xs.getD k 0, ys.getD k 0)) 0 (toQ (xs.getD k 0, ys.getD k 0)) (rep_raw gx gy) rep_zero (F2.add_zero _)
      obtain ⟨p, hp⟩ : ∃ v, enc (toQ (xs.getD k 0, ys.getD k 0)).a = v := ⟨_, rfl⟩
      obtain ⟨q, hq⟩ : ∃ v, enc (toQ (xs.getD k 0, ys.getD k 0)).b = v := ⟨_, rfl⟩
      have HU := Lib.hid (uptoq_step (joinL xs ys) k (p := p) (q := q) (by rw [HJ.out k hlt, ← hp, ← hq]; rfl))
      rw [hp, hq] at m1
      obtain ⟨c0, c1, f0, f1⟩ := hA.cells k hlt
      have HA := Lib.hid hA; have HW := Lib.hid hW
      clear hA hW gx gy hp hq
      generalize xs.getD k 0 = x at *
      generalize ys.getD k 0 = y at *
      have hlt' : (k : Int) < (xs.length : Int) := by omega
      have hk0 : (0 : Int) ≤ (k : Int) := by omega
      go_upto_region 5 with fail
      refine wp_loose [(16, []), (17, []), (18, []), (19, []), (20, [18, 19]), (21, [20]), (22, []), (23, []), (24, [22, 23]), (25, [24]), (26, [21, 25]), (27, []), (28, [26, 27]), (29, [16, 17])]
        (JoinR w.heap.size xs.length k b1 o1 ca b2 o2 cb x y p q) (fun d => false) (by kernel_rfl) (by kernel_rfl) (fun _ _ _ _ h hb => h.keep hb) ?_ ?_
      · refine opsrun_cons ?_ (opsrun_cons ?_ (opsrun_cons ?_ (opsrun_cons ?_ (opsrun_cons ?_ (opsrun_cons ?_ (opsrun_cons ?_ (opsrun_cons ?_ (opsrun_cons ?_ (opsrun_cons ?_ (opsrun_cons ?_ (opsrun_cons ?_ (opsrun_cons ?_ (opsrun_cons ?_ opsrun_nil)))))))))))))
        all_goals
          refine OpRuns.any ?_
          intro Q0 σ W' K hb hn hK
          simp only [fill, List.map, Act.put, List.setIfInBounds_toArray, List.set_cons_zero, List.set_cons_succ] at hK ⊢
        · clear hn
          go_simp
          exact hK _ _ rfl (Below.refl _ _) (fun h => absurd h (by decide))
        · clear hn
          go_simp
          exact hK _ _ rfl (Below.refl _ _) (fun h => absurd h (by decide))
        · clear hn
          go_simp
          exact hK _ _ rfl (Below.refl _ _) (fun h => absurd h (by decide))
        · clear hn
          go_simp
          exact hK _ _ rfl (Below.refl _ _) (fun h => absurd h (by decide))
        · have h18 : σ 18 = _ := hn 18 (by decide)
          have h19 : σ 19 = _ := hn 19 (by decide)
          clear hn
          simp only [h18, h19] at hK
          go_simp
          exact hK _ _ rfl (Below.refl _ _) (fun h => absurd h (by decide))
        · have h20 : σ 20 = _ := hn 20 (by decide)
          clear hn
          simp only [h20] at hK
          have g0' := bkeep hb g0
          clear g0
          go_simp
          exact hK _ _ rfl (Below.refl _ _) (fun h => absurd h (by decide))
        · clear hn
          go_simp
          exact hK _ _ rfl (Below.refl _ _) (fun h => absurd h (by decide))
        · clear hn
          go_simp
          exact hK _ _ rfl (Below.refl _ _) (fun h => absurd h (by decide))
        · have h22 : σ 22 = _ := hn 22 (by decide)
          have h23 : σ 23 = _ := hn 23 (by decide)
          clear hn
          simp only [h22, h23] at hK
          go_simp
          exact hK _ _ rfl (Below.refl _ _) (fun h => absurd h (by decide))
        · have h24 : σ 24 = _ := hn 24 (by decide)
          clear hn
          simp only [h24] at hK
          have g1' := bkeep hb g1
          clear g1
          go_simp
          exact hK _ _ rfl (Below.refl _ _) (fun h => absurd h (by decide))
        · have h21 : σ 21 = _ := hn 21 (by decide)
          have h25 : σ 25 = _ := hn 25 (by decide)
          clear hn
          simp only [h21, h25] at hK
          go_simp
          exact hK _ _ rfl (Below.refl _ _) (fun h => absurd h (by decide))
        · clear hn
          go_simp
          exact hK _ _ rfl (Below.refl _ _) (fun h => absurd h (by decide))
        · have h26 : σ 26 = _ := hn 26 (by decide)
          have h27 : σ 27 = _ := hn 27 (by decide)
          clear hn
          simp only [h26, h27] at hK
          go_simp
          go_at_call 33
          refine (m1 _).mono ?_
          rintro e w1 ⟨rfl, hb1⟩
          exact hK _ _ rfl hb1 (fun h => absurd h (by decide))
        · have h16 : σ 16 = _ := hn 16 (by decide)
          have h17 : σ 17 = _ := hn 17 (by decide)
          clear hn
          simp only [h16, h17] at hK
          go_simp
          exact hK _ _ rfl (Below.refl _ _) (fun h => absurd h (by decide))
      · intro σ W' hb hR' hF
        have h28 : σ 28 = _ := hR' 28 (by decide)
        have h29 : σ 29 = _ := hR' 29 (by decide)
        have c0' := bkeep hb c0
        have c1' := bkeep hb c1
        have f0' := bfree hb c0 f0
        have f1' := bfree hb c1 f1
        have HB2 := Lib.hid (bthen HW.out hb)
        have HA2 := Lib.hid hb
        clear hR' hF c0 c1 f0 f1 g0 g1 m1 hb
        simp only [fill, List.map, Act.put, List.setIfInBounds_toArray, List.set_cons_zero, List.set_cons_succ, List.length_cons, List.length_nil, List.drop_succ_cons, List.drop_zero, Nat.reduceAdd, h28, h29]
        clear h28 h29
        go_wp2
        go_roundw
        case rel => exact ⟨k + 1, by omega, by go_num, (HB2.out.setCell (by simp) _).setCell (by simp) _, ((HA.out.keep HA2.out).setq k p q hlt).same (pc_same (fun i _ => HU.out i))⟩
        case measure => simp [intOf]; omega
    · obtain rfl : k = xs.length := by omega
      have R1 := Lib.hid (hA.same (pc_same (y := fun i => (joinL xs ys).getD i (0, 0)) (uptoq_all (joinL xs ys) xs.length)))
      clear hA hlt
      go_wp2
      go_ret
      exact ⟨rfl, hW, R1.out⟩
set_option maxHeartbeats 4000000 in
theorem refforthq_own (a : Option Addr) (len cap : Nat) (zs : List (Int × Int)) (zi : Int) (hz : U zi) (s : F) (hs : toF zi = s) (k : Nat) (hk : k ≤ 20) (w : World) (hr : QRowA w a len zs) (hu : ∀ n ∈ zs, U n.1 ∧ U n.2) (hl : len ≤ 2 ^ k) :
    Calls Tryz.prog 21 #[.slice a len cap, .int .u64 zi, .int .i64 k] w (NewArrOk w (2 ^ k) (forthQ zs s k)) := by
  have P2 : 2 ^ k ≤ 2 ^ 20 := Nat.pow_le_pow_right (by decide) hk
  have p1 := refparts_any a len cap zs w hr (by omega)
  have k1 := fun a c W h => refforth_yes a len c (fsts zs) zi hz s hs k hk W h (fsts_U hu) hl
  have k2 := fun a c W h => refforth_yes a len c (snds zs) zi hz s hs k hk W h (snds_U hu) hl
  have j1 := fun a b ca cb W hx hy => refjoin_own a b (2 ^ k) ca cb (forthL (fsts zs) s k) (forthL (snds zs) s k) W hx hy (forthL_U _ _ _) (forthL_U _ _ _) (by omega)
  unfold NewTwo at p1
  unfold NewOk at k1 k2
  unfold NewArrQ at j1
  generalize hn : 2 ^ k = n at *
  have HN := Lib.hid hn
  clear hr hu hl hz hs P2 hn
  go_enter Tryz.func21, Tryz.ntmps21
  go_upto_region 2 with ((go_at_call 48; ((with_reducible refine p1.mono ?_); rintro e w1 ⟨a1, c1, a2, c2, rfl, hB, h1, h2⟩)))
  go_upto_region 3 with ((go_at_call 49; ((with_reducible refine (k1 _ _ _ h1.at).mono ?_); rintro e w2 ⟨a3, c3, rfl, hb, h3⟩; replace h2 := h2.below hb; replace hB := bthen hB hb; clear hb h1)))
  go_upto_region 4 with ((go_at_call 49; ((with_reducible refine (k2 _ _ _ h2.at).mono ?_); rintro e w3 ⟨a4, c4, rfl, hb, h4⟩; replace h3 := h3.below hb; replace hB := bthen hB hb; clear hb h2)))
  go_wp2_with ((go_at_call 50; ((with_reducible refine (j1 _ _ _ _ _ h3.at h4.at).mono ?_); rintro e w4 ⟨rfl, hb, h5⟩; have hs := hB.size; replace hB := bthen hB hb)))
  exact bodyPost_ret (v := .tuple #[.slice (some ⟨w3.heap.size, 0, none⟩) n n, .int .i64 0]) (by simp [results, Tryz.results21, go_sem]) rfl ⟨_, rfl, hs, hB, h5⟩
end Go.Proofs.YthfkfgjhgicfeaaGreatDoor
