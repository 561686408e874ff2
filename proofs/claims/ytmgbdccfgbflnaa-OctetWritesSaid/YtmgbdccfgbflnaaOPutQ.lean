/-
  The program's Pairs.
-/
import Derived.Test.YtmgbdccfgbflnaaOPut
namespace Go.Proofs.Ytmgbdccfgbflnaa
open Go Go.RowKit Go.Sort Go.BigFrame
set_option linter.unusedVariables false

/-- The row under way, while the region of the two calls runs. -/
def curB (D : Nat → Bool) (σ : Nat → Value) (v : Value) : Value := if D 22 = true then σ 22 else if D 19 = true then σ 19 else v
def curX (D : Nat → Bool) (xs : List Int) (x y : Int) : List Int := if D 22 = true then xs ++ octs x 8 ++ octs y 8 else if D 19 = true then xs ++ octs x 8 else xs
structure PutsW (w : World) (v : Value) (xs : List Int) (g : Nat) (x y : Int) (val : Nat → Value) (D : Nat → Bool) (σ : Nat → Value) (W : World) : Prop where
  var : Var W g x y
  row : MadeB w W (curB D σ v) (curX D xs x y)
  far : (curB D σ v).ownBlock ≠ some g
  ord : D 22 = true → D 19 = true
  sv : ∀ d, d ∈ [16, 17, 18, 20, 21] → D d = true → σ d = val d
section
variable {w : World} {v : Value} {xs : List Int} {g : Nat} {x y : Int} {val : Nat → Value} {D : Nat → Bool} {σ : Nat → Value} {W : World}
theorem PutsW.start (h : MadeB w W v xs) (hv : Var W g x y) (hf : v.ownBlock ≠ some g) (σ : Nat → Value) : PutsW w v xs g x y val (fun _ => false) σ W :=
  ⟨hv, h, hf, fun h => absurd h Bool.false_ne_true, fun d _ h => absurd h Bool.false_ne_true⟩
theorem PutsW.next (h : PutsW w v xs g x y val D σ W) {d : Nat} {u : Value} (h0 : d ≠ 19 ∧ d ≠ 22) (hu : u = val d) : PutsW w v xs g x y val (fun k => if k = d then true else D k) (fun k => if k = d then u else σ k) W := by
  obtain ⟨h1, h2⟩ := h0
  have e1 : curB (fun k => if k = d then true else D k) (fun k => if k = d then u else σ k) v = curB D σ v := by unfold curB; simp [Ne.symm h1, Ne.symm h2]
  have e2 : curX (fun k => if k = d then true else D k) xs x y = curX D xs x y := by unfold curX; simp [Ne.symm h1, Ne.symm h2]
  refine ⟨h.var, by rw [e1, e2]; exact h.row, by rw [e1]; exact h.far, by simpa [Ne.symm h1, Ne.symm h2] using h.ord, fun e he => ?_⟩
  by_cases c : e = d
  · subst c; intro _; simp only [if_pos]; exact hu
  · simp only [if_neg c]; exact h.sv e he
theorem Grew.far {W W' : World} {v v' : Value} (hG : Grew W W' v v') (hv : Var W g x y) (hf : v.ownBlock ≠ some g) : Var W' g x y ∧ v'.ownBlock ≠ some g := by
  refine ⟨hv.grown hG.grown hf, fun h => ?_⟩
  rcases hG.own g h with c | c
  · exact hf c
  · have := hv.lt; omega
theorem PutsW.put1 (h : PutsW w v xs g x y val D σ W) (hd : D 19 = false) {v' : Value} {W' : World} (hM : MadeB w W' v' (xs ++ octs x 8)) (hG : Grew W W' v v') : PutsW w v xs g x y val (fun k => if k = 19 then true else D k) (fun k => if k = 19 then v' else σ k) W' := by
  have d22 : D 22 = false := by
    cases c : D 22 with
    | false => rfl
    | true => have := h.ord c; rw [hd] at this; cases this
  have e0 : curB D σ v = v := by unfold curB; simp [d22, hd]
  have e1 : curB (fun k => if k = 19 then true else D k) (fun k => if k = 19 then v' else σ k) v = v' := by unfold curB; simp [d22]
  have e2 : curX (fun k => if k = 19 then true else D k) xs x y = xs ++ octs x 8 := by unfold curX; simp [d22]
  obtain ⟨f1, f2⟩ := hG.far h.var (e0 ▸ h.far)
  refine ⟨f1, by rw [e1, e2]; exact hM, by rw [e1]; exact f2, by simp [d22], fun e he => ?_⟩
  have c : e ≠ 19 := by intro c; subst c; revert he; decide
  simp only [if_neg c]; exact h.sv e he
theorem PutsW.put2 (h : PutsW w v xs g x y val D σ W) (hd : D 22 = false) (h19 : D 19 = true) {v' : Value} {W' : World} (hM : MadeB w W' v' (xs ++ octs x 8 ++ octs y 8)) (hG : Grew W W' (σ 19) v') : PutsW w v xs g x y val (fun k => if k = 22 then true else D k) (fun k => if k = 22 then v' else σ k) W' := by
  have e0 : curB D σ v = σ 19 := by unfold curB; simp [hd, h19]
  have e1 : curB (fun k => if k = 22 then true else D k) (fun k => if k = 22 then v' else σ k) v = v' := by unfold curB; simp
  have e2 : curX (fun k => if k = 22 then true else D k) xs x y = xs ++ octs x 8 ++ octs y 8 := by unfold curX; simp
  obtain ⟨f1, f2⟩ := hG.far h.var (e0 ▸ h.far)
  refine ⟨f1, by rw [e1, e2]; exact hM, by rw [e1]; exact f2, by simp [h19], fun e he => ?_⟩
  have c : e ≠ 22 := by intro c; subst c; revert he; decide
  simp only [if_neg c]; exact h.sv e he
theorem PutsW.at19 (h : PutsW w v xs g x y val D σ W) (hd : D 19 = false) : MadeB w W v xs := by
  have d22 : D 22 = false := by
    cases c : D 22 with
    | false => rfl
    | true => have := h.ord c; rw [hd] at this; cases this
  have := h.row
  unfold curB curX at this
  simpa [d22, hd] using this
theorem PutsW.at22 (h : PutsW w v xs g x y val D σ W) (hd : D 22 = false) (h19 : D 19 = true) : MadeB w W (σ 19) (xs ++ octs x 8) := by
  have := h.row
  unfold curB curX at this
  simpa [hd, h19] using this
theorem PutsW.done (h : PutsW w v xs g x y val D σ W) (hd : D 22 = true) : MadeB w W (σ 22) (xs ++ octs x 8 ++ octs y 8) := by
  have := h.row
  unfold curB curX at this
  simpa [hd] using this
end
def PutsVal (v : Value) (g : Nat) (x y : Int) : Nat → Value
  | 16 => v
  | 17 => .pointer (some ⟨g, 0, none⟩)
  | 18 => .int .u64 x
  | 20 => .pointer (some ⟨g, 1, none⟩)
  | 21 => .int .u64 y
  | _ => undef
/-- The bytes of pairs, so many of them. -/
def pairL (zs : List (Int × Int)) : Nat → List Int
  | 0 => []
  | k + 1 => pairL zs k ++ octs (zs.getD k (0, 0)).1 8 ++ octs (zs.getD k (0, 0)).2 8
theorem pairL_len (zs : List (Int × Int)) : ∀ k, (pairL zs k).length = 16 * k
  | 0 => rfl
  | k + 1 => by rw [pairL, List.length_append, List.length_append, pairL_len zs k, octs_len, octs_len]; omega
theorem pairL_text (zs : List (Int × Int)) : ∀ k, strOfNums (pairL zs k) = pairT zs k
  | 0 => rfl
  | k + 1 => by rw [pairL, strOf_octs, strOf_octs, pairL_text zs k, pairT]
def PairRel (w : World) (zs : List (Int × Int)) (s i : Value) (W : World) : Prop := ∃ k : Nat, k ≤ zs.length ∧ i = .int .i64 k ∧ MadeB w W s (pairL zs k)
set_option maxHeartbeats 1000000 in
theorem opairs_is (a : Option Addr) (len cap : Nat) (zs : List (Int × Int)) (w : World) (hr : QRowA w a len zs) (hu : ∀ n ∈ zs, U n.1 ∧ U n.2) (hl : len ≤ 100000) :
    Calls Try.prog 12 #[.slice a len cap] w fun e w' => e = .returned (.string (pairB zs)) ∧ Below w.heap.size w w' := by
  obtain ⟨rfl, hlm, hcell⟩ := hr
  unfold maxLen at hlm
  have HU : Hid (∀ k, k < zs.length → U (zs.getD k (0, 0)).1 ∧ U (zs.getD k (0, 0)).2) := Lib.hid fun k hk => by
    simp only [List.getD, List.getElem?_eq_getElem hk]
    exact hu _ (List.getElem_mem hk)
  have HC := Lib.hid hcell
  clear hcell hu
  have hw8 : IntKind.i64.wrap (16 * (zs.length : Int)) = 16 * (zs.length : Int) := IntWalk.i64_in _ (by omega)
  have hmk := fun W => make_bytes (16 * zs.length) (by omega) W
  rw [show ((16 * zs.length : Nat) : Int) = 16 * (zs.length : Int) by omega] at hmk
  go_enter Try.func12, Try.ntmps12
  go_upto_region 2 with fail
  refine wp_gen (fun W => MadeB w W (.slice (some ⟨w.heap.size, 0, none⟩) 0 (16 * zs.length)) []) (MadeB.made w _ (by omega)) ?_
  clear hmk hw8
  intro W hM
  have HM := Lib.hid hM
  clear hM
  go_upto_region 3 with fail
  go_loopw [3, 12] (PairRel w zs) (fun _ i _ => zs.length - (intOf i).toNat)
  case atStart => exact ⟨0, Nat.zero_le _, rfl, HM.out⟩
  case round =>
    clear HM
    obtain ⟨k, hk, rfl, hM⟩ := hrel
    by_cases hlt : k < zs.length
    · obtain ⟨b, off, rfl, g0, g1⟩ := HC.out k hlt
      have c0 := bkeep hM.2 g0; have c1 := bkeep hM.2 g1
      clear g0 g1
      have hlt' : (k : Int) < (zs.length : Int) := by omega
      obtain ⟨hz1, hz2⟩ := HU.out k hlt
      have HS := Lib.hid (show pairL zs k ++ octs (zs.getD k (0, 0)).1 8 ++ octs (zs.getD k (0, 0)).2 8 = pairL zs (k + 1) from rfl)
      have hlen := pairL_len zs k
      generalize zs.getD k (0, 0) = z at *
      obtain ⟨z1, z2⟩ := z
      simp only at *
      generalize pairL zs k = ys at *
      have HM := Lib.hid hM
      clear hM
      go_upto_region 5 with fail
      have hgt : u3.ownBlock ≠ some wr.heap.size := fun h => by have := (HM.out.1.lt _ h).2; omega
      refine wp_gen (fun W => MadeB w W u3 ys ∧ Var W wr.heap.size z1 z2) ⟨HM.out.keep ((Below.refl _ _).alloc (Nat.le_refl _) _), Var.new wr z1 z2 _⟩ ?_
      clear HM c0 c1
      rintro W ⟨hM, hV⟩
      generalize wr.heap.size = g at *
      have hdw := (Below.refl W.heap.size W).drew
      have hM' := hM.keep hdw; have hV' := hV.keep hdw
      have HC2 := Lib.hid HC
      refine wp_lay [(16, []), (17, []), (18, [17]), (19, [16, 18]), (20, []), (21, [20]), (22, [19, 21])]
        (PutsW w u3 ys g z1 z2 (PutsVal u3 g z1 z2)) (by kernel_rfl) (by kernel_rfl) (fun σ => PutsW.start hM' hV' hgt σ) ?_ ?_
      · refine opsw_cons ?_ (opsw_cons ?_ (opsw_cons ?_ (opsw_cons ?_ (opsw_cons ?_ (opsw_cons ?_ (opsw_cons ?_ opsw_nil))))))
        all_goals
          refine OpRunsW.any ?_
          intro Q0 D σ W K hW hd hn hK
          simp only [fill, List.map, Act.put, List.setIfInBounds_toArray, List.set_cons_zero, List.set_cons_succ] at hK ⊢
        · have HW := Lib.hid hW
          clear hW
          go_simp
          exact hK _ _ (HW.out.next (by decide) rfl)
        · have HW := Lib.hid hW
          clear hW
          go_simp
          exact hK _ _ (HW.out.next (by decide) rfl)
        · have h17 : σ 17 = _ := hW.sv 17 (by decide) (hn 17 (by decide))
          unfold PutsVal at h17
          simp only [h17] at hK
          obtain ⟨v0, v1, f0, f1⟩ := hW.var
          have HW := Lib.hid hW
          clear hW
          go_simp
          exact hK _ _ (HW.out.next (by decide) rfl)
        · have h16 : σ 16 = _ := hW.sv 16 (by decide) (hn 16 (by decide))
          have h18 : σ 18 = _ := hW.sv 18 (by decide) (hn 18 (by decide))
          unfold PutsVal at h16 h18
          simp only [h16, h18] at hK ⊢
          have hm := hW.at19 hd
          have HW := Lib.hid hW
          clear hW
          go_simp
          go_at_call 23
          refine (oput_is w _ ys z1 hz1 W hm (by omega)).mono ?_
          rintro e w1 ⟨v', rfl, hM1, hG⟩
          exact hK _ _ (HW.out.put1 hd hM1 hG)
        · have HW := Lib.hid hW
          clear hW
          go_simp
          exact hK _ _ (HW.out.next (by decide) rfl)
        · have h20 : σ 20 = _ := hW.sv 20 (by decide) (hn 20 (by decide))
          unfold PutsVal at h20
          simp only [h20] at hK
          obtain ⟨v0, v1, f0, f1⟩ := hW.var
          have HW := Lib.hid hW
          clear hW
          go_simp
          exact hK _ _ (HW.out.next (by decide) rfl)
        · have h21 : σ 21 = _ := hW.sv 21 (by decide) (hn 21 (by decide))
          unfold PutsVal at h21
          simp only [h21] at hK ⊢
          have hm := hW.at22 hd (hn 19 (by decide))
          have HD := Lib.hid (hn 19 (by decide))
          have HW := Lib.hid hW
          clear hW
          go_simp
          go_at_call 23
          refine (oput_is w _ (ys ++ octs z1 8) z2 hz2 W hm (by rw [List.length_append, octs_len]; omega)).mono ?_
          rintro e w1 ⟨v', rfl, hM1, hG⟩
          exact hK _ _ (HW.out.put2 hd (HD.out) hM1 hG)
      · intro D σ W hW hD
        have hm := hW.done (hD 22 (by decide))
        rw [HS.out] at hm
        generalize hv22 : σ 22 = v22 at *
        have HM2 := Lib.hid hm
        clear hW hm hD hM hM' hV hV' hdw
        simp only [fill, List.map, Act.put, List.setIfInBounds_toArray, List.set_cons_zero, List.set_cons_succ, List.length_cons, List.length_nil, List.drop_succ_cons, List.drop_zero, Nat.reduceAdd, hv22]
        go_wp2_with fail
        go_roundw
        case rel => exact ⟨k + 1, by omega, by go_num, HM2.out⟩
        case measure => simp [intOf]; omega
    · obtain rfl : k = zs.length := by omega
      have hB := hM.2
      have ht := pairL_text zs zs.length
      have hlen := pairL_len zs zs.length
      have hx := hM.text
      rw [hlen] at hx
      rcases hx with ⟨rfl, h0⟩ | ⟨g, cp, rfl, hc⟩
      · have hcv := run_convert_bytes_nil (P := Try.prog) wr 44 5 rfl rfl 0 0 9 rfl
        rw [h0] at ht
        have ht' : ByteArray.empty = pairB zs := ht
        rw [ht'] at hcv
        clear ht ht' hM hlen
        go_wp2
        go_ret
        exact ⟨rfl, hB⟩
      · have hcv := run_convert_bytes_arg (P := Try.prog) wr 44 5 rfl rfl g 0 _ cp (pairL zs zs.length) hlen hc 9 rfl
        have ht' : strOfNums (pairL zs zs.length) = pairB zs := ht
        rw [ht'] at hcv
        clear ht ht' hM hc hlen
        go_wp2
        go_ret
        exact ⟨rfl, hB⟩
end Go.Proofs.Ytmgbdccfgbflnaa
