/-
  What the program's Make of layer 19 comes to.
-/
import Derived.Test.YtjcgakmhpblanaaTrPro2
namespace Go.Proofs.Ytjcgakmhpblanaa
open Go Go.RowKit
set_option linter.unusedVariables false

theorem AirP.steps_ev {A : AirP} (h : A.check = 0) (k : Nat) (hk : k < (opsL A.steps).length) : (∀ o ∈ (opsL A.steps).getD k [], OkO o) ∧ EvOk ((opsL A.steps).getD k []) A.cols := by
  rw [opsL_len] at hk
  rw [opsL_at hk]
  obtain ⟨d, p1, p2, _⟩ := AirP.step_ok h hk
  have e : (parseB (tx A.steps k)).1 = A.stepL k := rfl
  rw [e]
  exact ⟨step_okO p1, checkB_evok p2⟩
theorem beh_next {A : AirP} (hs : (A.steps.length : Int) = A.cols) (row : List Int) : behV (opsL A.steps) row = A.nextRow row := by
  refine List.ext_getElem (by rw [behV_len, opsL_len, AirP.nextRow_len]; omega) fun j h1 h2 => ?_
  have hj : j < A.steps.length := by rw [behV_len, opsL_len] at h1; exact h1
  have e1 := behV_at (ls := opsL A.steps) (row := row) (k := j) (by rw [opsL_len]; exact hj)
  have e2 := AirP.nextRow_at A row (i := j) (by omega)
  rw [opsL_at hj] at e1
  have e3 : enc (evB numA (rowF row) (rowF row) (parseB (tx A.steps j)).1) = enc (A.nextV row j) := rfl
  rw [e3, ← e2] at e1
  simpa [List.getD, h1, h2] using e1
set_option maxRecDepth 100000 in
set_option maxHeartbeats 8000000 in
theorem pmake_is (A : AirP) (p : AirAt) (a : Option Addr) (cap : Nat) (first : List Int) (rows : List (List Int)) (r : Int) (w : World) (hA : AirA w A p) (hk : OkAir A) (hf : FewAir A) (hp : RowA w a first.length first) (hpu : UsR first) (hz : A.make first = (rows, r)) :
    Calls Try.prog 10 #[A.val p, .slice a first.length cap] w (MakePost w rows r) := by
  have HNO : Hid (¬ A.makes first → [] = rows ∧ 1 = r) := Lib.hid fun h => by rw [AirP.make_no h] at hz; exact Prod.mk.inj hz
  have HYES : Hid (A.makes first → A.rowsUp first A.size.toNat = rows ∧ 0 = r) := Lib.hid fun h => by rw [AirP.make_ok h] at hz; exact Prod.mk.inj hz
  obtain ⟨i1, ki, kz0, kz1, kz2⟩ := info_parts infoNS
  have HP := Lib.hid hp; have HPU := Lib.hid hpu
  obtain ⟨ec, hec⟩ : ∃ e, A.check = e := ⟨_, rfl⟩
  have kc := fun W (h : AirA W A p) => pacheck_is A p ec W h hk hf hec
  have HEC := Lib.hid hec
  have hA0' := Lib.hid hA
  have HK := Lib.hid hk
  have hsl40 := hf.1
  have hpm := hp.2.1
  unfold maxLen at hpm
  clear hz hp hA hec hpu hk hf
  go_enter Try.func10, Try.ntmps10
  go_upto_region 1 with fail
  refine wp_gen (fun W => Below w.heap.size w W ∧ AirC W w.heap.size A p) ⟨(Below.refl _ _).alloc (Nat.le_refl _) _, AirC.new _ _ _ _⟩ ?_
  obtain ⟨g, hg⟩ : ∃ g, w.heap.size = g := ⟨_, rfl⟩
  rintro w0 ⟨hB0, hC0⟩
  rw [hg] at hC0
  simp only [hg]
  have HA0 := Lib.hid (hA0'.out.keep hB0)
  have HP0 := Lib.hid (HP.out.keep hB0)
  have HB := Lib.hid hB0
  have HC := Lib.hid hC0
  clear hB0 hg hA0'
  obtain ⟨x0, x1, x2, x3, x4⟩ := hC0
  by_cases h1 : ec = 0
  case neg =>
    obtain ⟨hD, hD2⟩ := HNO.out (fun hw => h1 (HEC.out.symm.trans hw.1))
    subst hD hD2
    clear HNO HYES
    go_wp2_with (go_at_call 23; (with_reducible refine (kc _ HA0.out).mono ?_); rintro E w1 ⟨rfl, hb⟩; replace HB := Lib.hid (bthen HB.out hb); clear hb)
    exact bodyPost_ret (v := .tuple #[.slice none 0 0, .int .i64 1]) (by simp [results, Try.results10, go_sem]) rfl ⟨HB.out, none, 0, rfl, tabA_nil _ _, Nat.le_refl _⟩
  subst h1
  have ks := fun W => pasize_is A p W (AirP.check_ok HEC.out).1
  by_cases h2 : (A.steps.length : Int) = 0
  · obtain ⟨hD, hD2⟩ := HNO.out (fun hw => hw.2.1 (by omega))
    subst hD hD2
    have e2 : ((A.steps.length : Int) == 0) = true := by simpa using h2
    clear HNO HYES h2
    go_wp2_with (go_at_call 23; (with_reducible refine (kc _ HA0.out).mono ?_); rintro E w1 ⟨rfl, hb⟩; replace HB := Lib.hid (bthen HB.out hb); replace x2 := bkeep hb x2; clear hb)
    exact bodyPost_ret (v := .tuple #[.slice none 0 0, .int .i64 1]) (by simp [results, Try.results10, go_sem]) rfl ⟨HB.out, none, 0, rfl, tabA_nil _ _, Nat.le_refl _⟩
  have e2 : ((A.steps.length : Int) == 0) = false := by simpa using h2
  obtain ⟨fp, hfp⟩ : ∃ z, decide ((first.length : Int) = A.cols ∧ KeptR first) = z := ⟨_, rfl⟩
  have kf := fun W (h : RowA W a first.length first) => pfit_is a cap first A.cols fp W hfp h
  cases fp
  case false =>
    obtain ⟨hD, hD2⟩ := HNO.out (fun hw => of_decide_eq_false hfp ⟨hw.2.2.1, hw.2.2.2⟩)
    subst hD hD2
    clear HNO HYES h2 hfp
    go_wp2_with (first
      | (go_at_call 23; (with_reducible refine (kc _ HA0.out).mono ?_); rintro E w1 ⟨rfl, hb⟩; replace HB := Lib.hid (bthen HB.out hb); replace HP0 := Lib.hid (HP0.out.keep hb); replace x2 := bkeep hb x2; replace x0 := bkeep hb x0; clear hb)
      | (go_at_call 24; (with_reducible refine (kf _ HP0.out).mono ?_); rintro E w3 ⟨rfl, rfl⟩))
    exact bodyPost_ret (v := .tuple #[.slice none 0 0, .int .i64 1]) (by simp [results, Try.results10, go_sem]) rfl ⟨HB.out, none, 0, rfl, tabA_nil _ _, Nat.le_refl _⟩
  have hpub := of_decide_eq_true hfp
  have hmk : A.makes first := ⟨HEC.out, by omega, hpub.1, hpub.2⟩
  have HMK := Lib.hid hmk
  obtain ⟨hD, hD2⟩ := HYES.out hmk
  have HD := Lib.hid hD
  subst hD2
  obtain ⟨hc1, hc8, hcN⟩ := AirP.makes_len hmk.1
  have hsz := AirP.size_bd (AirP.check_ok hmk.1).1
  have hfl : (first.length : Int) = A.cols := hmk.2.2.1
  have hsteps : (A.steps.length : Int) = A.cols := by
    have h := (AirP.check_ok hmk.1).2.1.2.2.1
    have := hmk.2.1
    omega
  have ko := fun W (h : AirA W A p) => poperations_is p.sa p.sc A.steps W h.1 HK.out.steps hsl40
  have kcl := fun W (h : RowA W a first.length first) => clone_own a cap first W h (by omega) (by omega)
  clear HNO HYES hmk hD hpub hfp h2
  go_upto_region 4 with (first
    | (go_at_call 23; (with_reducible refine (kc _ HA0.out).mono ?_); rintro E w1 ⟨rfl, hb⟩; replace HB := Lib.hid (bthen HB.out hb); replace HC := Lib.hid (HC.out.keep hb); replace HA0 := Lib.hid (HA0.out.keep hb); replace HP0 := Lib.hid (HP0.out.keep hb); replace x0 := bkeep hb x0; replace x2 := bkeep hb x2; clear hb)
    | (go_at_call 24; (with_reducible refine (kf _ HP0.out).mono ?_); rintro E w3 ⟨rfl, rfl⟩)
    | (go_at_call 25; (with_reducible refine (ko _ HA0.out).mono ?_); rintro E wb ⟨hb, ao, co, rfl, hO⟩; replace HB := Lib.hid (bthen HB.out hb); replace HC := Lib.hid (HC.out.keep hb); replace HP0 := Lib.hid (HP0.out.keep hb); have HO := Lib.hid hO; clear hb hO x0 x2))
  clear x1 x3 x4 kc kf ko e2 HA0
  go_upto_region 5 with (go_at_call 26; (with_reducible refine (kcl _ HP0.out).mono ?_); rintro E w4 ⟨v4, rfl, hM4⟩; obtain ⟨av, cv, rfl⟩ := own_form hM4.1; have HM4 := Lib.hid hM4; clear hM4 kcl)
  have hN1 : NumRows wb (w4.alloc (.cells #[.slice av first.length cv] 26)) (.slice (some ⟨w4.heap.size, 0, none⟩) 1 1) (A.rowsUp first 1) := RowsG.one HM4.out.2 HM4.out.1
  refine wp_gen (fun W => NumRows wb W (.slice (some ⟨w4.heap.size, 0, none⟩) 1 1) (A.rowsUp first 1)) hN1 ?_
  clear hN1
  rintro W0 hN
  have HN := Lib.hid hN
  clear hN
  go_loopw [7] (fun o W => MakeRel wb A first o W) (fun o _ => A.size.toNat + 1 - lenR o)
  case atStart => exact ⟨1, Nat.le_refl _, by omega, HN.out⟩
  case round =>
    clear HN HM4
    obtain ⟨k, hk1, hkn, hN⟩ := hrel
    have hlk := AirP.rowsUp_len A first k
    obtain ⟨g7, c7, rfl, hT, hc7, _⟩ := numRows_told hN
    rw [hlk] at hT hc7 ⊢
    obtain ⟨y0, y1, y2, y3, y4⟩ := HC.out.keep hN.below
    have HN := Lib.hid hN; have HT := Lib.hid hT
    have HLK := Lib.hid hlk; have HC7 := Lib.hid hc7
    clear hN hT hlk hc7
    by_cases hlt : k < A.size.toNat
    · have hltI : (k : Int) < A.size := by omega
      obtain ⟨J, hJ⟩ : ∃ J, k = J + 1 := ⟨k - 1, by omega⟩
      have hJk : J < k := by omega
      have hJI : (J : Int) < (k : Int) := by omega
      have hJ0 : (0 : Int) ≤ (J : Int) := by omega
      have hw1 : IntKind.i64.wrap ((k : Int) - 1) = (J : Int) := by rw [IntWalk.i64_in _ (by omega)]; omega
      have hw2 : wrap64 ((k : Int) - 1) = (J : Int) := by rw [IntWalk.wrap64_in _ (by omega)]; omega
      have HRA := Lib.hid (AirP.rowsUp_at A first hJk)
      obtain ⟨gb, off, _, hga, _, ak, ck, c0, hrow, _⟩ := HT.out.2.2 J hJk
      rw [show (A.rowsUp first k).getD J [] = A.rowAt first J from HRA.out] at c0 hrow
      obtain ⟨hll, hlkp⟩ := AirP.rowAt_len HMK.out J
      have hlu := AirP.rowAt_U (A := A) HPU.out J
      have hsn : A.rowsUp first (k + 1) = A.rowsUp first k ++ [A.nextRow (A.rowAt first J)] := by rw [AirP.rowsUp_snoc, hJ]; rfl
      have HSN := Lib.hid hsn
      generalize A.rowAt first J = last at *
      have hl8 : last.length ≤ 8 := by omega
      have hnl : (A.nextRow last).length ≤ 8 := by rw [AirP.nextRow_len]; omega
      have kb := fun W (h1 : OpRows W ao A.steps.length (opsL A.steps)) (h2 : RowA W ak last.length last) => pbehind_is ao co (opsL A.steps) ak ck last A.cols W (by rw [opsL_len]; exact h1) (AirP.steps_ev HMK.out.1) h2 hlu (by omega) (by rw [opsL_len]; exact hsl40)
      rw [opsL_len, beh_next hsteps last] at kb
      generalize A.nextRow last = nx at *
      have HROWL := Lib.hid hrow
      have HOW := Lib.hid (opRows_keep HO.out HN.out.below)
      subst hga
      clear hJ hrow hlu hlkp hsn
      go_upto_region 6 with (go_at_call 27; (with_reducible refine (ks _).mono ?_); rintro E w2 ⟨rfl, hb⟩; replace c0 := bkeep hb c0; replace HROWL := Lib.hid (HROWL.out.keep hb); replace HOW := Lib.hid (opRows_keep HOW.out hb); replace HN := Lib.hid (HN.out.keep hb); clear hb y0 y1 y2 y3 y4)
      go_wp2_with (first
        | (go_at_call 28; (with_reducible refine (kb _ HOW.out HROWL.out).mono ?_); rintro E w5 ⟨v5, rfl, hM5⟩; obtain ⟨rs, hm1, hm2⟩ := HN.out.keep hM5.2; have hu := own_mono' hM5.1 HN.out.below.size; obtain ⟨a9, c9, rfl⟩ := own_form hu; have hown := hm1.1; rw [valsR_len, HLK.out] at hown; have hsz0 := hm1.2.size; have HM1 := Lib.hid hm1; have HM2 := Lib.hid hm2; have HU := Lib.hid hu; have HOWN := Lib.hid hown; clear hm1 hm2 hu hM5 hown)
        | (at_builtin; refine wpList_append_own _ rfl _ _ 29 rfl wb.heap.size 26 i1 (.slice none 0 0) 1 24 Try.underlying29 ki kz0 kz1 kz2 rfl (by decide) _ _ _ rfl (HOWN.out.alloc _) ⟨w5.heap.size, 0, none⟩ 1 1 [.slice a9 nx.length c9] rfl rfl (one_src (by simp [go_sem])) (by intro u hu; simp at hu; subst hu; rfl) (by unfold maxLen; omega) (by omega) (by simp; omega) ?_; rintro v7 w7 q1 q2 _; have Q1 := Lib.hid q1; have Q2 := Lib.hid q2; obtain ⟨a8, c8, rfl⟩ := own_form q1; clear q1 q2))
      have hal : Below w5.heap.size w5 (w5.alloc (.cells #[.slice a9 nx.length c9] 26)) := (Below.refl _ _).alloc (Nat.le_refl _) _
      have q1 := Q1.out
      have q2 := Q2.out
      rw [← HLK.out] at q2
      have R : Hid (NumRows wb w7 (.slice a8 (k + 1) c8) (A.rowsUp first (k + 1))) := Lib.hid (by
        rw [HSN.out]
        exact RowsG.more (by decide) (HM1.out.keep hal) (fun j hj => own_keep (HM2.out j hj) hal) (own_keep HU.out hal) q2 (MadeG.grow (HM1.out.keep hal) (by rw [valsR_len, HLK.out]; exact q1) q2))
      clear q1 q2 hal Q1 Q2 HOWN HM1 HM2 HU
      go_roundw
      case rel => exact ⟨k + 1, by omega, by omega, R.out⟩
      case measure => simp [lenR]; omega
    · obtain rfl : k = A.size.toNat := by omega
      have hge : ¬ ((A.size.toNat : Nat) : Int) < A.size := by omega
      go_wp2_with (go_at_call 27; (with_reducible refine (ks _).mono ?_); rintro E w2 ⟨rfl, hb⟩; replace HT := Lib.hid (tabA_keep HT.out hb); replace HN := Lib.hid (HN.out.keep hb); clear hb)
      exact bodyPost_ret (v := .tuple #[.slice g7 A.size.toNat c7, .int .i64 0]) (by simp [results, Try.results10, go_sem]) rfl ⟨bthen HB.out HN.out.below, g7, c7, by rw [← HD.out, HLK.out], by rw [← HD.out, HLK.out]; exact tabA_mono HT.out HB.out.size, by rw [← HD.out, HLK.out]; exact HC7.out⟩
end Go.Proofs.Ytjcgakmhpblanaa
