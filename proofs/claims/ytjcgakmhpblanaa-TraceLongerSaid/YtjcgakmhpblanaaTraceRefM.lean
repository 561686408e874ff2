/-
  What the document's Make of layer 19 comes to.
-/
import Derived.Test.YtjcgakmhpblanaaTraceRef
import Derived.Test.YtjcgakmhpblanaaTraceM
import Derived.Test.YtjcgakmhpblanaaGRow
namespace Go.Proofs.Ytjcgakmhpblanaa
open Go Go.RowKit
set_option linter.unusedVariables false

theorem infoNS : (Try.prog.info? 26).map (fun i => (i.zero, i.size, i.bytes)) = some (some (.slice none 0 0), 1, 24) := by kernel_rfl
def lenR : Value → Nat
  | .slice _ n _ => n
  | _ => 0
def MakeRel (w0 : World) (A : AirP) (first : List Int) (o : Value) (W : World) : Prop := ∃ k : Nat, 1 ≤ k ∧ k ≤ A.size.toNat ∧ NumRows w0 W o (A.rowsUp first k)
def MakeIn (w3 : World) (A : AirP) (last : List Int) (o i : Value) (W : World) : Prop := ∃ j : Nat, j ≤ A.cols.toNat ∧ i = .int .i64 j ∧ MadeU w3 W o ((A.nextRow last).take j)
theorem RowsG.one {α : Type} {te e : TypeId} {s : Nat} {flat : List α → List Value} {w W : World} {u : Value} {l : List α} (hb : Below w.heap.size w W) (hu : W.ownsRow w.heap.size e s u l.length (flat l)) : RowsG te e s flat w (W.alloc (.cells #[u] te)) (.slice (some ⟨W.heap.size, 0, none⟩) 1 1) [l] :=
  ⟨fun _ => u, ⟨own_new _ _ _ _ hb.size, bthen hb ((Below.refl _ _).alloc (Nat.le_refl _) _)⟩, fun j hj => by
    have : j = 0 := by simp at hj; omega
    subst this
    exact own_keep hu ((Below.refl _ _).alloc (Nat.le_refl _) _)⟩
theorem tabA_nil (W : World) (B : Nat) : TabA W B none 0 [] := TabG.nil W B
theorem step_okO {s : ByteArray} {l : List Opn} (h : parseB s = (l, 0)) : ∀ o ∈ l, OkO o := (parse_okO h).1
theorem row_some {W : World} {a : Option Addr} {n : Nat} {l : List Int} (h : RowA W a n l) (hn : 0 < n) : a ≠ none := fun e => by
  obtain ⟨b, off, e2, _⟩ := h.2.2 0 hn
  rw [e] at e2
  cases e2
set_option maxRecDepth 100000 in
set_option maxHeartbeats 8000000 in
theorem rtmake_is (A : AirP) (p : AirAt) (a : Option Addr) (cap : Nat) (first : List Int) (rows : List (List Int)) (r : Int) (w : World) (hA : AirA w A p) (hk : OkAir A) (hf : FewAir A) (hp : RowA w a first.length first) (hpu : UsR first) (hz : A.make first = (rows, r)) :
    Calls Try.prog 11 #[A.val p, .slice a first.length cap] w (MakePost w rows r) := by
  have HNO : Hid (¬ A.makes first → [] = rows ∧ 1 = r) := Lib.hid fun h => by rw [AirP.make_no h] at hz; exact Prod.mk.inj hz
  have HYES : Hid (A.makes first → A.rowsUp first A.size.toNat = rows ∧ 0 = r) := Lib.hid fun h => by rw [AirP.make_ok h] at hz; exact Prod.mk.inj hz
  obtain ⟨i0, hi, hz0, hz1, hz2⟩ := info_parts info64'
  obtain ⟨i1, ki, kz0, kz1, kz2⟩ := info_parts infoNS
  have HP := Lib.hid hp; have HPU := Lib.hid hpu
  have hpmax := hp.2.1
  unfold maxLen at hpmax
  obtain ⟨ec, hec⟩ : ∃ e, A.check = e := ⟨_, rfl⟩
  have kc := fun W (h : AirA W A p) => racheck_is A p ec W h hk hf hec
  have HEC := Lib.hid hec
  have hA0' := Lib.hid hA
  have HK := Lib.hid hk
  have hsl40 := hf.1
  clear hz hp hA hec hpu hk hf
  go_enter Try.func11, Try.ntmps11
  go_upto_region 1 with fail
  refine wp_gen (fun W => Below w.heap.size w W ∧ AirC W w.heap.size A p) ⟨(Below.refl _ _).alloc (Nat.le_refl _) _, AirC.new _ _ _ _⟩ ?_
  obtain ⟨g, hg⟩ : ∃ g, w.heap.size = g := ⟨_, rfl⟩
  rintro w0 ⟨hB0, hC0⟩
  rw [hg] at hC0
  simp only [hg]
  have HA0 := Lib.hid (hA0'.out.keep hB0)
  have HB := Lib.hid hB0
  have HC := Lib.hid hC0
  clear hB0 hg hA0'
  obtain ⟨x0, x1, x2, x3, x4⟩ := hC0
  by_cases h1 : ec = 0
  case neg =>
    obtain ⟨hD, hD2⟩ := HNO.out (fun hw => h1 (HEC.out.symm.trans hw.1))
    subst hD hD2
    clear HNO HYES
    go_wp2_with (go_at_call 29; (with_reducible refine (kc _ HA0.out).mono ?_); rintro E w1 ⟨rfl, hb⟩; replace HB := Lib.hid (bthen HB.out hb); clear hb)
    exact bodyPost_ret (v := .tuple #[.slice none 0 0, .int .i64 1]) (by simp [results, Try.results11, go_sem]) rfl ⟨HB.out, none, 0, rfl, tabA_nil _ _, Nat.le_refl _⟩
  subst h1
  have ks := fun W => rasize_is A p W (AirP.check_ok HEC.out).1
  by_cases h2 : (A.steps.length : Int) = 0
  · obtain ⟨hD, hD2⟩ := HNO.out (fun hw => hw.2.1 (by omega))
    subst hD hD2
    have e2 : ((A.steps.length : Int) == 0) = true := by simpa using h2
    clear HNO HYES h2
    go_wp2_with (go_at_call 29; (with_reducible refine (kc _ HA0.out).mono ?_); rintro E w1 ⟨rfl, hb⟩; replace HB := Lib.hid (bthen HB.out hb); replace x2 := bkeep hb x2; clear hb)
    exact bodyPost_ret (v := .tuple #[.slice none 0 0, .int .i64 1]) (by simp [results, Try.results11, go_sem]) rfl ⟨HB.out, none, 0, rfl, tabA_nil _ _, Nat.le_refl _⟩
  have e2 : ((A.steps.length : Int) == 0) = false := by simpa using h2
  by_cases h3 : (first.length : Int) = A.cols
  case neg =>
    obtain ⟨hD, hD2⟩ := HNO.out (fun hw => h3 hw.2.2.1)
    subst hD hD2
    have e3 : ((first.length : Int) != A.cols) = true := by simpa using h3
    clear HNO HYES h2 h3
    go_wp2_with (go_at_call 29; (with_reducible refine (kc _ HA0.out).mono ?_); rintro E w1 ⟨rfl, hb⟩; replace HB := Lib.hid (bthen HB.out hb); replace x2 := bkeep hb x2; replace x0 := bkeep hb x0; clear hb)
    exact bodyPost_ret (v := .tuple #[.slice none 0 0, .int .i64 1]) (by simp [results, Try.results11, go_sem]) rfl ⟨HB.out, none, 0, rfl, tabA_nil _ _, Nat.le_refl _⟩
  have e3 : ((first.length : Int) != A.cols) = false := by simpa using h3
  have HH := Lib.hid (And.intro h2 h3)
  clear h2 h3
  go_upto_region 4 with (go_at_call 29; (with_reducible refine (kc _ HA0.out).mono ?_); rintro E w1 ⟨rfl, hb⟩; replace HB := Lib.hid (bthen HB.out hb); replace HC := Lib.hid (HC.out.keep hb); replace HA0 := Lib.hid (HA0.out.keep hb); replace x0 := bkeep hb x0; replace x2 := bkeep hb x2; clear hb)
  clear x0 x1 x2 x3 x4 kc e2 e3
  go_loopw [6] (WholeR1 w1 first) (fun i _ => first.length - (intOf i).toNat)
  case atStart => exact ⟨0, Nat.zero_le _, rfl, Below.refl _ _, fun j hj => by omega⟩
  case round =>
    obtain ⟨k, hk2, rfl, hB, hpl⟩ := hrel
    have HBI := Lib.hid hB; have HPL := Lib.hid hpl
    clear hB hpl
    by_cases hlt : k < first.length
    · have hltI : (k : Int) < (first.length : Int) := by omega
      have hk0 : (0 : Int) ≤ (k : Int) := by omega
      obtain ⟨b, off, hpe, c0⟩ := (HP.out.keep (bthen HB.out HBI.out)).2.2 k hlt
      have HPE := Lib.hid hpe
      obtain ⟨z, hzz⟩ : ∃ z, first.getD k 0 = z := ⟨_, rfl⟩
      rw [hzz] at c0
      have HZZ := Lib.hid hzz
      simp only [hpe]
      clear hpe hzz
      by_cases hq : 18446744069414584321 ≤ z
      · obtain ⟨hD, hD2⟩ := HNO.out (fun hw => absurd (kept_at hw.2.2.2 hlt) (by rw [HZZ.out]; omega))
        subst hD hD2
        have HBE := Lib.hid (bthen HB.out HBI.out)
        clear HNO HYES HPL HZZ HPE
        go_wp2_with fail
        exact bodyPost_ret (v := .tuple #[.slice none 0 0, .int .i64 1]) (by simp [results, Try.results11, go_sem]) rfl ⟨HBE.out, none, 0, rfl, tabA_nil _ _, Nat.le_refl _⟩
      · have HPL2 := Lib.hid (show ∀ j, j < k + 1 → first.getD j 0 < 18446744069414584321 from fun j hj => by
          by_cases e : j = k
          · subst e; rw [HZZ.out]; omega
          · exact HPL.out j (by omega))
        clear HPL HZZ HPE
        go_wp2_with fail
        go_roundw
        case rel => exact ⟨k + 1, by omega, by go_num, HBI.out, HPL2.out⟩
        case measure => simp [intOf]; omega
    · obtain rfl : k = first.length := by omega
      have hmk : A.makes first := ⟨HEC.out, by have := HH.out.1; omega, HH.out.2, kept_of HPL.out⟩
      have HMK := Lib.hid hmk
      obtain ⟨hD, hD2⟩ := HYES.out hmk
      have HD := Lib.hid hD
      subst hD2
      have HB1 := Lib.hid (bthen HB.out HBI.out)
      have HC1 := Lib.hid (HC.out.keep HBI.out)
      have HA1 := Lib.hid (HA0.out.keep HBI.out)
      obtain ⟨hc1, hc8, hcN⟩ := AirP.makes_len hmk.1
      have hsz := AirP.size_bd (AirP.check_ok hmk.1).1
      have hfl : (first.length : Int) = A.cols := hmk.2.2.1
      have hsteps : (A.steps.length : Int) = A.cols := by
        have h := (AirP.check_ok hmk.1).2.1.2.2.1
        have := hmk.2.1
        omega
      have HROW := Lib.hid (HP.out.keep HB1.out)
      have hane := row_some HROW.out (by omega)
      clear HNO HYES HPL HB HC HBI HA0 HH hmk hD
      obtain ⟨wb, hwb⟩ : ∃ W, wr = W := ⟨_, rfl⟩
      rw [hwb] at HB1 HC1 HA1 HROW
      simp only [hwb]
      clear hwb HP HEC
      go_upto_region 9 with (at_builtin; refine wpList_append_u rfl _ _ 26 rfl wb.heap.size 46 i0 (.int .u64 0) 8 Try.underlying26 hi hz0 hz1 hz2 rfl _ 0 [] rfl (own_none _ _ _ (Nat.le_refl _)) a first.length cap first rfl (fun h => absurd h hane) (HROW.out.keep ((Below.refl _ _).alloc (Nat.le_refl _) _)) (by unfold maxLen; omega) (by omega) (by simp) ?_; rintro v' w' h1 h2; obtain ⟨av, cv, rfl⟩ := own_form h1)
      simp only [Nat.zero_add, List.nil_append] at h1
      have hB := below_own2 ((Below.refl wb.heap.size wb).alloc (Nat.le_refl _) _) h2 (fun k hk => by cases hk; exact Nat.le_refl _) (by simp)
      have hN1 : NumRows wb (w'.alloc (.cells #[.slice av first.length cv] 26)) (.slice (some ⟨w'.heap.size, 0, none⟩) 1 1) (A.rowsUp first 1) := RowsG.one hB h1
      refine wp_gen (fun W => NumRows wb W (.slice (some ⟨w'.heap.size, 0, none⟩) 1 1) (A.rowsUp first 1)) hN1 ?_
      clear h1 h2 hB hN1 hane
      rintro W0 hN
      have HN := Lib.hid hN
      clear hN
      go_loopw [7] (fun o W => MakeRel wb A first o W) (fun o _ => A.size.toNat + 1 - lenR o)
      case atStart => exact ⟨1, Nat.le_refl _, by omega, HN.out⟩
      case round =>
        clear HN
        obtain ⟨k, hk1, hkn, hN⟩ := hrel
        have hlk := AirP.rowsUp_len A first k
        obtain ⟨g7, c7, rfl, hT, hc7, _⟩ := numRows_told hN
        rw [hlk] at hT hc7 ⊢
        obtain ⟨y0, y1, y2, y3, y4⟩ := HC1.out.keep hN.below
        have HN := Lib.hid hN; have HT := Lib.hid hT
        have HLK := Lib.hid hlk; have HC7 := Lib.hid hc7
        clear hN hT hlk hc7
        by_cases hlt : k < A.size.toNat
        · have hltI : (k : Int) < A.size := by omega
          obtain ⟨J, hJ⟩ : ∃ J, k = J + 1 := ⟨k - 1, by omega⟩
          have hJk : J < k := by omega
          have hJI : (J : Int) < (k : Int) := by omega
          have hJ0 : (0 : Int) ≤ (J : Int) := by omega
          have hw1 : IntKind.i64.wrap ((k : Int) - 1) = (J : Int) := by rw [IntWalk.i64_in _ (by omega)]; omega
          have hw2 : wrap64 ((k : Int) - 1) = (J : Int) := by rw [IntWalk.wrap64_in _ (by omega)]; omega
          have HJ := Lib.hid hJ
          have HRA := Lib.hid (AirP.rowsUp_at A first hJk)
          obtain ⟨gb, off, _, hga, _, ak, ck, c0, hrow, _⟩ := HT.out.2.2 J hJk
          rw [show (A.rowsUp first k).getD J [] = A.rowAt first J from HRA.out] at c0 hrow
          obtain ⟨hll, hlkp⟩ := AirP.rowAt_len HMK.out J
          have hlu := AirP.rowAt_U (A := A) HPU.out J
          have hnext : A.rowAt first k = A.nextRow (A.rowAt first J) := by rw [hJ]; rfl
          have HNX := Lib.hid hnext
          generalize A.rowAt first J = last at *
          have hl8 : last.length ≤ 8 := by omega
          have HROWL := Lib.hid hrow; have HLU := Lib.hid hlu; have HLL := Lib.hid hll
          subst hga
          clear hJ hrow hlu hlkp hnext
          go_upto_region 10 with (go_at_call 30; (with_reducible refine (ks _).mono ?_); rintro E w2 ⟨rfl, hb⟩; replace c0 := bkeep hb c0; replace y0 := bkeep hb y0; replace HROWL := Lib.hid (HROWL.out.keep hb); replace HN := Lib.hid (HN.out.keep hb); clear hb)
          go_upto_region 13 with fail
          have HC2 := Lib.hid (HC1.out.keep HN.out.below); have HA2 := Lib.hid (HA1.out.keep HN.out.below)
          clear y0 y1 y2 y3 y4 c0 hw1 hw2 hJI hJ0 HRA HT
          go_loopw [9, 10] (MakeIn w2 A last) (fun _ i _ => A.cols.toNat - (intOf i).toNat)
          case atStart => exact ⟨0, Nat.zero_le _, rfl, MadeU.start _⟩
          case round =>
            obtain ⟨j, hj, rfl, hM⟩ := hrel
            obtain ⟨y0, _, y2, _, _⟩ := HC2.out.keep hM.2
            rename_i u9 _ _ _ _
            by_cases hjl : j < A.cols.toNat
            · have hjI : (j : Int) < A.cols := by omega
              have hj0 : (0 : Int) ≤ (j : Int) := by omega
              have hjs : j < A.steps.length := by omega
              have hjsI : (j : Int) < (A.steps.length : Int) := by omega
              obtain ⟨bs, so, hps, cs⟩ := ((HA2.out.keep hM.2).1).2 j hjs
              rw [hps] at y2
              obtain ⟨d, p1, p2, _⟩ := AirP.step_ok HMK.out.1 hjs
              have kp := fun W => rcparse_is (tx A.steps j) (A.stepL j) 0 W (HK.out.steps _ (tx_mem hjs)) p1
              unfold ParsePost at kp
              have ka := fun W a c (ho : OpA W a _ _) (hr : RowA W ak last.length last) => reatR_is a c (A.stepL j) ak last.length ck last ak last.length ck last A.cols W ho (step_okO p1) (checkB_evok p2) hr HLU.out (by omega) hr HLU.out (by omega)
              have htk : (A.nextRow last).take (j + 1) = (A.nextRow last).take j ++ [enc (A.nextV last j)] := by
                rw [take_one (by rw [AirP.nextRow_len]; exact hjl), AirP.nextRow_at A last hjI]
              have htl : ((A.nextRow last).take j).length = j := by rw [List.length_take, AirP.nextRow_len]; omega
              have hzz : enc (evB numA (rowF last) (rowF last) (A.stepL j)) = enc (A.nextV last j) := rfl
              simp only [hzz] at ka
              have HTK := Lib.hid htk; have HTL := Lib.hid htl
              generalize enc (A.nextV last j) = z at *
              generalize A.stepL j = L at *
              generalize tx A.steps j = T at *
              have HM := Lib.hid hM
              have hrow := HROWL.out.keep hM.2
              clear hzz htk htl p1 p2 hps hM
              go_upto_region 16 with (go_at_call 31; (with_reducible refine (kp _).mono ?_); rintro E w4 ⟨hb, a1, c1, rfl, hO, hn⟩; replace HM := Lib.hid (HM.out.keep hb); replace hrow := hrow.keep hb; clear hb)
              have hown := HM.out.1
              rw [HTL.out] at hown
              have hbase := HM.out.2.size
              have HO := Lib.hid hO; have HRW := Lib.hid hrow; have HOWN := Lib.hid hown
              clear hO hrow hn kp y0 y2 cs
              go_upto_region 14 with (first
                | (go_at_call 21; (with_reducible refine (ka _ _ _ HO.out HRW.out).mono ?_); rintro E w5 ⟨rfl, hb⟩; replace HM := Lib.hid (HM.out.keep hb); replace HOWN := Lib.hid (own_keep HOWN.out hb); replace hbase := Nat.le_trans hbase hb.size; clear hb)
                | (at_builtin; refine wpList_append_own _ rfl _ _ 26 rfl w2.heap.size 46 i0 (.int .u64 0) 1 8 Try.underlying26 hi hz0 hz1 hz2 rfl (by decide) _ _ _ rfl (HOWN.out.alloc _) ⟨w5.heap.size, 0, none⟩ 1 1 [.int .u64 z] rfl rfl (one_src (by simp [go_sem])) (by intro u hu; simp at hu; subst hu; rfl) (by unfold maxLen; omega) (by omega) (by simp; omega) ?_; rintro v6 w6 q1 q2 _))
              have R : Hid (MadeU w2 w6 v6 ((A.nextRow last).take (j + 1))) := Lib.hid (by
                rw [HTK.out]
                exact HM.out.step _ (by rw [HTL.out]; exact q1) q2)
              clear q1 q2 hown HOWN HM HO HRW ka
              go_wp2
              go_roundw
              case rel => exact ⟨j + 1, by omega, by go_num, R.out⟩
              case measure => simp [intOf]; omega
            · obtain rfl : j = A.cols.toNat := by omega
              have hge : ¬ ((A.cols.toNat : Nat) : Int) < A.cols := by omega
              rw [List.take_of_length_le (by rw [AirP.nextRow_len]; omega)] at hM
              have hsn : A.rowsUp first (k + 1) = A.rowsUp first k ++ [A.nextRow last] := by rw [AirP.rowsUp_snoc, HNX.out]
              have HSN := Lib.hid hsn
              have hnl : (A.nextRow last).length ≤ 8 := by rw [AirP.nextRow_len]; omega
              obtain ⟨rs, hm1, hm2⟩ := HN.out.keep hM.2
              have hu := own_mono' hM.1 HN.out.below.size
              clear hsn hM
              generalize A.nextRow last = nx at *
              obtain ⟨a9, c9, rfl⟩ := own_form hu
              have hown := hm1.1
              rw [valsR_len] at hown
              have HM1 := Lib.hid hm1; have HM2 := Lib.hid hm2; have HU := Lib.hid hu
              have hsz0 := hm1.2.size
              rw [HLK.out] at hown
              clear hm1 hm2 hu
              obtain ⟨W6, hW6⟩ : ∃ W, wr = W := ⟨_, rfl⟩
              rw [hW6] at hown hsz0 HM1 HM2 HU y0
              simp only [hW6]
              clear hW6
              go_upto_region 17 with fail
              go_wp2_with (at_builtin; refine wpList_append_own _ rfl _ _ 29 rfl wb.heap.size 26 i1 (.slice none 0 0) 1 24 Try.underlying29 ki kz0 kz1 kz2 rfl (by decide) _ _ _ rfl (hown.alloc _) ⟨W6.heap.size, 0, none⟩ 1 1 [.slice a9 nx.length c9] rfl rfl (one_src (by simp [go_sem])) (by intro u hu; simp at hu; subst hu; rfl) (by unfold maxLen; omega) (by omega) (by simp; omega) ?_)
              intro v7 w7 q1 q2 _
              have hal : Below W6.heap.size W6 (W6.alloc (.cells #[.slice a9 nx.length c9] 26)) := (Below.refl _ _).alloc (Nat.le_refl _) _
              rw [← HLK.out] at q2
              have R : Hid (NumRows wb w7 v7 (A.rowsUp first (k + 1))) := Lib.hid (by
                rw [HSN.out]
                exact RowsG.more (by decide) (HM1.out.keep hal) (fun j hj => own_keep (HM2.out j hj) hal) (own_keep HU.out hal) q2 (MadeG.grow (HM1.out.keep hal) (by rw [valsR_len, HLK.out]; exact q1) q2))
              obtain ⟨a8, c8, rfl⟩ := own_form q1
              clear q1 q2 hal hown HM1 HM2 HU
              go_wp2
              go_roundw
              case rel => exact ⟨k + 1, by omega, by omega, R.out⟩
              case measure => simp [lenR]; omega
        · obtain rfl : k = A.size.toNat := by omega
          have hge : ¬ ((A.size.toNat : Nat) : Int) < A.size := by omega
          go_wp2_with (go_at_call 30; (with_reducible refine (ks _).mono ?_); rintro E w2 ⟨rfl, hb⟩; replace HT := Lib.hid (tabA_keep HT.out hb); replace HN := Lib.hid (HN.out.keep hb); clear hb)
          exact bodyPost_ret (v := .tuple #[.slice g7 A.size.toNat c7, .int .i64 0]) (by simp [results, Try.results11, go_sem]) rfl ⟨bthen HB1.out HN.out.below, g7, c7, by rw [← HD.out, HLK.out], by rw [← HD.out, HLK.out]; exact tabA_mono HT.out HB1.out.size, by rw [← HD.out, HLK.out]; exact HC7.out⟩
end Go.Proofs.Ytjcgakmhpblanaa
