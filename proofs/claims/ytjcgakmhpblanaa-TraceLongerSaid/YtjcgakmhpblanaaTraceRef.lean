/-
  What the document's Whole of layer 19 comes to.
-/
import Derived.Test.YtjcgakmhpblanaaTraceW
import Derived.Test.YtjcgakmhpblanaaGAirM
import Derived.BigQuiet
namespace Go.Proofs.Ytjcgakmhpblanaa
open Go Go.RowKit
set_option linter.unusedVariables false

theorem kept_of {l : List Int} (h : ∀ j, j < l.length → l.getD j 0 < 18446744069414584321) : KeptR l := fun x hx => by
  obtain ⟨j, hj, rfl⟩ := List.mem_iff_getElem.1 hx
  have := h j hj
  simpa [List.getD, hj] using this
theorem kept_at {l : List Int} (h : KeptR l) {j : Nat} (hj : j < l.length) : l.getD j 0 < 18446744069414584321 := h _ (by simp [List.getD, hj])
theorem usR_at {l : List Int} (h : UsR l) {j : Nat} (hj : j < l.length) : U (l.getD j 0) := h _ (by simp [List.getD, hj])
theorem rows_of {rows : List (List Int)} {Q : List Int → Prop} (h : ∀ j, j < rows.length → Q (rowN rows j)) : ∀ r ∈ rows, Q r := fun x hx => by
  obtain ⟨j, hj, rfl⟩ := List.mem_iff_getElem.1 hx
  have := h j hj
  simpa [rowN, List.getD, hj] using this
theorem rows_at {rows : List (List Int)} {Q : List Int → Prop} (h : ∀ r ∈ rows, Q r) {j : Nat} (hj : j < rows.length) : Q (rowN rows j) := h _ (by simp [rowN, List.getD, hj])
def WholeR1 (w1 : World) (pub : List Int) (i : Value) (W : World) : Prop := ∃ k : Nat, k ≤ pub.length ∧ i = .int .i64 k ∧ Below w1.heap.size w1 W ∧ ∀ j, j < k → pub.getD j 0 < 18446744069414584321
def WholeR2 (w1 : World) (A : AirP) (rows : List (List Int)) (i : Value) (W : World) : Prop := ∃ k : Nat, k ≤ rows.length ∧ i = .int .i64 k ∧ Below w1.heap.size w1 W ∧ ∀ j, j < k → ((rowN rows j).length : Int) = A.cols ∧ KeptR (rowN rows j)
def WholeR3 (w1 : World) (row : List Int) (i : Value) (W : World) : Prop := ∃ k : Nat, k ≤ row.length ∧ i = .int .i64 k ∧ Below w1.heap.size w1 W ∧ ∀ j, j < k → row.getD j 0 < 18446744069414584321
set_option maxRecDepth 100000 in
set_option maxHeartbeats 8000000 in
theorem rtwhole_is (A : AirP) (p : AirAt) (pa : Option Addr) (pn pc : Nat) (pub : List Int) (a : Option Addr) (n cap : Nat) (rows : List (List Int)) (r : Bool) (w : World) (hA : AirA w A p) (hk : OkAir A) (hf : FewAir A) (hp : RowA w pa pn pub) (hpu : UsR pub) (hr : RowsA w a n rows) (hru : UsRows rows) (hz : decide (A.whole pub rows) = r) :
    Calls Try.prog 19 #[A.val p, .slice pa pn pc, .slice a n cap] w fun e w' => e = .returned (.bool r) ∧ Below w.heap.size w w' := by
  obtain rfl := hp.1
  obtain rfl := hr.1
  have HNO : Hid (¬ A.whole pub rows → false = r) := Lib.hid fun h => by rw [← hz]; exact (decide_eq_false h).symm
  have HYES : Hid (A.whole pub rows → true = r) := Lib.hid fun h => by rw [← hz]; exact (decide_eq_true h).symm
  have HP := Lib.hid hp; have HR := Lib.hid hr; have HPU := Lib.hid hpu; have HRU := Lib.hid hru
  have hpmax := hp.2.1; have hrmax := hr.2.1
  unfold maxLen at hpmax hrmax
  obtain ⟨ec, hec⟩ : ∃ e, A.check = e := ⟨_, rfl⟩
  have kc := fun W (h : AirA W A p) => racheck_is A p ec W h hk hf hec
  have HEC := Lib.hid hec
  have hA0' := Lib.hid hA
  clear hz hp hr hA hec hpu hru
  go_enter Try.func19, Try.ntmps19
  go_upto_region 1 with fail
  refine wp_gen (fun W => Below w.heap.size w W ∧ AirC W w.heap.size A p) ⟨(Below.refl _ _).alloc (Nat.le_refl _) _, AirC.new _ _ _ _⟩ ?_
  obtain ⟨g, hg⟩ : ∃ g, w.heap.size = g := ⟨_, rfl⟩
  rintro w0 ⟨hB0, hC0⟩
  rw [hg] at hC0
  simp only [hg]
  have HA0 := Lib.hid (hA0'.out.keep hB0)
  have HB := Lib.hid hB0
  have HC := Lib.hid hC0
  clear hB0 hg hA0'
  obtain ⟨x0, x1, x2, x3, x4⟩ := hC0
  by_cases h1 : ec = 0
  · subst h1
    have ks := fun W => rasize_is A p W (AirP.check_ok HEC.out).1
    by_cases h2 : (rows.length : Int) = A.size
    · by_cases h3 : (pub.length : Int) = (A.bounds.length : Int)
      · go_upto_region 4 with (first
          | (go_at_call 29; (with_reducible refine (kc _ HA0.out).mono ?_); rintro E w1 ⟨rfl, hb⟩; replace HB := Lib.hid (bthen HB.out hb); replace HC := Lib.hid (HC.out.keep hb); replace x0 := bkeep hb x0; replace x1 := bkeep hb x1; replace x2 := bkeep hb x2; replace x3 := bkeep hb x3; replace x4 := bkeep hb x4; clear hb)
          | (go_at_call 30; (with_reducible refine (ks _).mono ?_); rintro E w2 ⟨rfl, hb⟩; replace HB := Lib.hid (bthen HB.out hb); replace HC := Lib.hid (HC.out.keep hb); replace x0 := bkeep hb x0; replace x1 := bkeep hb x1; replace x2 := bkeep hb x2; replace x3 := bkeep hb x3; replace x4 := bkeep hb x4; clear hb))
        clear x0 x1 x2 x3 x4 kc ks
        have HH := Lib.hid (And.intro h2 h3)
        clear h2 h3
        go_loopw [7] (WholeR1 w2 pub) (fun i _ => pub.length - (intOf i).toNat)
        case atStart => exact ⟨0, Nat.zero_le _, rfl, Below.refl _ _, fun j hj => by omega⟩
        case round =>
          obtain ⟨k, hk2, rfl, hB, hpl⟩ := hrel
          have HBI := Lib.hid hB; have HPL := Lib.hid hpl
          clear hB hpl
          by_cases hlt : k < pub.length
          · have hltI : (k : Int) < (pub.length : Int) := by omega
            have hk0 : (0 : Int) ≤ (k : Int) := by omega
            obtain ⟨b, off, hpe, c0⟩ := (HP.out.keep (bthen HB.out HBI.out)).2.2 k hlt
            have HPE := Lib.hid hpe
            obtain ⟨z, hzz⟩ : ∃ z, pub.getD k 0 = z := ⟨_, rfl⟩
            rw [hzz] at c0
            have HZZ := Lib.hid hzz
            simp only [hpe]
            clear hpe hzz
            by_cases hq : 18446744069414584321 ≤ z
            · have hD := HNO.out (fun hw => absurd (kept_at hw.2.2.2.1 hlt) (by rw [HZZ.out]; omega))
              subst hD
              have HBE := Lib.hid (bthen HB.out HBI.out)
              clear HNO HYES HPL HZZ HPE
              go_wp2_with fail
              go_ret
              exact ⟨rfl, HBE.out⟩
            · have HPL2 := Lib.hid (show ∀ j, j < k + 1 → pub.getD j 0 < 18446744069414584321 from fun j hj => by
                by_cases e : j = k
                · subst e; rw [HZZ.out]; omega
                · exact HPL.out j (by omega))
              clear HPL HZZ HPE
              go_wp2_with fail
              go_roundw
              case rel => exact ⟨k + 1, by omega, by go_num, HBI.out, HPL2.out⟩
              case measure => simp [intOf]; omega
          · obtain rfl : k = pub.length := by omega
            have HKP := Lib.hid (kept_of HPL.out)
            have HB1 := Lib.hid (bthen HB.out HBI.out)
            have HC1 := Lib.hid (HC.out.keep HBI.out)
            clear HPL HB HC HBI
            go_upto_region 9 with fail
            go_loopw [8] (WholeR2 wr A rows) (fun i _ => rows.length - (intOf i).toNat)
            case atStart => exact ⟨0, Nat.zero_le _, rfl, Below.refl _ _, fun j hj => by omega⟩
            case round =>
              rename_i wq _ _
              obtain ⟨k, hk2, rfl, hB, hpl⟩ := hrel
              have HBI := Lib.hid hB; have HPL := Lib.hid hpl
              clear hB hpl
              by_cases hlt : k < rows.length
              · have hltI : (k : Int) < (rows.length : Int) := by omega
                have hk0 : (0 : Int) ≤ (k : Int) := by omega
                obtain ⟨b, off, hpe, ak, ck, c0, hrow, _⟩ := (rowsA_keep HR.out (bthen HB1.out HBI.out)).2.2 k hlt
                obtain ⟨x0, x1, x2, x3, x4⟩ := HC1.out.keep HBI.out
                have hu := rows_at HRU.out hlt
                obtain ⟨row, hrw⟩ : ∃ row, rowN rows k = row := ⟨_, rfl⟩
                rw [show rows.getD k [] = row from hrw] at c0 hrow
                rw [hrw] at hu
                have HRW := Lib.hid hrw
                have HROW := Lib.hid hrow
                have hrl := hrow.2.1
                unfold maxLen at hrl
                simp only [hpe]
                clear hpe hrw hrow x1 x2 x3 x4
                by_cases hq : (row.length : Int) = A.cols
                · go_upto_region 11 with fail
                  go_quiet (fail)
                  go_upto_region 14 with fail
                  refine wp_gen (fun W => Below wr.heap.size wr W) (by first | exact below_drewN (Below.refl _ _) _ | exact Below.refl _ _) ?_
                  rintro w3 hb3
                  have HROW3 := Lib.hid (HROW.out.keep hb3)
                  have hc3 := bkeep hb3 c0
                  have HC3 := Lib.hid (bkeep hb3 x0)
                  have HBI3 := Lib.hid (bthen HBI.out hb3)
                  clear HROW hb3 c0 x0
                  have HCC := Lib.hid hc3
                  clear hc3
                  go_loopw [9] (WholeR3 w3 row) (fun i _ => row.length - (intOf i).toNat)
                  case atStart => exact ⟨0, Nat.zero_le _, rfl, Below.refl _ _, fun j hj => by omega⟩
                  case round =>
                    obtain ⟨j, hj, rfl, hB, hpl⟩ := hrel
                    have HBJ := Lib.hid hB; have HPJ := Lib.hid hpl
                    have x0 := bkeep hB HC3.out
                    have c0 := bkeep hB HCC.out
                    clear hB hpl
                    by_cases hlt2 : j < row.length
                    · have hlt2I : (j : Int) < A.cols := by omega
                      have hlt2J : (j : Int) < (row.length : Int) := by omega
                      have hj0 : (0 : Int) ≤ (j : Int) := by omega
                      obtain ⟨b2, off2, hpe2, d0⟩ := (HROW3.out.keep HBJ.out).2.2 j hlt2
                      rw [hpe2] at c0
                      obtain ⟨z, hzz⟩ : ∃ z, row.getD j 0 = z := ⟨_, rfl⟩
                      rw [hzz] at d0
                      have HZZ := Lib.hid hzz
                      clear hpe2 hzz
                      by_cases hq2 : 18446744069414584321 ≤ z
                      · have hD := HNO.out (fun hw => absurd (kept_at (rows_at (Q := KeptR) (fun r hr => (hw.2.2.2.2 r hr).2) hlt) (j := j) (by rw [HRW.out]; exact hlt2)) (by rw [HRW.out, HZZ.out]; omega))
                        subst hD
                        have HBE := Lib.hid (bthen HB1.out (bthen HBI3.out HBJ.out))
                        clear HNO HYES HPL HPJ HZZ
                        go_wp2_with fail
                        go_ret
                        exact ⟨rfl, HBE.out⟩
                      · have HPJ2 := Lib.hid (show ∀ i, i < j + 1 → row.getD i 0 < 18446744069414584321 from fun i hi => by
                          by_cases e : i = j
                          · subst e; rw [HZZ.out]; omega
                          · exact HPJ.out i (by omega))
                        clear HPJ HZZ
                        go_wp2_with fail
                        go_roundw
                        case rel => exact ⟨j + 1, by omega, by go_num, HBJ.out, HPJ2.out⟩
                        case measure => simp [intOf]; omega
                    · obtain rfl : j = row.length := by omega
                      have hge : ¬ (row.length : Int) < A.cols := by omega
                      have HPL2 := Lib.hid (show ∀ i, i < k + 1 → ((rowN rows i).length : Int) = A.cols ∧ KeptR (rowN rows i) from fun i hi => by
                        by_cases e : i = k
                        · subst e; rw [HRW.out]; exact ⟨hq, kept_of HPJ.out⟩
                        · exact HPL.out i (by omega))
                      have HBN := Lib.hid (bthen HBI3.out HBJ.out)
                      clear HPL HPJ HBI3 HBJ
                      go_wp2_with fail
                      go_roundw
                      case rel => exact ⟨k + 1, by omega, by go_num, HBN.out, HPL2.out⟩
                      case measure => simp [intOf]; omega
                · have hD := HNO.out (fun hw => hq (by rw [← HRW.out]; exact rows_at (Q := fun r => (r.length : Int) = A.cols) (fun r hr => (hw.2.2.2.2 r hr).1) hlt))
                  subst hD
                  have HBE := Lib.hid (bthen HB1.out HBI.out)
                  clear HNO HYES HPL HRW
                  go_upto_region 11 with fail
                  go_quiet (fail)
                  go_wp2_with fail
                  go_ret
                  exact ⟨rfl, by first | exact HBE.out | exact below_drewN HBE.out _⟩
              · obtain rfl : k = rows.length := by omega
                have hD := HYES.out ⟨HEC.out, HH.out.1, by have := HH.out.2; omega, HKP.out, rows_of (Q := fun r => (r.length : Int) = A.cols ∧ KeptR r) HPL.out⟩
                subst hD
                have HBE := Lib.hid (bthen HB1.out HBI.out)
                clear HNO HYES HPL
                go_wp2_with fail
                go_ret
                exact ⟨rfl, HBE.out⟩
      · have hD := HNO.out (fun hw => h3 (by have := hw.2.2.1; omega))
        subst hD
        clear HNO HYES
        go_wp2_with (first
          | (go_at_call 29; (with_reducible refine (kc _ HA0.out).mono ?_); rintro E w1 ⟨rfl, hb⟩; replace HB := Lib.hid (bthen HB.out hb); replace x0 := bkeep hb x0; replace x1 := bkeep hb x1; replace x2 := bkeep hb x2; replace x3 := bkeep hb x3; replace x4 := bkeep hb x4; clear hb)
          | (go_at_call 30; (with_reducible refine (ks _).mono ?_); rintro E w2 ⟨rfl, hb⟩; replace HB := Lib.hid (bthen HB.out hb); replace x0 := bkeep hb x0; replace x1 := bkeep hb x1; replace x2 := bkeep hb x2; replace x3 := bkeep hb x3; replace x4 := bkeep hb x4; clear hb))
        go_ret
        exact ⟨rfl, HB.out⟩
    · have hD := HNO.out (fun hw => h2 hw.2.1)
      subst hD
      clear HNO HYES
      go_wp2_with (first
        | (go_at_call 29; (with_reducible refine (kc _ HA0.out).mono ?_); rintro E w1 ⟨rfl, hb⟩; replace HB := Lib.hid (bthen HB.out hb); replace x0 := bkeep hb x0; replace x1 := bkeep hb x1; replace x2 := bkeep hb x2; replace x3 := bkeep hb x3; replace x4 := bkeep hb x4; clear hb)
        | (go_at_call 30; (with_reducible refine (ks _).mono ?_); rintro E w2 ⟨rfl, hb⟩; replace HB := Lib.hid (bthen HB.out hb); replace x0 := bkeep hb x0; replace x1 := bkeep hb x1; replace x2 := bkeep hb x2; replace x3 := bkeep hb x3; replace x4 := bkeep hb x4; clear hb))
      go_ret
      exact ⟨rfl, HB.out⟩
  · have hD := HNO.out (fun hw => h1 (HEC.out.symm.trans hw.1))
    subst hD
    clear HNO HYES
    go_wp2_with (go_at_call 29; (with_reducible refine (kc _ HA0.out).mono ?_); rintro E w1 ⟨rfl, hb⟩; replace HB := Lib.hid (bthen HB.out hb); clear hb)
    go_ret
    exact ⟨rfl, HB.out⟩
end Go.Proofs.Ytjcgakmhpblanaa
