/-
  What the document's Check of layer 18 comes to.
-/
import Derived.Test.YtckipfcjgmiacaaAirRef
import Derived.BigQuiet
namespace Go.Proofs.Ytckipfcjgmiacaa
open Go Go.RowKit
set_option linter.unusedVariables false

/-- Whether it may be: what stands in a boxed variable is kept. -/
theorem BoundA.at {w : World} {a : Option Addr} {len : Nat} {zs : List (Int × Int)} (h : BoundA w a len zs) {k : Nat} (hk : k < len) : ∃ b off : Nat, a = some ⟨b, off, none⟩ ∧ w.cell? ⟨b, off + k * 2, none⟩ = some (.int .i64 (zs.getD k (0, 0)).1) ∧ w.cell? ⟨b, off + k * 2 + 1, none⟩ = some (.int .i64 (zs.getD k (0, 0)).2) := h.2.2 k hk
theorem racheck_far (A : AirP) (p : AirAt) (w : World) (hf : FewAir A) (hn : ¬ A.near) : Calls Try.prog 13 #[A.val p] w fun e w' => e = .returned (.int .i64 1) ∧ Below w.heap.size w w' := by
  have hb0 := fun o => (Below.refl w.heap.size w).alloc (Nat.le_refl _) o
  by_cases h1 : A.log < 0
  · clear hn hf
    go_enter Try.func13, Try.ntmps13
    go_wp2
    go_ret
    exact ⟨rfl, hb0 _⟩
  by_cases h2 : 10 < A.log
  · clear hn hf
    go_enter Try.func13, Try.ntmps13
    go_wp2
    go_ret
    exact ⟨rfl, hb0 _⟩
  have h3 : (16 : Int) < (A.bounds.length : Int) := by
    refine Int.not_le.1 fun h => hn ⟨by omega, by omega, by omega⟩
  clear hn hf
  go_enter Try.func13, Try.ntmps13
  go_wp2
  go_ret
  exact ⟨rfl, hb0 _⟩
def CheckRel (w0 : World) (A : AirP) (i : Value) (W : World) : Prop := ∃ k : Nat, k ≤ A.bounds.length ∧ i = .int .i64 k ∧ Below w0.heap.size w0 W ∧ ∀ j, j < k → A.okAt j
def CheckIn (w1 : World) (A : AirP) (k : Nat) (i : Value) (W : World) : Prop := ∃ j : Nat, j ≤ k ∧ i = .int .i64 j ∧ Below w1.heap.size w1 W ∧ ∀ i, i < j → A.bound i ≠ A.bound k
theorem AirP.not_places {A : AirP} {k : Nat} (hk : k < A.bounds.length) (h : ¬ A.okAt k) : ¬ A.places := fun hp => h (hp k hk)
set_option maxRecDepth 100000 in
set_option maxHeartbeats 8000000 in
theorem racheck_is (A : AirP) (p : AirAt) (r : Int) (w : World) (hA : AirA w A p) (hk : OkAir A) (hf : FewAir A) (hr : A.check = r) : Calls Try.prog 13 #[A.val p] w fun e w' => e = .returned (.int .i64 r) ∧ Below w.heap.size w w' := by
  by_cases hnear : A.near
  case neg =>
    rw [AirP.check_far hnear] at hr
    subst hr
    exact racheck_far A p w hf hnear
  have HN := Lib.hid hnear; have HR := Lib.hid hr
  obtain ⟨g1, g2, g3⟩ := hnear
  have hb16 : A.bounds.length ≤ 16 := g3
  have hg1 : ¬ A.log < 0 := by omega
  have hg2 : ¬ 10 < A.log := by omega
  have hg3 : ¬ (16 : Int) < (A.bounds.length : Int) := by omega
  have hA0' := Lib.hid hA
  obtain ⟨ls, e, hall⟩ : ∃ ls e, A.all = (ls, e) := ⟨_, _, rfl⟩
  have HALL := Lib.hid hall
  have kr := fun W (h : AirA W A p) => rarules_is A p ls e W h hk hf hall
  unfold RulesPost at kr
  have ks := fun W => rasize_is A p W HN.out
  clear hr hA hall
  go_enter Try.func13, Try.ntmps13
  go_upto_region 3 with fail
  refine wp_gen (fun W => Below w.heap.size w W ∧ AirC W w.heap.size A p) ⟨(Below.refl _ _).alloc (Nat.le_refl _) _, AirC.new _ _ _ _⟩ ?_
  obtain ⟨g, hg⟩ : ∃ g, w.heap.size = g := ⟨_, rfl⟩
  rintro w0 ⟨hB0, hC0⟩
  rw [hg] at hC0
  simp only [hg]
  have HA0 := Lib.hid (hA0'.out.keep hB0)
  have HB0 := Lib.hid hB0
  have HC0 := Lib.hid hC0
  clear hB0 hg hA0' g1 g2 g3 hg1 hg2 hg3
  obtain ⟨x0, x1, x2, x3, x4⟩ := hC0
  go_upto_region 4 with (go_at_call 12; (with_reducible refine (kr _ HA0.out).mono ?_); rintro E w1 ⟨hb, al, cl, rfl, _, _⟩)
  have HB1 := Lib.hid (bthen HB0.out hb)
  have HC1 := Lib.hid (HC0.out.keep hb); have HA1 := Lib.hid (HA0.out.keep hb)
  clear hb x0 x1 x2 x3 x4 kr HC0 HA0 HB0
  by_cases he : e = 0
  · subst he
    have HOK := Lib.hid (show A.all.2 = 0 by rw [HALL.out])
    go_upto_region 7 with fail
    go_loopw [5] (CheckRel w1 A) (fun i _ => A.bounds.length - (intOf i).toNat)
    case atStart => exact ⟨0, Nat.zero_le _, rfl, Below.refl _ _, fun j hj => by omega⟩
    case round =>
      obtain ⟨k, hk2, rfl, hB, hpl⟩ := hrel
      have HB := Lib.hid hB; have HPL := Lib.hid hpl
      obtain ⟨x0, x1, x2, x3, x4⟩ := HC1.out.keep hB
      have HX := Lib.hid (HC1.out.keep hB)
      clear hB hpl
      by_cases hlt : k < A.bounds.length
      · have hltI : (k : Int) < (A.bounds.length : Int) := by omega
        have hk0 : (0 : Int) ≤ (k : Int) := by omega
        obtain ⟨b, off, hpa, c0, c1⟩ := (HA1.out.keep HB.out).2.2.1.at hlt
        have HBA := Lib.hid (HA1.out.keep HB.out).2.2.1
        have hbk : A.bounds.getD k (0, 0) = A.bound k := rfl
        rw [hbk] at c0 c1
        rw [hpa] at x4 HBA
        have HPA := Lib.hid hpa
        clear hbk hpa
        have HOA : Hid (∀ c r, A.bound k = (c, r) → (¬ (0 ≤ c ∧ c < A.cols ∧ 0 ≤ r ∧ r < A.size) → ¬ A.okAt k)) := Lib.hid fun c r h q hq => q (by have := hq.1; rw [h] at this; exact this)
        have HOB : Hid (∀ c r, A.bound k = (c, r) → (0 ≤ c ∧ c < A.cols ∧ 0 ≤ r ∧ r < A.size) → (∀ i, i < k → A.bound i ≠ A.bound k) → A.okAt k) := Lib.hid fun c r h q hq => ⟨by rw [h]; exact q, hq⟩
        obtain ⟨c, hcc⟩ : ∃ c, (A.bound k).1 = c := ⟨_, rfl⟩
        obtain ⟨rr, hrr⟩ : ∃ r, (A.bound k).2 = r := ⟨_, rfl⟩
        have HCR := Lib.hid (show A.bound k = (c, rr) by rw [← hcc, ← hrr])
        rw [hcc] at c0; rw [hrr] at c1
        clear hcc hrr
        replace HOA := Lib.hid (HOA.out _ _ HCR.out)
        replace HOB := Lib.hid (HOB.out _ _ HCR.out)
        have c0' := c0; have c1' := c1
        go_upto_region 10 with fail
        refine wp_gen (fun W => Below wr.heap.size wr W ∧ W.cell? ⟨wr.heap.size, 0, none⟩ = some (.int .i64 c) ∧ W.cell? ⟨wr.heap.size, 1, none⟩ = some (.int .i64 rr)) ⟨(Below.refl _ _).alloc (Nat.le_refl _) _, by simp [go_sem], by simp [go_sem]⟩ ?_
        obtain ⟨gb, hgb⟩ : ∃ g, wr.heap.size = g := ⟨_, rfl⟩
        rintro w2 ⟨hb2, d0, d1⟩
        rw [hgb] at d0 d1
        simp only [hgb]
        have HB2 := Lib.hid (bthen HB.out hb2)
        have HX2 := Lib.hid (HX.out.keep hb2)
        have HBA2 := Lib.hid (HBA.out.keep hb2)
        clear hb2 hgb x0 x1 x2 x3 x4 c0 c1 c0' c1' HBA HB
        obtain ⟨x0, x1, x2, x3, x4⟩ := HX2.out
        by_cases q1 : c < 0
        · have hD := (AirP.check_places HN.out HOK.out (AirP.not_places hlt (HOA.out (by omega)))).symm.trans HR.out
          subst hD
          clear HR HPL HX HOA HOB
          replace x0 := fun q : Regrown => cell_regrown x0 q.d q.os
          replace x1 := fun q : Regrown => cell_regrown x1 q.d q.os
          replace x2 := fun q : Regrown => cell_regrown x2 q.d q.os
          replace x3 := fun q : Regrown => cell_regrown x3 q.d q.os
          replace x4 := fun q : Regrown => cell_regrown x4 q.d q.os
          replace d0 := fun q : Regrown => cell_regrown d0 q.d q.os
          replace d1 := fun q : Regrown => cell_regrown d1 q.d q.os
          refine wp_region_quiet_below (by kernel_rfl) (by kernel_rfl) ?_
          repeat (first | go_big_quiet_step ((go_at_call 16; with_reducible exact Calls.regrown_of (ks _))) | quiet_step (fail))
          refine wpQuiet_nil ?_
          rintro _ ⟨pq, rfl⟩
          have hbq := below_regrown w2 pq.d pq.os
          have HBE := Lib.hid (bthen HB1.out (bthen HB2.out hbq))
          clear x0 x1 x2 x3 x4 d0 d1 HX2
          go_wp2_with fail
          go_ret
          exact ⟨rfl, HBE.out⟩
        by_cases q2 : A.cols ≤ c
        · have hD := (AirP.check_places HN.out HOK.out (AirP.not_places hlt (HOA.out (by omega)))).symm.trans HR.out
          subst hD
          clear HR HPL HX HOA HOB
          replace x0 := fun q : Regrown => cell_regrown x0 q.d q.os
          replace x1 := fun q : Regrown => cell_regrown x1 q.d q.os
          replace x2 := fun q : Regrown => cell_regrown x2 q.d q.os
          replace x3 := fun q : Regrown => cell_regrown x3 q.d q.os
          replace x4 := fun q : Regrown => cell_regrown x4 q.d q.os
          replace d0 := fun q : Regrown => cell_regrown d0 q.d q.os
          replace d1 := fun q : Regrown => cell_regrown d1 q.d q.os
          refine wp_region_quiet_below (by kernel_rfl) (by kernel_rfl) ?_
          repeat (first | go_big_quiet_step ((go_at_call 16; with_reducible exact Calls.regrown_of (ks _))) | quiet_step (fail))
          refine wpQuiet_nil ?_
          rintro _ ⟨pq, rfl⟩
          have hbq := below_regrown w2 pq.d pq.os
          have HBE := Lib.hid (bthen HB1.out (bthen HB2.out hbq))
          clear x0 x1 x2 x3 x4 d0 d1 HX2
          go_wp2_with fail
          go_ret
          exact ⟨rfl, HBE.out⟩
        by_cases q3 : rr < 0
        · have hD := (AirP.check_places HN.out HOK.out (AirP.not_places hlt (HOA.out (by omega)))).symm.trans HR.out
          subst hD
          clear HR HPL HX HOA HOB
          replace x0 := fun q : Regrown => cell_regrown x0 q.d q.os
          replace x1 := fun q : Regrown => cell_regrown x1 q.d q.os
          replace x2 := fun q : Regrown => cell_regrown x2 q.d q.os
          replace x3 := fun q : Regrown => cell_regrown x3 q.d q.os
          replace x4 := fun q : Regrown => cell_regrown x4 q.d q.os
          replace d0 := fun q : Regrown => cell_regrown d0 q.d q.os
          replace d1 := fun q : Regrown => cell_regrown d1 q.d q.os
          refine wp_region_quiet_below (by kernel_rfl) (by kernel_rfl) ?_
          repeat (first | go_big_quiet_step ((go_at_call 16; with_reducible exact Calls.regrown_of (ks _))) | quiet_step (fail))
          refine wpQuiet_nil ?_
          rintro _ ⟨pq, rfl⟩
          have hbq := below_regrown w2 pq.d pq.os
          have HBE := Lib.hid (bthen HB1.out (bthen HB2.out hbq))
          clear x0 x1 x2 x3 x4 d0 d1 HX2
          go_wp2_with fail
          go_ret
          exact ⟨rfl, HBE.out⟩
        by_cases q4 : A.size ≤ rr
        · have hD := (AirP.check_places HN.out HOK.out (AirP.not_places hlt (HOA.out (by omega)))).symm.trans HR.out
          subst hD
          clear HR HPL HX HOA HOB
          replace x0 := fun q : Regrown => cell_regrown x0 q.d q.os
          replace x1 := fun q : Regrown => cell_regrown x1 q.d q.os
          replace x2 := fun q : Regrown => cell_regrown x2 q.d q.os
          replace x3 := fun q : Regrown => cell_regrown x3 q.d q.os
          replace x4 := fun q : Regrown => cell_regrown x4 q.d q.os
          replace d0 := fun q : Regrown => cell_regrown d0 q.d q.os
          replace d1 := fun q : Regrown => cell_regrown d1 q.d q.os
          refine wp_region_quiet_below (by kernel_rfl) (by kernel_rfl) ?_
          repeat (first | go_big_quiet_step ((go_at_call 16; with_reducible exact Calls.regrown_of (ks _))) | quiet_step (fail))
          refine wpQuiet_nil ?_
          rintro _ ⟨pq, rfl⟩
          have hbq := below_regrown w2 pq.d pq.os
          have HBE := Lib.hid (bthen HB1.out (bthen HB2.out hbq))
          clear x0 x1 x2 x3 x4 d0 d1 HX2
          go_wp2_with fail
          go_ret
          exact ⟨rfl, HBE.out⟩
        replace HOB := Lib.hid (HOB.out ⟨by omega, by omega, by omega, by omega⟩)
        clear HOA
        replace x0 := fun q : Regrown => cell_regrown x0 q.d q.os
        replace x1 := fun q : Regrown => cell_regrown x1 q.d q.os
        replace x2 := fun q : Regrown => cell_regrown x2 q.d q.os
        replace x3 := fun q : Regrown => cell_regrown x3 q.d q.os
        replace x4 := fun q : Regrown => cell_regrown x4 q.d q.os
        replace d0 := fun q : Regrown => cell_regrown d0 q.d q.os
        replace d1 := fun q : Regrown => cell_regrown d1 q.d q.os
        refine wp_region_quiet_below (by kernel_rfl) (by kernel_rfl) ?_
        repeat (first | go_big_quiet_step ((go_at_call 16; with_reducible exact Calls.regrown_of (ks _))) | quiet_step (fail))
        refine wpQuiet_nil ?_
        rintro _ ⟨pq, rfl⟩
        have hbq := below_regrown w2 pq.d pq.os
        have HB3 := Lib.hid (bthen HB2.out hbq)
        clear x0 x1 x2 x3 x4 q1 q2 q3 q4
        go_upto_region 12 with fail
        refine wp_gen (fun W => Below w2.heap.size w2 W ∧ W.cell? ⟨gb, 0, none⟩ = some (.int .i64 c) ∧ W.cell? ⟨gb, 1, none⟩ = some (.int .i64 rr)) ⟨hbq, d0 pq, d1 pq⟩ ?_
        clear d0 d1 hbq HB3
        rintro w3 ⟨hb3, d0, d1⟩
        have HB3 := Lib.hid (bthen HB2.out hb3)
        have HX3 := Lib.hid (HX2.out.keep hb3); have HBA3 := Lib.hid (HBA2.out.keep hb3)
        have HD0 := Lib.hid (And.intro d0 d1)
        clear hb3 d0 d1 HX2 HX HB2 HBA2 pq
        go_upto_region 13 with fail
        go_loopw [7] (CheckIn w3 A k) (fun i _ => k - (intOf i).toNat)
        case atStart => exact ⟨0, Nat.zero_le _, rfl, Below.refl _ _, fun j hj => by omega⟩
        case round =>
          obtain ⟨j, hj, rfl, hB, hne⟩ := hrel
          have HNE := Lib.hid hne; have HBI := Lib.hid hB
          clear hne
          by_cases hlt2 : j < k
          · have hlt2I : (j : Int) < (k : Int) := by omega
            have hj0 : (0 : Int) ≤ (j : Int) := by omega
            have hjl : (j : Int) < (A.bounds.length : Int) := by omega
            obtain ⟨x0, x1, x2, x3, x4⟩ := HX3.out.keep hB
            rw [HPA.out] at x4
            have d0 := bkeep hB HD0.out.1; have d1 := bkeep hB HD0.out.2
            obtain ⟨b', off', hpe, cj0, cj1⟩ := (HBA3.out.keep hB).at (k := j) (by omega)
            cases hpe
            have hbj : A.bounds.getD j (0, 0) = A.bound j := rfl
            rw [hbj] at cj0 cj1
            obtain ⟨cj, hcj⟩ : ∃ c, A.bound j = c := ⟨_, rfl⟩
            have HCJ := Lib.hid hcj
            rw [hcj] at cj0 cj1
            obtain ⟨x, y⟩ := cj
            dsimp only at cj0 cj1
            clear hbj hB x0 x1 x2 x3 hcj
            by_cases ex : x = c
            · by_cases ey : y = rr
              · subst ex ey
                have hD := (AirP.check_places HN.out HOK.out (AirP.not_places hlt fun q => q.2 j hlt2 (HCJ.out.trans HCR.out.symm))).symm.trans HR.out
                subst hD
                have HBE := Lib.hid (bthen HB1.out (bthen HB3.out HBI.out))
                clear HR HPL HOB HNE HX3 HBA3
                go_upto_region 15 with fail
                go_quiet (fail)
                go_wp2_with fail
                go_ret
                exact ⟨rfl, by first | exact HBE.out | exact HBE.out.drew | exact below_drewN HBE.out _⟩
              · subst ex
                have HNE2 := Lib.hid (show ∀ i, i < j + 1 → A.bound i ≠ A.bound k from fun i hi => by
                  by_cases e : i = j
                  · subst e; rw [HCJ.out, HCR.out]; exact fun h => ey (Prod.mk.inj h).2
                  · exact HNE.out i (by omega))
                clear HNE
                go_upto_region 15 with fail
                go_quiet (fail)
                go_wp2_with fail
                go_roundw
                case rel => exact ⟨j + 1, by omega, by go_num, below_drewN HBI.out _, HNE2.out⟩
                case measure => simp [intOf]; omega
            · have HNE2 := Lib.hid (show ∀ i, i < j + 1 → A.bound i ≠ A.bound k from fun i hi => by
                by_cases e : i = j
                · subst e; rw [HCJ.out, HCR.out]; exact fun h => ex (Prod.mk.inj h).1
                · exact HNE.out i (by omega))
              clear HNE
              go_upto_region 15 with fail
              go_quiet (fail)
              go_wp2_with fail
              go_roundw
              case rel => exact ⟨j + 1, by omega, by go_num, below_drewN HBI.out _, HNE2.out⟩
              case measure => simp [intOf]; omega
          · obtain rfl : j = k := by omega
            have HPL2 := Lib.hid (show ∀ i, i < j + 1 → A.okAt i from fun i hi => by
              by_cases e : i = j
              · subst e; exact HOB.out HNE.out
              · exact HPL.out i (by omega))
            clear HNE HPL HOB HX3 HBA3 HD0
            have HBN := Lib.hid (bthen HB3.out hB)
            clear hB
            go_wp2_with fail
            go_roundw
            case rel => exact ⟨j + 1, by omega, by go_num, HBN.out, HPL2.out⟩
            case measure => simp [intOf]; omega
      · obtain rfl : k = A.bounds.length := by omega
        have hD := (AirP.check_is HN.out HOK.out (fun j hj => HPL.out j hj)).symm.trans HR.out
        subst hD
        have HBE := Lib.hid (bthen HB1.out HB.out)
        clear HR HPL HX
        go_wp2_with fail
        go_ret
        exact ⟨rfl, HBE.out⟩
  · have hD := (AirP.check_rules HN.out (show A.all.2 = e by rw [HALL.out]) he).symm.trans HR.out
    subst hD
    clear HR HALL
    go_wp2_with fail
    go_ret
    exact ⟨rfl, HB1.out⟩
end Go.Proofs.Ytckipfcjgmiacaa
