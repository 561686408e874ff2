/-
  The walk of AirChecks: it answers true, where the program's calls do what is asked of them. (Written by gen_alaws.py.)
-/
import Derived.Test.YtckipfcjgmiacaaALShort
import Derived.Test.YtckipfcjgmiacaaAirRefC
import Derived.Test.YtckipfcjgmiacaaAirRefP
import Derived.BigQuiet
namespace Go.Proofs.Ytckipfcjgmiacaa
open Go Go.RowKit
set_option linter.unusedVariables false

def ChkRel18 (w5 : World) (n : Nat) (i : Value) (W : World) : Prop := ∃ k : Nat, k ≤ n ∧ i = .int .i64 k ∧ Below w5.heap.size w5 W
set_option maxRecDepth 100000 in
set_option maxHeartbeats 8000000 in
theorem achecks_body (G : World → Prop) (hAk : AskAir G) (aw : ∀ W, G W → Calls Try.prog 9 #[] W fun e w' => e = .returned (.bool true) ∧ Below W.heap.size W w') (A : AirP) (p : AirAt) (w : World) (hG : G w) (hA : AirA w A p) (hk : OkAir A) :
    Calls Try.prog 3 #[A.val p] w fun e w' => e = .returned (.bool true) ∧ Below w.heap.size w w' := by
  have HK := Lib.hid (fun (W W' : World) => @AskAir.keep G hAk W W')
  have HG0 := Lib.hid hG
  have HA0 := Lib.hid hA
  clear hG hA
  by_cases hsh : shortB A = true
  case neg =>
    have hsh : shortB A = false := by simpa using hsh
    have ks := fun W (h : AirA W A p) => rashort_is A p false W h hsh
    clear hsh
    go_enter Try.func3, Try.ntmps3
    go_upto_region 1 with fail
    obtain ⟨g, hg⟩ : ∃ g, w.heap.size = g := ⟨_, rfl⟩
    refine wp_gen (fun W => Below w.heap.size w W ∧ AirC W g A p) ⟨(Below.refl _ _).alloc (Nat.le_refl _) _, by rw [← hg]; exact AirC.new _ _ _ _⟩ ?_
    rintro w0 ⟨hB0, hC⟩
    simp only [hg]
    have HB0 := Lib.hid hB0; have HC := Lib.hid hC
    have HA := Lib.hid (HA0.out.keep hB0)
    have HG := Lib.hid (HK.out _ _ HG0.out hB0)
    have HB : Hid (Below w0.heap.size w0 w0) := Lib.hid (Below.refl _ _)
    clear hB0 hg HA0 HG0 hC
    obtain ⟨x0, x1, x2, x3, x4⟩ := HC.out
    have ks := fun W (h : Below w0.heap.size w0 W) => ks W (HA.out.keep h)
    have aw := fun W (h : Below w0.heap.size w0 W) => aw W (HK.out _ _ HG.out h)
    go_wp2_with (first
        | (go_at_call 8; (with_reducible refine (ks _ HB.out).mono ?_); rintro e w1 ⟨rfl, hb⟩; replace x0 := bkeep hb x0; replace x1 := bkeep hb x1; replace x2 := bkeep hb x2; replace x3 := bkeep hb x3; replace x4 := bkeep hb x4; replace HB := Lib.hid (bthen HB.out hb); clear hb)
        | (go_at_call 9; (with_reducible refine (aw _ HB.out).mono ?_); rintro e w1 ⟨rfl, hb⟩; replace x0 := bkeep hb x0; replace x1 := bkeep hb x1; replace x2 := bkeep hb x2; replace x3 := bkeep hb x3; replace x4 := bkeep hb x4; replace HB := Lib.hid (bthen HB.out hb); clear hb))
    go_ret
    exact ⟨rfl, bthen HB0.out HB.out⟩
  have hf := short_few hsh
  have ks := fun W (h : AirA W A p) => rashort_is A p true W h hsh
  obtain ⟨e, he⟩ : ∃ e, A.check = e := ⟨_, rfl⟩
  obtain ⟨ls, r, hr⟩ : ∃ ls r, A.all = (ls, r) := ⟨_, _, rfl⟩
  have HE := Lib.hid he; have HALL := Lib.hid hr
  go_enter Try.func3, Try.ntmps3
  go_upto_region 1 with fail
  obtain ⟨g, hg⟩ : ∃ g, w.heap.size = g := ⟨_, rfl⟩
  refine wp_gen (fun W => Below w.heap.size w W ∧ AirC W g A p) ⟨(Below.refl _ _).alloc (Nat.le_refl _) _, by rw [← hg]; exact AirC.new _ _ _ _⟩ ?_
  rintro w0 ⟨hB0, hC⟩
  simp only [hg]
  have HB0 := Lib.hid hB0; have HC := Lib.hid hC
  have HA := Lib.hid (HA0.out.keep hB0)
  have HG := Lib.hid (HK.out _ _ HG0.out hB0)
  have HB : Hid (Below w0.heap.size w0 w0) := Lib.hid (Below.refl _ _)
  clear hB0 hg HA0 HG0 hC
  obtain ⟨x0, x1, x2, x3, x4⟩ := HC.out
  have ks := fun W (h : Below w0.heap.size w0 W) => ks W (HA.out.keep h)
  have c1 := fun W (h : Below w0.heap.size w0 W) => hAk.check A p e W (HA.out.keep h) hk hf he (HK.out _ _ HG.out h)
  have c2 := fun W (h : Below w0.heap.size w0 W) => racheck_is A p e W (HA.out.keep h) hk hf he
  have r1 := fun W (h : Below w0.heap.size w0 W) => hAk.rules A p ls r W (HA.out.keep h) hk hf hr (HK.out _ _ HG.out h)
  have r2 := fun W (h : Below w0.heap.size w0 W) => rarules_is A p ls r W (HA.out.keep h) hk hf hr
  unfold RulesPost at r1 r2
  clear he hr hsh
  go_upto_region 9 with (first
      | (go_at_call 8; (with_reducible refine (ks _ HB.out).mono ?_); rintro e w1 ⟨rfl, hb⟩; replace x0 := bkeep hb x0; replace x1 := bkeep hb x1; replace x2 := bkeep hb x2; replace x3 := bkeep hb x3; replace x4 := bkeep hb x4; replace HB := Lib.hid (bthen HB.out hb); clear hb)
      | (go_at_call 10; (with_reducible refine (c1 _ HB.out).mono ?_); rintro e w1 ⟨rfl, hb⟩; replace x0 := bkeep hb x0; replace x1 := bkeep hb x1; replace x2 := bkeep hb x2; replace x3 := bkeep hb x3; replace x4 := bkeep hb x4; replace HB := Lib.hid (bthen HB.out hb); clear hb)
      | (go_at_call 13; (with_reducible refine (c2 _ HB.out).mono ?_); rintro e w1 ⟨rfl, hb⟩; replace x0 := bkeep hb x0; replace x1 := bkeep hb x1; replace x2 := bkeep hb x2; replace x3 := bkeep hb x3; replace x4 := bkeep hb x4; replace HO1 := Lib.hid (And.intro (HO1.out.1.keep hb) True.intro); replace HO2 := Lib.hid (HO2.out.keep hb); replace HB := Lib.hid (bthen HB.out hb); clear hb)
      | (go_at_call 11; (with_reducible refine (r1 _ HB.out).mono ?_); rintro E w1 ⟨hb, a1, n1, rfl, o1, _⟩; replace x0 := bkeep hb x0; replace x1 := bkeep hb x1; replace x2 := bkeep hb x2; replace x3 := bkeep hb x3; replace x4 := bkeep hb x4; have HO1 := Lib.hid (And.intro o1 (Below.refl w1.heap.size w1)); clear o1; replace HB := Lib.hid (bthen HB.out hb); clear hb)
      | (go_at_call 12; (with_reducible refine (r2 _ HB.out).mono ?_); rintro E w2 ⟨hb, a2, n2, rfl, o2, _⟩; replace x0 := bkeep hb x0; replace x1 := bkeep hb x1; replace x2 := bkeep hb x2; replace x3 := bkeep hb x3; replace x4 := bkeep hb x4; have HO2 := Lib.hid o2; replace HO1 := Lib.hid (And.intro (HO1.out.1.keep hb) True.intro); clear o2; replace HB := Lib.hid (bthen HB.out hb); clear hb))
  refine wp_gen (fun W => Below w0.heap.size w0 W ∧ OpsA W a1 ls.length ls ∧ OpsA W a2 ls.length ls) ⟨HB.out, HO1.out.1, HO2.out⟩ ?_
  clear HB HO1 HO2 x0 x1 x2 x3 x4 ks c1 c2 r1 r2
  rintro w5 ⟨hB5, ho1, ho2⟩
  have HB := Lib.hid hB5; have HO1 := Lib.hid ho1; have HO2 := Lib.hid ho2
  have hlm : ls.length ≤ 100 := by
    by_cases h0 : A.all.2 = 0
    · have e0 := AirP.all_len h0; rw [HALL.out] at e0; have e1 : ls.length = A.steps.length + A.rules.length := e0; have := hf.1; have := hf.2.1; omega
    · have := AirP.all_nil h0; rw [HALL.out] at this; have e0 : ls = [] := this; rw [e0]; exact Nat.zero_le _
  clear hB5 ho1 ho2
  go_loopw [8] (ChkRel18 w5 ls.length) (fun i _ => ls.length - (intOf i).toNat)
  case atStart => exact ⟨0, Nat.zero_le _, rfl, Below.refl _ _⟩
  case round =>
    obtain ⟨k, hk2, rfl, hBl⟩ := hrel
    by_cases hlt : k < ls.length
    · have hltI : (k : Int) < (ls.length : Int) := by omega
      have hk0 : (0 : Int) ≤ (k : Int) := by omega
      obtain ⟨b1, o1, rfl, q1, m1, u1, v1, _⟩ := (HO1.out.keep hBl).2.2 k hlt
      obtain ⟨b2, o2, rfl, q2, m2, u2, v2, _⟩ := (HO2.out.keep hBl).2.2 k hlt
      have s1 := fun W (h : Below wr.heap.size wr W) => rsameO_is q1 q2 (ls.getD k []).length m1 m2 (ls.getD k []) W (v1.keep h) (v2.keep h)
      have HBL := Lib.hid hBl
      clear hBl v1 v2
      generalize (ls.getD k []).length = nk at *
      go_upto_region 11 with fail
      replace u1 := fun q : Regrown => cell_regrown u1 q.d q.os
      replace u2 := fun q : Regrown => cell_regrown u2 q.d q.os
      refine wp_region_quiet_below (by kernel_rfl) (by kernel_rfl) ?_
      repeat (first | go_big_quiet_step (first
        | (go_at_call 14; with_reducible exact Calls.regrown_of (s1 _ (below_regrown wr _ _)))) | quiet_step (fail))
      refine wpQuiet_nil ?_
      rintro _ ⟨pq, rfl⟩
      have HBN := Lib.hid (bthen HBL.out (below_regrown wr pq.d pq.os))
      clear HBL u1 u2
      go_wp2_with fail
      go_roundw
      case rel => exact ⟨k + 1, by omega, by go_num, HBN.out⟩
      case measure => simp [intOf]; omega
    · obtain rfl : k = ls.length := by omega
      obtain ⟨x0, x1, x2, x3, x4⟩ := HC.out.keep (bthen HB.out hBl)
      by_cases hE : e = 0
      · subst hE
        have aw' := fun W (h : Below wr.heap.size wr W) => aw W (HK.out _ _ HG.out (bthen (bthen HB.out hBl) h))
        obtain ⟨hnear, _, hall3, hup3, _⟩ := AirP.check_ok HE.out
        have hall2 : A.all.2 = 0 := by rw [hall3]; exact hup3
        have hsz := A.size
        have z1 := fun W (h : Below wr.heap.size wr W) => hAk.size A p W (HA.out.keep (bthen (bthen HB.out hBl) h)) hk hnear (HK.out _ _ HG.out (bthen (bthen HB.out hBl) h))
        have z2 := fun W (h : Below wr.heap.size wr W) => rasize_is A p W hnear
        have d1 := fun W (h : Below wr.heap.size wr W) => hAk.degree A p W (HA.out.keep (bthen (bthen HB.out hBl) h)) hk hf HE.out (HK.out _ _ HG.out (bthen (bthen HB.out hBl) h))
        have d2 := fun W (h : Below wr.heap.size wr W) => radegree_is A p W (HA.out.keep (bthen (bthen HB.out hBl) h)) hk hf hall2
        have p1 := fun W (h : Below wr.heap.size wr W) => hAk.parts A p W (HA.out.keep (bthen (bthen HB.out hBl) h)) hk hf HE.out (HK.out _ _ HG.out (bthen (bthen HB.out hBl) h))
        have p2 := fun W (h : Below wr.heap.size wr W) => raparts_is A p W (HA.out.keep (bthen (bthen HB.out hBl) h)) hk hf hall2
        clear hsz
        go_upto_region 13 with fail
        replace x0 := fun q : Regrown => cell_regrown x0 q.d q.os
        replace x1 := fun q : Regrown => cell_regrown x1 q.d q.os
        replace x2 := fun q : Regrown => cell_regrown x2 q.d q.os
        replace x3 := fun q : Regrown => cell_regrown x3 q.d q.os
        replace x4 := fun q : Regrown => cell_regrown x4 q.d q.os
        refine wp_region_quiet_below (by kernel_rfl) (by kernel_rfl) ?_
        repeat (first | go_big_quiet_step (first
          | (go_at_call 9; with_reducible exact Calls.regrown_of (aw' _ (below_regrown wr _ _)))
          | (go_at_call 15; with_reducible exact Calls.regrown_of (z1 _ (below_regrown wr _ _)))
          | (go_at_call 16; with_reducible exact Calls.regrown_of (z2 _ (below_regrown wr _ _)))
          | (go_at_call 17; with_reducible exact Calls.regrown_of (d1 _ (below_regrown wr _ _)))
          | (go_at_call 18; with_reducible exact Calls.regrown_of (d2 _ (below_regrown wr _ _)))
          | (go_at_call 19; with_reducible exact Calls.regrown_of (p1 _ (below_regrown wr _ _)))
          | (go_at_call 20; with_reducible exact Calls.regrown_of (p2 _ (below_regrown wr _ _)))) | quiet_step (fail))
        refine wpQuiet_nil ?_
        rintro _ ⟨pq, rfl⟩
        have HBE := Lib.hid (bthen HB0.out (bthen (bthen HB.out hBl) (below_regrown wr pq.d pq.os)))
        clear x0 x1 x2 x3 x4 hBl
        go_wp2_with fail
        go_ret
        exact ⟨rfl, HBE.out⟩
      · have aw' := fun W (h : Below wr.heap.size wr W) => aw W (HK.out _ _ HG.out (bthen (bthen HB.out hBl) h))
        go_upto_region 13 with fail
        replace x0 := fun q : Regrown => cell_regrown x0 q.d q.os
        replace x1 := fun q : Regrown => cell_regrown x1 q.d q.os
        replace x2 := fun q : Regrown => cell_regrown x2 q.d q.os
        replace x3 := fun q : Regrown => cell_regrown x3 q.d q.os
        replace x4 := fun q : Regrown => cell_regrown x4 q.d q.os
        refine wp_region_quiet_below (by kernel_rfl) (by kernel_rfl) ?_
        repeat (first | go_big_quiet_step (first
          | (go_at_call 9; with_reducible exact Calls.regrown_of (aw' _ (below_regrown wr _ _)))) | quiet_step (fail))
        refine wpQuiet_nil ?_
        rintro _ ⟨pq, rfl⟩
        have HBE := Lib.hid (bthen HB0.out (bthen (bthen HB.out hBl) (below_regrown wr pq.d pq.os)))
        clear x0 x1 x2 x3 x4 hBl
        go_wp2_with fail
        go_ret
        exact ⟨rfl, HBE.out⟩
end Go.Proofs.Ytckipfcjgmiacaa
