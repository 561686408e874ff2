/-
  The walk of TraceFirst: it answers true, where the program's calls do what is asked of them. (Written by gen_tlaws.py.)
-/
import Derived.Test.YtjcgakmhpblanaaTLShort
import Derived.BigQuiet
namespace Go.Proofs.Ytjcgakmhpblanaa
open Go Go.RowKit Go.Sort Go.BigFrame
set_option linter.unusedVariables false

theorem wrap_less {k T j : Nat} (h : k = T + j) (hk : k ≤ 1000000) : IntKind.i64.wrap ((k : Int) - (T : Int)) = (j : Int) ∧ wrap64 ((k : Int) - (T : Int)) = (j : Int) := ⟨by rw [IntWalk.i64_in _ (by omega)]; omega, by rw [IntWalk.wrap64_in _ (by omega)]; omega⟩
theorem wrap_next {n : Nat} (h : n ≤ 1000000) : IntKind.i64.wrap ((n : Int) + 1) = ((n + 1 : Nat) : Int) ∧ wrap64 ((n : Int) + 1) = ((n + 1 : Nat) : Int) := ⟨by rw [IntWalk.i64_in _ (by omega)]; omega, by rw [IntWalk.wrap64_in _ (by omega)]; omega⟩
def FstR2 (w1 : World) (A : AirP) (pub : List Int) (rows : List (List Int)) (n : Nat) (i : Value) (W : World) : Prop := ∃ k : Nat, k ≤ A.many ∧ i = .int .i64 k ∧ Below w1.heap.size w1 W ∧ ∀ m, m < k → A.badB pub rows n m = false
theorem told_not_arg {A : AirP} {pub : List Int} {rows : List (List Int)} {f : Int × Int} {e : Int} (h : A.told pub rows = (f, e)) (hw : A.whole pub rows) : (e == 1) = false := by
  rcases AirP.told_cases A pub rows with ⟨c, _⟩ | ⟨_, e2, _⟩ | ⟨_, i, k, _, _, _, _, _, e2⟩
  · exact absurd hw c
  · rw [e2] at h; obtain ⟨_, rfl⟩ := Prod.mk.inj h; rfl
  · rw [e2] at h; obtain ⟨_, rfl⟩ := Prod.mk.inj h; rfl
set_option maxRecDepth 100000 in
set_option maxHeartbeats 8000000 in
theorem tfirst_body (G : World → Prop) (hAk : AskTrace G) (aw : ∀ W, G W → Calls Try.prog 9 #[] W fun e w' => e = .returned (.bool true) ∧ Below W.heap.size W w') (A : AirP) (p : AirAt) (pa : Option Addr) (pn pc : Nat) (pub : List Int) (a : Option Addr) (n cap : Nat) (rows : List (List Int)) (w : World) (hG : G w) (hA : AirA w A p) (hk : OkAir A) (hp : RowA w pa pn pub) (hpu : UsR pub) (hr : RowsA w a n rows) (hru : UsRows rows) :
    Calls Try.prog 6 #[A.val p, .slice pa pn pc, .slice a n cap] w fun e w' => e = .returned (.bool true) ∧ Below w.heap.size w w' := by
  obtain rfl := hp.1
  obtain rfl := hr.1
  have HK := Lib.hid (fun (W W' : World) => @AskTrace.keep G hAk W W')
  have HG0 := Lib.hid hG
  have HA0 := Lib.hid hA
  clear hG hA
  have HP0 := Lib.hid hp; have HR0 := Lib.hid hr
  have hpm := hp.2.1; have hrm := hr.2.1
  unfold maxLen at hpm hrm
  clear hp hr
  go_enter Try.func6, Try.ntmps6
  go_upto_region 1 with fail
  obtain ⟨g, hg⟩ : ∃ g, w.heap.size = g := ⟨_, rfl⟩
  refine wp_gen (fun W => Below w.heap.size w W ∧ AirC W g A p) ⟨(Below.refl _ _).alloc (Nat.le_refl _) _, by rw [← hg]; exact AirC.new _ _ _ _⟩ ?_
  rintro w0 ⟨hB0, hC⟩
  simp only [hg]
  have HB0 := Lib.hid hB0; have HC := Lib.hid hC
  have HA := Lib.hid (HA0.out.keep hB0)
  have HG := Lib.hid (HK.out _ _ HG0.out hB0)
  have HB : Hid (Below w0.heap.size w0 w0) := Lib.hid (Below.refl _ _)
  clear hB0 hg HA0 HG0 hC
  obtain ⟨x0, x1, x2, x3, x4⟩ := HC.out
  have HP := Lib.hid (HP0.out.keep HB0.out); have HR := Lib.hid (rowsA_keep HR0.out HB0.out)
  obtain ⟨r, hz⟩ := small_or A rows
  have ks := fun W (h : Below w0.heap.size w0 W) => trsmall_is A p a rows.length cap rows r W (HA.out.keep h) (rowsA_keep HR.out h) hz
  have HZ := Lib.hid hz
  clear hz
  have aw := fun W (h : Below w0.heap.size w0 W) => aw W (HK.out _ _ HG.out h)
  clear HP0 HR0
  by_cases h30 : (30 : Int) < (pub.length : Int)
  · cases r with
    | true =>
      go_wp2_with (first
          | (go_at_call 8; (with_reducible refine (ks _ HB.out).mono ?_); rintro e w1 ⟨rfl, hb⟩; replace x0 := bkeep hb x0; replace x1 := bkeep hb x1; replace x2 := bkeep hb x2; replace x3 := bkeep hb x3; replace x4 := bkeep hb x4; replace HB := Lib.hid (bthen HB.out hb); clear hb)
          | (go_at_call 9; (with_reducible refine (aw _ HB.out).mono ?_); rintro e w1 ⟨rfl, hb⟩; replace x0 := bkeep hb x0; replace x1 := bkeep hb x1; replace x2 := bkeep hb x2; replace x3 := bkeep hb x3; replace x4 := bkeep hb x4; replace HB := Lib.hid (bthen HB.out hb); clear hb))
      go_ret
      exact ⟨rfl, bthen HB0.out HB.out⟩
    | false =>
      go_wp2_with (first
          | (go_at_call 8; (with_reducible refine (ks _ HB.out).mono ?_); rintro e w1 ⟨rfl, hb⟩; replace x0 := bkeep hb x0; replace x1 := bkeep hb x1; replace x2 := bkeep hb x2; replace x3 := bkeep hb x3; replace x4 := bkeep hb x4; replace HB := Lib.hid (bthen HB.out hb); clear hb)
          | (go_at_call 9; (with_reducible refine (aw _ HB.out).mono ?_); rintro e w1 ⟨rfl, hb⟩; replace x0 := bkeep hb x0; replace x1 := bkeep hb x1; replace x2 := bkeep hb x2; replace x3 := bkeep hb x3; replace x4 := bkeep hb x4; replace HB := Lib.hid (bthen HB.out hb); clear hb))
      go_ret
      exact ⟨rfl, bthen HB0.out HB.out⟩
  cases r with
  | false =>
    go_wp2_with (first
        | (go_at_call 8; (with_reducible refine (ks _ HB.out).mono ?_); rintro e w1 ⟨rfl, hb⟩; replace x0 := bkeep hb x0; replace x1 := bkeep hb x1; replace x2 := bkeep hb x2; replace x3 := bkeep hb x3; replace x4 := bkeep hb x4; replace HB := Lib.hid (bthen HB.out hb); clear hb)
        | (go_at_call 9; (with_reducible refine (aw _ HB.out).mono ?_); rintro e w1 ⟨rfl, hb⟩; replace x0 := bkeep hb x0; replace x1 := bkeep hb x1; replace x2 := bkeep hb x2; replace x3 := bkeep hb x3; replace x4 := bkeep hb x4; replace HB := Lib.hid (bthen HB.out hb); clear hb))
    go_ret
    exact ⟨rfl, bthen HB0.out HB.out⟩
  | true =>
    have hsm := HZ.out.1 rfl
    have hf := hsm.few
    obtain ⟨f, e, ht⟩ : ∃ f e, A.told pub rows = (f, e) := ⟨_, _, rfl⟩
    have kc := fun W (h : Below w0.heap.size w0 W) => hAk.check A p pa pub.length pc pub a rows.length cap rows f e W (HA.out.keep h) hk hf (HP.out.keep h) hpu (rowsA_keep HR.out h) hru ht (HK.out _ _ HG.out h)
    have HTD := Lib.hid ht
    clear ht
    have hal := fun (W : World) (o : Obj) => (Below.refl W.heap.size W).alloc (Nat.le_refl _) o
    by_cases hwh : A.whole pub rows
    case neg =>
      have kw := fun W (h : Below w0.heap.size w0 W) => hAk.whole A p pa pub.length pc pub a rows.length cap rows false W (HA.out.keep h) hk hf (HP.out.keep h) hpu (rowsA_keep HR.out h) hru (decide_eq_false hwh) (HK.out _ _ HG.out h)
      have hD := (AirP.told_no hwh).symm.trans HTD.out
      obtain ⟨rfl, rfl⟩ := Prod.mk.inj hD
      clear hD hwh
      go_upto_region 4 with (first
          | (go_at_call 8; (with_reducible refine (ks _ HB.out).mono ?_); rintro e w1 ⟨rfl, hb⟩; replace x0 := bkeep hb x0; replace x1 := bkeep hb x1; replace x2 := bkeep hb x2; replace x3 := bkeep hb x3; replace x4 := bkeep hb x4; replace HB := Lib.hid (bthen HB.out hb); clear hb)
          | (go_at_call 16; (with_reducible refine (kc _ HB.out).mono ?_); rintro e w1 ⟨rfl, hb⟩; replace x0 := bkeep hb x0; replace x1 := bkeep hb x1; replace x2 := bkeep hb x2; replace x3 := bkeep hb x3; replace x4 := bkeep hb x4; replace HB := Lib.hid (bthen HB.out hb); clear hb))
      refine wp_gen (fun W => Below w0.heap.size w0 W) (bthen HB.out (hal _ _)) ?_
      clear HB x0 x1 x2 x3 x4
      rintro w2 hB
      have HB := Lib.hid hB
      obtain ⟨x0, x1, x2, x3, x4⟩ := HC.out.keep hB
      clear hB
      go_wp2_with (first
          | (go_at_call 9; (with_reducible refine (aw _ HB.out).mono ?_); rintro e w1 ⟨rfl, hb⟩; replace x0 := bkeep hb x0; replace x1 := bkeep hb x1; replace x2 := bkeep hb x2; replace x3 := bkeep hb x3; replace x4 := bkeep hb x4; replace HB := Lib.hid (bthen HB.out hb); clear hb)
          | (go_at_call 18; (with_reducible refine (kw _ HB.out).mono ?_); rintro e w1 ⟨rfl, hb⟩; replace x0 := bkeep hb x0; replace x1 := bkeep hb x1; replace x2 := bkeep hb x2; replace x3 := bkeep hb x3; replace x4 := bkeep hb x4; replace HB := Lib.hid (bthen HB.out hb); clear hb))
      go_ret
      exact ⟨rfl, bthen HB0.out HB.out⟩
    have HW := Lib.hid hwh
    have he1 := told_not_arg HTD.out hwh
    have hc0 := hwh.1
    have hall : A.all = (A.all.1, 0) := Prod.ext rfl (by obtain ⟨_, _, h3, h4, _⟩ := AirP.check_ok hc0; rw [h3]; exact h4)
    have kr := fun W (h : Below w0.heap.size w0 W) => rarules_is A p A.all.1 0 W (HA.out.keep h) hk hf hall
    unfold RulesPost at kr
    have hTl : A.all.1.length ≤ 60 := by
      have e : A.all.1.length = A.count := AirP.all_len (by rw [hall])
      have := hsm.steps; have := hsm.rules
      rw [e]
      unfold AirP.count
      omega
    have hM16 := hsm.bounds
    have hn70 := hsm.many
    have HEV := Lib.hid (fun k (hk : k < A.all.1.length) => AirP.rule_ev hc0 hk)
    have HIN := Lib.hid (fun k (hk : k < A.bounds.length) => AirP.bound_in hc0 hk)
    have HW34 := Lib.hid (wrap_two A.all.1.length A.bounds.length (by omega) (by omega))
    have HNB := Lib.hid (And.intro hTl (And.intro hM16 (And.intro hn70 (And.intro hpm hrm))))
    clear hwh hall hc0 hTl hM16 hn70 hpm hrm hsm
    go_upto_region 4 with (first
        | (go_at_call 8; (with_reducible refine (ks _ HB.out).mono ?_); rintro e w1 ⟨rfl, hb⟩; replace x0 := bkeep hb x0; replace x1 := bkeep hb x1; replace x2 := bkeep hb x2; replace x3 := bkeep hb x3; replace x4 := bkeep hb x4; replace HB := Lib.hid (bthen HB.out hb); clear hb)
        | (go_at_call 16; (with_reducible refine (kc _ HB.out).mono ?_); rintro e w1 ⟨rfl, hb⟩; replace x0 := bkeep hb x0; replace x1 := bkeep hb x1; replace x2 := bkeep hb x2; replace x3 := bkeep hb x3; replace x4 := bkeep hb x4; replace HB := Lib.hid (bthen HB.out hb); clear hb))
    obtain ⟨gX, hgX⟩ : ∃ g, w1.heap.size = g := ⟨_, rfl⟩
    refine wp_gen (fun W => Below w0.heap.size w0 W ∧ Duo W gX (.int .i64 f.1) (.int .i64 f.2)) ⟨bthen HB.out (hal _ _), by rw [← hgX]; simp [Duo, go_sem]⟩ ?_
    clear HB x0 x1 x2 x3 x4 ks kc h30
    rintro w1' ⟨hB, hX⟩
    simp only [hgX]
    have HB := Lib.hid hB; have HX := Lib.hid hX
    obtain ⟨x0, x1, x2, x3, x4⟩ := HC.out.keep hB
    clear hgX hB hX
    go_upto_region 10 with (go_at_call 20; (with_reducible refine (kr _ HB.out).mono ?_); rintro E w2 ⟨hb, al, cl, rfl, hOL, hnl⟩; replace x0 := bkeep hb x0; replace x1 := bkeep hb x1; replace x2 := bkeep hb x2; replace x3 := bkeep hb x3; replace x4 := bkeep hb x4; have HOL := Lib.hid hOL; clear hOL hnl; replace HX := Lib.hid (HX.out.keep hb); replace HB := Lib.hid (bthen HB.out hb); clear hb)

    obtain ⟨w3, hw3⟩ : ∃ W, w2 = W := ⟨_, rfl⟩
    simp only [hw3] at *
    have HC3 := Lib.hid (HC.out.keep HB.out); have HA3 := Lib.hid (HA.out.keep HB.out); have HP3 := Lib.hid (HP.out.keep HB.out); have HR3 := Lib.hid (rowsA_keep HR.out HB.out)
    clear x0 x1 x2 x3 x4 kr hal
    go_loopw [11] (ChkR1 w3 A pub rows) (fun i _ => rows.length - (intOf i).toNat)
    case atStart => exact ⟨0, Nat.zero_le _, rfl, Below.refl _ _, fun j hj => by omega⟩
    case round =>
      obtain ⟨n, hn, rfl, hB, hpl⟩ := hrel
      have HBI := Lib.hid hB; have HPL := Lib.hid hpl
      clear hB hpl
      by_cases hlt : n < rows.length
      · have hltI : (n : Int) < (rows.length : Int) := cast_lt hlt
        have hn0 : (0 : Int) ≤ (n : Int) := by omega
        have hnw := wrap_next (n := n) (by have := HNB.out.2.2.1; omega)
        obtain ⟨m1, hm1⟩ : ∃ m, n + 1 = m := ⟨_, rfl⟩
        rw [hm1] at hnw
        have HW12 := Lib.hid hnw
        have HM1 := Lib.hid hm1
        clear hnw hm1
        go_upto_region 13 with fail
        go_loopw [12] (FstR2 w3 A pub rows n) (fun i _ => A.many - (intOf i).toNat)
        case atStart => exact ⟨0, Nat.zero_le _, rfl, HBI.out, fun j hj => by omega⟩
        case round =>
          obtain ⟨k, hk2, rfl, hB, hpl⟩ := hrel
          have HBK := Lib.hid hB; have HPK := Lib.hid hpl
          obtain ⟨x0, x1, x2, x3, x4⟩ := HC3.out.keep hB
          clear hB hpl
          by_cases hkm : k < A.many
          · have hkI : (k : Int) < ((A.all.1.length + A.bounds.length : Nat) : Int) := cast_lt hkm
            have HKB : Hid (k ≤ 1000) := Lib.hid (by have := HNB.out; unfold AirP.many at hkm; omega)
            have hk0 : (0 : Int) ≤ (k : Int) := by omega
            by_cases hkT : k < A.all.1.length
            · have hkTI : (k : Int) < (A.all.1.length : Int) := cast_lt hkT
              by_cases hnx : m1 < rows.length
              · have hnxI : (m1 : Int) < (rows.length : Int) := cast_lt hnx
                have hn10 : (0 : Int) ≤ (m1 : Int) := by omega
                obtain ⟨bl, lo, hpo, ao, co, o0, hO, hno⟩ := (HOL.out.keep HBK.out).2.2 k hkT
                obtain ⟨b, off, hpe, a1, cr, r0, hR1, -⟩ := (rowsA_keep HR3.out HBK.out).2.2 n hlt
                rw [show rows.getD n [] = rowN rows n from rfl] at r0 hR1
                have hw_n := rows_at (Q := fun r => (r.length : Int) = A.cols) (fun r hr => (HW.out.2.2.2.2 r hr).1) hlt
                have hu_n := rows_at hru hlt
                obtain ⟨b', off', hpe', a2, c2, r1, hR2, -⟩ := (rowsA_keep HR3.out HBK.out).2.2 m1 hnx
                rw [show rows.getD m1 [] = rowN rows m1 from rfl] at r1 hR2
                have hw_m := rows_at (Q := fun r => (r.length : Int) = A.cols) (fun r hr => (HW.out.2.2.2.2 r hr).1) hnx
                have hu_m := rows_at hru hnx
                rw [hpe] at hpe'
                cases hpe'
                obtain ⟨hev1, hev2⟩ := HEV.out k hkT
                have HO := Lib.hid hO; have HR1 := Lib.hid hR1; have HR2 := Lib.hid hR2
                have ka := fun W (h : Below wr.heap.size wr W) => reatR_is ao co (A.all.1.getD k []) a1 (rowN rows n).length cr (rowN rows n) a2 (rowN rows m1).length c2 (rowN rows m1) A.cols W (HO.out.keep h) hev1 hev2 (HR1.out.keep h) hu_n (by omega) (HR2.out.keep h) hu_m (by omega)
                have HBADZ : Hid (A.badB pub rows n k = (enc (evB numA (rowF (rowN rows n)) (rowF (rowN rows m1)) (A.all.1.getD k [])) != 0)) := Lib.hid (by
                  rw [AirP.bad_rule hkT, enc_bne]
                  unfold ruleBad
                  have hm1 := HM1.out
                  rw [hm1]
                  simp [hnx])
                generalize enc (evB numA (rowF (rowN rows n)) (rowF (rowN rows m1)) (A.all.1.getD k [])) = z at *
                generalize A.all.1.getD k [] = Lk at *
                generalize rowN rows n = row1 at *
                generalize rowN rows m1 = row2 at *
                subst hpe hpo
                clear hO hR1 hR2 hev1 hev2 hw_n hw_m hu_n hu_m hno
                by_cases hz0 : z = 0
                · subst hz0
                  have HPK2 : Hid (∀ m, m < k + 1 → A.badB pub rows n m = false) := Lib.hid fun m hm => by
                    by_cases e : m = k
                    · subst e; rw [HBADZ.out]; rfl
                    · exact HPK.out m (by omega)
                  clear HPK HBADZ x0 x1 x2 x3
                  obtain ⟨hw3, hw4⟩ := HW34.out
                  go_upto_region 17 with fail
                  clear hw3 hw4 hkI
                  obtain ⟨hw1, hw2⟩ := HW12.out
                  replace o0 := fun q : Regrown => cell_regrown o0 q.d q.os
                  replace r0 := fun q : Regrown => cell_regrown r0 q.d q.os
                  replace r1 := fun q : Regrown => cell_regrown r1 q.d q.os
                  refine wp_region_quiet_below (by kernel_rfl) (by kernel_rfl) ?_
                  repeat (first | go_big_quiet_step (first
                    | (go_at_call 21; with_reducible exact Calls.regrown_of (ka _ (below_regrown wr _ _)))) | quiet_step (fail))
                  refine wpQuiet_nil ?_
                  rintro _ ⟨pq, rfl⟩
                  have HBN := Lib.hid (bthen HBK.out (below_regrown wr pq.d pq.os))
                  clear o0 r0 r1 ka x4
                  try clear hw5 hw6
                  try clear hw1 hw2
                  have hkb := HKB.out
                  go_wp2_with fail
                  go_roundw
                  case rel => exact ⟨k + 1, by omega, by go_num, HBN.out, HPK2.out⟩
                  case measure => simp [intOf]; omega
                · have HBAD : Hid (A.badB pub rows n k = true) := Lib.hid (by rw [HBADZ.out]; simp [hz0])
                  clear HBADZ x0 x1 x2 x3
                  have hD := (AirP.told_at (k := k) HW.out hlt hkm HBAD.out HPL.out HPK.out).symm.trans HTD.out
                  obtain ⟨rfl, rfl⟩ := Prod.mk.inj hD
                  dsimp only at HX
                  clear hD HBAD HPK
                  obtain ⟨hw3, hw4⟩ := HW34.out
                  go_upto_region 17 with fail
                  clear hw3 hw4 hkI
                  obtain ⟨hw1, hw2⟩ := HW12.out
                  replace o0 := fun q : Regrown => cell_regrown o0 q.d q.os
                  replace r0 := fun q : Regrown => cell_regrown r0 q.d q.os
                  replace r1 := fun q : Regrown => cell_regrown r1 q.d q.os
                  refine wp_region_quiet_below (by kernel_rfl) (by kernel_rfl) ?_
                  repeat (first | go_big_quiet_step (first
                    | (go_at_call 21; with_reducible exact Calls.regrown_of (ka _ (below_regrown wr _ _)))) | quiet_step (fail))
                  refine wpQuiet_nil ?_
                  rintro _ ⟨pq, rfl⟩
                  have HBN := Lib.hid (bthen HBK.out (below_regrown wr pq.d pq.os))
                  clear o0 r0 r1 ka x4
                  obtain ⟨y0, y1, _, _⟩ := HX.out.keep HBN.out
                  replace HB := Lib.hid (bthen HB.out HBN.out)
                  go_wp2_with (go_at_call 9; (with_reducible refine (aw _ HB.out).mono ?_); rintro e w1 ⟨rfl, hb⟩; replace y0 := bkeep hb y0; replace y1 := bkeep hb y1; replace HB := Lib.hid (bthen HB.out hb); clear hb)
                  go_ret
                  exact ⟨rfl, bthen HB0.out HB.out⟩
              · have hnxI : ¬ (m1 : Int) < (rows.length : Int) := by omega
                have HPK2 : Hid (∀ m, m < k + 1 → A.badB pub rows n m = false) := Lib.hid fun m hm => by
                  by_cases e : m = k
                  · subst e; exact bad_last (by rw [HM1.out]; exact hnx) m hkT
                  · exact HPK.out m (by omega)
                clear HPK x0 x1 x2 x3
                obtain ⟨hw3, hw4⟩ := HW34.out
                go_upto_region 17 with fail
                clear hw3 hw4 hkI
                obtain ⟨hw1, hw2⟩ := HW12.out
                go_quiet (fail)
                have HBN := Lib.hid (below_drewN HBK.out nq)
                try clear hw5 hw6
                try clear hw1 hw2
                have hkb := HKB.out
                go_wp2_with fail
                go_roundw
                case rel => exact ⟨k + 1, by omega, by go_num, HBN.out, HPK2.out⟩
                case measure => simp [intOf]; omega
            · obtain ⟨j, hj⟩ : ∃ j, k = A.all.1.length + j := ⟨k - A.all.1.length, by omega⟩
              have hjl : j < A.bounds.length := by unfold AirP.many at hkm; omega
              have hjI : (j : Int) < (A.bounds.length : Int) := cast_lt hjl
              have hj0 : (0 : Int) ≤ (j : Int) := by omega
              have hkTI : ¬ (k : Int) < (A.all.1.length : Int) := by omega
              have HW56 := Lib.hid (wrap_less hj (by have := HNB.out; unfold AirP.many at hkm; omega))
              obtain ⟨bb, bo, hpb, c0, c1⟩ := (HA3.out.keep HBK.out).2.2.1.2.2 j hjl
              have hin := HIN.out j hjl
              have HBADP := Lib.hid (AirP.bad_place (A := A) (pub := pub) (rows := rows) (i := n) (k := j))
              rw [show A.bounds.getD j (0, 0) = A.bound j from rfl] at c0 c1
              rw [← hj] at HBADP
              generalize A.bound j = bd at *
              obtain ⟨C', R'⟩ := bd
              dsimp only at c0 c1 hin
              obtain ⟨i1, i2, i3, i4⟩ := hin
              obtain ⟨C, rfl⟩ := Int.eq_ofNat_of_zero_le i1
              rw [hpb] at x4
              have HJ := Lib.hid hj; have HI2 := Lib.hid i2; have HKM := Lib.hid hkm; have HJL := Lib.hid hjl; have HKT := Lib.hid hkT; have HLT := Lib.hid hlt
              clear hpb hj x0 x1 x2 x3 i1 i2 i3 i4 hkm hjl hkT hlt
              obtain ⟨hw3, hw4⟩ := HW34.out; obtain ⟨hw5, hw6⟩ := HW56.out
              go_upto_region 19 with fail
              clear hw3 hw4 hw5 hw6
              obtain ⟨gV, hgV⟩ : ∃ g, wr.heap.size = g := ⟨_, rfl⟩
              refine wp_gen (fun W => Below w3.heap.size w3 W ∧ Duo W gV (.int .i64 (C : Int)) (.int .i64 R')) ⟨bthen HBK.out ((Below.refl _ _).alloc (Nat.le_refl _) _), by rw [← hgV]; simp [Duo, go_sem]⟩ ?_
              clear x4 c0 c1
              rintro w4 ⟨hB4, hV⟩
              simp only [hgV]
              replace HBK := Lib.hid hB4
              obtain ⟨v0, v1, _, _⟩ := hV
              clear hgV hB4 hkI hkTI
              have hkm := HKM.out; have hjl := HJL.out; have hlt := HLT.out; have i2 := HI2.out
              by_cases hq : R' = (n : Int)
              · subst hq
                obtain ⟨b, off, hpe, a1, cr, r0, hR1, -⟩ := (rowsA_keep HR3.out HBK.out).2.2 n hlt
                rw [show rows.getD n [] = rowN rows n from rfl] at r0 hR1
                have hw_n := rows_at (Q := fun r => (r.length : Int) = A.cols) (fun r hr => (HW.out.2.2.2.2 r hr).1) hlt
                have hu_n := rows_at hru hlt
                generalize hrw : rowN rows n = row at *
                have HRW := Lib.hid hrw
                have hCl : C < row.length := by omega
                obtain ⟨rb, ro, hpr, f0⟩ := hR1.2.2 C hCl
                have hpl2 : j < pub.length := by have := HW.out.2.2.1; omega
                obtain ⟨qb, qo, hpq, g0⟩ := (HP3.out.keep HBK.out).2.2 j hpl2
                have hpl : (j : Int) < (pub.length : Int) := cast_lt hpl2
                have hrl := hR1.2.1
                unfold maxLen at hrl
                have hCI : (C : Int) < (row.length : Int) := cast_lt hCl
                have hC0 : (0 : Int) ≤ (C : Int) := by omega
                have HBV : Hid (A.badB pub rows n k = decide (row.getD C 0 ≠ pub.getD j 0)) := Lib.hid (by
                  rw [HBADP.out]
                  unfold placeBad
                  simp [HRW.out])
                rw [hpr] at r0
                generalize row.getD C 0 = x at *
                generalize pub.getD j 0 = y at *
                subst hpe hpq
                clear hpr hrw hw_n hu_n hR1 HBADP i2 hpl2 hCl hrl
                by_cases hxy : x = y
                · subst hxy
                  have HPK2 : Hid (∀ m, m < k + 1 → A.badB pub rows n m = false) := Lib.hid fun m hm => by
                    by_cases e : m = k
                    · subst e; rw [HBV.out]; simp
                    · exact HPK.out m (by omega)
                  clear HPK HBV
                  obtain ⟨hw5, hw6⟩ := HW56.out
                  go_quiet (fail)
                  have HBN := Lib.hid (below_drewN HBK.out nq)
                  try clear hw5 hw6
                  try clear hw1 hw2
                  have hkb := HKB.out
                  go_wp2_with fail
                  go_roundw
                  case rel => exact ⟨k + 1, by omega, by go_num, HBN.out, HPK2.out⟩
                  case measure => simp [intOf]; omega
                · have HBAD : Hid (A.badB pub rows n k = true) := Lib.hid (by rw [HBV.out]; simp [hxy])
                  clear HBV
                  have hD := (AirP.told_at (k := k) HW.out hlt hkm HBAD.out HPL.out HPK.out).symm.trans HTD.out
                  obtain ⟨rfl, rfl⟩ := Prod.mk.inj hD
                  dsimp only at HX
                  clear hD HBAD HPK
                  obtain ⟨hw5, hw6⟩ := HW56.out
                  go_quiet (fail)
                  have HBN := Lib.hid (below_drewN HBK.out nq)
                  obtain ⟨y0, y1, _, _⟩ := HX.out.keep HBN.out
                  replace HB := Lib.hid (bthen HB.out HBN.out)
                  go_wp2_with (go_at_call 9; (with_reducible refine (aw _ HB.out).mono ?_); rintro e w1 ⟨rfl, hb⟩; replace y0 := bkeep hb y0; replace y1 := bkeep hb y1; replace HB := Lib.hid (bthen HB.out hb); clear hb)
                  go_ret
                  exact ⟨rfl, bthen HB0.out HB.out⟩
              · have HPK2 : Hid (∀ m, m < k + 1 → A.badB pub rows n m = false) := Lib.hid fun m hm => by
                  by_cases e : m = k
                  · subst e; rw [HBADP.out]; unfold placeBad; simp [hq]
                  · exact HPK.out m (by omega)
                clear HPK HBADP
                obtain ⟨hw5, hw6⟩ := HW56.out
                go_quiet (fail)
                have HBN := Lib.hid (below_drewN HBK.out nq)
                try clear hw5 hw6
                try clear hw1 hw2
                have hkb := HKB.out
                go_wp2_with fail
                go_roundw
                case rel => exact ⟨k + 1, by omega, by go_num, HBN.out, HPK2.out⟩
                case measure => simp [intOf]; omega
          · obtain rfl : k = A.many := by omega
            have hkI : ¬ (A.many : Int) < ((A.all.1.length + A.bounds.length : Nat) : Int) := by unfold AirP.many; omega
            have HPL2 : Hid (∀ j, j < n + 1 → ∀ m, m < A.many → A.badB pub rows j m = false) := Lib.hid fun j hj m hm => by
              by_cases e : j = n
              · subst e; exact HPK.out m hm
              · exact HPL.out j (by omega) m hm
            clear HPK HPL x0 x1 x2 x3
            obtain ⟨hw1, hw2⟩ := HW12.out; obtain ⟨hw3, hw4⟩ := HW34.out
            go_wp2_with fail
            go_roundw
            case rel => (try clear hw1 hw2 hw3 hw4); exact ⟨m1, by have := HM1.out; omega, by go_num, HBK.out, fun j hj => HPL2.out j (by have := HM1.out; omega)⟩
            case measure => (try clear hw1 hw2 hw3 hw4); have := HM1.out; simp [intOf]; omega
      · obtain rfl : n = rows.length := by omega
        have hD := (AirP.told_ok HW.out HPL.out).symm.trans HTD.out
        obtain ⟨rfl, rfl⟩ := Prod.mk.inj hD
        replace HB := Lib.hid (bthen HB.out HBI.out)
        clear hD
        go_wp2_with (go_at_call 9; (with_reducible refine (aw _ HB.out).mono ?_); rintro e w1 ⟨rfl, hb⟩; skip; replace HB := Lib.hid (bthen HB.out hb); clear hb)
        go_ret
        exact ⟨rfl, bthen HB0.out HB.out⟩
end Go.Proofs.Ytjcgakmhpblanaa
