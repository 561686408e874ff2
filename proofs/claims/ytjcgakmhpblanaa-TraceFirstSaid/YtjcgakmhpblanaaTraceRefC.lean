/-
  What the document's Check of layer 19 comes to. (Written by gen_tchk.py.)
-/
import Derived.Test.YtjcgakmhpblanaaTraceEv
import Derived.Test.YtjcgakmhpblanaaGNum
namespace Go.Proofs.Ytjcgakmhpblanaa
open Go Go.RowKit Go.Sort Go.BigFrame
set_option linter.unusedVariables false

def ChkG (b off N cap bl lo T cl n m1 k m co n1 c1 n2 c2 : Nat) (ao a1 a2 : Option Addr) (z : Int) (c : Bool) (sl : Nat) (v : Value) (W : World) : Prop :=
  match sl with
  | 43 => v = .slice (some ⟨bl, lo, none⟩) T cl
  | 44 => v = .int .i64 (k : Int)
  | 45 => v = .pointer (some ⟨bl, lo + k, none⟩)
  | 46 => v = .slice ao m co
  | 47 => v = .slice (some ⟨b, off, none⟩) N cap
  | 48 => v = .int .i64 (n : Int)
  | 49 => v = .pointer (some ⟨b, off + n, none⟩)
  | 50 => v = .slice a1 n1 c1
  | 51 => v = .slice (some ⟨b, off, none⟩) N cap
  | 52 => v = .int .i64 (n : Int)
  | 53 => v = .int .i64 (m1 : Int)
  | 54 => v = .pointer (some ⟨b, off + m1, none⟩)
  | 55 => v = .slice a2 n2 c2
  | 56 => v = .int .u64 z
  | 57 => v = .bool c
  | _ => v = .bool true
theorem ChkG.keep {b off N cap bl lo T cl n m1 k m co n1 c1 n2 c2 : Nat} {ao a1 a2 : Option Addr} {z : Int} {c : Bool} {sl : Nat} {v : Value} {W W' : World} (h : ChkG b off N cap bl lo T cl n m1 k m co n1 c1 n2 c2 ao a1 a2 z c sl v W) (hb : Below W.heap.size W W') : ChkG b off N cap bl lo T cl n m1 k m co n1 c1 n2 c2 ao a1 a2 z c sl v W' := by
  unfold ChkG at *
  split at h
  all_goals first | exact h
def ChkR1 (w1 : World) (A : AirP) (pub : List Int) (rows : List (List Int)) (i : Value) (W : World) : Prop := ∃ n : Nat, n ≤ rows.length ∧ i = .int .i64 n ∧ Below w1.heap.size w1 W ∧ ∀ j, j < n → ∀ m, m < A.many → A.badB pub rows j m = false
def ChkR2 (w1 : World) (A : AirP) (pub : List Int) (rows : List (List Int)) (n : Nat) (i : Value) (W : World) : Prop := ∃ k : Nat, k ≤ A.all.1.length ∧ i = .int .i64 k ∧ Below w1.heap.size w1 W ∧ ∀ m, m < k → A.badB pub rows n m = false
def ChkR3 (w1 : World) (A : AirP) (pub : List Int) (rows : List (List Int)) (n : Nat) (i : Value) (W : World) : Prop := ∃ k : Nat, k ≤ A.bounds.length ∧ i = .int .i64 k ∧ Below w1.heap.size w1 W ∧ ∀ m, m < A.all.1.length + k → A.badB pub rows n m = false
theorem bad_last {A : AirP} {pub : List Int} {rows : List (List Int)} {n : Nat} (h : ¬ n + 1 < rows.length) : ∀ m, m < A.all.1.length → A.badB pub rows n m = false := fun m hm => by
  rw [AirP.bad_rule hm]
  unfold ruleBad
  simp [h]
theorem enc_bne (x : F) : (enc x != 0) = decide (x ≠ 0) := by
  by_cases h : x = 0
  · subst h; rfl
  · have : enc x ≠ 0 := fun e => h (enc_inj.1 (e.trans enc_zero.symm))
    simp [h, this]
set_option maxRecDepth 100000 in
set_option maxHeartbeats 16000000 in
theorem rtcheck_is (A : AirP) (p : AirAt) (pa : Option Addr) (pn pc : Nat) (pub : List Int) (a : Option Addr) (nn cap : Nat) (rows : List (List Int)) (f : Int × Int) (r : Int) (w : World) (hA : AirA w A p) (hk : OkAir A) (hf : FewAir A) (hp : RowA w pa pn pub) (hpu : UsR pub) (hr : RowsA w a nn rows) (hru : UsRows rows) (hz : A.told pub rows = (f, r)) :
    Calls Try.prog 17 #[A.val p, .slice pa pn pc, .slice a nn cap] w fun e w' => e = .returned (.tuple #[failV f, .int .i64 r]) ∧ Below w.heap.size w w' := by
  obtain rfl := hp.1
  obtain rfl := hr.1
  have HZ := Lib.hid hz
  have HP := Lib.hid hp; have HR := Lib.hid hr; have HRU := Lib.hid hru
  have hpmax := hp.2.1; have hrmax := hr.2.1
  unfold maxLen at hpmax hrmax
  obtain ⟨ok, hok⟩ : ∃ ok, decide (A.whole pub rows) = ok := ⟨_, rfl⟩
  have kw := fun W (h1 : AirA W A p) (h2 : RowA W pa pub.length pub) (h3 : RowsA W a rows.length rows) => rtwhole_is A p pa pub.length pc pub a rows.length cap rows ok W h1 hk hf h2 hpu h3 hru hok
  have HOK := Lib.hid hok
  have hA0' := Lib.hid hA
  have HKF := Lib.hid (And.intro hk hf)
  clear hz hp hr hA hok hpu hru hk hf
  go_enter Try.func17, Try.ntmps17
  go_upto_region 1 with fail
  obtain ⟨g, hg⟩ : ∃ g, w.heap.size = g := ⟨_, rfl⟩
  obtain ⟨gF, hgF⟩ : ∃ h, g + 1 = h := ⟨_, rfl⟩
  refine wp_gen (fun W => Below w.heap.size w W ∧ AirC W g A p ∧ Duo W gF (.int .i64 0) (.int .i64 0)) ⟨((Below.refl _ _).alloc (Nat.le_refl _) _).alloc (by simp) _, by rw [← hg]; exact (AirC.new w A p _).keep ((Below.refl _ _).alloc (Nat.le_refl _) _), by rw [← hgF, ← hg]; simp [Duo, go_sem]⟩ ?_
  rintro w0 ⟨hB0, hC0, hD0⟩
  have HGF : Hid (w.heap.size ≤ gF) := Lib.hid (by omega)
  simp only [hg, hgF]
  have HA0 := Lib.hid (hA0'.out.keep hB0)
  have HP0 := Lib.hid (HP.out.keep hB0)
  have HR0 := Lib.hid (rowsA_keep HR.out hB0)
  have HB := Lib.hid hB0
  have HC := Lib.hid hC0
  have HD := Lib.hid hD0
  clear hB0 hg hgF hA0' HP HR
  obtain ⟨x0, x1, x2, x3, x4⟩ := hC0
  obtain ⟨d0, d1, e0, e1⟩ := hD0
  cases ok with
  | false =>
    have hD := (AirP.told_no (of_decide_eq_false HOK.out)).symm.trans HZ.out
    obtain ⟨rfl, rfl⟩ := Prod.mk.inj hD
    clear hD
    go_wp2_with (go_at_call 19; (with_reducible refine (kw _ HA0.out HP0.out HR0.out).mono ?_); rintro E w1 ⟨rfl, hb⟩; replace HB := Lib.hid (bthen HB.out hb); replace e0 := bfree hb d0 e0; replace e1 := bfree hb d1 e1; replace d0 := bkeep hb d0; replace d1 := bkeep hb d1; clear hb)
    exact bodyPost_ret (v := .tuple #[.agg #[.int .i64 (0), .int .i64 (0)], .int .i64 1]) (by simp [results, Try.results17, go_sem, d0, d1]) rfl ⟨rfl, (HB.out.setCell HGF.out _).setCell HGF.out _⟩
  | true =>
    have hwh : A.whole pub rows := of_decide_eq_true HOK.out
    have HW := Lib.hid hwh
    have hc0 := hwh.1
    have hall : A.all = (A.all.1, 0) := Prod.ext rfl (by obtain ⟨_, _, h3, h4, _⟩ := AirP.check_ok hc0; rw [h3]; exact h4)
    have kr := fun W (h : AirA W A p) => rarules_is A p A.all.1 0 W h HKF.out.1 HKF.out.2 hall
    unfold RulesPost at kr
    have hTl : A.all.1.length ≤ 24 := by
      obtain ⟨_, ⟨q1, q2, q3, q4⟩, h3, h4, _⟩ := AirP.check_ok hc0
      have e : A.all.1.length = A.count := AirP.all_len (by rw [h3]; exact h4)
      rw [e]
      unfold AirP.count
      omega
    have hM16 : A.bounds.length ≤ 16 := (AirP.check_ok hc0).1.2.2
    have hsz := AirP.size_bd (AirP.check_ok hc0).1
    have hn1024 : rows.length ≤ 1024 := by have := hwh.2.1; omega
    have HEV := Lib.hid (fun k (hk : k < A.all.1.length) => AirP.rule_ev hc0 hk)
    have HIN := Lib.hid (fun k (hk : k < A.bounds.length) => AirP.bound_in hc0 hk)
    clear hwh hall hc0
    go_upto_region 5 with (first
      | (go_at_call 19; (with_reducible refine (kw _ HA0.out HP0.out HR0.out).mono ?_); rintro E w1 ⟨rfl, hb⟩; replace HB := Lib.hid (bthen HB.out hb); replace HC := Lib.hid (HC.out.keep hb); replace HD := Lib.hid (HD.out.keep hb); replace HA0 := Lib.hid (HA0.out.keep hb); replace HP0 := Lib.hid (HP0.out.keep hb); replace HR0 := Lib.hid (rowsA_keep HR0.out hb); replace x0 := bkeep hb x0; replace x1 := bkeep hb x1; replace x2 := bkeep hb x2; replace x3 := bkeep hb x3; replace x4 := bkeep hb x4; clear hb)
      | (go_at_call 20; (with_reducible refine (kr _ HA0.out).mono ?_); rintro E w2 ⟨hb, al, cl, rfl, hOL, hnl⟩; replace HB := Lib.hid (bthen HB.out hb); replace HC := Lib.hid (HC.out.keep hb); replace HD := Lib.hid (HD.out.keep hb); replace HA0 := Lib.hid (HA0.out.keep hb); replace HP0 := Lib.hid (HP0.out.keep hb); replace HR0 := Lib.hid (rowsA_keep HR0.out hb); clear hb x0 x1 x2 x3 x4))
    have HOL := Lib.hid hOL
    clear kw kr d0 d1 e0 e1 hOL hnl
    go_loopw [10] (ChkR1 w2 A pub rows) (fun i _ => rows.length - (intOf i).toNat)
    case atStart => exact ⟨0, Nat.zero_le _, rfl, Below.refl _ _, fun j hj => by omega⟩
    case round =>
      obtain ⟨n, hn, rfl, hB, hpl⟩ := hrel
      have HBI := Lib.hid hB; have HPL := Lib.hid hpl
      clear hB hpl
      by_cases hlt : n < rows.length
      · have hltI : (n : Int) < (rows.length : Int) := by omega
        have hn0 : (0 : Int) ≤ (n : Int) := by omega
        obtain ⟨m1, hm1⟩ : ∃ m, n + 1 = m := ⟨_, rfl⟩
        have hw1 : IntKind.i64.wrap ((n : Int) + 1) = (m1 : Int) := by rw [IntWalk.i64_in _ (by omega)]; omega
        have hw2 : wrap64 ((n : Int) + 1) = (m1 : Int) := by rw [IntWalk.wrap64_in _ (by omega)]; omega
        have HM1 := Lib.hid hm1
        clear hm1
        have HW12 := Lib.hid (And.intro hw1 hw2)
        clear hw1 hw2
        go_upto_region 8 with fail
        go_loopw [11] (ChkR2 wr A pub rows n) (fun i _ => A.all.1.length - (intOf i).toNat)
        case atStart => exact ⟨0, Nat.zero_le _, rfl, Below.refl _ _, fun j hj => by omega⟩
        case round =>
          obtain ⟨k, hk, rfl, hB, hpl⟩ := hrel
          have HBK := Lib.hid hB; have HPK := Lib.hid hpl
          clear hB hpl
          have HB2 := Lib.hid (bthen HBI.out HBK.out)
          obtain ⟨hw1, hw2⟩ := HW12.out
          by_cases hkT : k < A.all.1.length
          · have hkTI : (k : Int) < (A.all.1.length : Int) := by omega
            have hk0 : (0 : Int) ≤ (k : Int) := by omega
            by_cases hnx : m1 < rows.length
            · have hnxI : (m1 : Int) < (rows.length : Int) := by omega
              have hn10 : (0 : Int) ≤ (m1 : Int) := by omega
              obtain ⟨bl, lo, hpo, ao, co, o0, hO, hno⟩ := (HOL.out.keep HB2.out).2.2 k hkT
              obtain ⟨b, off, hpe, a1, c1, r0, hR1, _⟩ := (rowsA_keep HR0.out HB2.out).2.2 n hlt
              rw [show rows.getD n [] = rowN rows n from rfl] at r0 hR1
              have hw_n := rows_at (Q := fun r => (r.length : Int) = A.cols) (fun r hr => (HW.out.2.2.2.2 r hr).1) hlt
              have hu_n := rows_at HRU.out hlt
              obtain ⟨b', off', hpe', a2, c2, r1, hR2, _⟩ := (rowsA_keep HR0.out HB2.out).2.2 m1 hnx
              rw [show rows.getD m1 [] = rowN rows m1 from rfl] at r1 hR2
              have hw_m := rows_at (Q := fun r => (r.length : Int) = A.cols) (fun r hr => (HW.out.2.2.2.2 r hr).1) hnx
              have hu_m := rows_at HRU.out hnx
              rw [hpe] at hpe'
              cases hpe'
              obtain ⟨hev1, hev2⟩ := HEV.out k hkT
              have ka := fun W ho h1 h2 => reatR_is ao co (A.all.1.getD k []) a1 (rowN rows n).length c1 (rowN rows n) a2 (rowN rows m1).length c2 (rowN rows m1) A.cols W ho hev1 hev2 h1 hu_n (by omega) h2 hu_m (by omega)
              obtain ⟨c, hcz⟩ : ∃ c, (enc (evB numA (rowF (rowN rows n)) (rowF (rowN rows m1)) (A.all.1.getD k [])) != 0) = c := ⟨_, rfl⟩
              have HBAD : Hid (A.badB pub rows n k = c) := Lib.hid (by
                rw [AirP.bad_rule hkT, ← hcz, enc_bne]
                unfold ruleBad
                have hm1 := HM1.out
                rw [hm1]
                simp [hnx])
              generalize enc (evB numA (rowF (rowN rows n)) (rowF (rowN rows m1)) (A.all.1.getD k [])) = z at *
              generalize A.all.1.getD k [] = L at *
              generalize rowN rows n = row1 at *
              generalize rowN rows m1 = row2 at *
              have HO := Lib.hid hO; have HR1 := Lib.hid hR1; have HR2 := Lib.hid hR2
              subst hpe hpo
              clear hO hR1 hR2 hev1 hev2 hw_n hw_m hu_n hu_m hno
              go_upto_region 10 with fail
              refine wp_loose [(43, []), (44, []), (45, [43, 44]), (46, [45]), (47, []), (48, []), (49, [47, 48]), (50, [49]), (51, []), (52, []), (53, [52]), (54, [51, 53]), (55, [54]), (56, [46, 50, 55]), (57, [56])]
                (ChkG b off rows.length cap bl lo A.all.1.length cl n m1 k L.length co row1.length c1 row2.length c2 ao a1 a2 z c) (fun d => false) (by kernel_rfl) (by kernel_rfl) (fun _ _ _ _ h hb => h.keep hb) ?_ ?_
              · refine opsrun_cons ?_ (opsrun_cons ?_ (opsrun_cons ?_ (opsrun_cons ?_ (opsrun_cons ?_ (opsrun_cons ?_ (opsrun_cons ?_ (opsrun_cons ?_ (opsrun_cons ?_ (opsrun_cons ?_ (opsrun_cons ?_ (opsrun_cons ?_ (opsrun_cons ?_ (opsrun_cons ?_ (opsrun_cons ?_ opsrun_nil))))))))))))))
                all_goals
                  refine OpRuns.any ?_
                  intro Q0 σ W' K hb hn hK
                  simp only [fill, List.map, Act.put, List.setIfInBounds_toArray, List.set_cons_zero, List.set_cons_succ] at hK ⊢
                · clear hn
                  go_simp
                  exact hK _ _ rfl (Below.refl _ _) (fun h => absurd h (by decide))
                · clear hn
                  go_simp
                  exact hK _ _ rfl (Below.refl _ _) (fun h => absurd h (by decide))
                · have h43 : σ 43 = _ := hn 43 (by decide)
                  have h44 : σ 44 = _ := hn 44 (by decide)
                  clear hn
                  simp only [h43, h44] at hK
                  go_simp
                  exact hK _ _ rfl (Below.refl _ _) (fun h => absurd h (by decide))
                · have h45 : σ 45 = _ := hn 45 (by decide)
                  clear hn
                  simp only [h45] at hK
                  have o0' := bkeep hb o0
                  clear o0
                  go_simp
                  exact hK _ _ rfl (Below.refl _ _) (fun h => absurd h (by decide))
                · clear hn
                  go_simp
                  exact hK _ _ rfl (Below.refl _ _) (fun h => absurd h (by decide))
                · clear hn
                  go_simp
                  exact hK _ _ rfl (Below.refl _ _) (fun h => absurd h (by decide))
                · have h47 : σ 47 = _ := hn 47 (by decide)
                  have h48 : σ 48 = _ := hn 48 (by decide)
                  clear hn
                  simp only [h47, h48] at hK
                  go_simp
                  exact hK _ _ rfl (Below.refl _ _) (fun h => absurd h (by decide))
                · have h49 : σ 49 = _ := hn 49 (by decide)
                  clear hn
                  simp only [h49] at hK
                  have r0' := bkeep hb r0
                  clear r0
                  go_simp
                  exact hK _ _ rfl (Below.refl _ _) (fun h => absurd h (by decide))
                · clear hn
                  go_simp
                  exact hK _ _ rfl (Below.refl _ _) (fun h => absurd h (by decide))
                · clear hn
                  go_simp
                  exact hK _ _ rfl (Below.refl _ _) (fun h => absurd h (by decide))
                · have h52 : σ 52 = _ := hn 52 (by decide)
                  clear hn
                  simp only [h52] at hK
                  go_simp
                  exact hK _ _ (by first | rfl | simp [hw1] | simp [hw2] | (rw [hw2]; rfl)) (Below.refl _ _) (fun h => absurd h (by decide))
                · have h51 : σ 51 = _ := hn 51 (by decide)
                  have h53 : σ 53 = _ := hn 53 (by decide)
                  clear hn
                  simp only [h51, h53] at hK
                  go_simp
                  exact hK _ _ rfl (Below.refl _ _) (fun h => absurd h (by decide))
                · have h54 : σ 54 = _ := hn 54 (by decide)
                  clear hn
                  simp only [h54] at hK
                  have r1' := bkeep hb r1
                  clear r1
                  go_simp
                  exact hK _ _ rfl (Below.refl _ _) (fun h => absurd h (by decide))
                · have h46 : σ 46 = _ := hn 46 (by decide)
                  have h50 : σ 50 = _ := hn 50 (by decide)
                  have h55 : σ 55 = _ := hn 55 (by decide)
                  clear hn
                  simp only [h46, h50, h55] at hK
                  go_simp
                  go_at_call 21
                  refine (ka _ (HO.out.keep hb) (HR1.out.keep hb) (HR2.out.keep hb)).mono ?_
                  rintro e w1 ⟨rfl, hb1⟩
                  exact hK _ _ rfl hb1 (fun h => absurd h (by decide))
                · have h56 : σ 56 = _ := hn 56 (by decide)
                  clear hn
                  simp only [h56] at hK
                  go_simp
                  exact hK _ _ (by first | rfl | (rw [← hcz]; rfl) | simp [hcz]) (Below.refl _ _) (fun h => absurd h (by decide))
              · intro σ W' hb hR' hF
                have h57 : σ 57 = .bool c := hR' 57 (by decide)
                have HB3 := Lib.hid (bthen HB2.out hb)
                have HBK3 := Lib.hid (bthen HBK.out hb)
                clear hR' hF o0 r0 r1 ka HO HR1 HR2 hcz
                cases c with
                | true =>
                  have hD := (AirP.told_at (k := k) HW.out hlt (by unfold AirP.many; omega) HBAD.out HPL.out HPK.out).symm.trans HZ.out
                  obtain ⟨rfl, rfl⟩ := Prod.mk.inj hD
                  obtain ⟨d0, d1, e0, e1⟩ := HD.out.keep HB3.out
                  have HBE := Lib.hid (bthen HB.out HB3.out)
                  clear hD HBAD HPK hb
                  simp only [fill, List.map, Act.put, List.setIfInBounds_toArray, List.set_cons_zero, List.set_cons_succ, List.length_cons, List.length_nil, List.drop_succ_cons, List.drop_zero, Nat.reduceAdd, h57]
                  go_wp2_with fail
                  exact bodyPost_ret (v := .tuple #[.agg #[.int .i64 (n), .int .i64 (k)], .int .i64 7]) (by simp [results, Try.results17, go_sem, d0, d1]) rfl ⟨rfl, (HBE.out.setCell HGF.out _).setCell HGF.out _⟩
                | false =>
                  have HPK2 : Hid (∀ m, m < k + 1 → A.badB pub rows n m = false) := Lib.hid fun m hm => by
                    by_cases e : m = k
                    · subst e; exact HBAD.out
                    · exact HPK.out m (by omega)
                  clear HPK HBAD hb
                  simp only [fill, List.map, Act.put, List.setIfInBounds_toArray, List.set_cons_zero, List.set_cons_succ, List.length_cons, List.length_nil, List.drop_succ_cons, List.drop_zero, Nat.reduceAdd, h57]
                  go_wp2_with fail
                  go_roundw
                  case rel => exact ⟨k + 1, by omega, by go_num, HBK3.out, HPK2.out⟩
                  case measure => simp [intOf]; omega
            · have hnxI : ¬ (m1 : Int) < (rows.length : Int) := by omega
              have HT2 : Hid (∀ m, m < A.all.1.length → A.badB pub rows n m = false) := Lib.hid (bad_last (by rw [HM1.out]; exact hnx))
              clear HB2
              go_upto_region 13 with fail
              go_loopw [12] (ChkR3 wr A pub rows n) (fun i _ => A.bounds.length - (intOf i).toNat)
              case atStart => exact ⟨0, Nat.zero_le _, rfl, Below.refl _ _, fun m hm => HT2.out m (by omega)⟩
              case round =>
                clear HPK
                obtain ⟨k, hk, rfl, hB, hpl⟩ := hrel
                have HB2 := Lib.hid (bthen (bthen HBI.out HBK.out) hB); have HPK := Lib.hid hpl; have HBJ := Lib.hid hB
                clear hB hpl
                obtain ⟨x0, x1, x2, x3, x4⟩ := HC.out.keep HB2.out
                by_cases hkl : k < A.bounds.length
                · have hklI : (k : Int) < (A.bounds.length : Int) := by omega
                  have hk0 : (0 : Int) ≤ (k : Int) := by omega
                  have hw3 : IntKind.i64.wrap ((A.all.1.length : Int) + (k : Int)) = ((A.all.1.length + k : Nat) : Int) := by rw [IntWalk.i64_in _ (by omega)]; omega
                  have hw4 : wrap64 ((A.all.1.length : Int) + (k : Int)) = ((A.all.1.length + k : Nat) : Int) := by rw [IntWalk.wrap64_in _ (by omega)]; omega
                  have HW34 := Lib.hid (And.intro hw3 hw4)
                  obtain ⟨bb, bo, hpb, c0, c1⟩ := (HA0.out.keep HB2.out).2.2.1.2.2 k hkl
                  have hin := HIN.out k hkl
                  have HBAD := Lib.hid (AirP.bad_place (A := A) (pub := pub) (rows := rows) (i := n) (k := k))
                  rw [show A.bounds.getD k (0, 0) = A.bound k from rfl] at c0 c1
                  generalize A.bound k = bd at *
                  obtain ⟨C', R'⟩ := bd
                  dsimp only at c0 c1 hin
                  obtain ⟨i1, i2, i3, i4⟩ := hin
                  obtain ⟨C, rfl⟩ := Int.eq_ofNat_of_zero_le i1
                  rw [hpb] at x4
                  clear hpb hw3 hw4
                  by_cases hq : R' = (n : Int)
                  · subst hq
                    obtain ⟨b, off, hpe, a1, cr, r0, hR1, _⟩ := (rowsA_keep HR0.out HB2.out).2.2 n hlt
                    rw [show rows.getD n [] = rowN rows n from rfl] at r0 hR1
                    have hw_n := rows_at (Q := fun r => (r.length : Int) = A.cols) (fun r hr => (HW.out.2.2.2.2 r hr).1) hlt
                    have hu_n := rows_at HRU.out hlt
                    generalize hrw : rowN rows n = row at *
                    have HRW := Lib.hid hrw
                    have hCl : C < row.length := by omega
                    obtain ⟨rb, ro, hpr, f0⟩ := hR1.2.2 C hCl
                    obtain ⟨qb, qo, hpq, g0⟩ := (HP0.out.keep HB2.out).2.2 k (by have := HW.out.2.2.1; omega)
                    have hpl : (k : Int) < (pub.length : Int) := by have := HW.out.2.2.1; omega
                    have hrl := hR1.2.1
                    unfold maxLen at hrl
                    have hCI : (C : Int) < (row.length : Int) := by omega
                    have hC0 : (0 : Int) ≤ (C : Int) := by omega
                    have HBV : Hid (A.badB pub rows n (A.all.1.length + k) = decide (row.getD C 0 ≠ pub.getD k 0)) := Lib.hid (by
                      rw [HBAD.out]
                      unfold placeBad
                      simp [HRW.out])
                    rw [hpr] at r0
                    generalize row.getD C 0 = x at *
                    generalize pub.getD k 0 = y at *
                    subst hpe hpq
                    clear hpr hrw hw_n hu_n hR1 HBAD i1 i2 i3 i4
                    by_cases hxy : x = y
                    · subst hxy
                      have HPK2 : Hid (∀ m, m < A.all.1.length + (k + 1) → A.badB pub rows n m = false) := Lib.hid fun m hm => by
                        by_cases e : m = A.all.1.length + k
                        · subst e; rw [HBV.out]; simp
                        · exact HPK.out m (by omega)
                      clear HPK HBV
                      go_upto_region 15 with fail
                      go_quiet (fail)
                      go_wp2_with fail
                      go_roundw
                      case rel => exact ⟨k + 1, by omega, by go_num, below_drewN HBJ.out _, HPK2.out⟩
                      case measure => simp [intOf]; omega
                    · have hD := (AirP.told_at (k := A.all.1.length + k) HW.out hlt (by unfold AirP.many; omega) (by rw [HBV.out]; simp [hxy]) HPL.out (fun m hm => HPK.out m (by omega))).symm.trans HZ.out
                      obtain ⟨rfl, rfl⟩ := Prod.mk.inj hD
                      obtain ⟨d0, d1, e0, e1⟩ := HD.out.keep HB2.out
                      have HBE := Lib.hid (bthen HB.out HB2.out)
                      obtain ⟨hw3, hw4⟩ := HW34.out
                      clear hD HBV HPK
                      go_upto_region 15 with fail
                      go_quiet (fail)
                      go_wp2_with fail
                      exact bodyPost_ret (v := .tuple #[.agg #[.int .i64 (n), .int .i64 (((A.all.1.length + k : Nat) : Int))], .int .i64 7]) (by simp [results, Try.results17, go_sem, d0, d1]) rfl ⟨rfl, ((below_drewN HBE.out _).setCell HGF.out _).setCell HGF.out _⟩
                  · have HPK2 : Hid (∀ m, m < A.all.1.length + (k + 1) → A.badB pub rows n m = false) := Lib.hid fun m hm => by
                      by_cases e : m = A.all.1.length + k
                      · subst e; rw [HBAD.out]; unfold placeBad; simp [hq]
                      · exact HPK.out m (by omega)
                    clear HPK HBAD
                    go_upto_region 15 with fail
                    go_quiet (fail)
                    go_wp2_with fail
                    go_roundw
                    case rel => exact ⟨k + 1, by omega, by go_num, below_drewN HBJ.out _, HPK2.out⟩
                    case measure => simp [intOf]; omega
                · obtain rfl : k = A.bounds.length := by omega
                  have HPL2 : Hid (∀ j, j < n + 1 → ∀ m, m < A.many → A.badB pub rows j m = false) := Lib.hid fun j hj m hm => by
                    by_cases e : j = n
                    · subst e; exact HPK.out m hm
                    · exact HPL.out j (by omega) m hm
                  clear HPK HPL
                  go_wp2_with fail
                  go_roundw
                  case rel => exact ⟨m1, by have := HM1.out; omega, by go_num, HB2.out, fun j hj => HPL2.out j (by have := HM1.out; omega)⟩
                  case measure => have := HM1.out; simp [intOf]; omega
          · have hkTI : ¬ (k : Int) < (A.all.1.length : Int) := by omega
            have HT2 : Hid (∀ m, m < A.all.1.length → A.badB pub rows n m = false) := Lib.hid fun m hm => HPK.out m (by omega)
            clear HB2
            go_upto_region 13 with fail
            go_loopw [12] (ChkR3 wr A pub rows n) (fun i _ => A.bounds.length - (intOf i).toNat)
            case atStart => exact ⟨0, Nat.zero_le _, rfl, Below.refl _ _, fun m hm => HT2.out m (by omega)⟩
            case round =>
              clear HPK
              obtain ⟨k, hk, rfl, hB, hpl⟩ := hrel
              have HB2 := Lib.hid (bthen (bthen HBI.out HBK.out) hB); have HPK := Lib.hid hpl; have HBJ := Lib.hid hB
              clear hB hpl
              obtain ⟨x0, x1, x2, x3, x4⟩ := HC.out.keep HB2.out
              by_cases hkl : k < A.bounds.length
              · have hklI : (k : Int) < (A.bounds.length : Int) := by omega
                have hk0 : (0 : Int) ≤ (k : Int) := by omega
                have hw3 : IntKind.i64.wrap ((A.all.1.length : Int) + (k : Int)) = ((A.all.1.length + k : Nat) : Int) := by rw [IntWalk.i64_in _ (by omega)]; omega
                have hw4 : wrap64 ((A.all.1.length : Int) + (k : Int)) = ((A.all.1.length + k : Nat) : Int) := by rw [IntWalk.wrap64_in _ (by omega)]; omega
                have HW34 := Lib.hid (And.intro hw3 hw4)
                obtain ⟨bb, bo, hpb, c0, c1⟩ := (HA0.out.keep HB2.out).2.2.1.2.2 k hkl
                have hin := HIN.out k hkl
                have HBAD := Lib.hid (AirP.bad_place (A := A) (pub := pub) (rows := rows) (i := n) (k := k))
                rw [show A.bounds.getD k (0, 0) = A.bound k from rfl] at c0 c1
                generalize A.bound k = bd at *
                obtain ⟨C', R'⟩ := bd
                dsimp only at c0 c1 hin
                obtain ⟨i1, i2, i3, i4⟩ := hin
                obtain ⟨C, rfl⟩ := Int.eq_ofNat_of_zero_le i1
                rw [hpb] at x4
                clear hpb hw3 hw4
                by_cases hq : R' = (n : Int)
                · subst hq
                  obtain ⟨b, off, hpe, a1, cr, r0, hR1, _⟩ := (rowsA_keep HR0.out HB2.out).2.2 n hlt
                  rw [show rows.getD n [] = rowN rows n from rfl] at r0 hR1
                  have hw_n := rows_at (Q := fun r => (r.length : Int) = A.cols) (fun r hr => (HW.out.2.2.2.2 r hr).1) hlt
                  have hu_n := rows_at HRU.out hlt
                  generalize hrw : rowN rows n = row at *
                  have HRW := Lib.hid hrw
                  have hCl : C < row.length := by omega
                  obtain ⟨rb, ro, hpr, f0⟩ := hR1.2.2 C hCl
                  obtain ⟨qb, qo, hpq, g0⟩ := (HP0.out.keep HB2.out).2.2 k (by have := HW.out.2.2.1; omega)
                  have hpl : (k : Int) < (pub.length : Int) := by have := HW.out.2.2.1; omega
                  have hrl := hR1.2.1
                  unfold maxLen at hrl
                  have hCI : (C : Int) < (row.length : Int) := by omega
                  have hC0 : (0 : Int) ≤ (C : Int) := by omega
                  have HBV : Hid (A.badB pub rows n (A.all.1.length + k) = decide (row.getD C 0 ≠ pub.getD k 0)) := Lib.hid (by
                    rw [HBAD.out]
                    unfold placeBad
                    simp [HRW.out])
                  rw [hpr] at r0
                  generalize row.getD C 0 = x at *
                  generalize pub.getD k 0 = y at *
                  subst hpe hpq
                  clear hpr hrw hw_n hu_n hR1 HBAD i1 i2 i3 i4
                  by_cases hxy : x = y
                  · subst hxy
                    have HPK2 : Hid (∀ m, m < A.all.1.length + (k + 1) → A.badB pub rows n m = false) := Lib.hid fun m hm => by
                      by_cases e : m = A.all.1.length + k
                      · subst e; rw [HBV.out]; simp
                      · exact HPK.out m (by omega)
                    clear HPK HBV
                    go_upto_region 15 with fail
                    go_quiet (fail)
                    go_wp2_with fail
                    go_roundw
                    case rel => exact ⟨k + 1, by omega, by go_num, below_drewN HBJ.out _, HPK2.out⟩
                    case measure => simp [intOf]; omega
                  · have hD := (AirP.told_at (k := A.all.1.length + k) HW.out hlt (by unfold AirP.many; omega) (by rw [HBV.out]; simp [hxy]) HPL.out (fun m hm => HPK.out m (by omega))).symm.trans HZ.out
                    obtain ⟨rfl, rfl⟩ := Prod.mk.inj hD
                    obtain ⟨d0, d1, e0, e1⟩ := HD.out.keep HB2.out
                    have HBE := Lib.hid (bthen HB.out HB2.out)
                    obtain ⟨hw3, hw4⟩ := HW34.out
                    clear hD HBV HPK
                    go_upto_region 15 with fail
                    go_quiet (fail)
                    go_wp2_with fail
                    exact bodyPost_ret (v := .tuple #[.agg #[.int .i64 (n), .int .i64 (((A.all.1.length + k : Nat) : Int))], .int .i64 7]) (by simp [results, Try.results17, go_sem, d0, d1]) rfl ⟨rfl, ((below_drewN HBE.out _).setCell HGF.out _).setCell HGF.out _⟩
                · have HPK2 : Hid (∀ m, m < A.all.1.length + (k + 1) → A.badB pub rows n m = false) := Lib.hid fun m hm => by
                    by_cases e : m = A.all.1.length + k
                    · subst e; rw [HBAD.out]; unfold placeBad; simp [hq]
                    · exact HPK.out m (by omega)
                  clear HPK HBAD
                  go_upto_region 15 with fail
                  go_quiet (fail)
                  go_wp2_with fail
                  go_roundw
                  case rel => exact ⟨k + 1, by omega, by go_num, below_drewN HBJ.out _, HPK2.out⟩
                  case measure => simp [intOf]; omega
              · obtain rfl : k = A.bounds.length := by omega
                have HPL2 : Hid (∀ j, j < n + 1 → ∀ m, m < A.many → A.badB pub rows j m = false) := Lib.hid fun j hj m hm => by
                  by_cases e : j = n
                  · subst e; exact HPK.out m hm
                  · exact HPL.out j (by omega) m hm
                clear HPK HPL
                go_wp2_with fail
                go_roundw
                case rel => exact ⟨m1, by have := HM1.out; omega, by go_num, HB2.out, fun j hj => HPL2.out j (by have := HM1.out; omega)⟩
                case measure => have := HM1.out; simp [intOf]; omega
      · obtain rfl : n = rows.length := by omega
        have hD := (AirP.told_ok HW.out HPL.out).symm.trans HZ.out
        obtain ⟨rfl, rfl⟩ := Prod.mk.inj hD
        obtain ⟨d0, d1, e0, e1⟩ := HD.out.keep HBI.out
        have HBE := Lib.hid (bthen HB.out HBI.out)
        clear hD
        go_wp2_with fail
        exact bodyPost_ret (v := .tuple #[.agg #[.int .i64 (0), .int .i64 (0)], .int .i64 0]) (by simp [results, Try.results17, go_sem, d0, d1]) rfl ⟨rfl, (HBE.out.setCell HGF.out _).setCell HGF.out _⟩
end Go.Proofs.Ytjcgakmhpblanaa
