/-
  What the program's Check of layer 19 comes to.
-/
import Derived.Test.YtjcgakmhpblanaaTrPro3
import Derived.Test.YtjcgakmhpblanaaTrPro4
import Derived.Test.YtjcgakmhpblanaaTrPro5
namespace Go.Proofs.Ytjcgakmhpblanaa
open Go Go.RowKit Go.Sort Go.BigFrame
set_option linter.unusedVariables false

theorem AirP.rules_ev {A : AirP} (h : A.check = 0) (k : Nat) (hk : k < (opsL A.rules).length) : ((∀ o ∈ (opsL A.rules).getD k [], OkO o) ∧ EvOk ((opsL A.rules).getD k []) A.cols) ∧ A.all.1.getD (A.steps.length + k) [] = (opsL A.rules).getD k [] := by
  rw [opsL_len] at hk
  rw [opsL_at hk]
  obtain ⟨_, _, h3, h4, _⟩ := AirP.check_ok h
  obtain ⟨l, d, p1, p2, p3, _⟩ := AirP.rule_ok (A := A) (by rw [h3]; exact h4) (i := A.steps.length + k) (by unfold AirP.count; omega)
  rw [AirP.text_rule (by omega), Nat.add_sub_cancel_left] at p1
  rw [p1]
  refine ⟨⟨step_okO p1, checkB_evok p2⟩, ?_⟩
  rw [p3]
  exact if_neg (by omega)
theorem enc_toF_kept {x : Int} (h : 0 ≤ x ∧ x < 18446744069414584321) : enc (toF x) = x := by rw [enc_toF x h.1]; exact Int.emod_eq_of_lt h.1 h.2
theorem sub_ne_zero {x y : F} : x - y ≠ 0 ↔ y ≠ x := by
  constructor
  · intro h e; subst e; exact h (fsub_self _)
  · intro h e
    apply h
    have : y = x := by grind
    exact this
/-- Where a row and the next one break a rule: as the program looks. -/
theorem AirP.bad_broken {A : AirP} {pub : List Int} {rows : List (List Int)} {i : Nat} (hw : A.whole pub rows) (hu : UsRows rows) (hi : i + 1 < rows.length) {k : Nat} (hk : k < A.steps.length + A.rules.length) :
    A.badB pub rows i k = brokB (opsL A.steps) (opsL A.rules) (rowN rows i) (rowN rows (i + 1)) k := by
  have hc := hw.1
  have h0 : A.all.2 = 0 := by obtain ⟨_, _, h3, h4, _⟩ := AirP.check_ok hc; rw [h3]; exact h4
  rw [AirP.bad_rule (by rw [AirP.all_len h0]; exact hk)]
  unfold ruleBad brokB
  rw [opsL_len]
  by_cases c : k < A.steps.length
  · obtain ⟨d, p1, p2, p3⟩ := AirP.step_ok hc c
    rw [if_pos c, p3, step_ev p2 (parse_pos p1), behV_at (by rw [opsL_len]; exact c), opsL_at c]
    have hlen := rows_at (Q := fun r => (r.length : Int) = A.cols) (fun r hr => (hw.2.2.2.2 r hr).1) hi
    have hkc : k < (rowN rows (i + 1)).length := by
      obtain ⟨_, g, _⟩ := AirP.check_ok hc
      have := g.2.2.1
      omega
    have hkp := kept_at (rows_at (Q := KeptR) (fun r hr => (hw.2.2.2.2 r hr).2) hi) hkc
    have hnn := (usR_at (rows_at hu hi) hkc).1
    have e1 : (parseB (tx A.steps k)).1 = A.stepL k := rfl
    rw [e1]
    have e2 : rowF (rowN rows (i + 1)) k = toF ((rowN rows (i + 1)).getD k 0) := rfl
    rw [e2, decide_eq_true hi, Bool.true_and]
    refine decide_eq_decide.2 ?_
    rw [sub_ne_zero]
    constructor
    · intro h e; apply h; rw [← e, toF_enc]
    · intro h e; apply h; rw [e, enc_toF_kept ⟨hnn, hkp⟩]
  · rw [if_neg c, decide_eq_true hi, Bool.true_and]
    have e := (AirP.rules_ev hc (k - A.steps.length) (by rw [opsL_len]; omega)).2
    rw [show A.steps.length + (k - A.steps.length) = k by omega] at e
    rw [e]
theorem AirP.bad_last {A : AirP} {pub : List Int} {rows : List (List Int)} {i : Nat} (hc : A.check = 0) (hi : ¬ i + 1 < rows.length) {k : Nat} (hk : k < A.steps.length + A.rules.length) : A.badB pub rows i k = false := by
  have h0 : A.all.2 = 0 := by obtain ⟨_, _, h3, h4, _⟩ := AirP.check_ok hc; rw [h3]; exact h4
  rw [AirP.bad_rule (by rw [AirP.all_len h0]; exact hk)]
  unfold ruleBad
  rw [decide_eq_false hi, Bool.false_and]
theorem AirP.bad_missed {A : AirP} {pub : List Int} {rows : List (List Int)} {i : Nat} (hc : A.check = 0) (k : Nat) : A.badB pub rows i (A.steps.length + A.rules.length + k) = missB A.bounds pub (rowN rows i) i k := by
  have h0 : A.all.2 = 0 := by obtain ⟨_, _, h3, h4, _⟩ := AirP.check_ok hc; rw [h3]; exact h4
  have e : A.steps.length + A.rules.length = A.all.1.length := (AirP.all_len h0).symm
  rw [e, AirP.bad_place]
  rfl
theorem AirP.many_is {A : AirP} (hc : A.check = 0) : A.many = A.steps.length + A.rules.length + A.bounds.length := by
  have h0 : A.all.2 = 0 := by obtain ⟨_, _, h3, h4, _⟩ := AirP.check_ok hc; rw [h3]; exact h4
  unfold AirP.many
  rw [AirP.all_len h0]
  rfl
theorem fstI_cases {p : Nat → Bool} {n : Nat} : (fstI (fstB p n) = -1 ∧ ∀ j, j < n → p j = false) ∨ ∃ k : Nat, fstI (fstB p n) = (k : Int) ∧ k < n ∧ p k = true ∧ ∀ j, j < k → p j = false := by
  cases c : fstB p n with
  | none => exact .inl ⟨rfl, fstB_none.1 c⟩
  | some k => obtain ⟨h1, h2, h3⟩ := fstB_some c; exact .inr ⟨k, rfl, h1, h2, h3⟩
theorem wr_add {a b c : Nat} (h : a + b = c) (hc : c ≤ 100000) : IntKind.i64.wrap ((a : Int) + (b : Int)) = (c : Int) ∧ wrap64 ((a : Int) + (b : Int)) = (c : Int) := by
  subst h
  exact ⟨by rw [IntWalk.i64_in _ (by omega)]; omega, by rw [IntWalk.wrap64_in _ (by omega)]; omega⟩
theorem wr_one {a c : Nat} (h : a + 1 = c) (hc : c ≤ 100000) : IntKind.i64.wrap ((a : Int) + 1) = (c : Int) ∧ wrap64 ((a : Int) + 1) = (c : Int) := wr_add h hc
def PckG (A : AirP) (p : AirAt) (g : Nat) (sl : Nat) (v : Value) (W : World) : Prop :=
  match sl with
  | 20 => v = .pointer (some ⟨g, 2, none⟩)
  | 21 => v = .slice p.sa A.steps.length p.sc
  | 22 => ∃ (a : Option Addr) (c : Nat), v = .slice a A.steps.length c ∧ OpRows W a A.steps.length (opsL A.steps)
  | 23 => v = .pointer (some ⟨g, 3, none⟩)
  | 24 => v = .slice p.ra A.rules.length p.rc
  | 25 => ∃ (a : Option Addr) (c : Nat), v = .slice a A.rules.length c ∧ OpRows W a A.rules.length (opsL A.rules)
  | _ => v = .bool true
theorem PckG.keep {A : AirP} {p : AirAt} {g sl : Nat} {v : Value} {W W' : World} (h : PckG A p g sl v W) (hb : Below W.heap.size W W') : PckG A p g sl v W' := by
  unfold PckG at *
  split at h
  all_goals first | exact h | (obtain ⟨a, c, h1, h2⟩ := h; exact ⟨a, c, h1, opRows_keep h2 hb⟩)
def PckRel (w1 : World) (A : AirP) (pub : List Int) (rows : List (List Int)) (i : Value) (W : World) : Prop := ∃ k : Nat, k ≤ rows.length ∧ i = .int .i64 k ∧ Below w1.heap.size w1 W ∧ ∀ j, j < k → ∀ m, m < A.many → A.badB pub rows j m = false
set_option maxRecDepth 100000 in
set_option maxHeartbeats 16000000 in
theorem pcheckT_is (A : AirP) (p : AirAt) (pa : Option Addr) (pc : Nat) (pub : List Int) (a : Option Addr) (cap : Nat) (rows : List (List Int)) (f : Int × Int) (r : Int) (w : World) (hA : AirA w A p) (hk : OkAir A) (hf : FewAir A) (hp : RowA w pa pub.length pub) (hr : RowsA w a rows.length rows) (hru : UsRows rows) (hz : A.told pub rows = (f, r)) :
    Calls Try.prog 16 #[A.val p, .slice pa pub.length pc, .slice a rows.length cap] w fun e w' => e = .returned (.tuple #[failV f, .int .i64 r]) ∧ Below w.heap.size w w' := by
  have HZ := Lib.hid hz
  have HP := Lib.hid hp; have HR := Lib.hid hr; have HRU := Lib.hid hru
  have hpmax := hp.2.1; have hrmax := hr.2.1
  unfold maxLen at hpmax hrmax
  obtain ⟨ok, hok⟩ : ∃ ok, decide (A.whole pub rows) = ok := ⟨_, rfl⟩
  have kw := fun W (h1 : AirA W A p) (h2 : RowA W pa pub.length pub) (h3 : RowsA W a rows.length rows) => pwhole_is A p pa pc pub a cap rows ok W h1 hk hf h2 h3 hok
  have HOK := Lib.hid hok
  have hA0' := Lib.hid hA
  have HKF := Lib.hid (And.intro hk hf)
  clear hz hp hr hA hok hru hk hf
  go_enter Try.func16, Try.ntmps16
  go_upto_region 1 with fail
  obtain ⟨g, hg⟩ : ∃ g, w.heap.size = g := ⟨_, rfl⟩
  obtain ⟨gF, hgF⟩ : ∃ h, g + 1 = h := ⟨_, rfl⟩
  refine wp_gen (fun W => Below w.heap.size w W ∧ AirC W g A p ∧ Duo W gF (.int .i64 0) (.int .i64 0)) ⟨((Below.refl _ _).alloc (Nat.le_refl _) _).alloc (by simp) _, by rw [← hg]; exact (AirC.new w A p _).keep ((Below.refl _ _).alloc (Nat.le_refl _) _), by rw [← hgF, ← hg]; simp [Duo, go_sem]⟩ ?_
  rintro w0 ⟨hB0, hC0, hD0⟩
  have HGF : Hid (w.heap.size ≤ gF) := Lib.hid (by omega)
  simp only [hg, hgF]
  have HA0 := Lib.hid (hA0'.out.keep hB0)
  have HP0 := Lib.hid (HP.out.keep hB0)
  have HR0 := Lib.hid (rowsA_keep HR.out hB0)
  have HB := Lib.hid hB0
  have HC := Lib.hid hC0
  have HD := Lib.hid hD0
  clear hB0 hg hgF hA0' HP HR
  obtain ⟨x0, x1, x2, x3, x4⟩ := hC0
  obtain ⟨d0, d1, e0, e1⟩ := hD0
  cases ok with
  | false =>
    have hD := (AirP.told_no (of_decide_eq_false HOK.out)).symm.trans HZ.out
    obtain ⟨rfl, rfl⟩ := Prod.mk.inj hD
    clear hD
    go_wp2_with (go_at_call 18; (with_reducible refine (kw _ HA0.out HP0.out HR0.out).mono ?_); rintro E w1 ⟨rfl, hb⟩; replace HB := Lib.hid (bthen HB.out hb); replace e0 := bfree hb d0 e0; replace e1 := bfree hb d1 e1; replace d0 := bkeep hb d0; replace d1 := bkeep hb d1; clear hb)
    exact bodyPost_ret (v := .tuple #[.agg #[.int .i64 (0), .int .i64 (0)], .int .i64 1]) (by simp [results, Try.results16, go_sem, d0, d1]) rfl ⟨rfl, (HB.out.setCell HGF.out _).setCell HGF.out _⟩
  | true =>
    have hwh : A.whole pub rows := of_decide_eq_true HOK.out
    have HW := Lib.hid hwh
    have hc0 := hwh.1
    have hsz := AirP.size_bd (AirP.check_ok hc0).1
    have hn1024 : rows.length ≤ 1024 := by have := hwh.2.1; omega
    have hfits := (AirP.check_ok hc0).2.1
    have hM16 : A.bounds.length ≤ 16 := (AirP.check_ok hc0).1.2.2
    have hsl : A.steps.length ≤ 8 := by have := hfits.2.2.1; have := hfits.2.1; omega
    have hrl16 : A.rules.length ≤ 16 := hfits.2.2.2
    have hcols0 : (A.steps.length : Int) ≤ A.cols := by have := hfits.2.2.1; have := hfits.1; omega
    have HIN := Lib.hid (fun k (hk : k < A.bounds.length) => AirP.bound_in hc0 hk)
    have HBR := Lib.hid (fun i (hi : i + 1 < rows.length) k (hk : k < A.steps.length + A.rules.length) => AirP.bad_broken hwh HRU.out hi hk)
    have HBL := Lib.hid (fun i (hi : ¬ i + 1 < rows.length) k (hk : k < A.steps.length + A.rules.length) => AirP.bad_last (pub := pub) hc0 hi hk)
    have HBM := Lib.hid (fun i k => AirP.bad_missed (pub := pub) (rows := rows) (i := i) hc0 k)
    have HMANY := Lib.hid (AirP.many_is hc0)
    have ko1 := fun W (h : AirA W A p) => poperations_is p.sa p.sc A.steps W h.1 HKF.out.1.steps (by omega)
    have ko2 := fun W (h : AirA W A p) => poperations_is p.ra p.rc A.rules W h.2.1 HKF.out.1.rules (by omega)
    have HE1 := Lib.hid (AirP.steps_ev hc0); have HE2 := Lib.hid (fun k hk => (AirP.rules_ev hc0 k hk).1)
    clear hwh hc0 hfits hsz hpmax hrmax
    go_upto_region 3 with (go_at_call 18; (with_reducible refine (kw _ HA0.out HP0.out HR0.out).mono ?_); rintro E w1 ⟨rfl, hb⟩; replace HB := Lib.hid (bthen HB.out hb); replace HC := Lib.hid (HC.out.keep hb); replace HD := Lib.hid (HD.out.keep hb); replace HA0 := Lib.hid (HA0.out.keep hb); replace HP0 := Lib.hid (HP0.out.keep hb); replace HR0 := Lib.hid (rowsA_keep HR0.out hb); replace x2 := bkeep hb x2; replace x3 := bkeep hb x3; clear hb x0 x1 x4 d0 d1 e0 e1)
    refine wp_loose [(20, []), (21, [20]), (22, [21]), (23, []), (24, [23]), (25, [24])]
        (PckG A p g) (fun d => false) (by kernel_rfl) (by kernel_rfl) (fun _ _ _ _ h hb => h.keep hb) ?_ ?_
    · refine opsrun_cons ?_ (opsrun_cons ?_ (opsrun_cons ?_ (opsrun_cons ?_ (opsrun_cons ?_ (opsrun_cons ?_ opsrun_nil)))))
      all_goals
        refine OpRuns.any ?_
        intro Q0 σ W' K hb hn hK
        simp only [fill, List.map, Act.put, List.setIfInBounds_toArray, List.set_cons_zero, List.set_cons_succ] at hK ⊢
      · clear hn
        go_simp
        exact hK _ _ rfl (Below.refl _ _) (fun h => absurd h (by decide))
      · have h20 : σ 20 = _ := hn 20 (by decide)
        clear hn
        simp only [h20] at hK
        have x2' := bkeep hb x2
        clear x2
        go_simp
        exact hK _ _ rfl (Below.refl _ _) (fun h => absurd h (by decide))
      · have h21 : σ 21 = _ := hn 21 (by decide)
        clear hn
        simp only [h21] at hK
        go_simp
        go_at_call 25
        refine (ko1 W' (HA0.out.keep hb)).mono ?_
        rintro e w2 ⟨hb1, a2, c2, rfl, hO⟩
        exact hK _ _ ⟨a2, c2, rfl, hO⟩ hb1 (fun h => absurd h (by decide))
      · clear hn
        go_simp
        exact hK _ _ rfl (Below.refl _ _) (fun h => absurd h (by decide))
      · have h23 : σ 23 = _ := hn 23 (by decide)
        clear hn
        simp only [h23] at hK
        have x3' := bkeep hb x3
        clear x3
        go_simp
        exact hK _ _ rfl (Below.refl _ _) (fun h => absurd h (by decide))
      · have h24 : σ 24 = _ := hn 24 (by decide)
        clear hn
        simp only [h24] at hK
        go_simp
        go_at_call 25
        refine (ko2 W' (HA0.out.keep hb)).mono ?_
        rintro e w2 ⟨hb1, a2, c2, rfl, hO⟩
        exact hK _ _ ⟨a2, c2, rfl, hO⟩ hb1 (fun h => absurd h (by decide))
    · intro σ w2 hb hR' hF
      obtain ⟨a1, c1, h22, hO1⟩ : ∃ (a : Option Addr) (c : Nat), σ 22 = .slice a A.steps.length c ∧ OpRows w2 a A.steps.length (opsL A.steps) := hR' 22 (by decide)
      obtain ⟨a2, c2, h25, hO2⟩ : ∃ (a : Option Addr) (c : Nat), σ 25 = .slice a A.rules.length c ∧ OpRows w2 a A.rules.length (opsL A.rules) := hR' 25 (by decide)
      have HO1 := Lib.hid hO1; have HO2 := Lib.hid hO2
      replace HB := Lib.hid (bthen HB.out hb); replace HC := Lib.hid (HC.out.keep hb); replace HD := Lib.hid (HD.out.keep hb); replace HA0 := Lib.hid (HA0.out.keep hb); replace HP0 := Lib.hid (HP0.out.keep hb); replace HR0 := Lib.hid (rowsA_keep HR0.out hb)
      simp only [fill, List.map, Act.put, List.setIfInBounds_toArray, List.set_cons_zero, List.set_cons_succ, List.length_cons, List.length_nil, List.drop_succ_cons, List.drop_zero, Nat.reduceAdd, h22, h25]
      clear hR' hF hO1 hO2 hb x2 x3 ko1 ko2 kw h22 h25
      go_upto_region 5 with fail
      go_loopw [28] (PckRel w2 A pub rows) (fun i _ => rows.length - (intOf i).toNat)
      case atStart => exact ⟨0, Nat.zero_le _, rfl, Below.refl _ _, fun j hj => by omega⟩
      case round =>
        obtain ⟨n, hn, rfl, hB, hpl⟩ := hrel
        have HBI := Lib.hid hB; have HPL := Lib.hid hpl
        by_cases hlt : n < rows.length
        · have hltI : (n : Int) < (rows.length : Int) := by omega
          have hn0 : (0 : Int) ≤ (n : Int) := by omega
          obtain ⟨b, off, hpe, ak, ck, c0, hrow, _⟩ := (rowsA_keep HR0.out hB).2.2 n hlt
          rw [show rows.getD n [] = rowN rows n from rfl] at c0 hrow
          have hwn := rows_at (Q := fun r => (r.length : Int) = A.cols) (fun r hr => (HW.out.2.2.2.2 r hr).1) hlt
          have hun := rows_at HRU.out hlt
          have HMISS := Lib.hid (HBM.out n)
          obtain ⟨m1, hm1⟩ : ∃ m, n + 1 = m := ⟨_, rfl⟩
          have HW12 := Lib.hid (wr_one hm1 (by omega))
          have HM1 := Lib.hid hm1
          have HROW := Lib.hid hrow
          by_cases hnx : m1 < rows.length
          · have hnxI : (m1 : Int) < (rows.length : Int) := by omega
            have hm0 : (0 : Int) ≤ (m1 : Int) := by omega
            obtain ⟨b', off', hpe', an, cn, c9, hrow2, _⟩ := (rowsA_keep HR0.out hB).2.2 m1 hnx
            rw [hpe] at hpe'
            simp only [Option.some.injEq, Addr.mk.injEq] at hpe'
            obtain ⟨rfl, rfl, _⟩ := hpe'
            rw [show rows.getD m1 [] = rowN rows m1 from rfl] at c9 hrow2
            have hwx := rows_at (Q := fun r => (r.length : Int) = A.cols) (fun r hr => (HW.out.2.2.2.2 r hr).1) hnx
            have hux := rows_at HRU.out hnx
            have hbr := HBR.out n (by rw [hm1]; exact hnx)
            rw [hm1] at hbr
            have HBRN := Lib.hid hbr
            generalize rowN rows n = row at *
            generalize rowN rows m1 = next at *
            have HROW2 := Lib.hid hrow2
            rcases fstI_cases (p := brokB (opsL A.steps) (opsL A.rules) row next) (n := A.steps.length + A.rules.length) with ⟨eb, hall0⟩ | ⟨k, eb, hkl, hpk, hjk⟩
            · have kb := fun W (h1 : OpRows W a1 A.steps.length (opsL A.steps)) (h2 : OpRows W a2 A.rules.length (opsL A.rules)) (h3 : RowA W ak row.length row) (h4 : RowA W an next.length next) => pbroken_is a1 c1 (opsL A.steps) a2 c2 (opsL A.rules) ak ck row an cn next A.cols (-1) W (by rw [opsL_len]; exact h1) (by rw [opsL_len]; exact h2) HE1.out HE2.out h3 hun (by omega) h4 hux (by omega) (by rw [opsL_len]; omega) (by rw [opsL_len]; omega) (by rw [opsL_len]; omega) (by rw [opsL_len, opsL_len]; exact eb)
              rw [opsL_len, opsL_len] at kb
              have HPK0 : Hid (∀ m, m < A.steps.length + A.rules.length → A.badB pub rows n m = false) := Lib.hid fun m hm => by rw [HBRN.out m hm]; exact hall0 m hm
              have HO1W := Lib.hid (opRows_keep HO1.out hB); have HO2W := Lib.hid (opRows_keep HO2.out hB)
              have HB3 := Lib.hid hB
              simp only [hpe]
              clear hB hpl hpe hrow hrow2 hbr HBRN hall0 eb hm1 hux hun
              obtain ⟨hw1, hw2⟩ := HW12.out
              go_upto_region 11 with (go_at_call 33; (with_reducible refine (kb _ HO1W.out HO2W.out HROW.out HROW2.out).mono ?_); rintro E w3 ⟨rfl, hb⟩; replace HB3 := Lib.hid (bthen HB3.out hb); replace HROW := Lib.hid (HROW.out.keep hb); clear hb kb HO1W HO2W HROW2 c0 c9)
              clear hw1 hw2
              have HBB := Lib.hid (bthen HB.out HB3.out)
              obtain ⟨_, _, _, _, x4⟩ := HC.out.keep HB3.out
              obtain ⟨d0, d1, e0, e1⟩ := HD.out.keep HB3.out
              have hZ3 := (HA0.out.keep HB3.out).2.2.1
              have hP3 := HP0.out.keep HB3.out
              have hin3 := fun k (hk : k < A.bounds.length) => (show 0 ≤ (A.bounds.getD k (0, 0)).1 ∧ (A.bounds.getD k (0, 0)).1 < (row.length : Int) from by
                have h := HIN.out k hk
                rw [hwn]
                exact ⟨h.1, h.2.1⟩)
              have hpl3 := HW.out.2.2.1
              rcases fstI_cases (p := missB A.bounds pub row n) (n := A.bounds.length) with ⟨em, hall⟩ | ⟨j, em, hjl, hpj, hjj⟩
              · have km := pmissed_is p.ba p.bc A.bounds pa pc pub n ak ck row _ w3 hZ3 hP3 HROW.out hin3 hpl3 em
                have HPL2 : Hid (∀ j, j < m1 → ∀ m, m < A.many → A.badB pub rows j m = false) := Lib.hid fun j hj m hm => by
                  by_cases e : j = n
                  · subst e
                    by_cases c : m < A.steps.length + A.rules.length
                    · exact HPK0.out m c
                    · rw [HMANY.out] at hm
                      obtain ⟨q, rfl⟩ : ∃ q, m = A.steps.length + A.rules.length + q := ⟨m - (A.steps.length + A.rules.length), by omega⟩
                      rw [HMISS.out q]
                      exact hall q (by omega)
                  · exact HPL.out j (by rw [← HM1.out] at hj; exact Nat.lt_of_le_of_ne (Nat.le_of_lt_succ hj) e) m hm
                have HM1L := Lib.hid (show m1 ≤ rows.length by rw [← HM1.out]; exact hlt)
                clear hZ3 hP3 hin3 hpl3 em hall HPL HPK0 hrl16 hsl hM16 d0 d1 e0 e1
                obtain ⟨hw1, hw2⟩ := HW12.out
                go_wp2_with (go_at_call 34; (with_reducible refine km.mono ?_); rintro E w4 ⟨rfl, hb⟩; replace HB3 := Lib.hid (bthen HB3.out hb); clear hb)
                clear hw1 hw2
                go_roundw
                case rel => exact ⟨m1, HM1L.out, by first | rfl | go_num, HB3.out, HPL2.out⟩
                case measure => have := HM1.out; simp [intOf]; omega
              · have km := pmissed_is p.ba p.bc A.bounds pa pc pub n ak ck row _ w3 hZ3 hP3 HROW.out hin3 hpl3 em
                have hD := (AirP.told_at (k := A.steps.length + A.rules.length + j) HW.out hlt (by rw [HMANY.out]; omega) (by rw [HMISS.out j]; exact hpj) HPL.out (fun m hm => by
                  by_cases c : m < A.steps.length + A.rules.length
                  · exact HPK0.out m c
                  · obtain ⟨q, rfl⟩ : ∃ q, m = A.steps.length + A.rules.length + q := ⟨m - (A.steps.length + A.rules.length), by omega⟩
                    rw [HMISS.out q]
                    exact hjj q (by omega))).symm.trans HZ.out
                obtain ⟨rfl, rfl⟩ := Prod.mk.inj hD
                have hj2 : ¬ (j : Int) = -1 := by omega
                have hj1 : ((j : Int) != -1) = true := by simp
                obtain ⟨SR, hSR⟩ : ∃ n, A.steps.length + A.rules.length = n := ⟨_, rfl⟩
                obtain ⟨K, hK⟩ : ∃ n, SR + j = n := ⟨_, rfl⟩
                have HW34 := Lib.hid (wr_add hSR (by omega)); have HW56 := Lib.hid (wr_add hK (by omega))
                have HKI := Lib.hid (show ((A.steps.length + A.rules.length + j : Nat) : Int) = (K : Int) by rw [hSR, hK])
                clear hZ3 hP3 hin3 hpl3 em hpj hjj HPL HPK0 hD hSR hK
                obtain ⟨hw1, hw2⟩ := HW12.out
                obtain ⟨hw3, hw4⟩ := HW34.out
                obtain ⟨hw5, hw6⟩ := HW56.out
                go_wp2_with (go_at_call 34; (with_reducible refine km.mono ?_); rintro E w4 ⟨rfl, hb⟩; replace HBB := Lib.hid (bthen HBB.out hb); replace e0 := bfree hb d0 e0; replace e1 := bfree hb d1 e1; replace d0 := bkeep hb d0; replace d1 := bkeep hb d1; clear hb)
                exact bodyPost_ret (v := .tuple #[.agg #[.int .i64 (n), .int .i64 (K)], .int .i64 7]) (by simp [results, Try.results16, go_sem, d0, d1]) rfl ⟨by rw [← HKI.out], (HBB.out.setCell HGF.out _).setCell HGF.out _⟩
            · have kb := fun W (h1 : OpRows W a1 A.steps.length (opsL A.steps)) (h2 : OpRows W a2 A.rules.length (opsL A.rules)) (h3 : RowA W ak row.length row) (h4 : RowA W an next.length next) => pbroken_is a1 c1 (opsL A.steps) a2 c2 (opsL A.rules) ak ck row an cn next A.cols (k : Int) W (by rw [opsL_len]; exact h1) (by rw [opsL_len]; exact h2) HE1.out HE2.out h3 hun (by omega) h4 hux (by omega) (by rw [opsL_len]; omega) (by rw [opsL_len]; omega) (by rw [opsL_len]; omega) (by rw [opsL_len, opsL_len]; exact eb)
              rw [opsL_len, opsL_len] at kb
              have hD := (AirP.told_at (k := k) HW.out hlt (by rw [HMANY.out]; omega) (by rw [HBRN.out k hkl]; exact hpk) HPL.out (fun m hm => by rw [HBRN.out m (Nat.lt_trans hm hkl)]; exact hjk m hm)).symm.trans HZ.out
              obtain ⟨rfl, rfl⟩ := Prod.mk.inj hD
              have hk2 : ¬ (k : Int) = -1 := by omega
              have hk1 : ((k : Int) != -1) = true := by simp
              have HO1W := Lib.hid (opRows_keep HO1.out hB); have HO2W := Lib.hid (opRows_keep HO2.out hB)
              obtain ⟨d0, d1, e0, e1⟩ := HD.out.keep hB
              have HBB := Lib.hid (bthen HB.out hB)
              simp only [hpe]
              clear hB hpl hpe hrow hrow2 hbr HBRN eb hm1 hux hun hD hpk hjk HPL
              obtain ⟨hw1, hw2⟩ := HW12.out
              go_wp2_with (go_at_call 33; (with_reducible refine (kb _ HO1W.out HO2W.out HROW.out HROW2.out).mono ?_); rintro E w3 ⟨rfl, hb⟩; replace HBB := Lib.hid (bthen HBB.out hb); replace e0 := bfree hb d0 e0; replace e1 := bfree hb d1 e1; replace d0 := bkeep hb d0; replace d1 := bkeep hb d1; clear hb)
              exact bodyPost_ret (v := .tuple #[.agg #[.int .i64 (n), .int .i64 (k)], .int .i64 7]) (by simp [results, Try.results16, go_sem, d0, d1]) rfl ⟨rfl, (HBB.out.setCell HGF.out _).setCell HGF.out _⟩
          · have hnxI : ¬ (m1 : Int) < (rows.length : Int) := by omega
            have HPK0 : Hid (∀ m, m < A.steps.length + A.rules.length → A.badB pub rows n m = false) := Lib.hid fun m hm => HBL.out n (by rw [hm1]; exact hnx) m hm
            generalize rowN rows n = row at *
            have HB3 := Lib.hid hB
            simp only [hpe]
            clear hB hpl hpe hrow hm1 hun
            obtain ⟨hw1, hw2⟩ := HW12.out
            go_upto_region 11 with fail
            clear hw1 hw2
            obtain ⟨w3, hw0⟩ : ∃ W, wr = W := ⟨_, rfl⟩
            rw [hw0] at HB3 HROW
            simp only [hw0]
            clear hw0 c0
            have HBB := Lib.hid (bthen HB.out HB3.out)
            obtain ⟨_, _, _, _, x4⟩ := HC.out.keep HB3.out
            obtain ⟨d0, d1, e0, e1⟩ := HD.out.keep HB3.out
            have hZ3 := (HA0.out.keep HB3.out).2.2.1
            have hP3 := HP0.out.keep HB3.out
            have hin3 := fun k (hk : k < A.bounds.length) => (show 0 ≤ (A.bounds.getD k (0, 0)).1 ∧ (A.bounds.getD k (0, 0)).1 < (row.length : Int) from by
              have h := HIN.out k hk
              rw [hwn]
              exact ⟨h.1, h.2.1⟩)
            have hpl3 := HW.out.2.2.1
            rcases fstI_cases (p := missB A.bounds pub row n) (n := A.bounds.length) with ⟨em, hall⟩ | ⟨j, em, hjl, hpj, hjj⟩
            · have km := pmissed_is p.ba p.bc A.bounds pa pc pub n ak ck row _ w3 hZ3 hP3 HROW.out hin3 hpl3 em
              have HPL2 : Hid (∀ j, j < m1 → ∀ m, m < A.many → A.badB pub rows j m = false) := Lib.hid fun j hj m hm => by
                by_cases e : j = n
                · subst e
                  by_cases c : m < A.steps.length + A.rules.length
                  · exact HPK0.out m c
                  · rw [HMANY.out] at hm
                    obtain ⟨q, rfl⟩ : ∃ q, m = A.steps.length + A.rules.length + q := ⟨m - (A.steps.length + A.rules.length), by omega⟩
                    rw [HMISS.out q]
                    exact hall q (by omega)
                · exact HPL.out j (by rw [← HM1.out] at hj; exact Nat.lt_of_le_of_ne (Nat.le_of_lt_succ hj) e) m hm
              have HM1L := Lib.hid (show m1 ≤ rows.length by rw [← HM1.out]; exact hlt)
              clear hZ3 hP3 hin3 hpl3 em hall HPL HPK0 hrl16 hsl hM16 d0 d1 e0 e1
              obtain ⟨hw1, hw2⟩ := HW12.out
              go_wp2_with (go_at_call 34; (with_reducible refine km.mono ?_); rintro E w4 ⟨rfl, hb⟩; replace HB3 := Lib.hid (bthen HB3.out hb); clear hb)
              clear hw1 hw2
              go_roundw
              case rel => exact ⟨m1, HM1L.out, by first | rfl | go_num, HB3.out, HPL2.out⟩
              case measure => have := HM1.out; simp [intOf]; omega
            · have km := pmissed_is p.ba p.bc A.bounds pa pc pub n ak ck row _ w3 hZ3 hP3 HROW.out hin3 hpl3 em
              have hD := (AirP.told_at (k := A.steps.length + A.rules.length + j) HW.out hlt (by rw [HMANY.out]; omega) (by rw [HMISS.out j]; exact hpj) HPL.out (fun m hm => by
                by_cases c : m < A.steps.length + A.rules.length
                · exact HPK0.out m c
                · obtain ⟨q, rfl⟩ : ∃ q, m = A.steps.length + A.rules.length + q := ⟨m - (A.steps.length + A.rules.length), by omega⟩
                  rw [HMISS.out q]
                  exact hjj q (by omega))).symm.trans HZ.out
              obtain ⟨rfl, rfl⟩ := Prod.mk.inj hD
              have hj2 : ¬ (j : Int) = -1 := by omega
              have hj1 : ((j : Int) != -1) = true := by simp
              obtain ⟨SR, hSR⟩ : ∃ n, A.steps.length + A.rules.length = n := ⟨_, rfl⟩
              obtain ⟨K, hK⟩ : ∃ n, SR + j = n := ⟨_, rfl⟩
              have HW34 := Lib.hid (wr_add hSR (by omega)); have HW56 := Lib.hid (wr_add hK (by omega))
              have HKI := Lib.hid (show ((A.steps.length + A.rules.length + j : Nat) : Int) = (K : Int) by rw [hSR, hK])
              clear hZ3 hP3 hin3 hpl3 em hpj hjj HPL HPK0 hD hSR hK
              obtain ⟨hw1, hw2⟩ := HW12.out
              obtain ⟨hw3, hw4⟩ := HW34.out
              obtain ⟨hw5, hw6⟩ := HW56.out
              go_wp2_with (go_at_call 34; (with_reducible refine km.mono ?_); rintro E w4 ⟨rfl, hb⟩; replace HBB := Lib.hid (bthen HBB.out hb); replace e0 := bfree hb d0 e0; replace e1 := bfree hb d1 e1; replace d0 := bkeep hb d0; replace d1 := bkeep hb d1; clear hb)
              exact bodyPost_ret (v := .tuple #[.agg #[.int .i64 (n), .int .i64 (K)], .int .i64 7]) (by simp [results, Try.results16, go_sem, d0, d1]) rfl ⟨by rw [← HKI.out], (HBB.out.setCell HGF.out _).setCell HGF.out _⟩
        · obtain rfl : n = rows.length := by omega
          have hD := (AirP.told_ok HW.out hpl).symm.trans HZ.out
          obtain ⟨rfl, rfl⟩ := Prod.mk.inj hD
          obtain ⟨d0, d1, e0, e1⟩ := HD.out.keep hB
          have HBE := Lib.hid (bthen HB.out hB)
          clear hD hB hpl HPL
          go_wp2_with fail
          exact bodyPost_ret (v := .tuple #[.agg #[.int .i64 (0), .int .i64 (0)], .int .i64 0]) (by simp [results, Try.results16, go_sem, d0, d1]) rfl ⟨rfl, (HBE.out.setCell HGF.out _).setCell HGF.out _⟩
end Go.Proofs.Ytjcgakmhpblanaa
