/-
  What the document's Check of layer 16 comes to.
-/
import Derived.Test.YtckipfcjgmiacaaShapeM
import Derived.Test.YtckipfcjgmiacaaStack
import Derived.Test.YtckipfcjgmiacaaCodeRef
import Derived.Test.YtckipfcjgmiacaaCodeRef3
import Derived.BigRegion
namespace Go.Proofs.Ytckipfcjgmiacaa
open Go Go.RowKit
set_option linter.unusedVariables false

abbrev stN (x : Nat) : List Value := [.int .i64 (x : Int)]
theorem stN_len (x : Nat) : (stN x).length = 1 := rfl
theorem infoI : (Try.prog.info? 3).map (fun i => (i.zero, i.size, i.bytes)) = some (some (.int .i64 0), 1, 8) := by kernel_rfl
theorem drop_at {zs : List Opn} {k : Nat} (h : k < zs.length) : zs.drop k = zs.getD k (0, 0) :: zs.drop (k + 1) := by
  rw [List.drop_eq_getElem_cons h]
  simp [List.getD, h]
theorem w_add (x y : Nat) (h : x + y ≤ 512) : wrap64 ((x : Int) + (y : Int)) = ((x + y : Nat) : Int) ∧ IntKind.i64.wrap ((x : Int) + (y : Int)) = ((x + y : Nat) : Int) :=
  ⟨by rw [IntWalk.wrap64_in _ (by omega)]; omega, by rw [IntWalk.i64_in _ (by omega)]; omega⟩
theorem max_nat (x y : Nat) : max (x : Int) (y : Int) = ((max x y : Nat) : Int) := by omega
def ChkRel (w : World) (zs : List Opn) (cols : Int) (nx : Bool) (D : Nat × Int) (v wo i : Value) (W : World) : Prop :=
  ∃ (k : Nat) (st : List Nat) (q : Nat), k ≤ zs.length ∧ i = .int .i64 k ∧ wo = .int .i64 (q : Nat) ∧ Below w.heap.size w W ∧ W.ownsRow w.heap.size 3 1 v st.length (stkV stN st) ∧ st.length ≤ 16 ∧ st.sum ≤ k ∧ q ≤ k ∧ tellS cols nx (zs.drop k) st q = D
set_option maxRecDepth 100000 in
set_option maxHeartbeats 8000000 in
theorem rscheck_is (a : Option Addr) (cap : Nat) (zs : List Opn) (cols : Int) (nx : Bool) (d : Nat) (e : Int) (w : World) (hO : OpA w a zs.length zs) (hu : ∀ o ∈ zs, OkO o) (hc : -9223372036854775808 ≤ cols ∧ cols ≤ 9223372036854775807) (hz : checkB zs cols nx = (d, e)) :
    Calls Try.prog 27 #[.slice a zs.length cap, .int .i64 cols, .bool nx] w fun E w' => E = .returned (.tuple #[.int .i64 (d : Int), .int .i64 e]) ∧ Below w.heap.size w w' := by
  obtain ⟨i0, hi, hz0, hz1, hz2⟩ := info_parts infoI
  have hmax := hO.2.1
  unfold maxLen at hmax
  have HC := Lib.hid hO.2.2
  have HU := Lib.hid hu
  clear hO hu
  unfold checkB at hz
  by_cases hbig : 256 < zs.length
  · rw [if_pos hbig] at hz
    obtain ⟨rfl, rfl⟩ := Prod.mk.inj hz
    have hbI : (256 : Int) < (zs.length : Int) := by omega
    clear hz
    go_enter Try.func27, Try.ntmps27
    go_wp2
    exact bodyPost_ret (v := .tuple #[.int .i64 0, .int .i64 6]) (by simp [results, Try.results27, go_sem]) rfl ⟨rfl, Below.refl _ _⟩
  rw [if_neg hbig] at hz
  have HZ := Lib.hid hz
  have hbI : ¬ (256 : Int) < (zs.length : Int) := by omega
  have hlen : zs.length ≤ 256 := by omega
  clear hz hbig hmax
  go_enter Try.func27, Try.ntmps27
  go_upto_region 6 with fail
  go_loopw [8, 9, 10] (ChkRel w zs cols nx (d, e)) (fun _ _ i _ => zs.length - (intOf i).toNat)
  case atStart => exact ⟨0, [], 0, Nat.zero_le _, rfl, rfl, Below.refl _ _, World.ownsRow_nil _ _ _ _, by simp, by simp, by simp, by rw [List.drop_zero]; exact HZ.out⟩
  case round =>
    clear HZ hbI
    obtain ⟨k, st, q, hk, rfl, rfl, hB, hown, hst, hsum, hq, hres⟩ := hrel
    by_cases hlt : k < zs.length
    · have hlt' : (k : Int) < (zs.length : Int) := by omega
      have hk0 : (0 : Int) ≤ (k : Int) := by omega
      rw [drop_at hlt] at hres
      have hok : OkO (zs.getD k (0, 0)) := by
        have e : zs.getD k (0, 0) = zs[k] := by simp [List.getD, hlt]
        rw [e]
        exact HU.out _ (List.getElem_mem hlt)
      obtain ⟨b, off, rfl, u0, u1⟩ := HC.out k hlt
      replace u0 := bkeep hB u0; replace u1 := bkeep hB u1
      obtain ⟨rest, hrest⟩ : ∃ r, zs.drop (k + 1) = r := ⟨_, rfl⟩
      rw [hrest] at hres
      have HREST := Lib.hid hrest
      clear hrest
      generalize zs.getD k (0, 0) = o at *
      obtain ⟨kd, nn⟩ := o
      dsimp only at u0 u1
      have HB := Lib.hid hB; have HO := Lib.hid hown; have HRES := Lib.hid hres
      clear hB hown hres
      go_upto_region 9 with fail
      obtain ⟨g6, hg6⟩ : ∃ g, wr.heap.size = g := ⟨_, rfl⟩
      refine wp_gen (fun W => Below w.heap.size w W ∧ W.ownsRow w.heap.size 3 1 u8 st.length (stkV stN st) ∧ W.cell? ⟨wr.heap.size, 0, none⟩ = some (.int .i64 kd) ∧ W.cell? ⟨wr.heap.size, 1, none⟩ = some (.int .u64 nn)) ⟨HB.out.alloc HB.out.size _, HO.out.alloc _, by simp [go_sem], by simp [go_sem]⟩ ?_
      rw [hg6]
      rintro W1 ⟨hB, hown, c0, c1⟩
      have HB := Lib.hid hB; have HO := Lib.hid hown
      clear hB hown hg6 u0 u1
      have kr := fun r h => rcright_is kd nn r W1 hok h
      by_cases hr : rightO (kd, nn) = false
      · have hD := (tell_err (l := rest) (wo := q) (push_bad (cols := cols) (nx := nx) (st := st) (.inl hr)) (by decide)).symm.trans HRES.out
        obtain ⟨rfl, rfl⟩ := Prod.mk.inj hD
        clear hD HRES
        go_wp2_with (go_at_call 42; (with_reducible refine (kr false hr).mono ?_); rintro e w2 ⟨rfl, hb⟩; replace HB := Lib.hid (bthen HB.out hb); replace HO := Lib.hid (own_keep HO.out hb); replace c0 := bkeep hb c0; replace c1 := bkeep hb c1; clear hb)
        exact bodyPost_ret (v := .tuple #[.int .i64 0, .int .i64 3]) (by simp [results, Try.results27, go_sem]) rfl ⟨rfl, HB.out⟩
      have hrt : rightO (kd, nn) = true := by simpa using hr
      have hk := right_kind hrt
      dsimp only at hk
      by_cases hx : kd = 2 ∧ nx = false
      · obtain ⟨rfl, rfl⟩ := hx
        have hD := (tell_err (l := rest) (wo := q) (push_bad (cols := cols) (nx := false) (st := st) (.inr ⟨rfl, rfl⟩)) (by decide)).symm.trans HRES.out
        obtain ⟨rfl, rfl⟩ := Prod.mk.inj hD
        clear hD HRES
        go_wp2_with (go_at_call 42; (with_reducible refine (kr true hrt).mono ?_); rintro e w2 ⟨rfl, hb⟩; replace HB := Lib.hid (bthen HB.out hb); replace HO := Lib.hid (own_keep HO.out hb); replace c0 := bkeep hb c0; replace c1 := bkeep hb c1; clear hb)
        exact bodyPost_ret (v := .tuple #[.int .i64 0, .int .i64 3]) (by simp [results, Try.results27, go_sem]) rfl ⟨rfl, HB.out⟩
      by_cases hk1 : kd = 1
      · subst hk1
        have hnb : nn < 256 := by
          have h := hrt
          unfold rightO at h
          simpa using h
        have hn0 : 0 ≤ nn := hok.2.1
        have hcv : IntKind.i64.wrap nn = nn := IntWalk.i64_in _ (by omega)
        by_cases hfar : cols ≤ nn
        · have hD := (tell_err (l := rest) (wo := q) (push_far (st := st) hrt hx (by simp) hfar) (by decide)).symm.trans HRES.out
          obtain ⟨rfl, rfl⟩ := Prod.mk.inj hD
          clear hD HRES
          go_wp2_with (go_at_call 42; (with_reducible refine (kr true hrt).mono ?_); rintro e w2 ⟨rfl, hb⟩; replace HB := Lib.hid (bthen HB.out hb); replace HO := Lib.hid (own_keep HO.out hb); replace c0 := bkeep hb c0; replace c1 := bkeep hb c1; clear hb)
          exact bodyPost_ret (v := .tuple #[.int .i64 0, .int .i64 3]) (by simp [results, Try.results27, go_sem]) rfl ⟨rfl, HB.out⟩
        have hfarn : ¬ cols ≤ nn := hfar
        have hpp := push_col (cols := cols) (nx := nx) (st := st) hrt hx (by simp) (by show nn < cols; omega)
        go_upto_region 23 with (go_at_call 42; (with_reducible refine (kr true hrt).mono ?_); rintro e w2 ⟨rfl, hb⟩; replace HB := Lib.hid (bthen HB.out hb); replace HO := Lib.hid (own_keep HO.out hb); replace c0 := bkeep hb c0; replace c1 := bkeep hb c1; clear hb)
        have hown := HO.out
        have hsz0 := HB.out.size
        obtain ⟨FL, hFL⟩ : ∃ fl, stkV stN st = fl := ⟨_, rfl⟩
        rw [hFL] at hown
        have HFL := Lib.hid hFL
        clear hFL
        go_upto_region 26 with (at_builtin; refine wpList_append_own _ rfl _ _ 55 rfl w.heap.size 3 i0 (.int .i64 0) 1 8 Try.underlying55 hi hz0 hz1 hz2 rfl (by decide) _ _ _ rfl (hown.alloc _) ⟨w2.heap.size, 0, none⟩ 1 1 [.int .i64 1] rfl rfl ?c1 ?c2 ?c3 ?c4 ?c5 ?_)
        case c1 => exact one_src (by simp [go_sem])
        case c2 => first | rfl | (intro u hu; simp at hu; subst hu; rfl)
        case c3 => unfold maxLen; omega
        case c4 => omega
        case c5 => first | omega | (simp; omega)
        intro v' w3 hown' hgrow _
        have hb3 := own_row_below (hown.alloc (.cells #[.int .i64 1] 3)) (HB.out.alloc HB.out.size _) hgrow (Nat.le_refl _) (by simp; omega)
        have q3 : w3.ownsRow w.heap.size 3 1 v' (st.length + 1) (stkV stN (1 :: st)) := by rw [stkV_cons, HFL.out]; exact hown'
        have hsum2 := pushS_sum (cols := cols) (nx := nx) (show (pushS cols nx _ _).1 = 0 by rw [hpp])
        rw [hpp] at hsum2
        obtain ⟨hs2, _, _⟩ := hsum2
        dsimp only at hs2
        rw [List.sum_cons] at hs2
        skip
        obtain ⟨g', cap', rfl, hcp, hcm, hcell⟩ := stk_one stN_len q3
        have htop := hcell 0 (by decide)
        simp only [Nat.mul_one, Nat.add_zero] at htop
        replace htop : w3.cell? ⟨g', (st).length, none⟩ = some (.int .i64 ((1 : Nat) : Int)) := htop
        have HB := Lib.hid hb3
        have HO := Lib.hid q3
        have HP := Lib.hid hpp
        clear hb3 q3 hown hown' hgrow hcell hsz0
        obtain ⟨M, hM⟩ : ∃ M, (st).length + 1 = M := ⟨_, rfl⟩
        have HMM := Lib.hid hM
        rw [hM] at hcp ⊢
        have hm1 : ((st).length : Int) < (M : Int) := by omega
        have hm0 : (0 : Int) ≤ ((st).length : Int) := by omega
        have hw5 : IntKind.i64.wrap ((M : Int) - 1) = ((st).length : Int) := by rw [IntWalk.i64_in _ (by omega)]; omega
        have hw6 : wrap64 ((M : Int) - 1) = ((st).length : Int) := by rw [IntWalk.wrap64_in _ (by omega)]; omega
        by_cases h16 : 16 < M
        · have h16I : (16 : Int) < (M : Int) := by omega
          have hD := (tell_high HP.out (by show 16 < (st).length + 1; rw [HMM.out]; exact h16)).symm.trans HRES.out
          obtain ⟨rfl, rfl⟩ := Prod.mk.inj hD
          clear hD HRES HO HP
          go_wp2_with fail
          exact bodyPost_ret (v := .tuple #[.int .i64 0, .int .i64 4]) (by simp [results, Try.results27, go_sem]) rfl ⟨rfl, HB.out⟩
        · have h16I : ¬ (16 : Int) < (M : Int) := by omega
          have HS := Lib.hid ((tell_go HP.out (by show ¬ 16 < (st).length + 1; rw [HMM.out]; exact h16)).symm.trans HRES.out)
          have HQ := Lib.hid (show max q (1) ≤ k + 1 by omega)
          have HSU := Lib.hid (show (1) + (st).sum ≤ k + 1 by omega)
          have HLN := Lib.hid (show (1 :: st).length ≤ 16 by show (st).length + 1 ≤ 16; omega)
          skip
          clear HRES HP hs2 hM
          have hmx : max (q : Int) ((1 : Nat) : Int) = ((max q 1 : Nat) : Int) := by omega
          go_wp2_with fail
          go_roundw
          case rel => exact ⟨k + 1, 1 :: (st), max q 1, by omega, by go_num, by go_num, HB.out, by rw [← HMM.out]; exact HO.out, HLN.out, by rw [List.sum_cons]; exact HSU.out, HQ.out, by rw [HREST.out]; exact HS.out⟩
          case measure => simp [intOf]; omega
      by_cases hk2 : kd = 2
      · subst hk2
        obtain rfl : nx = true := by simpa using hx
        have hnb : nn < 256 := by
          have h := hrt
          unfold rightO at h
          simpa using h
        have hn0 : 0 ≤ nn := hok.2.1
        have hcv : IntKind.i64.wrap nn = nn := IntWalk.i64_in _ (by omega)
        by_cases hfar : cols ≤ nn
        · have hD := (tell_err (l := rest) (wo := q) (push_far (st := st) hrt hx (by simp) hfar) (by decide)).symm.trans HRES.out
          obtain ⟨rfl, rfl⟩ := Prod.mk.inj hD
          clear hD HRES
          go_wp2_with (go_at_call 42; (with_reducible refine (kr true hrt).mono ?_); rintro e w2 ⟨rfl, hb⟩; replace HB := Lib.hid (bthen HB.out hb); replace HO := Lib.hid (own_keep HO.out hb); replace c0 := bkeep hb c0; replace c1 := bkeep hb c1; clear hb)
          exact bodyPost_ret (v := .tuple #[.int .i64 0, .int .i64 3]) (by simp [results, Try.results27, go_sem]) rfl ⟨rfl, HB.out⟩
        have hfarn : ¬ cols ≤ nn := hfar
        have hpp := push_col (cols := cols) (nx := true) (st := st) hrt hx (by simp) (by show nn < cols; omega)
        go_upto_region 23 with (go_at_call 42; (with_reducible refine (kr true hrt).mono ?_); rintro e w2 ⟨rfl, hb⟩; replace HB := Lib.hid (bthen HB.out hb); replace HO := Lib.hid (own_keep HO.out hb); replace c0 := bkeep hb c0; replace c1 := bkeep hb c1; clear hb)
        have hown := HO.out
        have hsz0 := HB.out.size
        obtain ⟨FL, hFL⟩ : ∃ fl, stkV stN st = fl := ⟨_, rfl⟩
        rw [hFL] at hown
        have HFL := Lib.hid hFL
        clear hFL
        go_upto_region 26 with (at_builtin; refine wpList_append_own _ rfl _ _ 55 rfl w.heap.size 3 i0 (.int .i64 0) 1 8 Try.underlying55 hi hz0 hz1 hz2 rfl (by decide) _ _ _ rfl (hown.alloc _) ⟨w2.heap.size, 0, none⟩ 1 1 [.int .i64 1] rfl rfl ?c1 ?c2 ?c3 ?c4 ?c5 ?_)
        case c1 => exact one_src (by simp [go_sem])
        case c2 => first | rfl | (intro u hu; simp at hu; subst hu; rfl)
        case c3 => unfold maxLen; omega
        case c4 => omega
        case c5 => first | omega | (simp; omega)
        intro v' w3 hown' hgrow _
        have hb3 := own_row_below (hown.alloc (.cells #[.int .i64 1] 3)) (HB.out.alloc HB.out.size _) hgrow (Nat.le_refl _) (by simp; omega)
        have q3 : w3.ownsRow w.heap.size 3 1 v' (st.length + 1) (stkV stN (1 :: st)) := by rw [stkV_cons, HFL.out]; exact hown'
        have hsum2 := pushS_sum (cols := cols) (nx := true) (show (pushS cols true _ _).1 = 0 by rw [hpp])
        rw [hpp] at hsum2
        obtain ⟨hs2, _, _⟩ := hsum2
        dsimp only at hs2
        rw [List.sum_cons] at hs2
        skip
        obtain ⟨g', cap', rfl, hcp, hcm, hcell⟩ := stk_one stN_len q3
        have htop := hcell 0 (by decide)
        simp only [Nat.mul_one, Nat.add_zero] at htop
        replace htop : w3.cell? ⟨g', (st).length, none⟩ = some (.int .i64 ((1 : Nat) : Int)) := htop
        have HB := Lib.hid hb3
        have HO := Lib.hid q3
        have HP := Lib.hid hpp
        clear hb3 q3 hown hown' hgrow hcell hsz0
        obtain ⟨M, hM⟩ : ∃ M, (st).length + 1 = M := ⟨_, rfl⟩
        have HMM := Lib.hid hM
        rw [hM] at hcp ⊢
        have hm1 : ((st).length : Int) < (M : Int) := by omega
        have hm0 : (0 : Int) ≤ ((st).length : Int) := by omega
        have hw5 : IntKind.i64.wrap ((M : Int) - 1) = ((st).length : Int) := by rw [IntWalk.i64_in _ (by omega)]; omega
        have hw6 : wrap64 ((M : Int) - 1) = ((st).length : Int) := by rw [IntWalk.wrap64_in _ (by omega)]; omega
        by_cases h16 : 16 < M
        · have h16I : (16 : Int) < (M : Int) := by omega
          have hD := (tell_high HP.out (by show 16 < (st).length + 1; rw [HMM.out]; exact h16)).symm.trans HRES.out
          obtain ⟨rfl, rfl⟩ := Prod.mk.inj hD
          clear hD HRES HO HP
          go_wp2_with fail
          exact bodyPost_ret (v := .tuple #[.int .i64 0, .int .i64 4]) (by simp [results, Try.results27, go_sem]) rfl ⟨rfl, HB.out⟩
        · have h16I : ¬ (16 : Int) < (M : Int) := by omega
          have HS := Lib.hid ((tell_go HP.out (by show ¬ 16 < (st).length + 1; rw [HMM.out]; exact h16)).symm.trans HRES.out)
          have HQ := Lib.hid (show max q (1) ≤ k + 1 by omega)
          have HSU := Lib.hid (show (1) + (st).sum ≤ k + 1 by omega)
          have HLN := Lib.hid (show (1 :: st).length ≤ 16 by show (st).length + 1 ≤ 16; omega)
          skip
          clear HRES HP hs2 hM
          have hmx : max (q : Int) ((1 : Nat) : Int) = ((max q 1 : Nat) : Int) := by omega
          go_wp2_with fail
          go_roundw
          case rel => exact ⟨k + 1, 1 :: (st), max q 1, by omega, by go_num, by go_num, HB.out, by rw [← HMM.out]; exact HO.out, HLN.out, by rw [List.sum_cons]; exact HSU.out, HQ.out, by rw [HREST.out]; exact HS.out⟩
          case measure => simp [intOf]; omega
      by_cases hk3 : kd = 3
      · subst hk3
        have hpp := push_const (cols := cols) (nx := nx) (st := st) hrt rfl
        go_upto_region 25 with (go_at_call 42; (with_reducible refine (kr true hrt).mono ?_); rintro e w2 ⟨rfl, hb⟩; replace HB := Lib.hid (bthen HB.out hb); replace HO := Lib.hid (own_keep HO.out hb); replace c0 := bkeep hb c0; replace c1 := bkeep hb c1; clear hb)
        have hown := HO.out
        have hsz0 := HB.out.size
        obtain ⟨FL, hFL⟩ : ∃ fl, stkV stN st = fl := ⟨_, rfl⟩
        rw [hFL] at hown
        have HFL := Lib.hid hFL
        clear hFL
        go_upto_region 26 with (at_builtin; refine wpList_append_own _ rfl _ _ 55 rfl w.heap.size 3 i0 (.int .i64 0) 1 8 Try.underlying55 hi hz0 hz1 hz2 rfl (by decide) _ _ _ rfl (hown.alloc _) ⟨w2.heap.size, 0, none⟩ 1 1 [.int .i64 0] rfl rfl ?c1 ?c2 ?c3 ?c4 ?c5 ?_)
        case c1 => exact one_src (by simp [go_sem])
        case c2 => first | rfl | (intro u hu; simp at hu; subst hu; rfl)
        case c3 => unfold maxLen; omega
        case c4 => omega
        case c5 => first | omega | (simp; omega)
        intro v' w3 hown' hgrow _
        have hb3 := own_row_below (hown.alloc (.cells #[.int .i64 0] 3)) (HB.out.alloc HB.out.size _) hgrow (Nat.le_refl _) (by simp; omega)
        have q3 : w3.ownsRow w.heap.size 3 1 v' (st.length + 1) (stkV stN (0 :: st)) := by rw [stkV_cons, HFL.out]; exact hown'
        have hsum2 := pushS_sum (cols := cols) (nx := nx) (show (pushS cols nx _ _).1 = 0 by rw [hpp])
        rw [hpp] at hsum2
        obtain ⟨hs2, _, _⟩ := hsum2
        dsimp only at hs2
        rw [List.sum_cons] at hs2
        skip
        obtain ⟨g', cap', rfl, hcp, hcm, hcell⟩ := stk_one stN_len q3
        have htop := hcell 0 (by decide)
        simp only [Nat.mul_one, Nat.add_zero] at htop
        replace htop : w3.cell? ⟨g', (st).length, none⟩ = some (.int .i64 ((0 : Nat) : Int)) := htop
        have HB := Lib.hid hb3
        have HO := Lib.hid q3
        have HP := Lib.hid hpp
        clear hb3 q3 hown hown' hgrow hcell hsz0
        obtain ⟨M, hM⟩ : ∃ M, (st).length + 1 = M := ⟨_, rfl⟩
        have HMM := Lib.hid hM
        rw [hM] at hcp ⊢
        have hm1 : ((st).length : Int) < (M : Int) := by omega
        have hm0 : (0 : Int) ≤ ((st).length : Int) := by omega
        have hw5 : IntKind.i64.wrap ((M : Int) - 1) = ((st).length : Int) := by rw [IntWalk.i64_in _ (by omega)]; omega
        have hw6 : wrap64 ((M : Int) - 1) = ((st).length : Int) := by rw [IntWalk.wrap64_in _ (by omega)]; omega
        by_cases h16 : 16 < M
        · have h16I : (16 : Int) < (M : Int) := by omega
          have hD := (tell_high HP.out (by show 16 < (st).length + 1; rw [HMM.out]; exact h16)).symm.trans HRES.out
          obtain ⟨rfl, rfl⟩ := Prod.mk.inj hD
          clear hD HRES HO HP
          go_wp2_with fail
          exact bodyPost_ret (v := .tuple #[.int .i64 0, .int .i64 4]) (by simp [results, Try.results27, go_sem]) rfl ⟨rfl, HB.out⟩
        · have h16I : ¬ (16 : Int) < (M : Int) := by omega
          have HS := Lib.hid ((tell_go HP.out (by show ¬ 16 < (st).length + 1; rw [HMM.out]; exact h16)).symm.trans HRES.out)
          have HQ := Lib.hid (show max q (0) ≤ k + 1 by omega)
          have HSU := Lib.hid (show (0) + (st).sum ≤ k + 1 by omega)
          have HLN := Lib.hid (show (0 :: st).length ≤ 16 by show (st).length + 1 ≤ 16; omega)
          skip
          clear HRES HP hs2 hM
          have hmx : max (q : Int) ((0 : Nat) : Int) = ((max q 0 : Nat) : Int) := by omega
          go_wp2_with fail
          go_roundw
          case rel => exact ⟨k + 1, 0 :: (st), max q 0, by omega, by go_num, by go_num, HB.out, by rw [← HMM.out]; exact HO.out, HLN.out, by rw [List.sum_cons]; exact HSU.out, HQ.out, by rw [HREST.out]; exact HS.out⟩
          case measure => simp [intOf]; omega
      have hcol : ¬ ((kd, nn).1 = 1 ∨ (kd, nn).1 = 2) := by simp [hk1, hk2]
      by_cases hfew : st.length < 2
      · have hfewI : (st.length : Int) < 2 := by omega
        obtain ⟨aS, cS, rfl⟩ := own_form HO.out
        have hD := (tell_err (l := rest) (wo := q) (push_few (cols := cols) (nx := nx) hrt hcol hk3 hfew) (by decide)).symm.trans HRES.out
        obtain ⟨rfl, rfl⟩ := Prod.mk.inj hD
        clear hD HRES
        go_wp2_with (go_at_call 42; (with_reducible refine (kr true hrt).mono ?_); rintro e w2 ⟨rfl, hb⟩; replace HB := Lib.hid (bthen HB.out hb); replace HO := Lib.hid (own_keep HO.out hb); replace c0 := bkeep hb c0; replace c1 := bkeep hb c1; clear hb)
        exact bodyPost_ret (v := .tuple #[.int .i64 0, .int .i64 4]) (by simp [results, Try.results27, go_sem]) rfl ⟨rfl, HB.out⟩
      obtain ⟨y, x, r, rfl⟩ : ∃ y x r, st = y :: x :: r := by
        match st, hfew with
        | y :: x :: r, _ => exact ⟨y, x, r, rfl⟩
        | [_], h => exact absurd (by simp) h
        | [], h => exact absurd (by simp) h
      have hpp := push_two (cols := cols) (nx := nx) (a := x) (b := y) (r := r) hrt hcol hk3
      have hsr : y + (x + r.sum) ≤ k := by simpa using hsum
      have hlr : r.length + 1 + 1 ≤ 16 := by simpa using hst
      obtain ⟨M2, hM2⟩ : ∃ M2, r.length + 1 + 1 = M2 := ⟨_, rfl⟩
      have hv1 : IntKind.i64.wrap ((M2 : Int) - 1) = ((r.length + 1 : Nat) : Int) := by rw [IntWalk.i64_in _ (by omega)]; omega
      have hv2 : wrap64 ((M2 : Int) - 1) = ((r.length + 1 : Nat) : Int) := by rw [IntWalk.wrap64_in _ (by omega)]; omega
      have hv3 : IntKind.i64.wrap ((M2 : Int) - 2) = (r.length : Int) := by rw [IntWalk.i64_in _ (by omega)]; omega
      have hv4 : wrap64 ((M2 : Int) - 2) = (r.length : Int) := by rw [IntWalk.wrap64_in _ (by omega)]; omega
      obtain ⟨M1, hM1⟩ : ∃ M1, r.length + 1 = M1 := ⟨_, rfl⟩
      rw [hM1] at hv1 hv2
      have hl2 : (M1 : Int) < (M2 : Int) := by omega
      have hl3 : (r.length : Int) < (M2 : Int) := by omega
      have hl4 : (r.length : Int) ≤ (M2 : Int) := by omega
      have hl5 : (0 : Int) ≤ (M1 : Int) := by omega
      have hl6 : (0 : Int) ≤ (r.length : Int) := by omega
      have hM2n : ¬ (M2 : Int) < 2 := by omega
      obtain ⟨gs, cs, hu8, hcs, hcsm, hcx, hcy, hcut⟩ := stk_two stN_len HO.out
      rw [hM2] at hu8 hcs
      subst hu8
      replace hcx := hcx 0 (by decide); replace hcy := hcy 0 (by decide)
      simp only [Nat.mul_one, Nat.add_zero, hM1] at hcx hcy
      replace hcx : W1.cell? ⟨gs, r.length, none⟩ = some (.int .i64 (x : Int)) := hcx
      replace hcy : W1.cell? ⟨gs, M1, none⟩ = some (.int .i64 (y : Int)) := hcy
      have hcut := hcut
      have hrM : r.length ≤ cs := by omega
      have hxyb : x + y ≤ 512 := by omega
      clear HO hM1 hM2 hfew
      have HSE : Hid ((y :: x :: r).sum = y + (x + r.sum)) := Lib.hid (by simp)
      have hkd : kd = 4 ∨ kd = 5 ∨ kd = 6 := by omega
      rcases hkd with rfl | rfl | rfl
      · obtain ⟨V, hV⟩ : ∃ V, max x y = V := ⟨_, rfl⟩
        have hpv : pushS cols nx (4, nn) (y :: x :: r) = (0, V :: r) := by rw [hpp, ← hV]; rfl
        have hval : max (x : Int) (y : Int) = (V : Int) := by rw [← hV]; exact max_nat x y
        go_upto_region 15 with (go_at_call 42; (with_reducible refine (kr true hrt).mono ?_); rintro e w2 ⟨rfl, hb⟩; replace HB := Lib.hid (bthen HB.out hb); replace c0 := bkeep hb c0; replace c1 := bkeep hb c1; replace hcx := bkeep hb hcx; replace hcy := bkeep hb hcy; replace hcut := own_keep hcut hb; clear hb)
        go_region
        go_upto_region 18 with fail
        refine wp_gen (fun W => Below w.heap.size w W ∧ W.ownsRow w.heap.size 3 1 (.slice (some ⟨gs, 0, none⟩) r.length cs) r.length (stkV stN r)) ⟨HB.out.drew, hcut.drew⟩ ?_
        clear HB hcx hcy hcut c0 c1 hval
        rintro W4 ⟨hB, hcut⟩
        have HB := Lib.hid hB
        clear hB
        have hown := hcut
        have hsz0 := HB.out.size
        obtain ⟨FL, hFL⟩ : ∃ fl, stkV stN r = fl := ⟨_, rfl⟩
        rw [hFL] at hown
        have HFL := Lib.hid hFL
        clear hFL
        go_upto_region 26 with (at_builtin; refine wpList_append_own _ rfl _ _ 55 rfl w.heap.size 3 i0 (.int .i64 0) 1 8 Try.underlying55 hi hz0 hz1 hz2 rfl (by decide) _ _ _ rfl (hown.alloc _) ⟨W4.heap.size, 0, none⟩ 1 1 [.int .i64 (V : Int)] rfl rfl ?c1 ?c2 ?c3 ?c4 ?c5 ?_)
        case c1 => exact one_src (by simp [go_sem])
        case c2 => first | rfl | (intro u hu; simp at hu; subst hu; rfl)
        case c3 => unfold maxLen; omega
        case c4 => omega
        case c5 => first | omega | (simp; omega)
        intro v' w3 hown' hgrow _
        have hb3 := own_row_below (hown.alloc (.cells #[.int .i64 (V : Int)] 3)) (HB.out.alloc HB.out.size _) hgrow (Nat.le_refl _) (by simp; omega)
        have q3 : w3.ownsRow w.heap.size 3 1 v' (r.length + 1) (stkV stN (V :: r)) := by rw [stkV_cons, HFL.out]; exact hown'
        have HVB := Lib.hid hV
        clear hV
        have hsum2 := pushS_sum (cols := cols) (nx := nx) (show (pushS cols nx _ _).1 = 0 by rw [hpv])
        rw [hpv] at hsum2
        obtain ⟨hs2, _, _⟩ := hsum2
        dsimp only at hs2
        rw [List.sum_cons] at hs2
        rw [HSE.out] at hs2
        obtain ⟨g', cap', rfl, hcp, hcm, hcell⟩ := stk_one stN_len q3
        have htop := hcell 0 (by decide)
        simp only [Nat.mul_one, Nat.add_zero] at htop
        replace htop : w3.cell? ⟨g', (r).length, none⟩ = some (.int .i64 ((V : Nat) : Int)) := htop
        have HB := Lib.hid hb3
        have HO := Lib.hid q3
        have HP := Lib.hid hpv
        clear hb3 q3 hown hown' hgrow hcell hsz0
        obtain ⟨M, hM⟩ : ∃ M, (r).length + 1 = M := ⟨_, rfl⟩
        have HMM := Lib.hid hM
        rw [hM] at hcp ⊢
        have hm1 : ((r).length : Int) < (M : Int) := by omega
        have hm0 : (0 : Int) ≤ ((r).length : Int) := by omega
        have hw5 : IntKind.i64.wrap ((M : Int) - 1) = ((r).length : Int) := by rw [IntWalk.i64_in _ (by omega)]; omega
        have hw6 : wrap64 ((M : Int) - 1) = ((r).length : Int) := by rw [IntWalk.wrap64_in _ (by omega)]; omega
        by_cases h16 : 16 < M
        · have h16I : (16 : Int) < (M : Int) := by omega
          have hD := (tell_high HP.out (by show 16 < (r).length + 1; rw [HMM.out]; exact h16)).symm.trans HRES.out
          obtain ⟨rfl, rfl⟩ := Prod.mk.inj hD
          clear hD HRES HO HP
          go_wp2_with fail
          exact bodyPost_ret (v := .tuple #[.int .i64 0, .int .i64 4]) (by simp [results, Try.results27, go_sem]) rfl ⟨rfl, HB.out⟩
        · have h16I : ¬ (16 : Int) < (M : Int) := by omega
          have HS := Lib.hid ((tell_go HP.out (by show ¬ 16 < (r).length + 1; rw [HMM.out]; exact h16)).symm.trans HRES.out)
          have HQ := Lib.hid (show max q (V) ≤ k + 1 by omega)
          have HSU := Lib.hid (show (V) + (r).sum ≤ k + 1 by omega)
          have HLN := Lib.hid (show (V :: r).length ≤ 16 by show (r).length + 1 ≤ 16; omega)
          obtain ⟨X, hX⟩ : ∃ X, (V : Nat) = X := ⟨_, rfl⟩
          rw [hX] at htop HQ HSU HO HLN HS
          clear hX
          clear HRES HP hs2 hM
          have hmx : max (q : Int) ((X : Nat) : Int) = ((max q X : Nat) : Int) := by omega
          go_wp2_with fail
          go_roundw
          case rel => exact ⟨k + 1, X :: (r), max q X, by omega, by go_num, by go_num, HB.out, by rw [← HMM.out]; exact HO.out, HLN.out, by rw [List.sum_cons]; exact HSU.out, HQ.out, by rw [HREST.out]; exact HS.out⟩
          case measure => simp [intOf]; omega
      · obtain ⟨V, hV⟩ : ∃ V, max x y = V := ⟨_, rfl⟩
        have hpv : pushS cols nx (5, nn) (y :: x :: r) = (0, V :: r) := by rw [hpp, ← hV]; rfl
        have hval : max (x : Int) (y : Int) = (V : Int) := by rw [← hV]; exact max_nat x y
        go_upto_region 15 with (go_at_call 42; (with_reducible refine (kr true hrt).mono ?_); rintro e w2 ⟨rfl, hb⟩; replace HB := Lib.hid (bthen HB.out hb); replace c0 := bkeep hb c0; replace c1 := bkeep hb c1; replace hcx := bkeep hb hcx; replace hcy := bkeep hb hcy; replace hcut := own_keep hcut hb; clear hb)
        go_region
        go_upto_region 18 with fail
        refine wp_gen (fun W => Below w.heap.size w W ∧ W.ownsRow w.heap.size 3 1 (.slice (some ⟨gs, 0, none⟩) r.length cs) r.length (stkV stN r)) ⟨HB.out.drew, hcut.drew⟩ ?_
        clear HB hcx hcy hcut c0 c1 hval
        rintro W4 ⟨hB, hcut⟩
        have HB := Lib.hid hB
        clear hB
        have hown := hcut
        have hsz0 := HB.out.size
        obtain ⟨FL, hFL⟩ : ∃ fl, stkV stN r = fl := ⟨_, rfl⟩
        rw [hFL] at hown
        have HFL := Lib.hid hFL
        clear hFL
        go_upto_region 26 with (at_builtin; refine wpList_append_own _ rfl _ _ 55 rfl w.heap.size 3 i0 (.int .i64 0) 1 8 Try.underlying55 hi hz0 hz1 hz2 rfl (by decide) _ _ _ rfl (hown.alloc _) ⟨W4.heap.size, 0, none⟩ 1 1 [.int .i64 (V : Int)] rfl rfl ?c1 ?c2 ?c3 ?c4 ?c5 ?_)
        case c1 => exact one_src (by simp [go_sem])
        case c2 => first | rfl | (intro u hu; simp at hu; subst hu; rfl)
        case c3 => unfold maxLen; omega
        case c4 => omega
        case c5 => first | omega | (simp; omega)
        intro v' w3 hown' hgrow _
        have hb3 := own_row_below (hown.alloc (.cells #[.int .i64 (V : Int)] 3)) (HB.out.alloc HB.out.size _) hgrow (Nat.le_refl _) (by simp; omega)
        have q3 : w3.ownsRow w.heap.size 3 1 v' (r.length + 1) (stkV stN (V :: r)) := by rw [stkV_cons, HFL.out]; exact hown'
        have HVB := Lib.hid hV
        clear hV
        have hsum2 := pushS_sum (cols := cols) (nx := nx) (show (pushS cols nx _ _).1 = 0 by rw [hpv])
        rw [hpv] at hsum2
        obtain ⟨hs2, _, _⟩ := hsum2
        dsimp only at hs2
        rw [List.sum_cons] at hs2
        rw [HSE.out] at hs2
        obtain ⟨g', cap', rfl, hcp, hcm, hcell⟩ := stk_one stN_len q3
        have htop := hcell 0 (by decide)
        simp only [Nat.mul_one, Nat.add_zero] at htop
        replace htop : w3.cell? ⟨g', (r).length, none⟩ = some (.int .i64 ((V : Nat) : Int)) := htop
        have HB := Lib.hid hb3
        have HO := Lib.hid q3
        have HP := Lib.hid hpv
        clear hb3 q3 hown hown' hgrow hcell hsz0
        obtain ⟨M, hM⟩ : ∃ M, (r).length + 1 = M := ⟨_, rfl⟩
        have HMM := Lib.hid hM
        rw [hM] at hcp ⊢
        have hm1 : ((r).length : Int) < (M : Int) := by omega
        have hm0 : (0 : Int) ≤ ((r).length : Int) := by omega
        have hw5 : IntKind.i64.wrap ((M : Int) - 1) = ((r).length : Int) := by rw [IntWalk.i64_in _ (by omega)]; omega
        have hw6 : wrap64 ((M : Int) - 1) = ((r).length : Int) := by rw [IntWalk.wrap64_in _ (by omega)]; omega
        by_cases h16 : 16 < M
        · have h16I : (16 : Int) < (M : Int) := by omega
          have hD := (tell_high HP.out (by show 16 < (r).length + 1; rw [HMM.out]; exact h16)).symm.trans HRES.out
          obtain ⟨rfl, rfl⟩ := Prod.mk.inj hD
          clear hD HRES HO HP
          go_wp2_with fail
          exact bodyPost_ret (v := .tuple #[.int .i64 0, .int .i64 4]) (by simp [results, Try.results27, go_sem]) rfl ⟨rfl, HB.out⟩
        · have h16I : ¬ (16 : Int) < (M : Int) := by omega
          have HS := Lib.hid ((tell_go HP.out (by show ¬ 16 < (r).length + 1; rw [HMM.out]; exact h16)).symm.trans HRES.out)
          have HQ := Lib.hid (show max q (V) ≤ k + 1 by omega)
          have HSU := Lib.hid (show (V) + (r).sum ≤ k + 1 by omega)
          have HLN := Lib.hid (show (V :: r).length ≤ 16 by show (r).length + 1 ≤ 16; omega)
          obtain ⟨X, hX⟩ : ∃ X, (V : Nat) = X := ⟨_, rfl⟩
          rw [hX] at htop HQ HSU HO HLN HS
          clear hX
          clear HRES HP hs2 hM
          have hmx : max (q : Int) ((X : Nat) : Int) = ((max q X : Nat) : Int) := by omega
          go_wp2_with fail
          go_roundw
          case rel => exact ⟨k + 1, X :: (r), max q X, by omega, by go_num, by go_num, HB.out, by rw [← HMM.out]; exact HO.out, HLN.out, by rw [List.sum_cons]; exact HSU.out, HQ.out, by rw [HREST.out]; exact HS.out⟩
          case measure => simp [intOf]; omega
      · obtain ⟨V, hV⟩ : ∃ V, x + y = V := ⟨_, rfl⟩
        have hpv : pushS cols nx (6, nn) (y :: x :: r) = (0, V :: r) := by rw [hpp, ← hV]; rfl
        have hval : wrap64 ((x : Int) + (y : Int)) = (V : Int) := by rw [← hV]; exact (w_add x y hxyb).1
        go_upto_region 15 with (go_at_call 42; (with_reducible refine (kr true hrt).mono ?_); rintro e w2 ⟨rfl, hb⟩; replace HB := Lib.hid (bthen HB.out hb); replace c0 := bkeep hb c0; replace c1 := bkeep hb c1; replace hcx := bkeep hb hcx; replace hcy := bkeep hb hcy; replace hcut := own_keep hcut hb; clear hb)
        go_region
        have hval2 : IntKind.i64.wrap ((x : Int) + (y : Int)) = (V : Int) := by rw [← hV]; exact (w_add x y hxyb).2
        go_upto_region 17 with fail
        go_region
        go_upto_region 18 with fail
        refine wp_gen (fun W => Below w.heap.size w W ∧ W.ownsRow w.heap.size 3 1 (.slice (some ⟨gs, 0, none⟩) r.length cs) r.length (stkV stN r)) ⟨HB.out.drew.drew, hcut.drew.drew⟩ ?_
        clear HB hcx hcy hcut c0 c1 hval hval2
        rintro W4 ⟨hB, hcut⟩
        have HB := Lib.hid hB
        clear hB
        have hown := hcut
        have hsz0 := HB.out.size
        obtain ⟨FL, hFL⟩ : ∃ fl, stkV stN r = fl := ⟨_, rfl⟩
        rw [hFL] at hown
        have HFL := Lib.hid hFL
        clear hFL
        go_upto_region 26 with (at_builtin; refine wpList_append_own _ rfl _ _ 55 rfl w.heap.size 3 i0 (.int .i64 0) 1 8 Try.underlying55 hi hz0 hz1 hz2 rfl (by decide) _ _ _ rfl (hown.alloc _) ⟨W4.heap.size, 0, none⟩ 1 1 [.int .i64 (V : Int)] rfl rfl ?c1 ?c2 ?c3 ?c4 ?c5 ?_)
        case c1 => exact one_src (by simp [go_sem])
        case c2 => first | rfl | (intro u hu; simp at hu; subst hu; rfl)
        case c3 => unfold maxLen; omega
        case c4 => omega
        case c5 => first | omega | (simp; omega)
        intro v' w3 hown' hgrow _
        have hb3 := own_row_below (hown.alloc (.cells #[.int .i64 (V : Int)] 3)) (HB.out.alloc HB.out.size _) hgrow (Nat.le_refl _) (by simp; omega)
        have q3 : w3.ownsRow w.heap.size 3 1 v' (r.length + 1) (stkV stN (V :: r)) := by rw [stkV_cons, HFL.out]; exact hown'
        have HVB := Lib.hid hV
        clear hV
        have hsum2 := pushS_sum (cols := cols) (nx := nx) (show (pushS cols nx _ _).1 = 0 by rw [hpv])
        rw [hpv] at hsum2
        obtain ⟨hs2, _, _⟩ := hsum2
        dsimp only at hs2
        rw [List.sum_cons] at hs2
        rw [HSE.out] at hs2
        obtain ⟨g', cap', rfl, hcp, hcm, hcell⟩ := stk_one stN_len q3
        have htop := hcell 0 (by decide)
        simp only [Nat.mul_one, Nat.add_zero] at htop
        replace htop : w3.cell? ⟨g', (r).length, none⟩ = some (.int .i64 ((V : Nat) : Int)) := htop
        have HB := Lib.hid hb3
        have HO := Lib.hid q3
        have HP := Lib.hid hpv
        clear hb3 q3 hown hown' hgrow hcell hsz0
        obtain ⟨M, hM⟩ : ∃ M, (r).length + 1 = M := ⟨_, rfl⟩
        have HMM := Lib.hid hM
        rw [hM] at hcp ⊢
        have hm1 : ((r).length : Int) < (M : Int) := by omega
        have hm0 : (0 : Int) ≤ ((r).length : Int) := by omega
        have hw5 : IntKind.i64.wrap ((M : Int) - 1) = ((r).length : Int) := by rw [IntWalk.i64_in _ (by omega)]; omega
        have hw6 : wrap64 ((M : Int) - 1) = ((r).length : Int) := by rw [IntWalk.wrap64_in _ (by omega)]; omega
        by_cases h16 : 16 < M
        · have h16I : (16 : Int) < (M : Int) := by omega
          have hD := (tell_high HP.out (by show 16 < (r).length + 1; rw [HMM.out]; exact h16)).symm.trans HRES.out
          obtain ⟨rfl, rfl⟩ := Prod.mk.inj hD
          clear hD HRES HO HP
          go_wp2_with fail
          exact bodyPost_ret (v := .tuple #[.int .i64 0, .int .i64 4]) (by simp [results, Try.results27, go_sem]) rfl ⟨rfl, HB.out⟩
        · have h16I : ¬ (16 : Int) < (M : Int) := by omega
          have HS := Lib.hid ((tell_go HP.out (by show ¬ 16 < (r).length + 1; rw [HMM.out]; exact h16)).symm.trans HRES.out)
          have HQ := Lib.hid (show max q (V) ≤ k + 1 by omega)
          have HSU := Lib.hid (show (V) + (r).sum ≤ k + 1 by omega)
          have HLN := Lib.hid (show (V :: r).length ≤ 16 by show (r).length + 1 ≤ 16; omega)
          obtain ⟨X, hX⟩ : ∃ X, (V : Nat) = X := ⟨_, rfl⟩
          rw [hX] at htop HQ HSU HO HLN HS
          clear hX
          clear HRES HP hs2 hM
          have hmx : max (q : Int) ((X : Nat) : Int) = ((max q X : Nat) : Int) := by omega
          go_wp2_with fail
          go_roundw
          case rel => exact ⟨k + 1, X :: (r), max q X, by omega, by go_num, by go_num, HB.out, by rw [← HMM.out]; exact HO.out, HLN.out, by rw [List.sum_cons]; exact HSU.out, HQ.out, by rw [HREST.out]; exact HS.out⟩
          case measure => simp [intOf]; omega
    · obtain rfl : k = zs.length := by omega
      rw [List.drop_length, tellS_nil] at hres
      unfold endS at hres
      have HB := Lib.hid hB
      clear hB
      by_cases h1 : st.length ≠ 1
      · rw [if_pos h1] at hres
        obtain ⟨rfl, rfl⟩ := Prod.mk.inj hres
        obtain ⟨aS, cS, rfl⟩ := own_form hown
        have h1I : ¬ (st.length : Int) = 1 := by omega
        have h1J : ((st.length : Int) != 1) = true := by simp; omega
        clear hres hown
        go_wp2_with fail
        exact bodyPost_ret (v := .tuple #[.int .i64 0, .int .i64 4]) (by simp [results, Try.results27, go_sem]) rfl ⟨rfl, HB.out⟩
      · rw [if_neg h1] at hres
        obtain ⟨x, rfl⟩ : ∃ x, st = [x] := List.length_eq_one_iff.1 (by omega)
        obtain ⟨g', cap', rfl, hcp, hcm, hcell⟩ := stk_one (r := []) stN_len hown
        have htop := hcell 0 (by decide)
        simp only [List.length_nil, Nat.zero_mul, Nat.add_zero] at htop
        replace htop : wr.cell? ⟨g', 0, none⟩ = some (.int .i64 (x : Int)) := htop
        clear hcell hown h1 hsum
        by_cases h4 : 4 < q
        · rw [if_pos h4] at hres
          obtain ⟨rfl, rfl⟩ := Prod.mk.inj hres
          have h4I : (4 : Int) < (q : Int) := by omega
          clear hres
          go_wp2_with fail
          exact bodyPost_ret (v := .tuple #[.int .i64 0, .int .i64 5]) (by simp [results, Try.results27, go_sem]) rfl ⟨rfl, HB.out⟩
        · rw [if_neg h4] at hres
          obtain ⟨hx, rfl⟩ := Prod.mk.inj hres
          have hx : x = d := hx
          subst hx
          have h4I : ¬ (4 : Int) < (q : Int) := by omega
          clear hres
          go_wp2_with fail
          exact bodyPost_ret (v := .tuple #[.int .i64 (x : Int), .int .i64 0]) (by simp [results, Try.results27, go_sem]) rfl ⟨rfl, HB.out⟩
end Go.Proofs.Ytckipfcjgmiacaa
