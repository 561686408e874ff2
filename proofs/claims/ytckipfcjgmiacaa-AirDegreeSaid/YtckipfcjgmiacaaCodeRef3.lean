/-
  What the document's Parse of layer 15 comes to. (Written by gen_cparse.py.)
-/
import Derived.Test.YtckipfcjgmiacaaCodeRef2
namespace Go.Proofs.Ytckipfcjgmiacaa
open Go Go.RowKit
set_option linter.unusedVariables false

theorem infoOp : (Try.prog.info? 51).map (fun i => (i.zero, i.size, i.bytes)) = some (some (.agg #[.int .i64 0, .int .u64 0]), 2, 16) := by kernel_rfl
def flatO (xs : List Opn) : List Value := xs.flatMap fun z => [.int .i64 z.1, .int .u64 z.2]
theorem flatO_at : ∀ (xs : List Opn) (i : Nat), i < xs.length → (flatO xs)[i * 2]? = some (.int .i64 (xs.getD i (0, 0)).1) ∧ (flatO xs)[i * 2 + 1]? = some (.int .u64 (xs.getD i (0, 0)).2)
  | x :: xs, 0, _ => ⟨rfl, rfl⟩
  | x :: xs, i + 1, h => by
    have ih := flatO_at xs i (by simpa using h)
    have e : flatO (x :: xs) = .int .i64 x.1 :: .int .u64 x.2 :: flatO xs := by simp [flatO]
    rw [e, show (i + 1) * 2 = i * 2 + 1 + 1 by omega]
    simpa [List.getD] using ih
theorem own_oprow {W : World} {B : Nat} {v : Value} {l : List Opn} (h : W.ownsRow B 51 2 v l.length (flatO l)) : ∃ a c, v = .slice a l.length c ∧ OpA W a l.length l ∧ (a = none → c = 0) := by
  rcases h.2 with ⟨hv, h0⟩ | ⟨g, cap, cur, hv, hb, hg, hn, hcap, hsz, ht⟩
  · exact ⟨none, 0, by rw [hv, h0], ⟨rfl, by unfold maxLen; omega, fun k hk => by omega⟩, fun _ => rfl⟩
  · refine ⟨some ⟨g, 0, none⟩, cap, hv, ⟨rfl, by omega, fun i hi => ⟨g, 0, rfl, ?_⟩⟩, fun h => by cases h⟩
    subst hv
    have h0 := h.cellAt (i * 2) (by omega)
    have h1 := h.cellAt (i * 2 + 1) (by omega)
    obtain ⟨f0, f1⟩ := flatO_at l i hi
    rw [Nat.zero_add, h0, h1]
    exact ⟨f0, f1⟩
theorem numB_from (s : ByteArray) (o : Nat) (h : o + 8 ≤ s.size) : numB (s.extract o s.size) 0 = numB s o := by
  unfold numB
  exact numP_ext fun j hj => by rw [Nat.zero_add, byt_extract _ _ _ _ (Nat.le_refl _) (by omega)]
/-- What is parsed, in a row of its own. -/
def ParseOwn (W : World) (m : List Opn) (r : Int) (e : Ending) (w' : World) : Prop := Below W.heap.size W w' ∧ ∃ v, e = .returned (.tuple #[v, .int .i64 r]) ∧ w'.ownsRow W.heap.size 51 2 v m.length (flatO m)
def ParseRel (w : World) (s : ByteArray) (m : List Opn) (r : Int) (v i : Value) (W : World) : Prop :=
  ∃ (a : Nat) (out : List Opn) (ad : Option Addr) (cap : Nat), (a ≤ s.size ∧ a ≤ 9 * out.length) ∧ v = .slice ad out.length cap ∧ i = .int .i64 a ∧ Below w.heap.size w W ∧ W.ownsRow w.heap.size 51 2 v out.length (flatO out) ∧ out.length ≤ 256 ∧ parseR s a out = (m, r)
set_option maxRecDepth 100000 in
set_option maxHeartbeats 8000000 in
theorem rcparse_own (s : ByteArray) (m : List Opn) (r : Int) (w : World) (hs : s.size ≤ 9223372036854775807) (hr : parseB s = (m, r)) : Calls Try.prog 26 #[.string s] w (ParseOwn w m r) := by
  obtain ⟨i0, hi, hz0, hz1, hz2⟩ := info_parts infoOp
  have HR : Hid (∀ a : List Opn × Int, a = (m, r) → a.1 = m ∧ a.2 = r) := Lib.hid fun a h => by subst h; exact ⟨rfl, rfl⟩
  have HR0 := Lib.hid hr
  clear hr
  go_enter Try.func26, Try.ntmps26
  go_upto_region 3 with fail
  go_loopw [4, 5] (ParseRel w s m r) (fun _ i _ => s.size - (intOf i).toNat)
  case atStart => exact ⟨0, [], none, 0, ⟨Nat.zero_le _, Nat.zero_le _⟩, rfl, rfl, Below.refl _ _, World.ownsRow_nil _ _ _ _, by simp, HR0.out⟩
  case round =>
    clear HR0
    obtain ⟨a, out, ad, cap, ⟨ha, ha9⟩, rfl, rfl, hB, hown, hlen, hres⟩ := hrel
    by_cases hlt : a < s.size
    · have hltI : (a : Int) < (s.size : Int) := by omega
      have ha0 : (0 : Int) ≤ (a : Int) := by omega
      have hbd := byt_bd s a
      have e1 : IntKind.i64.wrap (((s[a]'hlt).toNat : Nat) : Int) = byt s a := by rw [byt_get]; exact IntWalk.i64_in _ (by omega)
      have HB := Lib.hid hB; have HO := Lib.hid hown; have HRES := Lib.hid hres; have HA := Lib.hid hlt
      clear hB hown hres
      go_upto_region 5 with fail
      have hb2 := (Below.refl wr.heap.size wr).alloc (Nat.le_refl _) (.cells #[.int .i64 (byt s a), .int .u64 0] 51)
      have hol : ∀ k, (Value.slice ad out.length cap).ownBlock = some k → k ≠ wr.heap.size := fun k hk => by have := (HO.out.lt k hk).2; omega
      refine wp_gen (fun W => (Below w.heap.size w W ∧ w.heap.size ≤ wr.heap.size) ∧ W.ownsRow w.heap.size 51 2 (.slice ad out.length cap) out.length (flatO out) ∧ Duo W wr.heap.size (.int .i64 (byt s a)) (.int .u64 0)) ⟨⟨HB.out.alloc HB.out.size _, HB.out.size⟩, HO.out.alloc _, by simp [Duo, go_sem]⟩ ?_
      obtain ⟨g6, hg6⟩ : ∃ g, wr.heap.size = g := ⟨_, rfl⟩
      rintro W1 ⟨⟨hB, hgl⟩, hown, hD⟩
      rw [hg6] at hgl hD hol
      simp only [hg6]
      clear HB HO hb2 e1 hg6
      have HB := Lib.hid hB; have HO := Lib.hid hown; have H6 := Lib.hid hD
      obtain ⟨x0, x1, x2, x3⟩ := hD
      clear hB hown
      have hw1 : IntKind.i64.wrap ((a : Int) + 1) = (a : Int) + 1 := IntWalk.i64_in _ (by omega)
      have hcat : parseAt s a = parseAt s a := rfl
      generalize hk : byt s a = k at *
      by_cases hbad : k < 1 ∨ 6 < k
      · have HP : Hid (parseAt s a = (3, (0, 0), a)) := Lib.hid (by unfold parseAt; rw [hk, if_pos hbad])
        obtain ⟨e1, e2⟩ := HR.out _ ((parseR_err HA.out (by rw [HP.out]; show (3 : Int) ≠ 0; decide)).symm.trans HRES.out)
        rw [HP.out] at e2
        have e1 : ([] : List Opn) = m := e1
        have e2 : (3 : Int) = r := e2
        subst e1 e2
        clear HR HRES HP HO
        rcases hbad with hbad | hbad
        · go_wp2_with fail
          exact bodyPost_ret (v := .tuple #[.slice none 0 0, .int .i64 3]) (by simp [results, Try.results26, go_sem]) rfl ⟨HB.out, _, rfl, World.ownsRow_nil _ _ _ _⟩
        · have hn1 : ¬ k < 1 := by omega
          go_wp2_with fail
          exact bodyPost_ret (v := .tuple #[.slice none 0 0, .int .i64 3]) (by simp [results, Try.results26, go_sem]) rfl ⟨HB.out, _, rfl, World.ownsRow_nil _ _ _ _⟩
      · have hn1 : ¬ k < 1 := by omega
        have hn6 : ¬ 6 < k := by omega
        by_cases h3 : k = 3
        · subst h3
          by_cases h9 : a + 9 ≤ s.size
          · have hex : (s.extract (a + 1) s.size).size = s.size - (a + 1) := by rw [ByteArray.size_extract]; omega
            have kn := fun W => rnum_yes (s.extract (a + 1) s.size) (by omega) W
            rw [numB_from s (a + 1) (by omega)] at kn
            have hu := numB_U s (a + 1)
            by_cases hP : numB s (a + 1) < 18446744069414584321
            · have HP : Hid (parseAt s a = (0, (3, numB s (a + 1)), a + 9)) := Lib.hid (by unfold parseAt; rw [hk, if_neg hbad, if_pos rfl, if_pos ⟨h9, hP⟩])
              have hPn : ¬ (18446744069414584321 : Int) ≤ numB s (a + 1) := by omega
              generalize numB s (a + 1) = N at *
              have hw9 : IntKind.i64.wrap ((a : Int) + 1 + 8) = (a : Int) + 1 + 8 := IntWalk.i64_in _ (by omega)
              have hat1 : (a : Int) + 1 ≤ (s.size : Int) := by omega
              have hat2 : ((a : Int) + 1).toNat = a + 1 := by omega
              go_upto_region 19 with (go_at_call 40; (with_reducible refine (kn _).mono ?_); rintro e w2 ⟨rfl, rfl⟩)
              refine wp_gen (fun W => Below w.heap.size w W ∧ W.ownsRow w.heap.size 51 2 (.slice ad out.length cap) out.length (flatO out) ∧ Duo W g6 (.int .i64 3) (.int .u64 N)) ⟨HB.out.setCell hgl _, HO.out.kept (grown_set _ g6 1 _) (by
                cases hv : (Value.slice ad out.length cap).ownBlock with
                | none => exact Or.inl rfl
                | some q => exact Or.inr (fun e => hol q hv (Option.some.inj e))), by obtain ⟨q0, q1, q2, q3⟩ := H6.out; simp [Duo, go_sem, q0, q1, q2, q3]⟩ ?_
              clear HB HO H6 x0 x1 x2 x3 kn
              rintro W2 ⟨hB, hown, hD⟩
              have HB := Lib.hid hB; have HO := Lib.hid hown; have H6 := Lib.hid hD
              clear hB hown hD
              have hown := HO.out
              have HNE := Lib.hid (fun k hk => (hol k hk))
              have HFL := Lib.hid (show flatO (out ++ [(3, N)]) = flatO out ++ [.int .i64 3, .int .u64 N] by simp [flatO])
              have hsz0 := HB.out.size
              obtain ⟨y0, y1, _, _⟩ := H6.out
              clear hol
              generalize hfx : flatO out = fl at *
              clear hfx
              go_upto_region 20 with (at_builtin; refine wpList_append_own _ rfl _ _ 34 rfl w.heap.size 51 i0 (.agg #[.int .i64 0, .int .u64 0]) 2 16 Try.underlying34 hi hz0 hz1 hz2 rfl (by decide) _ _ _ rfl (hown.alloc _) ⟨W2.heap.size, 0, none⟩ 1 1 [.int .i64 3, .int .u64 N] rfl rfl ?c1 ?c2 ?c3 ?c4 ?c5 ?_)
              case c1 => exact two_src (by simp [go_sem]) (by simp [go_sem])
              case c2 => first | rfl | (intro u hu; simp at hu; rcases hu with rfl | rfl <;> rfl)
              case c3 => unfold maxLen; omega
              case c4 => omega
              case c5 => first | omega | (simp; omega)
              · intro v' w4 hown' hgrow _
                have hb4 := own_row_below (hown.alloc (.cells #[.int .i64 3, .int .u64 N] 51)) (HB.out.alloc HB.out.size _) hgrow (Nat.le_refl _) (by simp; omega)
                obtain ⟨a', cap', rfl⟩ := own_form hown'
                have HB4 := Lib.hid hb4
                have HO4 := Lib.hid hown'
                clear hb4 hgrow hown hown' HB HO H6 y0 y1 HNE hsz0
                by_cases hm : 256 < out.length + 1
                · have hmI : (256 : Int) < ((out.length + 1 : Nat) : Int) := by omega
                  obtain ⟨e1, e2⟩ := HR.out _ ((parseR_many HA.out (by rw [HP.out]) hm).symm.trans HRES.out)
                  have e1 : ([] : List Opn) = m := e1
                  have e2 : (6 : Int) = r := e2
                  subst e1 e2
                  clear HR HRES HP HO4 HFL
                  go_wp2_with fail
                  exact bodyPost_ret (v := .tuple #[.slice none 0 0, .int .i64 6]) (by simp [results, Try.results26, go_sem]) rfl ⟨HB4.out, _, rfl, World.ownsRow_nil _ _ _ _⟩
                · have hmI : ¬ (256 : Int) < ((out.length + 1 : Nat) : Int) := by omega
                  have HS := Lib.hid ((parseR_step HA.out (by rw [HP.out]) hm).symm.trans HRES.out)
                  rw [HP.out] at HS
                  clear HR HRES
                  go_wp2_with fail
                  go_roundw
                  case rel =>
                    refine ⟨(a + 9), out ++ [(3, N)], a', cap', ⟨by omega, by rw [List.length_append]; show _ ≤ 9 * (out.length + 1); omega⟩, by simp, by go_num, HB4.out, ?_, by rw [List.length_append]; show out.length + 1 ≤ 256; omega, HS.out⟩
                    rw [HFL.out]
                    have := HO4.out
                    simpa using this
                  case measure => simp [intOf]; omega
            · have HP : Hid (parseAt s a = (2, (0, 0), a)) := Lib.hid (by unfold parseAt; rw [hk, if_neg hbad, if_pos rfl, if_neg (fun q => hP q.2)])
              have hPn : (18446744069414584321 : Int) ≤ numB s (a + 1) := by omega
              generalize numB s (a + 1) = N at *
              have hat1 : (a : Int) + 1 ≤ (s.size : Int) := by omega
              have hat2 : ((a : Int) + 1).toNat = a + 1 := by omega
              obtain ⟨e1, e2⟩ := HR.out _ ((parseR_err HA.out (by rw [HP.out]; show (2 : Int) ≠ 0; decide)).symm.trans HRES.out)
              rw [HP.out] at e2
              have e1 : ([] : List Opn) = m := e1
              have e2 : (2 : Int) = r := e2
              subst e1 e2
              clear HR HRES HP HO
              go_wp2_with (go_at_call 40; (with_reducible refine (kn _).mono ?_); rintro e w2 ⟨rfl, rfl⟩)
              exact bodyPost_ret (v := .tuple #[.slice none 0 0, .int .i64 2]) (by simp [results, Try.results26, go_sem]) rfl ⟨HB.out, _, rfl, World.ownsRow_nil _ _ _ _⟩
          · have hex : (s.extract (a + 1) s.size).size = s.size - (a + 1) := by rw [ByteArray.size_extract]; omega
            have kn := fun W => rnum_no (s.extract (a + 1) s.size) (by omega) W
            have HP : Hid (parseAt s a = (2, (0, 0), a)) := Lib.hid (by unfold parseAt; rw [hk, if_neg hbad, if_pos rfl, if_neg (fun q => h9 q.1)])
            have hat1 : (a : Int) + 1 ≤ (s.size : Int) := by omega
            have hat2 : ((a : Int) + 1).toNat = a + 1 := by omega
            obtain ⟨e1, e2⟩ := HR.out _ ((parseR_err HA.out (by rw [HP.out]; show (2 : Int) ≠ 0; decide)).symm.trans HRES.out)
            rw [HP.out] at e2
            have e1 : ([] : List Opn) = m := e1
            have e2 : (2 : Int) = r := e2
            subst e1 e2
            clear HR HRES HP HO
            go_wp2_with (go_at_call 40; (with_reducible refine (kn _).mono ?_); rintro e w2 ⟨rfl, rfl⟩)
            exact bodyPost_ret (v := .tuple #[.slice none 0 0, .int .i64 2]) (by simp [results, Try.results26, go_sem]) rfl ⟨HB.out, _, rfl, World.ownsRow_nil _ _ _ _⟩
        · have kt := fun W r hr => rtakes_is k r W hr
          by_cases h12 : k = 1 ∨ k = 2
          · have kt := fun W => kt W true (decide_eq_true (by omega))
            by_cases h2 : a + 1 < s.size
            · have h2I : ¬ (s.size : Int) ≤ (a : Int) + 1 := by omega
              have h2J : (a : Int) + 1 < (s.size : Int) := by omega
              have hat2 : ((a : Int) + 1).toNat = a + 1 := by omega
              have hap : (0 : Int) ≤ (a : Int) + 1 := by omega
              have hw2 : IntKind.i64.wrap ((a : Int) + 1 + 1) = (a : Int) + 1 + 1 := IntWalk.i64_in _ (by omega)
              have HP : Hid (parseAt s a = (0, (k, byt s (a + 1)), a + 2)) := Lib.hid (by unfold parseAt; rw [hk, if_neg hbad, if_neg h3, if_pos h12, if_pos h2])
              have hy := byt_bd s (a + 1)
              have e2 : IntKind.u64.wrap (((s[a + 1]'h2).toNat : Nat) : Int) = byt s (a + 1) := by rw [byt_get, IntKind.wrap_u64]; exact Int.emod_eq_of_lt hy.1 (by omega)
              generalize byt s (a + 1) = N at *
              go_upto_region 19 with (go_at_call 41; (with_reducible refine (kt _).mono ?_); rintro e w2 ⟨rfl, rfl⟩)
              refine wp_gen (fun W => Below w.heap.size w W ∧ W.ownsRow w.heap.size 51 2 (.slice ad out.length cap) out.length (flatO out) ∧ Duo W g6 (.int .i64 k) (.int .u64 N)) ⟨HB.out.setCell hgl _, HO.out.kept (grown_set _ g6 1 _) (by
                cases hv : (Value.slice ad out.length cap).ownBlock with
                | none => exact Or.inl rfl
                | some q => exact Or.inr (fun e => hol q hv (Option.some.inj e))), by obtain ⟨q0, q1, q2, q3⟩ := H6.out; simp [Duo, go_sem, q0, q1, q2, q3]⟩ ?_
              clear HB HO H6 x0 x1 x2 x3 kt e2
              rintro W2 ⟨hB, hown, hD⟩
              have HB := Lib.hid hB; have HO := Lib.hid hown; have H6 := Lib.hid hD
              clear hB hown hD
              have hown := HO.out
              have HNE := Lib.hid (fun k hk => (hol k hk))
              have HFL := Lib.hid (show flatO (out ++ [(k, N)]) = flatO out ++ [.int .i64 k, .int .u64 N] by simp [flatO])
              have hsz0 := HB.out.size
              obtain ⟨y0, y1, _, _⟩ := H6.out
              clear hol
              generalize hfx : flatO out = fl at *
              clear hfx
              go_upto_region 20 with (at_builtin; refine wpList_append_own _ rfl _ _ 34 rfl w.heap.size 51 i0 (.agg #[.int .i64 0, .int .u64 0]) 2 16 Try.underlying34 hi hz0 hz1 hz2 rfl (by decide) _ _ _ rfl (hown.alloc _) ⟨W2.heap.size, 0, none⟩ 1 1 [.int .i64 k, .int .u64 N] rfl rfl ?c1 ?c2 ?c3 ?c4 ?c5 ?_)
              case c1 => exact two_src (by simp [go_sem]) (by simp [go_sem])
              case c2 => first | rfl | (intro u hu; simp at hu; rcases hu with rfl | rfl <;> rfl)
              case c3 => unfold maxLen; omega
              case c4 => omega
              case c5 => first | omega | (simp; omega)
              · intro v' w4 hown' hgrow _
                have hb4 := own_row_below (hown.alloc (.cells #[.int .i64 k, .int .u64 N] 51)) (HB.out.alloc HB.out.size _) hgrow (Nat.le_refl _) (by simp; omega)
                obtain ⟨a', cap', rfl⟩ := own_form hown'
                have HB4 := Lib.hid hb4
                have HO4 := Lib.hid hown'
                clear hb4 hgrow hown hown' HB HO H6 y0 y1 HNE hsz0
                by_cases hm : 256 < out.length + 1
                · have hmI : (256 : Int) < ((out.length + 1 : Nat) : Int) := by omega
                  obtain ⟨e1, e2⟩ := HR.out _ ((parseR_many HA.out (by rw [HP.out]) hm).symm.trans HRES.out)
                  have e1 : ([] : List Opn) = m := e1
                  have e2 : (6 : Int) = r := e2
                  subst e1 e2
                  clear HR HRES HP HO4 HFL
                  go_wp2_with fail
                  exact bodyPost_ret (v := .tuple #[.slice none 0 0, .int .i64 6]) (by simp [results, Try.results26, go_sem]) rfl ⟨HB4.out, _, rfl, World.ownsRow_nil _ _ _ _⟩
                · have hmI : ¬ (256 : Int) < ((out.length + 1 : Nat) : Int) := by omega
                  have HS := Lib.hid ((parseR_step HA.out (by rw [HP.out]) hm).symm.trans HRES.out)
                  rw [HP.out] at HS
                  clear HR HRES
                  go_wp2_with fail
                  go_roundw
                  case rel =>
                    refine ⟨(a + 2), out ++ [(k, N)], a', cap', ⟨by omega, by rw [List.length_append]; show _ ≤ 9 * (out.length + 1); omega⟩, by simp, by go_num, HB4.out, ?_, by rw [List.length_append]; show out.length + 1 ≤ 256; omega, HS.out⟩
                    rw [HFL.out]
                    have := HO4.out
                    simpa using this
                  case measure => simp [intOf]; omega
            · have h2I : (s.size : Int) ≤ (a : Int) + 1 := by omega
              have HP : Hid (parseAt s a = (2, (0, 0), a)) := Lib.hid (by unfold parseAt; rw [hk, if_neg hbad, if_neg h3, if_pos h12, if_neg h2])
              obtain ⟨e1, e2⟩ := HR.out _ ((parseR_err HA.out (by rw [HP.out]; show (2 : Int) ≠ 0; decide)).symm.trans HRES.out)
              rw [HP.out] at e2
              have e1 : ([] : List Opn) = m := e1
              have e2 : (2 : Int) = r := e2
              subst e1 e2
              clear HR HRES HP HO
              go_wp2_with (go_at_call 41; (with_reducible refine (kt _).mono ?_); rintro e w2 ⟨rfl, rfl⟩)
              exact bodyPost_ret (v := .tuple #[.slice none 0 0, .int .i64 2]) (by simp [results, Try.results26, go_sem]) rfl ⟨HB.out, _, rfl, World.ownsRow_nil _ _ _ _⟩
          · have kt := fun W => kt W false (decide_eq_false (by omega))
            have HP : Hid (parseAt s a = (0, (k, 0), a + 1)) := Lib.hid (by unfold parseAt; rw [hk, if_neg hbad, if_neg h3, if_neg h12])
            go_upto_region 19 with (go_at_call 41; (with_reducible refine (kt _).mono ?_); rintro e w2 ⟨rfl, rfl⟩)
            clear x0 x1 x2 x3 kt
            have hown := HO.out
            have HNE := Lib.hid (fun k hk => (hol k hk))
            have HFL := Lib.hid (show flatO (out ++ [(k, 0)]) = flatO out ++ [.int .i64 k, .int .u64 0] by simp [flatO])
            have hsz0 := HB.out.size
            obtain ⟨y0, y1, _, _⟩ := H6.out
            clear hol
            generalize hfx : flatO out = fl at *
            clear hfx
            go_upto_region 20 with (at_builtin; refine wpList_append_own _ rfl _ _ 34 rfl w.heap.size 51 i0 (.agg #[.int .i64 0, .int .u64 0]) 2 16 Try.underlying34 hi hz0 hz1 hz2 rfl (by decide) _ _ _ rfl (hown.alloc _) ⟨w2.heap.size, 0, none⟩ 1 1 [.int .i64 k, .int .u64 0] rfl rfl ?c1 ?c2 ?c3 ?c4 ?c5 ?_)
            case c1 => exact two_src (by simp [go_sem]) (by simp [go_sem])
            case c2 => first | rfl | (intro u hu; simp at hu; rcases hu with rfl | rfl <;> rfl)
            case c3 => unfold maxLen; omega
            case c4 => omega
            case c5 => first | omega | (simp; omega)
            · intro v' w4 hown' hgrow _
              have hb4 := own_row_below (hown.alloc (.cells #[.int .i64 k, .int .u64 0] 51)) (HB.out.alloc HB.out.size _) hgrow (Nat.le_refl _) (by simp; omega)
              obtain ⟨a', cap', rfl⟩ := own_form hown'
              have HB4 := Lib.hid hb4
              have HO4 := Lib.hid hown'
              clear hb4 hgrow hown hown' HB HO H6 y0 y1 HNE hsz0
              by_cases hm : 256 < out.length + 1
              · have hmI : (256 : Int) < ((out.length + 1 : Nat) : Int) := by omega
                obtain ⟨e1, e2⟩ := HR.out _ ((parseR_many HA.out (by rw [HP.out]) hm).symm.trans HRES.out)
                have e1 : ([] : List Opn) = m := e1
                have e2 : (6 : Int) = r := e2
                subst e1 e2
                clear HR HRES HP HO4 HFL
                go_wp2_with fail
                exact bodyPost_ret (v := .tuple #[.slice none 0 0, .int .i64 6]) (by simp [results, Try.results26, go_sem]) rfl ⟨HB4.out, _, rfl, World.ownsRow_nil _ _ _ _⟩
              · have hmI : ¬ (256 : Int) < ((out.length + 1 : Nat) : Int) := by omega
                have HS := Lib.hid ((parseR_step HA.out (by rw [HP.out]) hm).symm.trans HRES.out)
                rw [HP.out] at HS
                clear HR HRES
                go_wp2_with fail
                go_roundw
                case rel =>
                  refine ⟨(a + 1), out ++ [(k, 0)], a', cap', ⟨by omega, by rw [List.length_append]; show _ ≤ 9 * (out.length + 1); omega⟩, by simp, by go_num, HB4.out, ?_, by rw [List.length_append]; show out.length + 1 ≤ 256; omega, HS.out⟩
                  rw [HFL.out]
                  have := HO4.out
                  simpa using this
                case measure => simp [intOf]; omega
    · obtain rfl : a = s.size := by omega
      obtain ⟨e1, e2⟩ := HR.out _ ((parseR_end (Nat.le_refl _)).symm.trans hres)
      have e1 : out = m := e1
      have e2 : (0 : Int) = r := e2
      subst e1 e2
      have HB := Lib.hid hB
      have HQ := Lib.hid hown
      clear hB hown hres HR
      go_wp2_with fail
      exact bodyPost_ret (v := .tuple #[.slice ad out.length cap, .int .i64 0]) (by simp [results, Try.results26, go_sem]) rfl ⟨HB.out, _, rfl, HQ.out⟩
theorem rcparse_is (s : ByteArray) (m : List Opn) (r : Int) (w : World) (hs : s.size ≤ 9223372036854775807) (hr : parseB s = (m, r)) : Calls Try.prog 26 #[.string s] w (ParsePost w m r) :=
  (rcparse_own s m r w hs hr).mono fun e w' ⟨hb, v, he, ho⟩ => by
    obtain ⟨a, c, hv, h1, h2⟩ := own_oprow ho
    subst hv
    exact ⟨hb, a, c, he, h1, h2⟩
end Go.Proofs.Ytckipfcjgmiacaa
