/-
  What the document's Degree and Parts of layer 18 come to. (Written by gen_airdeg.py.)
-/
import Derived.Test.YtckipfcjgmiacaaAirRef
import Derived.Test.YtckipfcjgmiacaaStkOp
namespace Go.Proofs.Ytckipfcjgmiacaa
open Go Go.RowKit
set_option linter.unusedVariables false

theorem infoIntA : (Try.prog.info? 3).map (fun i => (i.zero, i.size, i.bytes)) = some (some (.int .i64 0), 1, 8) := by kernel_rfl
theorem degMax_take (ls : List (List Opn)) (k : Nat) (h : k < ls.length) : degMax (ls.take (k + 1)) = max (degMax (ls.take k)) (degO (ls.getD k [])) := by
  rw [List.take_succ_eq_append_getElem h, degMax_snoc]
  congr 2
  simp [List.getD, h]
theorem fine_two {o : Opn} {l : List Opn} {h : Nat} (h1 : ¬ o.1 = 1) (h2 : ¬ o.1 = 2) (h3 : ¬ o.1 = 3) (hf : Fine (o :: l) h) : 2 ≤ h ∧ Fine l (h - 1) := by rw [Fine, if_neg (by omega)] at hf; exact hf
theorem fine_one {o : Opn} {l : List Opn} {h : Nat} (h1 : o.1 = 1 ∨ o.1 = 2 ∨ o.1 = 3) (hf : Fine (o :: l) h) : Fine l (h + 1) := by rw [Fine, if_pos h1] at hf; exact hf
theorem sum_two {x y s j : Nat} (h : y + (x + s) ≤ j) : x + y + s ≤ j + 1 := by omega
theorem sum_max {x y s j : Nat} (h : y + (x + s) ≤ j) : max x y + s ≤ j + 1 := by omega
theorem len_two {n j : Nat} (h : n + 1 + 1 ≤ j) : n + 1 ≤ j + 1 := by omega
def DegRel (w0 : World) (ls : List (List Opn)) (n i : Value) (W : World) : Prop := ∃ k : Nat, k ≤ ls.length ∧ n = .int .i64 ((degMax (ls.take k) : Nat) : Int) ∧ i = .int .i64 k ∧ Below w0.heap.size w0 W ∧ degMax (ls.take k) ≤ 4
def DegIn (w1 : World) (l : List Opn) (d : Nat) (v i : Value) (W : World) : Prop :=
  ∃ (j : Nat) (st : List Nat), j ≤ l.length ∧ i = .int .i64 j ∧ Below w1.heap.size w1 W ∧ W.ownsRow w1.heap.size 3 1 v st.length (stkV stN st) ∧ st.length ≤ j ∧ st.sum ≤ j ∧ degS (l.drop j) st = [d] ∧ Fine (l.drop j) st.length
def DegVal71 (gs m M1 M2 cs' : Nat) (vx vy vz : Value) (k : Nat) : Value :=
  match k with
  | 71 => .slice (some ⟨gs, 0, none⟩) M2 cs'
  | 72 => .int .i64 (M2 : Int)
  | 73 => .int .i64 (m : Int)
  | 74 => .slice (some ⟨gs, 0, none⟩) m cs'
  | 75 => .slice (some ⟨gs, 0, none⟩) M2 cs'
  | 76 => .int .i64 (M2 : Int)
  | 77 => .int .i64 (m : Int)
  | 78 => .pointer (some ⟨gs, m, none⟩)
  | 79 => vx
  | 80 => .slice (some ⟨gs, 0, none⟩) M2 cs'
  | 81 => .int .i64 (M2 : Int)
  | 82 => .int .i64 (M1 : Int)
  | 83 => .pointer (some ⟨gs, M1, none⟩)
  | 84 => vy
  | _ => vz
def DegVal41 (gs m M1 M2 cs' : Nat) (vx vy vz : Value) (k : Nat) : Value :=
  match k with
  | 41 => .slice (some ⟨gs, 0, none⟩) M2 cs'
  | 42 => .int .i64 (M2 : Int)
  | 43 => .int .i64 (m : Int)
  | 44 => .slice (some ⟨gs, 0, none⟩) m cs'
  | 45 => .slice (some ⟨gs, 0, none⟩) M2 cs'
  | 46 => .int .i64 (M2 : Int)
  | 47 => .int .i64 (m : Int)
  | 48 => .pointer (some ⟨gs, m, none⟩)
  | 49 => vx
  | 50 => .slice (some ⟨gs, 0, none⟩) M2 cs'
  | 51 => .int .i64 (M2 : Int)
  | 52 => .int .i64 (M1 : Int)
  | 53 => .pointer (some ⟨gs, M1, none⟩)
  | 54 => vy
  | _ => vz
theorem AirP.deg_ok {A : AirP} (h : A.all.2 = 0) {i : Nat} (hi : i < A.count) : ∃ d, d ≤ 4 ∧ degS (A.all.1.getD i []) [] = [d] ∧ Fine (A.all.1.getD i []) 0 ∧ (A.all.1.getD i []).length ≤ 258 := by
  obtain ⟨l, d, h1, h2, h3, h4, h5, h6⟩ := AirP.rule_ok h hi
  have := (checkB_ok h2).2.2.2.2.1
  refine ⟨_, ?_, by rw [h3]; exact h4, by rw [h3]; exact h5, ?_⟩
  · split <;> omega
  · rw [h3]
    unfold AirP.form
    split
    · unfold stepO; simp; omega
    · omega
set_option maxRecDepth 100000 in
set_option maxHeartbeats 8000000 in
theorem radegree_is (A : AirP) (p : AirAt) (w : World) (hA : AirA w A p) (hk : OkAir A) (hf : FewAir A) (hr : A.all.2 = 0) : Calls Try.prog 18 #[A.val p] w fun e w' => e = .returned (.int .i64 (A.degree : Int)) ∧ Below w.heap.size w w' := by
  obtain ⟨i0, hi, hz0, hz1, hz2⟩ := info_parts infoIntA
  obtain ⟨ls, hls⟩ : ∃ ls, A.all.1 = ls := ⟨_, rfl⟩
  have hall : A.all = (ls, 0) := by rw [← hls, ← hr]
  have hlen : ls.length = A.count := by rw [← hls]; exact AirP.all_len hr
  have hcnt : ls.length ≤ 80 := by rw [hlen]; unfold AirP.count; have := hf.1; have := hf.2.1; omega
  have HOK : Hid (∀ i, i < ls.length → ∃ d, d ≤ 4 ∧ degS (ls.getD i []) [] = [d] ∧ Fine (ls.getD i []) 0 ∧ (ls.getD i []).length ≤ 258) := Lib.hid fun i hi => by rw [← hls]; exact AirP.deg_ok hr (by omega)
  have hdeg : A.degree = degMax (ls.take ls.length) := by unfold AirP.degree; rw [hls, List.take_length]
  rw [hdeg]
  have kr := fun W (h : AirA W A p) => rarules_is A p ls 0 W h hk hf hall
  unfold RulesPost at kr
  have HA0' := Lib.hid hA
  clear hall hlen hls hr hdeg hA hk hf
  go_enter Try.func18, Try.ntmps18
  go_upto_region 1 with fail
  refine wp_gen (fun W => Below w.heap.size w W ∧ AirC W w.heap.size A p) ⟨(Below.refl _ _).alloc (Nat.le_refl _) _, AirC.new _ _ _ _⟩ ?_
  obtain ⟨g, hg⟩ : ∃ g, w.heap.size = g := ⟨_, rfl⟩
  rintro w0 ⟨hB0, hC0⟩
  rw [hg] at hC0
  simp only [hg]
  have HA0 := Lib.hid (HA0'.out.keep hB0)
  have HB0 := Lib.hid hB0
  clear hB0 hg HA0'
  obtain ⟨x0, x1, x2, x3, x4⟩ := hC0
  go_upto_region 4 with (go_at_call 12; (with_reducible refine (kr _ HA0.out).mono ?_); rintro E w2 ⟨hb, al, cl, rfl, hl, hn⟩)
  have HB2 := Lib.hid (bthen HB0.out hb)
  have HLS := Lib.hid hl
  clear hb hl hn kr HA0 HB0 x0 x1 x2 x3 x4
  go_loopw [5, 6] (DegRel w2 ls) (fun _ i _ => ls.length - (intOf i).toNat)
  case atStart => exact ⟨0, Nat.zero_le _, rfl, rfl, Below.refl _ _, by rw [List.take_zero]; decide⟩
  case round =>
    obtain ⟨k, hk2, rfl, rfl, hB, hd4⟩ := hrel
    have HD4 := Lib.hid hd4
    by_cases hlt : k < ls.length
    · have hltI : (k : Int) < (ls.length : Int) := by omega
      have hk0 : (0 : Int) ≤ (k : Int) := by omega
      obtain ⟨l, hl⟩ : ∃ l, ls.getD k [] = l := ⟨_, rfl⟩
      obtain ⟨d, hd, hdg, hfi, hl258⟩ := HOK.out k hlt
      rw [hl] at hdg hfi hl258
      have HLD := Lib.hid hl; have HDO := Lib.hid hdg
      have HDG0 := Lib.hid hdg; have HFI0 := Lib.hid hfi
      have HBK := Lib.hid hB
      obtain ⟨w1, hw1⟩ : ∃ w1, wr = w1 := ⟨_, rfl⟩
      rw [hw1] at HBK
      clear hl hdg hfi hB hd4
      go_upto_region 8 with fail
      try simp only [hw1]
      refine wp_gen (fun W => Below w1.heap.size w1 W ∧ W.ownsRow w1.heap.size 3 1 (.slice (some ⟨w1.heap.size, 0, none⟩) 0 0) 0 []) ⟨(Below.refl _ _).alloc (Nat.le_refl _) _, World.ownsRow_lit (e := 3) (size := 1) w1 #[] 0 (Nat.le_refl _) (by unfold maxLen; omega) rfl⟩ ?_
      rintro w4 ⟨hB4, hO4⟩
      clear hw1
      go_loopw [7, 8] (DegIn w1 l d) (fun _ i _ => l.length - (intOf i).toNat)
      case atStart => exact ⟨0, [], Nat.zero_le _, rfl, hB4, hO4, Nat.le_refl _, Nat.le_refl _, HDG0.out, HFI0.out⟩
      case round =>
        clear hB4 hO4 HDG0 HFI0
        obtain ⟨j, st, hj2, rfl, hB, hown, hln, hsu, hdg, hfi⟩ := hrel
        have HB := Lib.hid hB; have HO := Lib.hid hown
        obtain ⟨br, offr, rfl, aj, cj, hrow, hrops, _⟩ := HLS.out.2.2 k hlt
        replace hrow := bkeep (bthen HBK.out hB) hrow
        have HOP := Lib.hid (hrops.keep (bthen HBK.out hB))
        rw [HLD.out] at hrow HOP
        clear hrops
        by_cases hjl : j < l.length
        · have hjlI : (j : Int) < (l.length : Int) := by omega
          have hj0 : (0 : Int) ≤ (j : Int) := by omega
          rw [drop_at hjl] at hdg hfi
          obtain ⟨bz, offz, rfl, u0, u1⟩ := HOP.out.2.2 j hjl
          obtain ⟨rest, hrest⟩ : ∃ r, l.drop (j + 1) = r := ⟨_, rfl⟩
          rw [hrest] at hdg hfi
          have HREST := Lib.hid hrest
          have HDEG := Lib.hid hdg; have HFIN := Lib.hid hfi
          clear hrest hown hdg hfi hB u1
          generalize l.getD j (0, 0) = o at *
          obtain ⟨kd, nn⟩ := o
          dsimp only at u0
          by_cases hk1 : kd = 1
          · subst hk1
            have HDG : Hid (degS (l.drop (j + 1)) (1 :: st) = [d]) := Lib.hid (by rw [HREST.out]; exact HDEG.out)
            have HFI : Hid (Fine (l.drop (j + 1)) (1 :: st).length) := Lib.hid (by rw [HREST.out]; exact fine_one (by simp) HFIN.out)
            have HLN : Hid ((1 :: st).length ≤ j + 1) := Lib.hid (by rw [List.length_cons]; omega)
            have HSU : Hid ((1 :: st).sum ≤ j + 1) := Lib.hid (by rw [List.sum_cons]; omega)
            have hst300 : st.length ≤ 300 := by omega
            clear HDEG HFIN hln hsu
            obtain ⟨aS, cS, rfl⟩ := own_form HO.out
            have hown := HO.out
            have hsz0 := HB.out.size
            obtain ⟨FL, hFL⟩ : ∃ fl, stkV stN st = fl := ⟨_, rfl⟩
            rw [hFL] at hown
            have HFL := Lib.hid hFL
            clear hFL
            go_upto_region 9 with (at_builtin; refine wpList_append_own _ rfl _ _ 55 rfl w1.heap.size 3 i0 (.int .i64 0) 1 8 Try.underlying55 hi hz0 hz1 hz2 rfl (by decide) _ _ _ rfl (hown.alloc _) ⟨wr.heap.size, 0, none⟩ 1 1 [.int .i64 1] rfl rfl (one_src (by simp [go_sem])) (by first | rfl | (intro u hu; simp at hu; subst hu; rfl)) (by unfold maxLen; omega) (by omega) (by first | omega | (simp; omega)) ?_)
            intro v' w3 hown' hgrow _
            have hb3 := own_row_below (hown.alloc (.cells #[.int .i64 1] 3)) (HB.out.alloc HB.out.size _) hgrow (Nat.le_refl _) (by simp; omega)
            have q3 : w3.ownsRow w1.heap.size 3 1 v' (1 :: st).length (stkV stN (1 :: st)) := by rw [stkV_cons, HFL.out]; exact hown'
            have HB := Lib.hid hb3
            have HO := Lib.hid q3
            clear hb3 q3
            go_wp2_with fail
            go_roundw
            case rel => exact ⟨j + 1, 1 :: st, by omega, by go_num, HB.out, HO.out, HLN.out, HSU.out, HDG.out, HFI.out⟩
            case measure => simp [intOf]; omega
          by_cases hk2 : kd = 2
          · subst hk2
            have HDG : Hid (degS (l.drop (j + 1)) (1 :: st) = [d]) := Lib.hid (by rw [HREST.out]; exact HDEG.out)
            have HFI : Hid (Fine (l.drop (j + 1)) (1 :: st).length) := Lib.hid (by rw [HREST.out]; exact fine_one (by simp) HFIN.out)
            have HLN : Hid ((1 :: st).length ≤ j + 1) := Lib.hid (by rw [List.length_cons]; omega)
            have HSU : Hid ((1 :: st).sum ≤ j + 1) := Lib.hid (by rw [List.sum_cons]; omega)
            have hst300 : st.length ≤ 300 := by omega
            clear HDEG HFIN hln hsu
            obtain ⟨aS, cS, rfl⟩ := own_form HO.out
            have hown := HO.out
            have hsz0 := HB.out.size
            obtain ⟨FL, hFL⟩ : ∃ fl, stkV stN st = fl := ⟨_, rfl⟩
            rw [hFL] at hown
            have HFL := Lib.hid hFL
            clear hFL
            go_upto_region 9 with (at_builtin; refine wpList_append_own _ rfl _ _ 55 rfl w1.heap.size 3 i0 (.int .i64 0) 1 8 Try.underlying55 hi hz0 hz1 hz2 rfl (by decide) _ _ _ rfl (hown.alloc _) ⟨wr.heap.size, 0, none⟩ 1 1 [.int .i64 1] rfl rfl (one_src (by simp [go_sem])) (by first | rfl | (intro u hu; simp at hu; subst hu; rfl)) (by unfold maxLen; omega) (by omega) (by first | omega | (simp; omega)) ?_)
            intro v' w3 hown' hgrow _
            have hb3 := own_row_below (hown.alloc (.cells #[.int .i64 1] 3)) (HB.out.alloc HB.out.size _) hgrow (Nat.le_refl _) (by simp; omega)
            have q3 : w3.ownsRow w1.heap.size 3 1 v' (1 :: st).length (stkV stN (1 :: st)) := by rw [stkV_cons, HFL.out]; exact hown'
            have HB := Lib.hid hb3
            have HO := Lib.hid q3
            clear hb3 q3
            go_wp2_with fail
            go_roundw
            case rel => exact ⟨j + 1, 1 :: st, by omega, by go_num, HB.out, HO.out, HLN.out, HSU.out, HDG.out, HFI.out⟩
            case measure => simp [intOf]; omega
          by_cases hk3 : kd = 3
          · subst hk3
            have HDG : Hid (degS (l.drop (j + 1)) (0 :: st) = [d]) := Lib.hid (by rw [HREST.out]; exact HDEG.out)
            have HFI : Hid (Fine (l.drop (j + 1)) (0 :: st).length) := Lib.hid (by rw [HREST.out]; exact fine_one (by simp) HFIN.out)
            have HLN : Hid ((0 :: st).length ≤ j + 1) := Lib.hid (by rw [List.length_cons]; omega)
            have HSU : Hid ((0 :: st).sum ≤ j + 1) := Lib.hid (by rw [List.sum_cons]; omega)
            have hst300 : st.length ≤ 300 := by omega
            clear HDEG HFIN hln hsu
            obtain ⟨aS, cS, rfl⟩ := own_form HO.out
            have hown := HO.out
            have hsz0 := HB.out.size
            obtain ⟨FL, hFL⟩ : ∃ fl, stkV stN st = fl := ⟨_, rfl⟩
            rw [hFL] at hown
            have HFL := Lib.hid hFL
            clear hFL
            go_upto_region 9 with (at_builtin; refine wpList_append_own _ rfl _ _ 55 rfl w1.heap.size 3 i0 (.int .i64 0) 1 8 Try.underlying55 hi hz0 hz1 hz2 rfl (by decide) _ _ _ rfl (hown.alloc _) ⟨wr.heap.size, 0, none⟩ 1 1 [.int .i64 0] rfl rfl (one_src (by simp [go_sem])) (by first | rfl | (intro u hu; simp at hu; subst hu; rfl)) (by unfold maxLen; omega) (by omega) (by first | omega | (simp; omega)) ?_)
            intro v' w3 hown' hgrow _
            have hb3 := own_row_below (hown.alloc (.cells #[.int .i64 0] 3)) (HB.out.alloc HB.out.size _) hgrow (Nat.le_refl _) (by simp; omega)
            have q3 : w3.ownsRow w1.heap.size 3 1 v' (0 :: st).length (stkV stN (0 :: st)) := by rw [stkV_cons, HFL.out]; exact hown'
            have HB := Lib.hid hb3
            have HO := Lib.hid q3
            clear hb3 q3
            go_wp2_with fail
            go_roundw
            case rel => exact ⟨j + 1, 0 :: st, by omega, by go_num, HB.out, HO.out, HLN.out, HSU.out, HDG.out, HFI.out⟩
            case measure => simp [intOf]; omega
          have h1 : ¬ ((kd, nn) : Opn).1 = 1 := hk1
          have h2 : ¬ ((kd, nn) : Opn).1 = 2 := hk2
          have h3 : ¬ ((kd, nn) : Opn).1 = 3 := hk3
          have hlt2 := (fine_two h1 h2 h3 HFIN.out).1
          obtain ⟨y, x, r, rfl⟩ : ∃ y x r, st = y :: x :: r := by
            match st, hlt2 with
            | y :: x :: r, _ => exact ⟨y, x, r, rfl⟩
            | [_], h => exact absurd h (by simp)
            | [], h => exact absurd h (by simp)
          have hsr : y + (x + r.sum) ≤ j := by simpa using hsu
          have hlr : r.length + 1 + 1 ≤ 300 := by have : r.length + 1 + 1 ≤ j := by simpa using hln
                                                  omega
          replace hln : r.length + 1 + 1 ≤ j := by simpa using hln
          have hxyb : x + y ≤ 512 := by omega
          clear hlt2
          obtain ⟨M2, hM2⟩ : ∃ M2, r.length + 1 + 1 = M2 := ⟨_, rfl⟩
          have hv1 : IntKind.i64.wrap ((M2 : Int) - 1) = ((r.length + 1 : Nat) : Int) := by rw [IntWalk.i64_in _ (by omega)]; omega
          have hv2 : wrap64 ((M2 : Int) - 1) = ((r.length + 1 : Nat) : Int) := by rw [IntWalk.wrap64_in _ (by omega)]; omega
          have hv3 : IntKind.i64.wrap ((M2 : Int) - 2) = (r.length : Int) := by rw [IntWalk.i64_in _ (by omega)]; omega
          have hv4 : wrap64 ((M2 : Int) - 2) = (r.length : Int) := by rw [IntWalk.wrap64_in _ (by omega)]; omega
          obtain ⟨M1, hM1⟩ : ∃ M1, r.length + 1 = M1 := ⟨_, rfl⟩
          rw [hM1] at hv1 hv2
          have hl2 : (M1 : Int) < (M2 : Int) := by omega
          have hl3 : (r.length : Int) < (M2 : Int) := by omega
          have hl4 : (r.length : Int) ≤ (M2 : Int) := by omega
          have hl5 : (0 : Int) ≤ (M1 : Int) := by omega
          have hl6 : (0 : Int) ≤ (r.length : Int) := by omega
          obtain ⟨gs, cs', hu7, hcs, hcsm, hcx, hcy, hcut⟩ := stk_two stN_len HO.out
          rw [hM2] at hu7 hcs
          subst hu7
          have hrM : r.length ≤ cs' := by omega
          replace hcx := hcx 0 (by decide); replace hcy := hcy 0 (by decide)
          simp only [Nat.mul_one, Nat.add_zero, hM1] at hcx hcy
          replace hcx : wr.cell? ⟨gs, r.length, none⟩ = some (.int .i64 (x : Int)) := hcx
          replace hcy : wr.cell? ⟨gs, M1, none⟩ = some (.int .i64 (y : Int)) := hcy
          have HCX := Lib.hid hcx; have HCY := Lib.hid hcy; have HCUT := Lib.hid hcut
          clear hcx hcy hcut HO hM1
          have HM2 := Lib.hid hM2
          rw [show (y :: x :: r).length = M2 from hM2] at *
          clear hM2
          by_cases h6 : kd = 6
          · subst h6
            obtain ⟨V, hV⟩ : ∃ V, x + y = V := ⟨_, rfl⟩
            have hval : IntKind.i64.wrap ((x : Int) + (y : Int)) = (V : Int) := by rw [← hV]; exact (w_add x y hxyb).2
            have hvalw : wrap64 ((x : Int) + (y : Int)) = (V : Int) := by rw [← hV]; exact (w_add x y hxyb).1
            have HDG : Hid (degS (l.drop (j + 1)) (V :: r) = [d]) := Lib.hid (by rw [HREST.out, ← hV]; have := HDEG.out; rw [degS_cons] at this; unfold degPush at this; rw [if_neg (by omega), if_neg (by omega)] at this; dsimp only at this; rw [if_pos rfl] at this; exact this)
            have HFI : Hid (Fine (l.drop (j + 1)) (V :: r).length) := Lib.hid (by rw [HREST.out]; have := (fine_two h1 h2 h3 HFIN.out).2; rw [← HM2.out] at this; exact this)
            have HLN : Hid ((V :: r).length ≤ j + 1) := Lib.hid (by rw [List.length_cons]; exact len_two hln)
            have HSU : Hid ((V :: r).sum ≤ j + 1) := Lib.hid (by rw [List.sum_cons, ← hV]; exact sum_two hsr)
            clear HDEG HFIN hsu hln
            go_upto_region 19 with fail
            clear h1 h2 h3
            have HBR := Lib.hid HB.out.size
            refine wp_lay [(71, []), (72, []), (73, [72]), (74, [71, 73]), (75, []), (76, []), (77, [76]), (78, [75, 77]), (79, [78]), (80, []), (81, []), (82, [81]), (83, [80, 82]), (84, [83]), (85, [79, 84]), (86, [85]), (87, [74, 86])]
              (StkOp w1 wr 3 1 79 84 85 86 87 7 r.length (stkV stN r) [(.int .i64 (V : Int))] [71, 72, 73, 74, 75, 76, 77, 78, 79, 80, 81, 82, 83, 84, 85] (DegVal71 gs r.length M1 M2 cs' (.int .i64 (x : Int)) (.int .i64 (y : Int)) (.int .i64 (V : Int)))) (by kernel_rfl) (by kernel_rfl) (fun σ => StkOp.start (Below.refl _ _).drew σ) ?_ ?_
            · refine opsw_cons ?_ (opsw_cons ?_ (opsw_cons ?_ (opsw_cons ?_ (opsw_cons ?_ (opsw_cons ?_ (opsw_cons ?_ (opsw_cons ?_ (opsw_cons ?_ (opsw_cons ?_ (opsw_cons ?_ (opsw_cons ?_ (opsw_cons ?_ (opsw_cons ?_ (opsw_cons ?_ (opsw_cons ?_ (opsw_cons ?_ opsw_nil))))))))))))))))
              all_goals
                refine OpRunsW.any ?_
                intro Q0 D σ W K hW hd hn hK
                simp only [fill, List.map, Act.put, List.setIfInBounds_toArray, List.set_cons_zero, List.set_cons_succ] at hK ⊢
              · have HW := Lib.hid hW
                clear hW
                go_simp
                exact hK _ _ (HW.out.next (Below.refl _ _) (by decide) rfl)
              · have HW := Lib.hid hW
                clear hW
                go_simp
                exact hK _ _ (HW.out.next (Below.refl _ _) (by decide) rfl)
              · have h72 : σ 72 = (.int .i64 (M2 : Int)) := hW.sv 72 (by decide) (hn 72 (by decide))
                simp only [h72] at hK
                have HW := Lib.hid hW
                clear hW
                go_simp
                exact hK _ _ (HW.out.next (Below.refl _ _) (by decide) rfl)
              · have h71 : σ 71 = (.slice (some ⟨gs, 0, none⟩) M2 cs') := hW.sv 71 (by decide) (hn 71 (by decide))
                have h73 : σ 73 = (.int .i64 (r.length : Int)) := hW.sv 73 (by decide) (hn 73 (by decide))
                simp only [h71, h73] at hK
                have HW := Lib.hid hW
                clear hW
                go_simp
                exact hK _ _ (HW.out.next (Below.refl _ _) (by decide) rfl)
              · have HW := Lib.hid hW
                clear hW
                go_simp
                exact hK _ _ (HW.out.next (Below.refl _ _) (by decide) rfl)
              · have HW := Lib.hid hW
                clear hW
                go_simp
                exact hK _ _ (HW.out.next (Below.refl _ _) (by decide) rfl)
              · have h76 : σ 76 = (.int .i64 (M2 : Int)) := hW.sv 76 (by decide) (hn 76 (by decide))
                simp only [h76] at hK
                have HW := Lib.hid hW
                clear hW
                go_simp
                exact hK _ _ (HW.out.next (Below.refl _ _) (by decide) rfl)
              · have h75 : σ 75 = (.slice (some ⟨gs, 0, none⟩) M2 cs') := hW.sv 75 (by decide) (hn 75 (by decide))
                have h77 : σ 77 = (.int .i64 (r.length : Int)) := hW.sv 77 (by decide) (hn 77 (by decide))
                simp only [h75, h77] at hK
                have HW := Lib.hid hW
                clear hW
                go_simp
                exact hK _ _ (HW.out.next (Below.refl _ _) (by decide) rfl)
              · have h78 : σ 78 = (.pointer (some ⟨gs, r.length, none⟩)) := hW.sv 78 (by decide) (hn 78 (by decide))
                simp only [h78] at hK
                have hop := hW.opena hd
                have c0 := bkeep (hW.pre hop) HCX.out
                have HW := Lib.hid hW
                clear hW
                go_simp
                exact hK _ _ (HW.out.next (Below.refl _ _) (by decide) rfl)
              · have HW := Lib.hid hW
                clear hW
                go_simp
                exact hK _ _ (HW.out.next (Below.refl _ _) (by decide) rfl)
              · have HW := Lib.hid hW
                clear hW
                go_simp
                exact hK _ _ (HW.out.next (Below.refl _ _) (by decide) rfl)
              · have h81 : σ 81 = (.int .i64 (M2 : Int)) := hW.sv 81 (by decide) (hn 81 (by decide))
                simp only [h81] at hK
                have HW := Lib.hid hW
                clear hW
                go_simp
                exact hK _ _ (HW.out.next (Below.refl _ _) (by decide) rfl)
              · have h80 : σ 80 = (.slice (some ⟨gs, 0, none⟩) M2 cs') := hW.sv 80 (by decide) (hn 80 (by decide))
                have h82 : σ 82 = (.int .i64 (M1 : Int)) := hW.sv 82 (by decide) (hn 82 (by decide))
                simp only [h80, h82] at hK
                have HW := Lib.hid hW
                clear hW
                go_simp
                exact hK _ _ (HW.out.next (Below.refl _ _) (by decide) rfl)
              · have h83 : σ 83 = (.pointer (some ⟨gs, M1, none⟩)) := hW.sv 83 (by decide) (hn 83 (by decide))
                simp only [h83] at hK
                have hop := hW.openl hd
                have c0 := bkeep (hW.pre hop) HCY.out
                have HW := Lib.hid hW
                clear hW
                go_simp
                exact hK _ _ (HW.out.next (Below.refl _ _) (by decide) rfl)
              · have h79 : σ 79 = ((.int .i64 (x : Int))) := hW.sv 79 (by decide) (hn 79 (by decide))
                have h84 : σ 84 = ((.int .i64 (y : Int))) := hW.sv 84 (by decide) (hn 84 (by decide))
                simp only [h79, h84] at hK
                have hA := hn 79 (by decide)
                have hL := hn 84 (by decide)
                have HH := Lib.hid (And.intro hd (And.intro hA hL))
                have HW := Lib.hid hW
                clear hW hd hA hL
                go_simp
                exact hK _ _ (HW.out.call HH.out.1 HH.out.2.1 HH.out.2.2 (Below.refl _ _) (by decide) rfl)
              · have h85 : σ 85 = ((.int .i64 (V : Int))) := hW.sv 85 (by decide) (hn 85 (by decide))
                simp only [h85] at hK
                have HH := Lib.hid (And.intro hd (hn 85 (by decide)))
                have HW := Lib.hid hW
                clear hW hd
                go_simp
                exact hK _ _ (HW.out.build HH.out.1 HH.out.2 ((Below.refl _ _).alloc (Nat.le_refl _) _) (by decide) (by decide) (one_src (by simp [go_sem])))
              · have hsb := hn 86 (by decide)
                obtain ⟨gl, hl, hcell⟩ := hW.li hd hsb
                have h74 : σ 74 = (.slice (some ⟨gs, 0, none⟩) r.length cs') := hW.sv 74 (by decide) (hn 74 (by decide))
                have hpre := hW.pre hd
                have hown := own_keep HCUT.out hpre
                have hBW := bthen HB.out hpre
                rw [if_pos (by rfl)]
                refine wp_append_at3 (.tmp 74) (.tmp 86) 55 (by rfl) w1.heap.size 3 i0 (.int .i64 0) 1 8 Try.underlying55 hi hz0 hz1 hz2 rfl (by decide) (.slice (some ⟨gs, 0, none⟩) r.length cs') r.length (stkV stN r) (by exact h74) hown (some ⟨gl, 0, none⟩) 1 1 [(.int .i64 (V : Int))] (by exact hl) rfl (fun h => by cases h) (fun h => by cases h) (by rintro ad e; cases e; exact hcell) (by intro u hu; simp at hu; subst hu; rfl) (by unfold maxLen; omega) (by omega) hBW.size ?_
                intro v' w' q1 q2 q3
                exact hK _ _ (hW.app hd hsb (by decide) (by decide) q1 (own_row_below hown hBW q2 (Nat.le_refl _) hBW.size))
            · intro D σ W hW hD
              obtain ⟨hq1, hq2⟩ := hW.post (hD 87 (by decide))
              have q3 : W.ownsRow w1.heap.size 3 1 (σ 87) (V :: r).length (stkV stN (V :: r)) := by rw [stkV_cons]; exact hq1
              have hb3 := hq2
              obtain ⟨s7, hs7⟩ : ∃ v, σ 87 = v := ⟨_, rfl⟩
              rw [hs7] at q3
              obtain ⟨as7, cs7, rfl⟩ := own_form q3
              clear hW hD hq1 hq2 HCX HCY HCUT hV hval hvalw
              simp only [fill, List.map, Act.put, List.setIfInBounds_toArray, List.set_cons_zero, List.set_cons_succ, List.length_cons, List.length_nil, List.drop_succ_cons, List.drop_zero, Nat.reduceAdd, hs7]
              clear hs7
              have HB := Lib.hid hb3
              have HO := Lib.hid q3
              clear hb3 q3
              go_wp2_with fail
              go_roundw
              case rel => exact ⟨j + 1, V :: r, by omega, by go_num, HB.out, HO.out, HLN.out, HSU.out, HDG.out, HFI.out⟩
              case measure => simp [intOf]; omega
          · obtain ⟨V, hV⟩ : ∃ V, max x y = V := ⟨_, rfl⟩
            have hval : max (x : Int) (y : Int) = (V : Int) := by rw [← hV]; exact max_nat x y
            have HDG : Hid (degS (l.drop (j + 1)) (V :: r) = [d]) := Lib.hid (by rw [HREST.out, ← hV]; have := HDEG.out; rw [degS_cons] at this; unfold degPush at this; rw [if_neg (by omega), if_neg (by omega)] at this; dsimp only at this; rw [if_neg h6] at this; exact this)
            have HFI : Hid (Fine (l.drop (j + 1)) (V :: r).length) := Lib.hid (by rw [HREST.out]; have := (fine_two h1 h2 h3 HFIN.out).2; rw [← HM2.out] at this; exact this)
            have HLN : Hid ((V :: r).length ≤ j + 1) := Lib.hid (by rw [List.length_cons]; exact len_two hln)
            have HSU : Hid ((V :: r).sum ≤ j + 1) := Lib.hid (by rw [List.sum_cons, ← hV]; exact sum_max hsr)
            clear HDEG HFIN hsu hln
            go_upto_region 12 with fail
            clear h1 h2 h3 hk1 hk2 hk3 h6
            generalize (kd == 1) = f1
            generalize (kd == 2) = f2
            generalize (kd == 3) = f3
            generalize (kd == 6) = f6
            have HBR := Lib.hid HB.out.size
            refine wp_lay [(41, []), (42, []), (43, [42]), (44, [41, 43]), (45, []), (46, []), (47, [46]), (48, [45, 47]), (49, [48]), (50, []), (51, []), (52, [51]), (53, [50, 52]), (54, [53]), (55, [49, 54]), (56, [55]), (57, [44, 56])]
              (StkOp w1 wr 3 1 49 54 55 56 57 7 r.length (stkV stN r) [(.int .i64 (V : Int))] [41, 42, 43, 44, 45, 46, 47, 48, 49, 50, 51, 52, 53, 54, 55] (DegVal41 gs r.length M1 M2 cs' (.int .i64 (x : Int)) (.int .i64 (y : Int)) (.int .i64 (V : Int)))) (by kernel_rfl) (by kernel_rfl) (fun σ => StkOp.start (Below.refl _ _).drew σ) ?_ ?_
            · refine opsw_cons ?_ (opsw_cons ?_ (opsw_cons ?_ (opsw_cons ?_ (opsw_cons ?_ (opsw_cons ?_ (opsw_cons ?_ (opsw_cons ?_ (opsw_cons ?_ (opsw_cons ?_ (opsw_cons ?_ (opsw_cons ?_ (opsw_cons ?_ (opsw_cons ?_ (opsw_cons ?_ (opsw_cons ?_ (opsw_cons ?_ opsw_nil))))))))))))))))
              all_goals
                refine OpRunsW.any ?_
                intro Q0 D σ W K hW hd hn hK
                simp only [fill, List.map, Act.put, List.setIfInBounds_toArray, List.set_cons_zero, List.set_cons_succ] at hK ⊢
              · have HW := Lib.hid hW
                clear hW
                go_simp
                exact hK _ _ (HW.out.next (Below.refl _ _) (by decide) rfl)
              · have HW := Lib.hid hW
                clear hW
                go_simp
                exact hK _ _ (HW.out.next (Below.refl _ _) (by decide) rfl)
              · have h42 : σ 42 = (.int .i64 (M2 : Int)) := hW.sv 42 (by decide) (hn 42 (by decide))
                simp only [h42] at hK
                have HW := Lib.hid hW
                clear hW
                go_simp
                exact hK _ _ (HW.out.next (Below.refl _ _) (by decide) rfl)
              · have h41 : σ 41 = (.slice (some ⟨gs, 0, none⟩) M2 cs') := hW.sv 41 (by decide) (hn 41 (by decide))
                have h43 : σ 43 = (.int .i64 (r.length : Int)) := hW.sv 43 (by decide) (hn 43 (by decide))
                simp only [h41, h43] at hK
                have HW := Lib.hid hW
                clear hW
                go_simp
                exact hK _ _ (HW.out.next (Below.refl _ _) (by decide) rfl)
              · have HW := Lib.hid hW
                clear hW
                go_simp
                exact hK _ _ (HW.out.next (Below.refl _ _) (by decide) rfl)
              · have HW := Lib.hid hW
                clear hW
                go_simp
                exact hK _ _ (HW.out.next (Below.refl _ _) (by decide) rfl)
              · have h46 : σ 46 = (.int .i64 (M2 : Int)) := hW.sv 46 (by decide) (hn 46 (by decide))
                simp only [h46] at hK
                have HW := Lib.hid hW
                clear hW
                go_simp
                exact hK _ _ (HW.out.next (Below.refl _ _) (by decide) rfl)
              · have h45 : σ 45 = (.slice (some ⟨gs, 0, none⟩) M2 cs') := hW.sv 45 (by decide) (hn 45 (by decide))
                have h47 : σ 47 = (.int .i64 (r.length : Int)) := hW.sv 47 (by decide) (hn 47 (by decide))
                simp only [h45, h47] at hK
                have HW := Lib.hid hW
                clear hW
                go_simp
                exact hK _ _ (HW.out.next (Below.refl _ _) (by decide) rfl)
              · have h48 : σ 48 = (.pointer (some ⟨gs, r.length, none⟩)) := hW.sv 48 (by decide) (hn 48 (by decide))
                simp only [h48] at hK
                have hop := hW.opena hd
                have c0 := bkeep (hW.pre hop) HCX.out
                have HW := Lib.hid hW
                clear hW
                go_simp
                exact hK _ _ (HW.out.next (Below.refl _ _) (by decide) rfl)
              · have HW := Lib.hid hW
                clear hW
                go_simp
                exact hK _ _ (HW.out.next (Below.refl _ _) (by decide) rfl)
              · have HW := Lib.hid hW
                clear hW
                go_simp
                exact hK _ _ (HW.out.next (Below.refl _ _) (by decide) rfl)
              · have h51 : σ 51 = (.int .i64 (M2 : Int)) := hW.sv 51 (by decide) (hn 51 (by decide))
                simp only [h51] at hK
                have HW := Lib.hid hW
                clear hW
                go_simp
                exact hK _ _ (HW.out.next (Below.refl _ _) (by decide) rfl)
              · have h50 : σ 50 = (.slice (some ⟨gs, 0, none⟩) M2 cs') := hW.sv 50 (by decide) (hn 50 (by decide))
                have h52 : σ 52 = (.int .i64 (M1 : Int)) := hW.sv 52 (by decide) (hn 52 (by decide))
                simp only [h50, h52] at hK
                have HW := Lib.hid hW
                clear hW
                go_simp
                exact hK _ _ (HW.out.next (Below.refl _ _) (by decide) rfl)
              · have h53 : σ 53 = (.pointer (some ⟨gs, M1, none⟩)) := hW.sv 53 (by decide) (hn 53 (by decide))
                simp only [h53] at hK
                have hop := hW.openl hd
                have c0 := bkeep (hW.pre hop) HCY.out
                have HW := Lib.hid hW
                clear hW
                go_simp
                exact hK _ _ (HW.out.next (Below.refl _ _) (by decide) rfl)
              · have h49 : σ 49 = ((.int .i64 (x : Int))) := hW.sv 49 (by decide) (hn 49 (by decide))
                have h54 : σ 54 = ((.int .i64 (y : Int))) := hW.sv 54 (by decide) (hn 54 (by decide))
                simp only [h49, h54] at hK
                have hA := hn 49 (by decide)
                have hL := hn 54 (by decide)
                have HH := Lib.hid (And.intro hd (And.intro hA hL))
                have HW := Lib.hid hW
                clear hW hd hA hL
                go_simp
                exact hK _ _ (HW.out.call HH.out.1 HH.out.2.1 HH.out.2.2 (Below.refl _ _) (by decide) rfl)
              · have h55 : σ 55 = ((.int .i64 (V : Int))) := hW.sv 55 (by decide) (hn 55 (by decide))
                simp only [h55] at hK
                have HH := Lib.hid (And.intro hd (hn 55 (by decide)))
                have HW := Lib.hid hW
                clear hW hd
                go_simp
                exact hK _ _ (HW.out.build HH.out.1 HH.out.2 ((Below.refl _ _).alloc (Nat.le_refl _) _) (by decide) (by decide) (one_src (by simp [go_sem])))
              · have hsb := hn 56 (by decide)
                obtain ⟨gl, hl, hcell⟩ := hW.li hd hsb
                have h44 : σ 44 = (.slice (some ⟨gs, 0, none⟩) r.length cs') := hW.sv 44 (by decide) (hn 44 (by decide))
                have hpre := hW.pre hd
                have hown := own_keep HCUT.out hpre
                have hBW := bthen HB.out hpre
                rw [if_pos (by rfl)]
                refine wp_append_at3 (.tmp 44) (.tmp 56) 55 (by rfl) w1.heap.size 3 i0 (.int .i64 0) 1 8 Try.underlying55 hi hz0 hz1 hz2 rfl (by decide) (.slice (some ⟨gs, 0, none⟩) r.length cs') r.length (stkV stN r) (by exact h44) hown (some ⟨gl, 0, none⟩) 1 1 [(.int .i64 (V : Int))] (by exact hl) rfl (fun h => by cases h) (fun h => by cases h) (by rintro ad e; cases e; exact hcell) (by intro u hu; simp at hu; subst hu; rfl) (by unfold maxLen; omega) (by omega) hBW.size ?_
                intro v' w' q1 q2 q3
                exact hK _ _ (hW.app hd hsb (by decide) (by decide) q1 (own_row_below hown hBW q2 (Nat.le_refl _) hBW.size))
            · intro D σ W hW hD
              obtain ⟨hq1, hq2⟩ := hW.post (hD 57 (by decide))
              have q3 : W.ownsRow w1.heap.size 3 1 (σ 57) (V :: r).length (stkV stN (V :: r)) := by rw [stkV_cons]; exact hq1
              have hb3 := hq2
              obtain ⟨s7, hs7⟩ : ∃ v, σ 57 = v := ⟨_, rfl⟩
              rw [hs7] at q3
              obtain ⟨as7, cs7, rfl⟩ := own_form q3
              clear hW hD hq1 hq2 HCX HCY HCUT hV hval
              simp only [fill, List.map, Act.put, List.setIfInBounds_toArray, List.set_cons_zero, List.set_cons_succ, List.length_cons, List.length_nil, List.drop_succ_cons, List.drop_zero, Nat.reduceAdd, hs7]
              clear hs7
              have HB := Lib.hid hb3
              have HO := Lib.hid q3
              clear hb3 q3
              go_wp2_with fail
              go_roundw
              case rel => exact ⟨j + 1, V :: r, by omega, by go_num, HB.out, HO.out, HLN.out, HSU.out, HDG.out, HFI.out⟩
              case measure => simp [intOf]; omega
        · obtain rfl : j = l.length := by omega
          rw [List.drop_length] at hdg
          have hdg : st = [d] := hdg
          subst hdg
          obtain ⟨g', cap', rfl, hcp, hcm, hcell⟩ := stk_one (r := []) stN_len HO.out
          have htop := hcell 0 (by decide)
          simp only [List.length_nil, Nat.zero_mul, Nat.add_zero] at htop
          replace htop : wr.cell? ⟨g', 0, none⟩ = some (.int .i64 (d : Int)) := htop
          have HBE := Lib.hid (bthen HBK.out hB)
          have hmx := max_nat (degMax (ls.take k)) d
          have HMX : Hid (degMax (ls.take (k + 1)) = max (degMax (ls.take k)) d) := Lib.hid (by rw [degMax_take ls k hlt, HLD.out]; unfold degO; rw [HDO.out]; rfl)
          obtain ⟨P, hP⟩ : ∃ P, max (degMax (ls.take k)) d = P := ⟨_, rfl⟩
          rw [hP] at hmx HMX
          have hP4 : P ≤ 4 := by rw [← hP]; have := HD4.out; omega
          clear hcell hB hown hln hsu hfi HO HB hP
          go_wp2_with fail
          go_roundw
          case rel => exact ⟨k + 1, by omega, by rw [HMX.out], by go_num, HBE.out, by rw [HMX.out]; exact hP4⟩
          case measure => simp [intOf]; omega
    · obtain rfl : k = ls.length := by omega
      have HBE := Lib.hid (bthen HB2.out hB)
      clear hB HD4 hd4
      go_wp2_with fail
      go_ret
      exact ⟨rfl, HBE.out⟩
end Go.Proofs.Ytckipfcjgmiacaa
