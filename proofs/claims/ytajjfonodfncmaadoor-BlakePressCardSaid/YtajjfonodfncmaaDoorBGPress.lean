/-
  The program's Press. (Written by gen_bgpress.py.)
-/
import Derived.Test.YtajjfonodfncmaaDoorBGWords
import Derived.Test.YtajjfonodfncmaaDoorBPress
import Derived.Test.YtajjfonodfncmaaDoorRow2
namespace Go.Proofs.YtajjfonodfncmaaDoor
open Go Go.RowKit
set_option linter.unusedVariables false

def GLoop1 (w : World) (h b : Nat → Int) (gv : Nat) (s : Value) (W : World) : Prop := ∃ i : Nat, i ≤ 8 ∧ s = .int .i64 i ∧ PSt w h b W ∧ Arr W gv 16 (w32 (vrow h i))
def GLoop4 (w : World) (h b m : Nat → Int) (gm gv : Nat) (v : Nat → Int) (s : Value) (W : World) : Prop := ∃ r : Nat, r ≤ 10 ∧ s = .int .i64 r ∧ PSt w h b W ∧ Arr W gm 16 (w32 m) ∧ Arr W gv 16 (w32 (rounds m r v))
def GPressR (m u mo u2 : Nat → Int) (r : Nat) (sl : Nat) (v : Value) (W : World) : Prop :=
  match sl with
  | 53 => v = .agg (cellsA 16 (w32 u))
  | 54 => v = .agg (cellsA 16 (w32 m))
  | 55 => v = .int .i64 r
  | 56 => v = .agg (cellsA 16 (w32 mo))
  | _ => v = .agg (cellsA 16 (w32 u2))
theorem GPressR.keep {m u mo u2 : Nat → Int} {r : Nat} {sl : Nat} {v : Value} {W W' : World} (h : GPressR m u mo u2 r sl v W) (hb : Below W.heap.size W W') : GPressR m u mo u2 r sl v W' := h

set_option maxRecDepth 100000 in
set_option maxHeartbeats 8000000 in
theorem gpress_is (h b : Nat → Int) (n : Int) (last : Bool) (hb : IsBytes 64 b) (hn : U n) (w : World) (hT : TabB w) :
    Calls Tryd.prog 9 #[.agg (cellsA 8 (w32 h)), .agg (cellsA 64 (w8 b)), .int .u64 n, .bool last] w fun e w' => e = .returned (.agg (cellsA 8 (w32 (press h b n last)))) ∧ Below w.heap.size w w' := by
  have HBY := Lib.hid hb
  have HT := Lib.hid hT
  clear hb hT
  go_enter Tryd.func9, Tryd.ntmps9
  go_upto_region 1 with fail
  refine wp_gen (fun W => PSt w h b W) (PSt.start w h b _ _ _ _ (by rfl)) ?_
  rintro W hS
  go_upto_region 2 with fail
  refine wp_gen (fun W' => PSt w h b W' ∧ Arr W' W.heap.size 16 (w32 (vrow h 0))) ⟨hS.alloc _, (Arr.zeros _ 16 (.int .u32 0) _ _ (by rfl)).same (fun j _ => by show Value.int .u32 0 = Value.int .u32 (vrow h 0 j); unfold vrow; rw [if_neg (by omega), if_neg (by omega)])⟩ ?_
  have ltv := hS.2.2.2.2
  generalize W.heap.size = gv at *
  clear hS
  rintro W1 ⟨hS, hV⟩
  have HS := Lib.hid hS; have HV := Lib.hid hV
  clear hS hV
  go_upto_region 3 with (refine wpList_loadT rfl 27 26 _ rfl 0 8 .u32 beg rfl (HT.out.keep HS.out.1).1 (by kernel_rfl) (by kernel_rfl) ?_)
  go_loopw [16] (GLoop1 w h b gv) (fun i _ => 8 - (intOf i).toNat)
  case atStart => exact ⟨0, by omega, rfl, HS.out, HV.out⟩
  case round =>
    clear HS HV
    obtain ⟨i, hi, rfl, hS, hV⟩ := hrel
    by_cases hlt : i < 8
    · have hi8 : (i : Int) < 8 := by omega
      have hw1 : IntKind.i64.wrap ((i : Int) + 8) = (i : Int) + 8 := IntWalk.i64_in _ (by omega)
      obtain ⟨ch, _⟩ := hS.2.1 i hlt
      obtain ⟨cv, fv⟩ := hV i (by omega)
      obtain ⟨cv8, fv8⟩ := hV (i + 8) (by omega)
      simp only [w32] at ch cv cv8
      have HS := Lib.hid hS; have HV := Lib.hid hV
      clear hS hV
      go_upto_region 5 with (refine wpList_indexA rfl 27 26 _ _ rfl 8 _ .i64 i rfl rfl hlt (by kernel_rfl) (by kernel_rfl) (by kernel_rfl) ?_)
      go_upto_region 6 with fail
      refine wp_gen (fun W => PSt w h b W ∧ Arr W gv 16 (w32 (vrow h (i + 1)))) ⟨(HS.out.far ltv _ _).far ltv _ _, ?_⟩ ?_
      · exact ((HV.out.set i (.int .u32 (h i)) (by omega)).set (i + 8) (.int .u32 (beg i)) (by omega)).same (fun j _ => vrow_set h i hlt j)
      clear HS HV ch cv cv8 fv fv8 hw1
      rintro W4 ⟨hS, hV⟩
      go_wp2
      go_roundw
      case rel => exact ⟨i + 1, by omega, by go_num, hS, hV⟩
      case measure => simp [intOf]; omega
    · obtain rfl : i = 8 := by omega
      have hB3 : Arr wr gv 16 (w32 (vbase h)) := hV.same (vrow_end h)
      clear hV
      generalize hv0 : vbase h = v0 at *
      obtain ⟨v1, hv1⟩ : ∃ v1, upd v0 12 (xor32 (v0 12) (n % 4294967296)) = v1 := ⟨_, rfl⟩
      obtain ⟨v2, hv2⟩ : ∃ v2, upd v1 13 (xor32 (v1 13) (n / 4294967296)) = v2 := ⟨_, rfl⟩
      obtain ⟨v3, hv3⟩ : ∃ v3, (if last = true then upd v2 14 (not32 (v2 14)) else v2) = v3 := ⟨_, rfl⟩
      have hfirst : vfirst h n last = v3 := by unfold vfirst; rw [hv0]; simp only [hv1, hv2, hv3]
      have HS := Lib.hid hS; have HV := Lib.hid hB3
      obtain ⟨c12, f12⟩ := hB3 12 (by decide)
      clear hS hB3
      simp only [w32] at c12
      have hn0 := hn.1; have hn1 := hn.2
      go_upto_region 8 with fail
      refine wp_gen (fun W => PSt w h b W ∧ Arr W gv 16 (w32 v1)) ⟨HS.out.far ltv _ _, (HV.out.set 12 _ (by decide)).same (fun j _ => by rw [← hv1]; exact w32_upd _ _ _ _)⟩ ?_
      clear HS HV c12 f12
      rintro W4 ⟨hS, hV⟩
      have HS := Lib.hid hS; have HV := Lib.hid hV
      obtain ⟨c13, f13⟩ := hV 13 (by decide)
      clear hS hV
      simp only [w32] at c13
      go_upto_region 9 with fail
      refine wp_gen (fun W => PSt w h b W ∧ Arr W gv 16 (w32 v2)) ⟨HS.out.far ltv _ _, (HV.out.set 13 _ (by decide)).same (fun j _ => by rw [← hv2]; exact w32_upd _ _ _ _)⟩ ?_
      clear HS HV c13 f13 hn0 hn1
      rintro W5 ⟨hS, hV⟩
      go_upto_if 43 with fail
      go_cut [16] (fun s W => s = .int .i64 8 ∧ PSt w h b W ∧ Arr W gv 16 (w32 v3))
      case first =>
        cases last
        case false =>
          simp only [Bool.false_eq_true, if_false] at hv3
          subst hv3
          go_wp2_with fail
          go_meet
          exact ⟨rfl, hS, hV⟩
        case true =>
          simp only [if_true] at hv3
          have HS := Lib.hid hS; have HV := Lib.hid hV
          obtain ⟨c14, f14⟩ := hV 14 (by decide)
          clear hS hV
          simp only [w32] at c14
          go_wp2_with fail
          go_meet
          refine ⟨rfl, HS.out.far ltv _ _, (HV.out.set 14 _ (by decide)).same (fun j _ => ?_)⟩
          rw [← hv3]; exact w32_upd _ _ _ _
      case rest =>
        clear hS hV hv1 hv2 hv3 hv0
        obtain ⟨rfl, hS, hV⟩ := hcut
        have HS := Lib.hid hS; have HV := Lib.hid hV
        clear hS hV
        go_upto_region 12 with (first
          | refine wpList_loadA rfl 28 5 _ rfl (w.heap.size + 1) 64 (w8 b) rfl HS.out.2.2.1 (by kernel_rfl) (by kernel_rfl) ?_
          | (go_at_call 14; ((with_reducible refine (gwords_is b HBY.out _).mono ?_); rintro e w1 ⟨rfl, hb⟩; replace HS := Lib.hid (HS.out.keep hb); replace HV := Lib.hid (HV.out.keep hb); clear hb))
          | refine wpList_storeA rfl 43 _ _ rfl rfl w1.heap.size 16 _ _ rfl rfl (Arr.zeros w1 16 (.int .u32 0) _ _ (by rfl)) (cellsA_size _ _) (by kernel_rfl) (w32_all _ _) ?_)
        have hmv : w1.heap.size ≠ gv := by have := HV.out.lt (by decide); omega
        refine wp_gen (fun W => PSt w h b W ∧ Arr W w1.heap.size 16 (w32 (le4 b)) ∧ Arr W gv 16 (w32 v3)) ⟨(HS.out.alloc _).cells HS.out.2.2.2.2 _, (Arr.zeros w1 16 (.int .u32 0) _ _ (by rfl)).stored _, Arr.farCells hmv _ _ (HV.out.alloc _)⟩ ?_
        clear HS HV
        generalize w1.heap.size = gm at *
        generalize hm0 : le4 b = m at *
        rintro W6 ⟨hS, hM, hV⟩
        go_upto_region 13 with fail
        go_loopw [50] (GLoop4 w h b m gm gv v3) (fun i _ => 10 - (intOf i).toNat)
        case atStart => exact ⟨0, by omega, rfl, hS, hM, hV⟩
        case round =>
          clear hS hM hV
          obtain ⟨r, hr', rfl, hS, hM, hV⟩ := hrel
          by_cases hr : r < 10
          · have hr10 : (r : Int) < 10 := by omega
            have HX := Lib.hid (show roundf m r (rounds m r v3) = rounds m (r + 1) v3 from rfl)
            generalize rounds m r v3 = v at *
            have ko := gordered_is m r hr
            have kr := ground_is (fun k => m (ord r k)) v
            rw [gRound_is] at kr
            generalize (fun k => m (ord r k)) = mo at *
            generalize roundf m r v = v2 at *
            have HS := Lib.hid hS; have HV := Lib.hid hV; have HM := Lib.hid hM
            clear hS hM hV
            go_upto_region 15 with fail
            have HT2 := Lib.hid (HT.out.keep HS.out.1)
            refine wp_loose [(53, []), (54, []), (55, []), (56, [54, 55]), (57, [53, 56])]
              (GPressR m v mo v2 r) (fun d => false) (by kernel_rfl) (by kernel_rfl) (fun _ _ _ _ h hb => h.keep hb) ?_ ?_
            · refine opsrun_cons ?_ (opsrun_cons ?_ (opsrun_cons ?_ (opsrun_cons ?_ (opsrun_cons ?_ opsrun_nil))))
              all_goals
                refine OpRuns.any ?_
                intro Q0 σ W' K hb hn hK
                simp only [fill, List.map, Act.put, List.setIfInBounds_toArray, List.set_cons_zero, List.set_cons_succ] at hK ⊢
              · clear hn
                rw [if_pos]
                · refine wp_pieceA 43 26 _ rfl gv 0 16 16 (w32 v) (w32 v) rfl (HV.out.keep hb) (by decide) (fun j _ => by rw [Nat.zero_add]) (by kernel_rfl) (by kernel_rfl) ?_
                  exact hK _ _ rfl (Below.refl _ _) (fun h => absurd h (by decide))
                · rfl
              · clear hn
                rw [if_pos]
                · refine wp_pieceA 43 26 _ rfl gm 0 16 16 (w32 m) (w32 m) rfl (HM.out.keep hb) (by decide) (fun j _ => by rw [Nat.zero_add]) (by kernel_rfl) (by kernel_rfl) ?_
                  exact hK _ _ rfl (Below.refl _ _) (fun h => absurd h (by decide))
                · rfl
              · clear hn
                go_simp
                exact hK _ _ rfl (Below.refl _ _) (fun h => absurd h (by decide))
              · have h54 : σ 54 = _ := hn 54 (by decide)
                have h55 : σ 55 = _ := hn 55 (by decide)
                clear hn
                simp only [h54, h55] at hK
                go_simp
                go_at_call 16
                refine (ko _ (HT2.out.keep hb)).mono ?_
                rintro e w1 ⟨rfl, hb1⟩
                exact hK _ _ rfl hb1 (fun h => absurd h (by decide))
              · have h53 : σ 53 = _ := hn 53 (by decide)
                have h56 : σ 56 = _ := hn 56 (by decide)
                clear hn
                simp only [h53, h56] at hK
                go_simp
                go_at_call 15
                refine (kr _).mono ?_
                rintro e w1 ⟨rfl, hb1⟩
                exact hK _ _ rfl hb1 (fun h => absurd h (by decide))
            · intro σ W' hb hR' hF
              have h57 : σ 57 = _ := hR' 57 (by decide)
              replace HS := Lib.hid (HS.out.keep hb); replace HV := Lib.hid (HV.out.keep hb); replace HM := Lib.hid (HM.out.keep hb)
              clear hR' hF hb HT2
              simp only [fill, List.map, Act.put, List.setIfInBounds_toArray, List.set_cons_zero, List.set_cons_succ, List.length_cons, List.length_nil, List.drop_succ_cons, List.drop_zero, Nat.reduceAdd, h57]
              clear h57
              go_upto_region 16 with (refine wpList_storeA rfl 43 _ _ rfl rfl gv 16 _ _ rfl rfl HV.out (cellsA_size _ _) (by kernel_rfl) (w32_all _ _) ?_)
              refine wp_gen (fun W => PSt w h b W ∧ Arr W gm 16 (w32 m) ∧ Arr W gv 16 (w32 (rounds m (r + 1) v3))) ⟨HS.out.cells ltv _, Arr.farCells (Ne.symm hmv) _ _ HM.out, by rw [← HX.out]; exact HV.out.stored _⟩ ?_
              clear HS HV HM
              rintro W7 ⟨hS, hM, hV⟩
              go_wp2
              go_roundw
              case rel => exact ⟨r + 1, by omega, by go_num, hS, hM, hV⟩
              case measure => simp [intOf]; omega
          · obtain rfl : r = 10 := by omega
            go_upto_region 18 with fail
            obtain ⟨pp, hpp⟩ : ∃ pp, press h b n last = pp := ⟨_, rfl⟩
            have hpj : ∀ j, xor32 (h j) (xor32 (rounds m 10 v3 j) (rounds m 10 v3 (j + 8))) = pp j := fun j => by rw [← xor32_assoc, ← hpp, ← hfirst, ← hm0]; rfl
            have hpp2 := Lib.hid hpp
            generalize rounds m 10 v3 = u at *
            clear hM
            have hS0 : PSt5 w h pp 0 wr := ⟨hS.1, hS.2.1.same (fun j _ => by show Value.int .u32 (h j) = Value.int .u32 (hrow h pp 0 j); unfold hrow; rw [if_neg (by omega)]), hS.2.2.2.1⟩
            clear hS
            go_loopw [59] (PLoop5 w h pp u gv) (fun i _ => 8 - (intOf i).toNat)
            case atStart => exact ⟨0, by omega, rfl, hS0, hV⟩
            case round =>
              clear hS0 hV
              obtain ⟨i, hi, rfl, hS, hV⟩ := hrel
              by_cases hlt : i < 8
              · have hi8 : (i : Int) < 8 := by omega
                have hw1 : IntKind.i64.wrap ((i : Int) + 8) = (i : Int) + 8 := IntWalk.i64_in _ (by omega)
                obtain ⟨ch, fh⟩ := hS.2.1 i hlt
                obtain ⟨cv, _⟩ := hV i (by omega)
                obtain ⟨cv8, _⟩ := hV (i + 8) (by omega)
                simp only [w32] at ch cv cv8
                rw [show hrow h pp i i = h i by unfold hrow; rw [if_neg (by omega)]] at ch
                have HS := Lib.hid hS; have HV := Lib.hid hV
                clear hS hV
                go_upto_region 20 with fail
                go_region
                go_upto_region 21 with fail
                refine wp_gen (fun W => PSt5 w h pp (i + 1) W ∧ Arr W gv 16 (w32 u)) ⟨⟨(HS.out.1.setCell (Nat.le_refl _) _).drew, Arr.drew ?_, Arr.drew (HS.out.2.2.far (by omega) _ _)⟩, Arr.drew (HV.out.far (by omega) _ _)⟩ ?_
                · refine (HS.out.2.1.set i (.int .u32 (pp i)) hlt).same (fun j _ => hrow_set h pp i j) |> fun hh => ?_
                  rw [← hpj i] at hh
                  exact hh
                clear HS HV ch cv cv8 fh hw1
                rintro W4 ⟨hS, hV⟩
                go_wp2
                go_roundw
                case rel => exact ⟨i + 1, by omega, by go_num, hS, hV⟩
                case measure => simp [intOf]; omega
              · obtain rfl : i = 8 := by omega
                have HS := Lib.hid hS
                have hP : Arr wr w.heap.size 8 (w32 pp) := hS.2.1.same (fun j hj => by show Value.int .u32 (hrow h pp 8 j) = Value.int .u32 (pp j); unfold hrow; rw [if_pos hj])
                have hR := hS.2.2
                clear hS hV
                have HP := Lib.hid hP; have HR := Lib.hid hR
                clear hP hR
                go_wp2_with (first
                  | refine wpList_loadA rfl 27 26 _ rfl w.heap.size 8 (w32 pp) rfl HP.out (by kernel_rfl) (by kernel_rfl) ?_
                  | refine wpList_storeA rfl 27 _ _ rfl rfl (w.heap.size + 2) 8 _ _ rfl rfl HR.out (cellsA_size _ _) (by kernel_rfl) (w32_all _ _) ?_)
                have ld := run_loadVarA (P := Tryd.prog) (HR.out.stored (w32 pp)) 27 26 (by kernel_rfl) (by kernel_rfl)
                exact bodyPost_ret (v := .agg (cellsA 8 (w32 pp))) (results_cellA rfl rfl ld) rfl ⟨by rw [hpp2.out], belowCells HS.out.1 _ (by omega) _ _⟩
end Go.Proofs.YtajjfonodfncmaaDoor
