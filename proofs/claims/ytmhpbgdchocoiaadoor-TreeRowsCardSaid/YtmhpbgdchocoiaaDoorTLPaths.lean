/-
  The walk of TreePaths: it answers true, where the program's calls do what is asked of them. (Written by gen_tpaths.py.)
-/
import Derived.Test.YtmhpbgdchocoiaaDoorTLBuilds
namespace Go.Proofs.YtmhpbgdchocoiaaDoor
open Go Go.RowKit Go.Sort Go.BigFrame
set_option linter.unusedVariables false

/-- Rows of numbers, by a letter for their address. -/
def RowsA (w : World) (a : Option Addr) (len : Nat) (A : Nat → Option Addr) (l c : Nat → Nat) (Z : Nat → List Int) : Prop :=
  len ≤ maxLen ∧ ∀ j, j < len → ∃ b off : Nat, a = some ⟨b, off, none⟩ ∧ w.cell? ⟨b, off + j, none⟩ = some (.slice (A j) (l j) (c j)) ∧ RowA w (A j) (l j) (Z j) ∧ ∀ n ∈ Z j, U n
theorem path_yes {L : Nat} {f : Nat → ByteArray} {i : Int} {W : World} (hc : L ≠ 0 ∧ 0 ≤ i ∧ i < 2 ^ (L - 1)) {e : Ending} {w' : World} (h : PathPost L f i W e w') : Below W.heap.size W w' ∧ ∃ a c, e = .returned (.tuple #[.slice a (L - 1) c, .bool true]) ∧ StrS w' a (L - 1) c (pathB f i.toNat) := by
  rcases h with ⟨hb, ⟨_, _, _, p, cp, e1, hP, _⟩ | ⟨hno, _⟩⟩
  · exact ⟨hb, p, cp, e1, hP⟩
  · exact absurd hc hno
def TPRel (w : World) (f : Nat → ByteArray) (l : Nat → Nat) (N : Nat) (s i : Value) (W : World) : Prop := ∃ j : Nat, j ≤ N ∧ i = .int .i64 j ∧ (∀ q, q < j → l q ≤ 10) ∧ MadeG 9 w W s (strV f j)
def TPathsR (am b p : Option Addr) (lm cm d cp L cb m N g1 : Nat) (R : ByteArray) (sl : Nat) (v : Value) (W : World) : Prop :=
  match sl with
  | 80 => v = .slice p d cp
  | 81 => v = .int .i64 (d : Int)
  | 82 => v = .int .i64 (d : Int)
  | 86 => v = .slice b L cb
  | 87 => v = .string R
  | 88 => v = .int .i64 (d : Int)
  | 89 => v = .int .i64 (m : Int)
  | 90 => v = .agg #[.slice am lm cm, .slice none 0 0, .slice p d cp]
  | 94 => v = .slice b L cb
  | 95 => v = .string R
  | 96 => v = .int .i64 (d : Int)
  | 97 => v = .int .i64 ((d : Int) + 1)
  | 98 => v = .int .i64 (m : Int)
  | 99 => v = .agg #[.slice am lm cm, .slice none 0 0, .slice p d cp]
  | 100 => v = .bool false
  | 104 => v = .slice b L cb
  | 105 => v = .string R
  | 106 => v = .int .i64 (d : Int)
  | 107 => v = .int .i64 (m : Int)
  | 108 => v = .int .i64 (d : Int)
  | 109 => v = .int .u64 (d : Int)
  | 110 => v = .int .i64 (N : Int)
  | 111 => v = .int .i64 ((m : Int) + (N : Int))
  | 112 => v = .agg #[.slice am lm cm, .slice none 0 0, .slice p d cp]
  | 113 => v = .bool false
  | _ => v = .bool true
theorem TPathsR.keep {am b p : Option Addr} {lm cm d cp L cb m N g1 : Nat} {R : ByteArray} {sl : Nat} {v : Value} {W W' : World} (h : TPathsR am b p lm cm d cp L cb m N g1 R sl v W) (hb : Below W.heap.size W W') : TPathsR am b p lm cm d cp L cb m N g1 R sl v W' := by
  unfold TPathsR at *
  split at h
  all_goals first | exact h
set_option maxRecDepth 100000 in
set_option maxHeartbeats 8000000 in
theorem tpaths_body (G : World → Prop) (hA : AskTree G) (aw : ∀ W, G W → Calls Tryd.prog 9 #[] W fun e w' => e = .returned (.bool true) ∧ Below W.heap.size W w') (a : Option Addr) (len cap : Nat) (A : Nat → Option Addr) (l c : Nat → Nat) (Z : Nat → List Int) (k i : Int) (w : World) (hG0 : G w)
    (hR : RowsA w a len A l c Z) (hk : 0 ≤ k ∧ k < 256) (hi : 0 ≤ i ∧ i < 65536) : Calls Tryd.prog 5 #[.slice a len cap, .int .u8 k, .int .u16 i] w fun e w' => e = .returned (.bool true) ∧ Below w.heap.size w w' := by
  have HK := Lib.hid (fun (W W' : World) => @AskTree.keep G hA W W')
  have HG0 := Lib.hid hG0
  have HA := Lib.hid hA
  have hlm := hR.1
  unfold maxLen at hlm
  have HR := Lib.hid hR.2
  obtain ⟨i0, ki, kz0, kz1, kz2⟩ := info_parts infoS
  obtain ⟨d, hd⟩ : ∃ d : Nat, k.tmod 6 = (d : Int) := ⟨(k.tmod 6).toNat, by rw [Int.tmod_eq_emod_of_nonneg (by omega)]; omega⟩
  have hd5 : d ≤ 5 := by rw [Int.tmod_eq_emod_of_nonneg (by omega)] at hd; omega
  have hw0 : IntKind.u8.wrap (d : Int) = (d : Int) := by rw [IntKind.wrap_u8]; omega
  have hw1 : IntKind.u64.wrap (d : Int) = (d : Int) := by rw [IntKind.wrap_u64]; omega
  have hp := wrap64_pow d (by omega)
  have HRN := Lib.hid (rowsN_two (d := d) (by omega))
  have h32 : 2 ^ d ≤ 32 := Nat.le_trans (Nat.pow_le_pow_right (by decide) hd5) (by decide)
  have hNp : 0 < 2 ^ d := Nat.pow_pos (by decide)
  obtain ⟨N, hN⟩ : ∃ N, 2 ^ d = N := ⟨_, rfl⟩
  have HN := Lib.hid hN
  rw [hN] at hp h32 hNp
  have HF := Lib.hid (fun j => leafB_size (rowB (Z j)))
  obtain ⟨f, hf⟩ : ∃ f : Nat → ByteArray, f = fun j => leafB (rowB (Z j)) := ⟨_, rfl⟩
  have HFD : Hid (∀ j, leafB (rowB (Z j)) = f j) := Lib.hid fun j => by rw [hf]
  clear hA hR hG0 hN hf
  by_cases c1 : (len : Int) < (N : Int)
  · go_enter Tryd.func5, Tryd.ntmps5
    go_wp2_with (go_at_call 9; (with_reducible refine (aw _ HG0.out).mono ?_); rintro e w1 ⟨rfl, hb⟩)
    go_ret
    exact ⟨rfl, hb⟩
  go_enter Tryd.func5, Tryd.ntmps5
  go_upto_region 6 with fail
  clear hd hk hw0
  have HNL := Lib.hid (show N ≤ len by omega)
  have HI := Lib.hid hi
  have HWP := Lib.hid hp
  clear hi
  go_loopw [8, 9] (TPRel w f l N) (fun _ i _ => N - (intOf i).toNat)
  case atStart => exact ⟨0, Nat.zero_le _, rfl, fun q hq => by omega, by simp [strV]; exact MadeG.start _ _⟩
  case round =>
    obtain ⟨j, hj, rfl, hl10, hM⟩ := hrel
    have HL := Lib.hid hl10
    clear hl10
    by_cases hlt : j < N
    · obtain ⟨bb, off, rfl, hc, hrow, hu⟩ := HR.out j (by omega)
      have c0 := bkeep hM.2 hc
      have hlt1 : (j : Int) < (N : Int) := by omega
      have hlt2 : (j : Int) < (len : Int) := by omega
      by_cases d1 : ((l j : Nat) : Int) < 1
      · have HB := Lib.hid hM.2
        clear hM hc hrow hu
        generalize l j = lj at *
        go_wp2_with (go_at_call 9; (with_reducible refine (aw _ (HK.out _ _ HG0.out HB.out)).mono ?_); rintro e w1 ⟨rfl, hb⟩)
        go_ret
        exact ⟨rfl, bthen HB.out hb⟩
      by_cases d2 : 10 < ((l j : Nat) : Int)
      · have HB := Lib.hid hM.2
        clear hM hc hrow hu
        generalize l j = lj at *
        go_wp2_with (go_at_call 9; (with_reducible refine (aw _ (HK.out _ _ HG0.out HB.out)).mono ?_); rintro e w1 ⟨rfl, hb⟩)
        go_ret
        exact ⟨rfl, bthen HB.out hb⟩
      have kb := rlbase_is (A j) (l j) (c j) (Z j) wr (hrow.keep hM.2) hu (by omega)
      rw [HFD.out] at kb
      have HL2 : Hid (∀ q, q < j + 1 → l q ≤ 10) := Lib.hid fun q hq => by
        by_cases e : q = j
        · subst e; omega
        · exact HL.out q (by omega)
      have HSN := Lib.hid (strV_snoc f j)
      have hlen := strV_len f j
      have HMB := Lib.hid hM
      have HC := Lib.hid hc
      clear hM hc hrow hu
      generalize f j = z at *
      generalize l j = lj at *
      generalize c j = cj at *
      generalize A j = aj at *
      go_upto_region 10 with fail
      go_wp2_with (first
        | (go_at_call 22; (with_reducible refine kb.mono ?_); rintro e w1 ⟨rfl, hb⟩; have hown := (HMB.out.keep hb).1; have hsz := (HMB.out.keep hb).2.size)
        | (at_builtin; refine wpList_append_own _ rfl _ _ 22 rfl w.heap.size 9 i0 (.string ⟨#[]⟩) 1 16 Tryd.underlying22 ki kz0 kz1 kz2 rfl (by decide) _ _ _ rfl (hown.alloc _) ⟨w1.heap.size, 0, none⟩ 1 1 [.string z] rfl rfl ?c1 ?c2 ?c3 ?c4 ?c5 ?_))
      case c1 => exact one_src (by simp [go_sem])
      case c2 => first | rfl | (intro u hu; simp at hu; subst hu; rfl)
      case c3 => unfold maxLen; omega
      case c4 => omega
      case c5 => simp; omega
      · intro v' w2 hown2 hgrow _
        have R := Lib.hid (((HMB.out.keep hb).keep ((Below.refl _ _).alloc (Nat.le_refl _) (.cells #[.string z] 9))).grow (by rw [hlen]; exact hown2) hgrow)
        clear hown2 hgrow hown
        go_wp2
        go_roundw
        case rel => exact ⟨j + 1, by omega, by go_num, HL2.out, by rw [← HSN.out]; exact R.out⟩
        case measure => simp [intOf]; omega
    · obtain rfl : j = N := by omega
      obtain ⟨asl, cs, rfl, hSS⟩ := hM.strs
      have HB0 := Lib.hid hM.2
      have ku := HA.out.build asl j cs f wr hSS (by omega) (fun q hq => by have := HF.out q; rw [HFD.out] at this; omega) (HK.out _ _ HG0.out HB0.out)
      have hrn : rowsN j = d + 1 := by rw [← HN.out]; exact HRN.out
      rw [hrn] at ku
      obtain ⟨L, hLd⟩ : ∃ L, d + 1 = L := ⟨_, rfl⟩
      rw [hLd] at ku
      obtain ⟨iN, rfl⟩ := Int.eq_ofNat_of_zero_le HI.out.1
      have hiN : iN < 65536 := by have := HI.out.2; omega
      obtain ⟨m, hm⟩ : ∃ m, iN % j = m := ⟨_, rfl⟩
      have hmN : m < j := by rw [← hm]; exact Nat.mod_lt _ hNp
      have hrem : (iN : Int).tmod (j : Int) = (m : Int) := by rw [Int.tmod_eq_emod_of_nonneg (by omega), ← hm]; exact (Int.natCast_emod iN j).symm
      have hwi : IntKind.i64.wrap (iN : Int) = (iN : Int) := IntWalk.i64_in _ (by omega)
      have hwm : IntKind.i64.wrap (m : Int) = (m : Int) := IntWalk.i64_in _ (by omega)
      have hjz : ¬ (j : Int) = 0 := by omega
      have hjlt : ¬ (j : Int) < (j : Int) := by omega
      have HHM := Lib.hid hm
      clear hM hSS hrn hm hlt c1
      go_upto_region 12 with (go_at_call 10; (with_reducible refine ku.mono ?_); rintro e w2 ⟨hb2, b, cb, rfl, hT2⟩)
      have HT := Lib.hid (hT2 0 (Nat.zero_le _) (fun _ _ => Nat.zero_le _))
      have HB := Lib.hid (bthen HB0.out hb2)
      clear hT2 hb2 ku HB0
      have hcond : L ≠ 0 ∧ 0 ≤ (m : Int) ∧ (m : Int) < 2 ^ (L - 1) := ⟨by omega, by omega, by
        rw [← hLd, show d + 1 - 1 = d by omega]
        have e : ((2 ^ d : Nat) : Int) = 2 ^ d := by simp
        rw [← e, HN.out]; omega⟩
      have kp := (HA.out.path 0 b L cb f (m : Int) w2 HT.out (by omega) (by omega) (HK.out _ _ HG0.out HB.out)).mono fun e w' h => path_yes hcond h
      rw [show L - 1 = d by omega, Int.toNat_natCast] at kp
      clear hcond
      go_upto_region 14 with (go_at_call 15; (with_reducible refine kp.mono ?_); rintro e w3 ⟨hb3, p, cp, rfl, hP⟩)
      replace HT := Lib.hid (HT.out.keep hb3)
      replace HB := Lib.hid (bthen HB.out hb3)
      have HP := Lib.hid hP
      clear hb3 hP kp
      obtain ⟨bb, off, rfl, hc, hrow, hu⟩ := HR.out m (Nat.lt_of_lt_of_le hmN HNL.out)
      have c0 := bkeep HB.out hc
      have hml : (m : Int) < (len : Int) := by have := HNL.out; omega
      have hlm10 := HL.out m hmN
      have hroot := fun (W : World) (hT : TreeA 0 W b L cb f) (hg : G W) => HA.out.root 0 b L cb f W hT (by omega) hg
      rw [if_neg (show ¬ L = 0 by omega), show L - 1 = d by omega] at hroot
      have s32 : ∀ q, (pathB f m q).size = 32 := fun q => lev_size32 f (fun j => by rw [← HFD.out]; exact HF.out j) _ _
      have e0 : leafB (openB (Z m) []) = f m := by rw [openB_nil]; exact HFD.out m
      have kl := fun (dd ii : Int) (h1 : -9223372036854775808 ≤ dd ∧ dd ≤ 9223372036854775807) (h2 : -9223372036854775808 ≤ ii ∧ ii ≤ 9223372036854775807) (W : World) (hb : Below w.heap.size w W) (hP : StrS W p d cp (pathB f m)) (hg : G W) => HA.out.leads (lev f d 0) dd ii (A m) (l m) (c m) (Z m) none 0 0 [] p d cp (pathB f m) W (hrow.keep hb) hu (nil_qrow _) uqnil (by omega) (by omega) hP (by omega) (fun q _ => by rw [s32]; omega) h1 h2 hg
      rw [e0] at kl
      have b1 : leadsB (lev f d 0) (d : Int) (m : Int) (f m) (pathB f m) d = true := by
        unfold leadsB
        refine decide_eq_true ⟨by omega, by omega, by omega, ?_, rfl, fun q _ => s32 q, ?_⟩
        · have e : ((2 ^ d : Nat) : Int) = 2 ^ d := by simp
          rw [Int.toNat_natCast, ← e, HN.out]; omega
        · rw [Int.toNat_natCast, climb_path, Nat.div_eq_of_lt (by rw [HN.out]; exact hmN)]
      have b2 : leadsB (lev f d 0) ((d : Int) + 1) (m : Int) (f m) (pathB f m) d = false := leadsB_no fun h => by have := h.2.2.2.2; omega
      have b3 : leadsB (lev f d 0) (d : Int) ((m : Int) + (j : Int)) (f m) (pathB f m) d = false := leadsB_no fun h => by
        have h4 := h.2.2.2.1
        have e : ((2 ^ d : Nat) : Int) = 2 ^ d := by simp
        rw [Int.toNat_natCast, ← e, HN.out] at h4
        omega
      have k1 := kl (d : Int) (m : Int) (by omega) (by omega)
      have k2 := kl ((d : Int) + 1) (m : Int) (by omega) (by omega)
      have k3 := kl (d : Int) ((m : Int) + (j : Int)) (by omega) (by omega)
      rw [b1] at k1
      rw [b2] at k2
      rw [b3] at k3
      clear b1 b2 b3 kl e0 s32 hc hrow hu
      generalize lev f d 0 = R at *
      have kr := hroot
      clear hroot
      have hp2 : IntKind.i64.wrap (2 ^ min d 64) = (j : Int) := by
        rw [Nat.min_eq_left (by omega)]
        have e : ((2 ^ d : Nat) : Int) = 2 ^ d := by simp
        rw [← e, HN.out]; exact IntWalk.i64_in _ (by omega)
      have hd1 : IntKind.i64.wrap ((d : Int) + 1) = (d : Int) + 1 := IntWalk.i64_in _ (by omega)
      have hd2 : wrap64 ((d : Int) + 1) = (d : Int) + 1 := IntWalk.wrap64_in _ (by omega)
      have hd3 : IntKind.i64.wrap ((m : Int) + (j : Int)) = (m : Int) + (j : Int) := IntWalk.i64_in _ (by omega)
      have hd4 : wrap64 ((m : Int) + (j : Int)) = (m : Int) + (j : Int) := IntWalk.wrap64_in _ (by omega)
      generalize A m = am at *
      generalize l m = lm at *
      generalize c m = cm at *
      go_upto_region 15 with fail
      refine wp_gen (fun W => Below w.heap.size w W ∧ OpenV W w3.heap.size (.slice am lm cm) (.slice none 0 0) (.slice p d cp) ∧ TreeA 0 W b L cb f ∧ StrS W p d cp (pathB f m)) ?_ ?_
      · have hb := (Below.refl w3.heap.size w3).alloc (Nat.le_refl _) (.cells #[.slice am lm cm, .slice none 0 0, .slice p d cp] 36)
        exact ⟨bthen HB.out hb, Open_alloc _ _ _ _ _, HT.out.keep hb, HP.out.keep hb⟩
      generalize w3.heap.size = g1
      clear HB HT HP c0
      rintro W4 ⟨hB, ⟨x0, x1, x2⟩, hT, hP⟩
      have HB := Lib.hid hB; have HT := Lib.hid hT; have HP := Lib.hid hP
      clear hB hT hP
      obtain ⟨N, hNj⟩ : ∃ N, j = N := ⟨_, rfl⟩
      subst hNj
      refine wp_loose [(75, []), (76, [75]), (77, [76]), (78, [76, 77]), (79, [78]), (80, [79]), (81, [79, 80]), (82, [79]), (83, [79, 81, 82]), (84, [79, 83]), (85, [84]), (86, [85]), (87, [85, 86]), (88, [85]), (89, [85]), (90, [85]), (91, [85, 87, 88, 89, 90]), (92, [85, 91]), (93, [92]), (94, [93]), (95, [93, 94]), (96, [93]), (97, [93, 96]), (98, [93]), (99, [93]), (100, [93, 95, 97, 98, 99]), (101, [93, 100]), (102, [93, 101]), (103, [102]), (104, [103]), (105, [103, 104]), (106, [103]), (107, [103]), (108, [103]), (109, [103, 108]), (110, [103, 109]), (111, [103, 107, 110]), (112, [103]), (113, [103, 105, 106, 111, 112]), (114, [103, 113]), (115, [103, 114])]
        (TPathsR am b p lm cm d cp L cb m j g1 R) (fun d => false) (by kernel_rfl) (by kernel_rfl) (fun _ _ _ _ h hb => h.keep hb) ?_ ?_
      · refine opsrun_cons ?_ (opsrun_cons ?_ (opsrun_cons ?_ (opsrun_cons ?_ (opsrun_cons ?_ (opsrun_cons ?_ (opsrun_cons ?_ (opsrun_cons ?_ (opsrun_cons ?_ (opsrun_cons ?_ (opsrun_cons ?_ (opsrun_cons ?_ (opsrun_cons ?_ (opsrun_cons ?_ (opsrun_cons ?_ (opsrun_cons ?_ (opsrun_cons ?_ (opsrun_cons ?_ (opsrun_cons ?_ (opsrun_cons ?_ (opsrun_cons ?_ (opsrun_cons ?_ (opsrun_cons ?_ (opsrun_cons ?_ (opsrun_cons ?_ (opsrun_cons ?_ (opsrun_cons ?_ (opsrun_cons ?_ (opsrun_cons ?_ (opsrun_cons ?_ (opsrun_cons ?_ (opsrun_cons ?_ (opsrun_cons ?_ (opsrun_cons ?_ (opsrun_cons ?_ (opsrun_cons ?_ (opsrun_cons ?_ (opsrun_cons ?_ (opsrun_cons ?_ (opsrun_cons ?_ (opsrun_cons ?_ opsrun_nil))))))))))))))))))))))))))))))))))))))))
        all_goals
          refine OpRuns.any ?_
          intro Q0 σ W' K hb hn hK
          simp only [fill, List.map, Act.put, List.setIfInBounds_toArray, List.set_cons_zero, List.set_cons_succ] at hK ⊢
        · clear hn
          go_simp
          go_at_call 9
          refine (aw _ (HK.out _ _ HG0.out (bthen HB.out hb))).mono ?_
          rintro e w1 ⟨rfl, hb1⟩
          exact hK _ _ rfl hb1 (fun h => absurd h (by decide))
        · have h75 : σ 75 = _ := hn 75 (by decide)
          clear hn
          simp only [h75] at hK
          go_simp
          exact hK _ _ rfl (Below.refl _ _) (fun h => absurd h (by decide))
        · have h76 : σ 76 = _ := hn 76 (by decide)
          clear hn
          simp only [h76] at hK
          go_simp
          exact hK _ _ rfl (Below.refl _ _) (fun h => absurd h (by decide))
        · have h76 : σ 76 = _ := hn 76 (by decide)
          have h77 : σ 77 = _ := hn 77 (by decide)
          clear hn
          simp only [h76, h77] at hK
          go_simp
          exact hK _ _ rfl (Below.refl _ _) (fun h => absurd h (by decide))
        · have h78 : σ 78 = _ := hn 78 (by decide)
          clear hn
          simp only [h78] at hK
          go_simp
          exact hK _ _ rfl (Below.refl _ _) (fun h => absurd h (by decide))
        · have h79 : σ 79 = _ := hn 79 (by decide)
          clear hn
          simp only [h79] at hK
          go_simp
          exact hK _ _ rfl (Below.refl _ _) (fun h => absurd h (by decide))
        · have h79 : σ 79 = _ := hn 79 (by decide)
          have h80 : σ 80 = _ := hn 80 (by decide)
          clear hn
          simp only [h79, h80] at hK
          go_simp
          exact hK _ _ rfl (Below.refl _ _) (fun h => absurd h (by decide))
        · have h79 : σ 79 = _ := hn 79 (by decide)
          clear hn
          simp only [h79] at hK
          go_simp
          exact hK _ _ rfl (Below.refl _ _) (fun h => absurd h (by decide))
        · have h79 : σ 79 = _ := hn 79 (by decide)
          have h81 : σ 81 = _ := hn 81 (by decide)
          have h82 : σ 82 = _ := hn 82 (by decide)
          clear hn
          simp only [h79, h81, h82] at hK
          go_simp
          exact hK _ _ rfl (Below.refl _ _) (fun h => absurd h (by decide))
        · have h79 : σ 79 = _ := hn 79 (by decide)
          have h83 : σ 83 = _ := hn 83 (by decide)
          clear hn
          simp only [h79, h83] at hK
          go_simp
          exact hK _ _ rfl (Below.refl _ _) (fun h => absurd h (by decide))
        · have h84 : σ 84 = _ := hn 84 (by decide)
          clear hn
          simp only [h84] at hK
          go_simp
          exact hK _ _ rfl (Below.refl _ _) (fun h => absurd h (by decide))
        · have h85 : σ 85 = _ := hn 85 (by decide)
          clear hn
          simp only [h85] at hK
          go_simp
          exact hK _ _ rfl (Below.refl _ _) (fun h => absurd h (by decide))
        · have h85 : σ 85 = _ := hn 85 (by decide)
          have h86 : σ 86 = _ := hn 86 (by decide)
          clear hn
          simp only [h85, h86] at hK
          go_simp
          go_at_call 12
          refine (kr _ (HT.out.keep hb) (HK.out _ _ HG0.out (bthen HB.out hb))).mono ?_
          rintro e w1 ⟨rfl, hb1⟩
          exact hK _ _ rfl hb1 (fun h => absurd h (by decide))
        · have h85 : σ 85 = _ := hn 85 (by decide)
          clear hn
          simp only [h85] at hK
          go_simp
          exact hK _ _ rfl (Below.refl _ _) (fun h => absurd h (by decide))
        · have h85 : σ 85 = _ := hn 85 (by decide)
          clear hn
          simp only [h85] at hK
          go_simp
          exact hK _ _ rfl (Below.refl _ _) (fun h => absurd h (by decide))
        · have h85 : σ 85 = _ := hn 85 (by decide)
          clear hn
          simp only [h85] at hK
          have x0' := bkeep hb x0
          have x1' := bkeep hb x1
          have x2' := bkeep hb x2
          clear x0 x1 x2
          go_simp
          exact hK _ _ rfl (Below.refl _ _) (fun h => absurd h (by decide))
        · have h85 : σ 85 = _ := hn 85 (by decide)
          have h87 : σ 87 = _ := hn 87 (by decide)
          have h88 : σ 88 = _ := hn 88 (by decide)
          have h89 : σ 89 = _ := hn 89 (by decide)
          have h90 : σ 90 = _ := hn 90 (by decide)
          clear hn
          simp only [h85, h87, h88, h89, h90] at hK
          go_simp
          go_at_call 18
          refine (k1 _ (bthen HB.out hb) (HP.out.keep hb) (HK.out _ _ HG0.out (bthen HB.out hb))).mono ?_
          rintro e w1 ⟨rfl, hb1⟩
          exact hK _ _ rfl hb1 (fun h => absurd h (by decide))
        · have h85 : σ 85 = _ := hn 85 (by decide)
          have h91 : σ 91 = _ := hn 91 (by decide)
          clear hn
          simp only [h85, h91] at hK
          go_simp
          exact hK _ _ rfl (Below.refl _ _) (fun h => absurd h (by decide))
        · have h92 : σ 92 = _ := hn 92 (by decide)
          clear hn
          simp only [h92] at hK
          go_simp
          exact hK _ _ rfl (Below.refl _ _) (fun h => absurd h (by decide))
        · have h93 : σ 93 = _ := hn 93 (by decide)
          clear hn
          simp only [h93] at hK
          go_simp
          exact hK _ _ rfl (Below.refl _ _) (fun h => absurd h (by decide))
        · have h93 : σ 93 = _ := hn 93 (by decide)
          have h94 : σ 94 = _ := hn 94 (by decide)
          clear hn
          simp only [h93, h94] at hK
          go_simp
          go_at_call 12
          refine (kr _ (HT.out.keep hb) (HK.out _ _ HG0.out (bthen HB.out hb))).mono ?_
          rintro e w1 ⟨rfl, hb1⟩
          exact hK _ _ rfl hb1 (fun h => absurd h (by decide))
        · have h93 : σ 93 = _ := hn 93 (by decide)
          clear hn
          simp only [h93] at hK
          go_simp
          exact hK _ _ rfl (Below.refl _ _) (fun h => absurd h (by decide))
        · have h93 : σ 93 = _ := hn 93 (by decide)
          have h96 : σ 96 = _ := hn 96 (by decide)
          clear hn
          simp only [h93, h96] at hK
          go_simp
          exact hK _ _ rfl (Below.refl _ _) (fun h => absurd h (by decide))
        · have h93 : σ 93 = _ := hn 93 (by decide)
          clear hn
          simp only [h93] at hK
          go_simp
          exact hK _ _ rfl (Below.refl _ _) (fun h => absurd h (by decide))
        · have h93 : σ 93 = _ := hn 93 (by decide)
          clear hn
          simp only [h93] at hK
          have x0' := bkeep hb x0
          have x1' := bkeep hb x1
          have x2' := bkeep hb x2
          clear x0 x1 x2
          go_simp
          exact hK _ _ rfl (Below.refl _ _) (fun h => absurd h (by decide))
        · have h93 : σ 93 = _ := hn 93 (by decide)
          have h95 : σ 95 = _ := hn 95 (by decide)
          have h97 : σ 97 = _ := hn 97 (by decide)
          have h98 : σ 98 = _ := hn 98 (by decide)
          have h99 : σ 99 = _ := hn 99 (by decide)
          clear hn
          simp only [h93, h95, h97, h98, h99] at hK
          go_simp
          go_at_call 18
          refine (k2 _ (bthen HB.out hb) (HP.out.keep hb) (HK.out _ _ HG0.out (bthen HB.out hb))).mono ?_
          rintro e w1 ⟨rfl, hb1⟩
          exact hK _ _ rfl hb1 (fun h => absurd h (by decide))
        · have h93 : σ 93 = _ := hn 93 (by decide)
          have h100 : σ 100 = _ := hn 100 (by decide)
          clear hn
          simp only [h93, h100] at hK
          go_simp
          exact hK _ _ rfl (Below.refl _ _) (fun h => absurd h (by decide))
        · have h93 : σ 93 = _ := hn 93 (by decide)
          have h101 : σ 101 = _ := hn 101 (by decide)
          clear hn
          simp only [h93, h101] at hK
          go_simp
          exact hK _ _ rfl (Below.refl _ _) (fun h => absurd h (by decide))
        · have h102 : σ 102 = _ := hn 102 (by decide)
          clear hn
          simp only [h102] at hK
          go_simp
          exact hK _ _ rfl (Below.refl _ _) (fun h => absurd h (by decide))
        · have h103 : σ 103 = _ := hn 103 (by decide)
          clear hn
          simp only [h103] at hK
          go_simp
          exact hK _ _ rfl (Below.refl _ _) (fun h => absurd h (by decide))
        · have h103 : σ 103 = _ := hn 103 (by decide)
          have h104 : σ 104 = _ := hn 104 (by decide)
          clear hn
          simp only [h103, h104] at hK
          go_simp
          go_at_call 12
          refine (kr _ (HT.out.keep hb) (HK.out _ _ HG0.out (bthen HB.out hb))).mono ?_
          rintro e w1 ⟨rfl, hb1⟩
          exact hK _ _ rfl hb1 (fun h => absurd h (by decide))
        · have h103 : σ 103 = _ := hn 103 (by decide)
          clear hn
          simp only [h103] at hK
          go_simp
          exact hK _ _ rfl (Below.refl _ _) (fun h => absurd h (by decide))
        · have h103 : σ 103 = _ := hn 103 (by decide)
          clear hn
          simp only [h103] at hK
          go_simp
          exact hK _ _ rfl (Below.refl _ _) (fun h => absurd h (by decide))
        · have h103 : σ 103 = _ := hn 103 (by decide)
          clear hn
          simp only [h103] at hK
          go_simp
          exact hK _ _ rfl (Below.refl _ _) (fun h => absurd h (by decide))
        · have h103 : σ 103 = _ := hn 103 (by decide)
          have h108 : σ 108 = _ := hn 108 (by decide)
          clear hn
          simp only [h103, h108] at hK
          go_simp
          exact hK _ _ rfl (Below.refl _ _) (fun h => absurd h (by decide))
        · have h103 : σ 103 = _ := hn 103 (by decide)
          have h109 : σ 109 = _ := hn 109 (by decide)
          clear hn
          simp only [h103, h109] at hK
          go_simp
          exact hK _ _ rfl (Below.refl _ _) (fun h => absurd h (by decide))
        · have h103 : σ 103 = _ := hn 103 (by decide)
          have h107 : σ 107 = _ := hn 107 (by decide)
          have h110 : σ 110 = _ := hn 110 (by decide)
          clear hn
          simp only [h103, h107, h110] at hK
          go_simp
          exact hK _ _ rfl (Below.refl _ _) (fun h => absurd h (by decide))
        · have h103 : σ 103 = _ := hn 103 (by decide)
          clear hn
          simp only [h103] at hK
          have x0' := bkeep hb x0
          have x1' := bkeep hb x1
          have x2' := bkeep hb x2
          clear x0 x1 x2
          go_simp
          exact hK _ _ rfl (Below.refl _ _) (fun h => absurd h (by decide))
        · have h103 : σ 103 = _ := hn 103 (by decide)
          have h105 : σ 105 = _ := hn 105 (by decide)
          have h106 : σ 106 = _ := hn 106 (by decide)
          have h111 : σ 111 = _ := hn 111 (by decide)
          have h112 : σ 112 = _ := hn 112 (by decide)
          clear hn
          simp only [h103, h105, h106, h111, h112] at hK
          go_simp
          go_at_call 18
          refine (k3 _ (bthen HB.out hb) (HP.out.keep hb) (HK.out _ _ HG0.out (bthen HB.out hb))).mono ?_
          rintro e w1 ⟨rfl, hb1⟩
          exact hK _ _ rfl hb1 (fun h => absurd h (by decide))
        · have h103 : σ 103 = _ := hn 103 (by decide)
          have h113 : σ 113 = _ := hn 113 (by decide)
          clear hn
          simp only [h103, h113] at hK
          go_simp
          exact hK _ _ rfl (Below.refl _ _) (fun h => absurd h (by decide))
        · have h103 : σ 103 = _ := hn 103 (by decide)
          have h114 : σ 114 = _ := hn 114 (by decide)
          clear hn
          simp only [h103, h114] at hK
          go_simp
          exact hK _ _ rfl (Below.refl _ _) (fun h => absurd h (by decide))
      · intro σ W' hb hR' hF'
        have HB' := Lib.hid (bthen HB.out hb)
        have h115 : σ 115 = .bool true := hR' 115 (by decide)
        clear hR' hF' hb
        simp only [fill, List.map, Act.put, List.setIfInBounds_toArray, List.set_cons_zero, List.set_cons_succ, List.length_cons, List.length_nil, List.drop_succ_cons, List.drop_zero, Nat.reduceAdd, h115]
        go_wp2_with fail
        go_ret
        exact ⟨rfl, HB'.out⟩
end Go.Proofs.YtmhpbgdchocoiaaDoor
