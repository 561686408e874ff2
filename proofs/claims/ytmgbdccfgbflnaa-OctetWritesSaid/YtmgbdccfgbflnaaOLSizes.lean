/-
  The walk of OctetSizes: it answers true, where the program's calls do what is asked of them.
-/
import Derived.Test.YtmgbdccfgbflnaaOAsk
import Derived.Test.YtmgbdccfgbflnaaAppU
import Derived.Test.YtmgbdccfgbflnaaApps
namespace Go.Proofs.Ytmgbdccfgbflnaa
open Go Go.RowKit
set_option linter.unusedVariables false

theorem flat_snoc (qs : List (Int × Int)) (k : Nat) (h : k < qs.length) : flatN (qs.take (k + 1)) = flatN (qs.take k) ++ [(qs.getD k (0, 0)).1, (qs.getD k (0, 0)).2] := by
  have e : ∀ (l m : List (Int × Int)), flatN (l ++ m) = flatN l ++ flatN m := by
    intro l m
    induction l with
    | nil => rfl
    | cons x l ih => simp [flatN, ih]
  rw [List.take_succ_eq_append_getElem h, e]
  simp [flatN, List.getD, h]
theorem flat_take_len (qs : List (Int × Int)) (k : Nat) (h : k ≤ qs.length) : (flatN (qs.take k)).length = 2 * k := by rw [flatN_len, List.length_take]; omega
def SizL (w : World) (qs : List (Int × Int)) (v i : Value) (W : World) : Prop := ∃ k : Nat, k ≤ qs.length ∧ i = .int .i64 k ∧ MadeU w W v (flatN (qs.take k))

set_option maxRecDepth 100000 in
set_option maxHeartbeats 8000000 in
theorem osizes_body (hA : AskOct) (a1 : Option Addr) (len1 cap1 : Nat) (z1 : List Int) (a2 : Option Addr) (len2 cap2 : Nat) (z2 : List Int) (a3 : Option Addr) (len3 cap3 : Nat) (qs : List (Int × Int)) (w : World)
    (h1 : RowA w a1 len1 z1) (hu1 : ∀ x ∈ z1, U x) (hn1 : a1 = none → len1 = 0 ∧ cap1 = 0) (h2 : RowA w a2 len2 z2) (hu2 : ∀ x ∈ z2, U x) (hn2 : a2 = none → len2 = 0 ∧ cap2 = 0) (h3 : QRowA w a3 len3 qs) (hu3 : ∀ x ∈ qs, U x.1 ∧ U x.2) :
    Calls Try.prog 6 #[.slice a1 len1 cap1, .slice a2 len2 cap2, .slice a3 len3 cap3] w fun e w' => e = .returned (.bool true) ∧ Below w.heap.size w w' := by
  have aw := fun W => oawake hA W
  obtain ⟨i0, hi, hz0, hz1, hz2⟩ := info_parts info64'
  by_cases hbig : 50 < len1 ∨ 50 < len2 ∨ 50 < len3
  · clear hA h1 h2 h3
    rcases Decidable.em (50 < len1) with hb | hb
    · have hbI : (50 : Int) < (len1 : Int) := by omega
      go_enter Try.func6, Try.ntmps6
      go_wp2_with (go_at_call 7; ((with_reducible refine (aw _).mono ?_); rintro e w1 ⟨rfl, hb1⟩))
      go_ret
      exact ⟨rfl, hb1⟩
    · have hbI : ¬ (50 : Int) < (len1 : Int) := by omega
      rcases Decidable.em (50 < len2) with hc | hc
      · have hcI : (50 : Int) < (len2 : Int) := by omega
        go_enter Try.func6, Try.ntmps6
        go_wp2_with (go_at_call 7; ((with_reducible refine (aw _).mono ?_); rintro e w1 ⟨rfl, hb1⟩))
        go_ret
        exact ⟨rfl, hb1⟩
      · have hcI : ¬ (50 : Int) < (len2 : Int) := by omega
        have hdI : (50 : Int) < (len3 : Int) := by omega
        go_enter Try.func6, Try.ntmps6
        go_wp2_with (go_at_call 7; ((with_reducible refine (aw _).mono ?_); rintro e w1 ⟨rfl, hb1⟩))
        go_ret
        exact ⟨rfl, hb1⟩
  · have hbI : ¬ (50 : Int) < (len1 : Int) := by omega
    have hcI : ¬ (50 : Int) < (len2 : Int) := by omega
    have hdI : ¬ (50 : Int) < (len3 : Int) := by omega
    have hl1 := h1.1
    have hl2 := h2.1
    have hl3 := h3.1
    have H1 := Lib.hid h1; have H2 := Lib.hid h2; have H3 := Lib.hid h3
    have k1 := fun W h => hA.row a1 len1 cap1 z1 W h hu1 (by omega)
    have k2 := fun W h => hA.row a2 len2 cap2 z2 W h hu2 (by omega)
    have k3 := fun W h => hA.pairs a3 len3 cap3 qs W h hu3 (by omega)
    have hu12 : ∀ x ∈ z1 ++ z2, U x := fun x hx => (List.mem_append.1 hx).elim (hu1 x) (hu2 x)
    have hu4 : ∀ x ∈ flatN qs, U x := fun x hx => by
      obtain ⟨z, hz, rfl | rfl⟩ := flatN_mem qs x hx
      · exact (hu3 z hz).1
      · exact (hu3 z hz).2
    have k12 := fun a c W h => hA.row a (len1 + len2) c (z1 ++ z2) W h hu12 (by omega)
    have k4 := fun a c W h => hA.row a (flatN qs).length c (flatN qs) W h hu4 (by rw [flatN_len]; omega)
    rw [← rowB_append] at k12
    rw [pairB_row] at k3
    have hRs : ((rowB z1).size : Int) = 8 * (len1 : Int) := by rw [rowB_size]; omega
    have hR2 : (rowB z1).size + (rowB z2).size ≤ 1000 := by rw [rowB_size, rowB_size]; omega
    have hw8 : IntKind.i64.wrap (8 * (len1 : Int)) = 8 * (len1 : Int) := by rw [IntKind.wrap_i64]; omega
    have HC3 := Lib.hid h3.2.2
    clear hA h1 h2 h3 hu1 hu2 hu3 hu12 hu4
    generalize rowB z1 = R1 at *
    generalize rowB z2 = R2 at *
    generalize rowB (flatN qs) = R4 at *
    subst hl3
    go_enter Try.func6, Try.ntmps6
    go_upto_region 5 with fail
    go_loopw [7, 8] (SizL w qs) (fun _ i _ => qs.length - (intOf i).toNat)
    case atStart => exact ⟨0, Nat.zero_le _, rfl, MadeU.start w⟩
    case round =>
      obtain ⟨k, hk, rfl, hM⟩ := hrel
      have hlen := flat_take_len qs k hk
      by_cases hlt : k < qs.length
      · obtain ⟨b, off, rfl, g0, g1⟩ := HC3.out k hlt
        have c0 := bkeep hM.2 g0; have c1 := bkeep hM.2 g1
        have hltI : (k : Int) < (qs.length : Int) := by omega
        have HS := Lib.hid (flat_snoc qs k hlt)
        clear g0 g1
        generalize (qs.getD k (0, 0)).1 = y at *
        generalize (qs.getD k (0, 0)).2 = y' at *
        obtain ⟨xs, hxs⟩ : ∃ xs, flatN (qs.take k) = xs := ⟨_, rfl⟩
        rw [hxs] at HS hlen hM
        clear hxs
        go_upto_region 7 with fail
        have hMd : MadeU w wr.drew u7 xs := hM.keep (Below.refl _ _).drew
        have hown := hMd.1
        have hsz := hM.2.size
        have HT := Lib.hid (fun w2 v' => @MadeU.step2 w _ w2 _ v' xs y y' hMd)
        clear hM hMd k1 k2 k3 k12 k4 aw
        go_region_law (refine wp_append_own_at (.tmp 29) (.tmp 40) 23 (by rfl) w.heap.size 22 i0 (.int .u64 0) 1 8 Try.underlying23 hi hz0 hz1 hz2 rfl (by decide) u7 _ _ (by rfl) (hown.alloc _) ⟨wr.heap.size, 0, none⟩ 2 2 [.int .u64 y, .int .u64 y'] (by rfl) rfl (two_src (by simp [go_sem]) (by simp [go_sem])) (by intro u hu; simp at hu; rcases hu with rfl | rfl <;> rfl) (by unfold maxLen; omega) (by omega) (by simp [go_sem]; omega) ?_; intro v' w2 hown' hgrow _)
        all_goals
          have R := Lib.hid (HT.out w2 v' _ hown' hgrow)
          clear hown' hgrow hown HT c0 c1
          go_wp2_with fail
          go_roundw
          case rel => exact ⟨k + 1, by omega, by go_num, by rw [HS.out]; exact R.out⟩
          case measure => simp [intOf]; omega
      · obtain rfl : k = qs.length := by omega
        rw [List.take_length] at hM
        obtain ⟨am, cm, hv, hrow⟩ := hM.row
        have HB := Lib.hid hM.2
        have HP := Lib.hid hrow.at
        clear hM hlt hrow hlen HC3
        subst hv
        have k4' := k4 am cm
        clear k4
        have hwL : len1 + len2 ≤ 100 := by omega
        go_wp2_with (first
          | (at_builtin; refine wpList_append_u rfl _ _ 23 rfl w1.heap.size 22 i0 (.int .u64 0) 8 Try.underlying23 hi hz0 hz1 hz2 rfl v5 len1 _ rfl O5.out a2 len2 cap2 z2 rfl hn2 (H2.out.keep (bthen HB.out HB2.out)) (by unfold maxLen; omega) (by omega) HB2.out.size ?_; rintro v6 w6 o1 g1; have hb3 := below_own2 HB2.out g1 (own_ge O5.out) HB2.out.size; replace HB := Lib.hid (bthen HB.out hb3); replace HP := Lib.hid (HP.out.keep hb3); rw [← List.map_append] at o1; obtain ⟨a6, c6, rfl, h6⟩ := own_rowA o1 (by simp; omega); have H6 := Lib.hid h6; clear o1 g1 h6 hb3 HB2 O5)
          | (at_builtin; refine wpList_append_u rfl _ _ 23 rfl w1.heap.size 22 i0 (.int .u64 0) 8 Try.underlying23 hi hz0 hz1 hz2 rfl _ 0 [] rfl (own_none _ _ _ (Nat.le_refl _)) a1 len1 cap1 z1 rfl hn1 (H1.out.keep (HB.out.alloc HB.out.size _)) (by unfold maxLen; omega) (by omega) (by simp) ?_; rintro v5 w5 o1 g1; simp only [Nat.zero_add, List.nil_append] at o1; have HB2 := Lib.hid (below_own2 ((Below.refl w1.heap.size w1).alloc (Nat.le_refl _) _) g1 (fun k hk => by have hk' := Option.some.inj (show some _ = some k from hk); rw [← hk']; exact Nat.le_refl _) (by simp)); have O5 := Lib.hid o1; clear o1 g1)
          | (go_at_call 7; (with_reducible refine (aw _).mono ?_); rintro e w1 ⟨rfl, hb⟩; replace HB := Lib.hid (bthen HB.out hb); replace HP := Lib.hid (HP.out.keep hb); clear hb)
          | (go_at_call 12; (with_reducible refine (k3 _ (H3.out.keep HB.out)).mono ?_); rintro e w1 ⟨rfl, hb⟩; replace HB := Lib.hid (bthen HB.out hb); replace HP := Lib.hid (HP.out.keep hb); clear hb)
          | (go_at_call 10; (first
              | with_reducible refine (k1 _ (H1.out.keep HB.out)).mono ?_
              | with_reducible refine (k2 _ (H2.out.keep HB.out)).mono ?_
              | with_reducible refine (k12 _ _ _ H6.out).mono ?_
              | with_reducible refine (k4' _ HP.out).mono ?_); rintro e w1 ⟨rfl, hb⟩; replace HB := Lib.hid (bthen HB.out hb); replace HP := Lib.hid (HP.out.keep hb); clear hb))
        go_ret
        exact ⟨rfl, HB.out⟩
end Go.Proofs.Ytmgbdccfgbflnaa
