/-
  The walk of OctetBack: it answers true, where the program's calls do what is asked of them.
-/
import Derived.Test.YtmgbdccfgbflnaaOLReads
import Derived.Test.YtmgbdccfgbflnaaPairRefB
namespace Go.Proofs.Ytmgbdccfgbflnaa
open Go Go.RowKit
set_option linter.unusedVariables false

def BackL1 (zs : List Int) (g i : Value) : Prop := ∃ (k : Nat) (b : Bool), k ≤ zs.length ∧ i = .int .i64 k ∧ g = .bool b ∧ (b = true ↔ ∀ j, j < k → zs.getD j 0 < 18446744069414584321)
def BackL2 (w : World) (qs : List (Int × Int)) (g i : Value) (W : World) : Prop := ∃ (k : Nat) (b : Bool), k ≤ qs.length ∧ i = .int .i64 k ∧ g = .bool b ∧ (b = true ↔ ∀ j, j < k → (qs.getD j (0, 0)).1 < 18446744069414584321 ∧ (qs.getD j (0, 0)).2 < 18446744069414584321) ∧ Below w.heap.size w W
theorem all_next {p : Nat → Prop} {k : Nat} {b c : Bool} (hb : b = true ↔ ∀ j, j < k → p j) (hc : c = true ↔ p k) : (b && c) = true ↔ ∀ j, j < k + 1 → p j := by
  rw [Bool.and_eq_true, hb, hc]
  constructor
  · rintro ⟨h1, h2⟩ j hj
    by_cases h : j = k
    · subst h; exact h2
    · exact h1 j (by omega)
  · intro h
    exact ⟨fun j hj => h j (by omega), h k (by omega)⟩
theorem back_good {zs : List Int} (hu : ∀ x ∈ zs, U x) (hm : zs.length ≤ 1000) {b : Bool} (hb : b = true ↔ ∀ j, j < zs.length → zs.getD j 0 < 18446744069414584321) : rdB (rowB zs) zs.length = b := by
  have h1 := rdB_iff (rowB zs) zs.length
  rw [okR_row zs hu (by omega), ← hb] at h1
  cases b <;> cases hr : rdB (rowB zs) zs.length <;> simp_all
theorem back_fine {qs : List (Int × Int)} (hu : ∀ x ∈ qs, U x.1 ∧ U x.2) (hm : qs.length ≤ 1000) {b : Bool} (hb : b = true ↔ ∀ j, j < qs.length → (qs.getD j (0, 0)).1 < 18446744069414584321 ∧ (qs.getD j (0, 0)).2 < 18446744069414584321) : rdB (pairB qs) (2 * (qs.length : Int)) = b := by
  have h1 := rdB_iff (pairB qs) (2 * (qs.length : Int))
  rw [okQ_row qs hu (by omega)] at h1
  have h2 : (∀ k, k < (flatN qs).length → (flatN qs).getD k 0 < 18446744069414584321) ↔ ∀ j, j < qs.length → (qs.getD j (0, 0)).1 < 18446744069414584321 ∧ (qs.getD j (0, 0)).2 < 18446744069414584321 := by
    constructor
    · intro h j hj
      have e1 := h (2 * j) (by rw [flatN_len]; omega)
      have e2 := h (2 * j + 1) (by rw [flatN_len]; omega)
      rw [flatN_even] at e1
      rw [flatN_odd] at e2
      exact ⟨e1, e2⟩
    · intro h k hk
      rw [flatN_len] at hk
      have := h (k / 2) (by omega)
      by_cases hk2 : k % 2 = 0
      · rw [show k = 2 * (k / 2) by omega, flatN_even]; exact this.1
      · rw [show k = 2 * (k / 2) + 1 by omega, flatN_odd]; exact this.2
  rw [h2, ← hb] at h1
  cases b <;> cases hr : rdB (pairB qs) (2 * (qs.length : Int)) <;> simp_all
theorem back_x {zs : List Int} (hu : ∀ x ∈ zs, U x) (h : rdB (rowB zs) zs.length = true) : rdX (rowB zs) zs.length = zs := by
  unfold rdX; rw [if_pos h, Int.toNat_natCast, nums_row zs hu]
theorem back_q {qs : List (Int × Int)} (hu : ∀ x ∈ qs, U x.1 ∧ U x.2) (h : rdB (pairB qs) (2 * (qs.length : Int)) = true) : rdQ (pairB qs) qs.length = qs := by
  unfold rdQ; rw [if_pos h, Int.toNat_natCast, prs_flat qs hu]
theorem back_more (zs : List Int) (s : ByteArray) (hs : s.size ≠ 0) : rdB (rowB zs ++ s) zs.length = false := by
  rw [Bool.eq_false_iff]
  exact fun h => okR_more zs s hs ((rdB_iff _ _).1 h)

set_option maxRecDepth 100000 in
set_option maxHeartbeats 8000000 in
theorem oback_body (hA : AskOct) (a1 : Option Addr) (len1 cap1 : Nat) (zs : List Int) (a2 : Option Addr) (len2 cap2 : Nat) (qs : List (Int × Int)) (t : ByteArray) (w : World) (h1 : RowA w a1 len1 zs) (hu1 : ∀ x ∈ zs, U x) (h2 : QRowA w a2 len2 qs) (hu2 : ∀ x ∈ qs, U x.1 ∧ U x.2) (hml : t.size ≤ maxLen) :
    Calls Try.prog 5 #[.slice a1 len1 cap1, .slice a2 len2 cap2, .string t] w fun e w' => e = .returned (.bool true) ∧ Below w.heap.size w w' := by
  have aw := fun W => oawake hA W
  unfold maxLen at hml
  by_cases hbig : 50 < len1 ∨ 50 < len2 ∨ 50 < t.size
  · clear hA h1 h2
    rcases Decidable.em (50 < len1) with hb | hb
    · have hbI : (50 : Int) < (len1 : Int) := by omega
      go_enter Try.func5, Try.ntmps5
      go_wp2_with (go_at_call 7; ((with_reducible refine (aw _).mono ?_); rintro e w1 ⟨rfl, hb1⟩))
      go_ret
      exact ⟨rfl, hb1⟩
    · have hbI : ¬ (50 : Int) < (len1 : Int) := by omega
      rcases Decidable.em (50 < len2) with hc | hc
      · have hcI : (50 : Int) < (len2 : Int) := by omega
        go_enter Try.func5, Try.ntmps5
        go_wp2_with (go_at_call 7; ((with_reducible refine (aw _).mono ?_); rintro e w1 ⟨rfl, hb1⟩))
        go_ret
        exact ⟨rfl, hb1⟩
      · have hcI : ¬ (50 : Int) < (len2 : Int) := by omega
        have hdI : (50 : Int) < (t.size : Int) := by omega
        go_enter Try.func5, Try.ntmps5
        go_wp2_with (go_at_call 7; ((with_reducible refine (aw _).mono ?_); rintro e w1 ⟨rfl, hb1⟩))
        go_ret
        exact ⟨rfl, hb1⟩
  · have hbI : ¬ (50 : Int) < (len1 : Int) := by omega
    have hcI : ¬ (50 : Int) < (len2 : Int) := by omega
    have hdI : ¬ (50 : Int) < (t.size : Int) := by omega
    have hz1 := h1.1
    have hz2 := h2.1
    have HC1 := Lib.hid h1.2.2
    have H1 := Lib.hid h1; have H2 := Lib.hid h2
    have HU1 := Lib.hid hu1; have HU2 := Lib.hid hu2
    have k2 := fun W h => hA.row a1 len1 cap1 zs W h hu1 (by omega)
    have k3 := fun W h => hA.pairs a2 len2 cap2 qs W h hu2 (by omega)
    have hRs : (rowB zs).size ≤ 400 := by rw [rowB_size]; omega
    have hQs : (pairB qs).size ≤ 800 := by unfold pairB; rw [pairT_size]; omega
    have r1 := fun W => (hA.readRow (rowB zs) len1 W (by omega)).mono fun e w' h => h.told
    have r2 := fun W => (hA.readPairs (pairB qs) len2 W (by omega)).mono fun e w' h => h.told
    have r3 := fun W => (hA.readRow (rowB zs ++ t) len1 W (by rw [ByteArray.size_append]; omega)).mono fun e w' h => h.told
    have HG := Lib.hid (fun b hb => @back_good zs hu1 (by omega) b hb)
    have HF := Lib.hid (fun b hb => @back_fine qs hu2 (by omega) b hb)
    have HX := Lib.hid (back_x hu1); have HQ := Lib.hid (back_q hu2)
    have HM := Lib.hid (back_more zs t)
    subst hz1; subst hz2
    clear hA h1 h2 hu1 hu2
    generalize rdB (rowB zs) zs.length = gB at *
    generalize rdB (pairB qs) (2 * (qs.length : Int)) = fB at *
    generalize rdX (rowB zs) zs.length = xs at *
    generalize rdQ (pairB qs) qs.length = ys at *
    generalize rdB (rowB zs ++ t) zs.length = uB at *
    generalize rdX (rowB zs ++ t) zs.length = xu at *
    generalize rowB zs = R at *
    generalize pairB qs = Q at *
    go_enter Try.func5, Try.ntmps5
    go_upto_region 5 with fail
    go_loop [7, 9] (BackL1 zs) (fun _ i => zs.length - (intOf i).toNat)
    case atStart => exact ⟨0, true, Nat.zero_le _, rfl, rfl, by simp⟩
    case round =>
      obtain ⟨k, b, hk, rfl, rfl, hb⟩ := hrel
      by_cases hlt : k < zs.length
      · obtain ⟨bb, off, rfl, c⟩ := HC1.out k hlt
        have hltI : (k : Int) < (zs.length : Int) := by omega
        have HNX := Lib.hid (fun c hc => @all_next (fun j => zs.getD j 0 < 18446744069414584321) k b c hb hc)
        generalize zs.getD k 0 = x at *
        clear hb
        cases b
        · go_wp2
          go_round
          case rel => exact ⟨k + 1, false, by omega, by go_num, rfl, by have := HNX.out (decide (x < 18446744069414584321)) (by simp); simpa using this⟩
          case measure => simp [intOf]; omega
        · go_wp2
          go_round
          case rel => exact ⟨k + 1, decide (x < 18446744069414584321), by omega, by go_num, rfl, by have := HNX.out (decide (x < 18446744069414584321)) (by simp); simpa using this⟩
          case measure => simp [intOf]; omega
      · obtain rfl : k = zs.length := by omega
        obtain rfl := HG.out b hb
        clear hb HG
        go_upto_region 9 with fail
        go_loopw [8, 10] (BackL2 w qs) (fun _ i _ => qs.length - (intOf i).toNat)
        case atStart => exact ⟨0, true, Nat.zero_le _, rfl, rfl, by simp, Below.refl _ _⟩
        case round =>
          obtain ⟨k, b, hk, rfl, rfl, hb, hB⟩ := hrel
          by_cases hlt : k < qs.length
          · obtain ⟨bb, off, rfl, c0, c1⟩ := H2.out.2.2 k hlt
            replace c0 := bkeep hB c0
            replace c1 := bkeep hB c1
            have hltI : (k : Int) < (qs.length : Int) := by omega
            have HNX := Lib.hid (fun c hc => @all_next (fun j => (qs.getD j (0, 0)).1 < 18446744069414584321 ∧ (qs.getD j (0, 0)).2 < 18446744069414584321) k b c hb hc)
            have kr := rright_q (qs.getD k (0, 0)).1 (qs.getD k (0, 0)).2
            generalize (qs.getD k (0, 0)).1 = x at *
            generalize (qs.getD k (0, 0)).2 = y at *
            have HB := Lib.hid hB
            clear hb hB
            have hc : (decide (x < 18446744069414584321) && decide (y < 18446744069414584321)) = true ↔ x < 18446744069414584321 ∧ y < 18446744069414584321 := by simp
            have HN2 := Lib.hid (HNX.out _ hc)
            clear hc HNX
            generalize (decide (x < 18446744069414584321) && decide (y < 18446744069414584321)) = d at *
            cases b
            · go_wp2
              go_roundw
              case rel => exact ⟨k + 1, false, by omega, by go_num, rfl, by have := HN2.out; simpa using this, HB.out⟩
              case measure => simp [intOf]; omega
            · go_wp2_with (go_at_call 22; (with_reducible refine (kr _).mono ?_); rintro e w1 ⟨rfl, hb1⟩)
              go_roundw
              case rel => exact ⟨k + 1, d, by omega, by go_num, rfl, by have := HN2.out; simpa using this, bthen HB.out hb1⟩
              case measure => simp [intOf]; omega
          · obtain rfl : k = qs.length := by omega
            obtain rfl := HF.out b hb
            have HB := Lib.hid hB
            clear hb hB HF HC1
            go_upto_region 13 with (first
              | (go_at_call 10; (with_reducible refine (k2 _ (H1.out.keep HB.out)).mono ?_); rintro e w1 ⟨rfl, hb⟩; replace HB := Lib.hid (bthen HB.out hb); clear hb)
              | (go_at_call 16; (with_reducible refine (r1 _).mono ?_); rintro e w2 ⟨a3, l3, c3, rfl, h3, hb⟩; replace HB := Lib.hid (bthen HB.out hb); clear hb))
            have H3 := Lib.hid h3
            clear h3
            go_upto_region 14 with (first
              | (go_at_call 12; (with_reducible refine (k3 _ (H2.out.keep HB.out)).mono ?_); rintro e w1 ⟨rfl, hb⟩; replace HB := Lib.hid (bthen HB.out hb); replace H3 := Lib.hid (H3.out.keep hb); clear hb)
              | (go_at_call 18; (with_reducible refine (r2 _).mono ?_); rintro e w2 ⟨a4, l4, c4, rfl, h4, hb⟩; replace HB := Lib.hid (bthen HB.out hb); replace H3 := Lib.hid (H3.out.keep hb); clear hb))
            have H4 := Lib.hid h4
            clear h4
            have hRt : R.size + t.size ≤ 1000 := by omega
            go_upto_region 15 with (first
              | (go_at_call 10; (with_reducible refine (k2 _ (H1.out.keep HB.out)).mono ?_); rintro e w1 ⟨rfl, hb⟩; replace HB := Lib.hid (bthen HB.out hb); replace H3 := Lib.hid (H3.out.keep hb); replace H4 := Lib.hid (H4.out.keep hb); clear hb)
              | (go_at_call 16; (with_reducible refine (r3 _).mono ?_); rintro e w2 ⟨a5, l5, c5, rfl, _, hb⟩; replace HB := Lib.hid (bthen HB.out hb); replace H3 := Lib.hid (H3.out.keep hb); replace H4 := Lib.hid (H4.out.keep hb); clear hb))
            have S1 := Lib.hid (fun (hg : gB = true) W hb => same_b a3 a1 _ _ c3 cap1 zs W (RowA.keep (by have := H3.out; rw [HX.out hg] at this; exact this) hb) ((H1.out.keep HB.out).keep hb))
            have S2 := Lib.hid (fun (hf : fB = true) W hb => sameq_b a4 a2 _ _ c4 cap2 qs W (QRowA.keep (by have := H4.out; rw [HQ.out hf] at this; exact this) hb) ((H2.out.keep HB.out).keep hb))
            have HW := Lib.hid (Below.refl w2.heap.size w2)
            clear k2 k3 r1 r2 r3 H1 H2 H3 H4 HX HQ
            have hend : t.size = 0 ∨ (t.size ≠ 0 ∧ uB = false) := by
              by_cases ht : t.size = 0
              · exact Or.inl ht
              · exact Or.inr ⟨ht, HM.out ht⟩
            clear HM
            rcases hend with ht | ⟨ht, rfl⟩
            · have htI : (t.size : Int) = 0 := by omega
              clear ht
              cases gB <;> cases fB
              all_goals
                go_wp2_with ((first
                  | (go_at_call 7; with_reducible refine (aw _).mono ?_)
                  | (go_at_call 20; with_reducible refine (S1.out (by simp) _ HW.out).mono ?_)
                  | (go_at_call 21; with_reducible refine (S2.out (by simp) _ HW.out).mono ?_)); rintro e w7 ⟨rfl, hb⟩; replace HB := Lib.hid (bthen HB.out hb); replace HW := Lib.hid (bthen HW.out hb); clear hb)
                all_goals (go_ret; exact ⟨rfl, HB.out⟩)
            · have htI : ¬ (t.size : Int) = 0 := by omega
              clear ht
              cases gB <;> cases fB
              all_goals
                go_wp2_with ((first
                  | (go_at_call 7; with_reducible refine (aw _).mono ?_)
                  | (go_at_call 20; with_reducible refine (S1.out (by simp) _ HW.out).mono ?_)
                  | (go_at_call 21; with_reducible refine (S2.out (by simp) _ HW.out).mono ?_)); rintro e w7 ⟨rfl, hb⟩; replace HB := Lib.hid (bthen HB.out hb); replace HW := Lib.hid (bthen HW.out hb); clear hb)
                all_goals (go_ret; exact ⟨rfl, HB.out⟩)
end Go.Proofs.Ytmgbdccfgbflnaa
