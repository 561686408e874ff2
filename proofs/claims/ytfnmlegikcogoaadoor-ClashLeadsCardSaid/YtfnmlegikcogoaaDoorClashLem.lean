/-
  What law 11's 'same' and 'short' come to.
-/
import Derived.Test.YtfnmlegikcogoaaDoorGTree
namespace Go.Proofs.YtfnmlegikcogoaaDoor
open Go Go.RowKit
set_option linter.unusedVariables false

set_option maxHeartbeats 1000000 in
theorem csame_is (a b : Option Addr) (n m c d : Nat) (f g : Nat → ByteArray) (z : Bool) (w : World) (h1 : StrA w a n f) (h2 : StrA w b m g) (hz : sameB f g n m = z) :
    Calls Tryd.prog 10 #[.slice a n c, .slice b m d] w fun e w' => e = .returned (.bool z) ∧ Below w.heap.size w w' := by
  by_cases hnm : n = m
  · subst hnm
    obtain ⟨hm, hc1⟩ := h1
    obtain ⟨_, hc2⟩ := h2
    unfold maxLen at hm
    have HC1 := Lib.hid hc1; have HC2 := Lib.hid hc2
    clear hc1 hc2
    go_enter Tryd.func10, Tryd.ntmps10
    go_upto_region 4 with fail
    go_loopw [5] (fun i W => ∃ k : Nat, k ≤ n ∧ i = .int .i64 k ∧ (∀ j, j < k → f j = g j) ∧ Below w.heap.size w W) (fun i _ => n - (intOf i).toNat)
    case atStart => exact ⟨0, Nat.zero_le _, rfl, fun j hj => by omega, Below.refl _ _⟩
    case round =>
      obtain ⟨k, hk, rfl, hs, hB⟩ := hrel
      by_cases hlt : k < n
      · obtain ⟨b1, off1, rfl, g0⟩ := HC1.out k hlt
        obtain ⟨b2, off2, rfl, g1⟩ := HC2.out k hlt
        have hlt' : (k : Int) < (n : Int) := by omega
        replace g0 := bkeep hB g0; replace g1 := bkeep hB g1
        have HS := Lib.hid hs
        clear hs
        by_cases he : f k = g k
        · have HE := Lib.hid (show ∀ j, j < k + 1 → f j = g j from fun j hj => by
            by_cases e : j = k
            · subst e; exact he
            · exact HS.out j (by omega))
          have hb := beq_of (decide_eq_true he)
          generalize f k = x at *
          generalize g k = y at *
          go_upto_region 6 with fail
          go_quiet (fail)
          go_wp2
          go_roundw
          case rel => exact ⟨k + 1, by omega, by go_num, HE.out, below_drewN hB _⟩
          case measure => simp [intOf]; omega
        · have hb := beq_of (decide_eq_false he)
          have HZ : Hid (false = z) := Lib.hid (by rw [← hz]; exact (decide_eq_false (fun h => he (h.2 k hlt))).symm)
          clear hz
          generalize f k = x at *
          generalize g k = y at *
          go_upto_region 6 with fail
          go_quiet (fail)
          go_wp2
          go_ret
          exact ⟨by rw [← HZ.out]; rfl, below_drewN hB _⟩
      · obtain rfl : k = n := by omega
        have HZ : Hid (true = z) := Lib.hid (by rw [← hz]; exact (decide_eq_true ⟨rfl, hs⟩).symm)
        clear hs hz
        go_wp2
        go_ret
        exact ⟨by rw [← HZ.out]; rfl, hB⟩
  · have HZ : Hid (false = z) := Lib.hid (by rw [← hz]; exact (decide_eq_false (fun h => hnm h.1)).symm)
    have hnm' : ¬ (n : Int) = (m : Int) := by omega
    clear hz
    go_enter Tryd.func10, Tryd.ntmps10
    go_wp2
    go_ret
    exact ⟨by rw [← HZ.out]; simp, Below.refl _ _⟩
def shortB (len lenb n : Nat) (g : Nat → ByteArray) : Bool := decide (len ≤ 30 ∧ lenb ≤ 30 ∧ n ≤ 50 ∧ ∀ k, k < n → (g k).size ≤ 100)
def ShRel (w W0 : World) (n : Nat) (g : Nat → ByteArray) (i : Value) (W : World) : Prop := ∃ k : Nat, k ≤ n ∧ i = .int .i64 k ∧ (∀ j, j < k → (g j).size ≤ 100) ∧ W = W0
set_option maxRecDepth 100000 in
set_option maxHeartbeats 4000000 in
theorem cshort_is (a : Option Addr) (len cap : Nat) (b : Option Addr) (lenb capb : Nat) (p : Option Addr) (n c : Nat) (g : Nat → ByteArray) (z : Bool) (w : World) (hl : len ≤ maxLen) (hlb : lenb ≤ maxLen) (hS : StrA w p n g) (hz : shortB len lenb n g = z) :
    Calls Tryd.prog 8 #[.agg #[.slice a len cap, .slice b lenb capb, .slice p n c]] w fun e w' => e = .returned (.bool z) ∧ Below w.heap.size w w' := by
  unfold maxLen at hl hlb
  have HS := Lib.hid hS
  have hn := hS.1
  unfold maxLen at hn
  have HBX := Lib.hid (fun (t : TypeId) => (Below.refl w.heap.size w).alloc (Nat.le_refl _) (.cells #[.slice a len cap, .slice b lenb capb, .slice p n c] t))
  have HZ := Lib.hid hz
  clear hS hz
  by_cases c1 : len ≤ 30 ∧ lenb ≤ 30 ∧ n ≤ 50
  · obtain ⟨d1, d2, d3⟩ := c1
    have e1 : ¬ (30 : Int) < (len : Int) := by omega
    have e2 : ¬ (30 : Int) < (lenb : Int) := by omega
    have e3 : ¬ (50 : Int) < (n : Int) := by omega
    go_enter Tryd.func8, Tryd.ntmps8
    go_upto_region 4 with fail
    refine wp_gen (fun W => Below w.heap.size w W ∧ OpenV W w.heap.size (.slice a len cap) (.slice b lenb capb) (.slice p n c)) ⟨HBX.out _, by simp [go_sem], by simp [go_sem], by simp [go_sem]⟩ ?_
    clear HBX
    rintro W0 ⟨hB, x0, x1, x2⟩
    have HB := Lib.hid hB
    have HS0 := Lib.hid (HS.out.keep hB)
    obtain ⟨g0, hg0⟩ : ∃ g, w.heap.size = g := ⟨_, rfl⟩
    rw [hg0] at x0 x1 x2
    simp only [hg0]
    clear hB HS hg0 e1 e2 e3
    go_loopw [3] (ShRel w W0 n g) (fun i _ => n - (intOf i).toNat)
    case atStart => exact ⟨0, Nat.zero_le _, rfl, fun j hj => by omega, rfl⟩
    case round =>
      obtain ⟨k, hk, rfl, hs, rfl⟩ := hrel
      by_cases hlt : k < n
      · obtain ⟨bb, off, rfl, c0⟩ := HS0.out.2 k hlt
        have hlt' : (k : Int) < (n : Int) := by omega
        by_cases h100 : (g k).size ≤ 100
        · have HE := Lib.hid (show ∀ j, j < k + 1 → (g j).size ≤ 100 from fun j hj => by
            by_cases e : j = k
            · subst e; exact h100
            · exact hs j (by omega))
          have h100' : ¬ (100 : Int) < ((g k).size : Int) := by omega
          clear hs h100
          generalize g k = y at *
          go_wp2_with fail
          go_roundw
          case rel => exact ⟨k + 1, by omega, by go_num, HE.out, rfl⟩
          case measure => simp [intOf]; omega
        · have h100' : (100 : Int) < ((g k).size : Int) := by omega
          have HV : Hid (false = z) := Lib.hid (by rw [← HZ.out]; exact (decide_eq_false (fun h => h100 (h.2.2.2 k hlt))).symm)
          clear hs h100
          generalize g k = y at *
          go_wp2_with fail
          go_ret
          exact ⟨by rw [← HV.out]; rfl, HB.out⟩
      · obtain rfl : k = n := by omega
        have HV : Hid (true = z) := Lib.hid (by rw [← HZ.out]; exact (decide_eq_true ⟨d1, d2, d3, hs⟩).symm)
        clear hs
        go_wp2_with fail
        go_ret
        exact ⟨by rw [← HV.out]; rfl, HB.out⟩
  · have HV : Hid (false = z) := Lib.hid (by rw [← HZ.out]; exact (decide_eq_false (fun h => c1 ⟨h.1, h.2.1, h.2.2.1⟩)).symm)
    by_cases e1 : (30 : Int) < (len : Int)
    · go_enter Tryd.func8, Tryd.ntmps8
      go_wp2
      go_ret
      exact ⟨by rw [← HV.out]; rfl, HBX.out _⟩
    by_cases e2 : (30 : Int) < (lenb : Int)
    · go_enter Tryd.func8, Tryd.ntmps8
      go_wp2
      go_ret
      exact ⟨by rw [← HV.out]; rfl, HBX.out _⟩
    have e3 : (50 : Int) < (n : Int) := by omega
    clear c1
    go_enter Tryd.func8, Tryd.ntmps8
    go_wp2
    go_ret
    exact ⟨by rw [← HV.out]; rfl, HBX.out _⟩
end Go.Proofs.YtfnmlegikcogoaaDoor
