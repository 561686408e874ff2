/-
  What the document's Unlike comes to.
-/
import Derived.Test.YtfnmlegikcogoaaDoorGTree
import Derived.Test.YtfnmlegikcogoaaDoorClashM
namespace Go.Proofs.YtfnmlegikcogoaaDoor
open Go Go.RowKit
set_option linter.unusedVariables false

def UnRel (w : World) (f g : Nat → ByteArray) (n : Nat) (k : Value) (W : World) : Prop := ∃ j : Nat, j ≤ n ∧ k = .int .i64 ((j : Int) - 1) ∧ (∀ q, j ≤ q → q < n → f q = g q) ∧ Below w.heap.size w W
theorem lastU_at {f g : Nat → ByteArray} {n k : Nat} (hk : k < n) (hne : f k ≠ g k) (h : ∀ q, k < q → q < n → f q = g q) : lastU f g n = some k := by
  cases c : lastU f g n with
  | none => exact absurd (lastU_none.1 c k hk) hne
  | some j =>
    obtain ⟨h1, h2, h3⟩ := lastU_some c
    have : ¬ j < k := fun x => hne (h3 k x hk)
    have : ¬ k < j := fun x => h2 (h j x h1)
    rw [show j = k by omega]
set_option maxHeartbeats 4000000 in
theorem runlike_is (a : Option Addr) (n c : Nat) (f : Nat → ByteArray) (b : Option Addr) (m d : Nat) (g : Nat → ByteArray) (x y : ByteArray) (ok : Bool) (w : World) (h1 : StrA w a n f) (h2 : StrA w b m g) (hz : unlikeB f g n m = (x, y, ok)) :
    Calls Tryd.prog 14 #[.slice a n c, .slice b m d] w fun e w' => e = .returned (.tuple #[.string x, .string y, .bool ok]) ∧ Below w.heap.size w w' := by
  have hn := h1.1; have hm := h2.1
  unfold maxLen at hn hm
  have HZ := Lib.hid hz
  by_cases hnm : n = m
  · subst hnm
    have HC1 := Lib.hid h1.2; have HC2 := Lib.hid h2.2
    have hw1 : IntKind.i64.wrap ((n : Int) - 1) = (n : Int) - 1 := IntWalk.i64_in _ (by omega)
    have hw2 : wrap64 ((n : Int) - 1) = (n : Int) - 1 := IntWalk.wrap64_in _ (by omega)
    clear h1 h2 hz
    go_enter Tryd.func14, Tryd.ntmps14
    go_upto_region 2 with fail
    go_loopw [7] (UnRel w f g n) (fun k _ => (intOf k + 1).toNat)
    case atStart => exact ⟨n, Nat.le_refl _, rfl, fun q h1 h2 => by omega, Below.refl _ _⟩
    case round =>
      obtain ⟨j, hj, rfl, hs, hB⟩ := hrel
      by_cases h0 : j = 0
      · subst h0
        have HE : Hid ((⟨#[]⟩, ⟨#[]⟩, false) = (x, y, ok)) := Lib.hid (by
          rw [← HZ.out]
          unfold unlikeB
          rw [if_pos rfl, lastU_none.2 (fun q hq => hs q (by omega) hq)])
        obtain ⟨e1, e2, e3⟩ : x = ⟨#[]⟩ ∧ y = ⟨#[]⟩ ∧ ok = false := by
          have := HE.out
          simp only [Prod.mk.injEq] at this
          exact ⟨this.1.symm, this.2.1.symm, this.2.2.symm⟩
        subst e1; subst e2; subst e3
        clear hs
        go_wp2
        exact bodyPost_ret (v := .tuple #[.string ⟨#[]⟩, .string ⟨#[]⟩, .bool false]) (by simp [results, Tryd.results14, go_sem]) rfl ⟨rfl, hB⟩
      · obtain ⟨i, rfl⟩ : ∃ i, j = i + 1 := ⟨j - 1, by omega⟩
        have e : ((i + 1 : Nat) : Int) - 1 = (i : Int) := by omega
        rw [e]
        obtain ⟨b1, o1, rfl, g1⟩ := HC1.out i (by omega)
        obtain ⟨b2, o2, rfl, g2⟩ := HC2.out i (by omega)
        have c1 := bkeep hB g1; have c2 := bkeep hB g2
        have hi0 : (i : Int) ≥ 0 := by omega
        have hil : (i : Int) < (n : Int) := by omega
        have hw3 : IntKind.i64.wrap ((i : Int) - 1) = (i : Int) - 1 := IntWalk.i64_in _ (by omega)
        have hw4 : wrap64 ((i : Int) - 1) = (i : Int) - 1 := IntWalk.wrap64_in _ (by omega)
        by_cases he : f i = g i
        · have HE := Lib.hid (show ∀ q, i ≤ q → q < n → f q = g q from fun q h1 h2 => by
            by_cases e : q = i
            · subst e; exact he
            · exact hs q (by omega) h2)
          have hb := beq_of (decide_eq_true he)
          clear hs e g1 g2
          generalize f i = u at *
          generalize g i = v at *
          go_upto_region 4 with fail
          go_quiet (fail)
          go_wp2
          go_roundw
          case rel => exact ⟨i, by omega, by go_num, HE.out, below_drewN hB _⟩
          case measure => first | (simp [intOf]; done) | (simp [intOf]; omega)
        · have hb := beq_of (decide_eq_false he)
          have HE : Hid ((f i, g i, true) = (x, y, ok)) := Lib.hid (by
            rw [← HZ.out]
            unfold unlikeB
            rw [if_pos rfl, lastU_at (by omega) he (fun q h1 h2 => hs q (by omega) h2)])
          obtain ⟨e1, e2, e3⟩ : f i = x ∧ g i = y ∧ true = ok := by
            have := HE.out
            simp only [Prod.mk.injEq] at this
            exact this
          rw [e1] at c1 hb; rw [e2] at c2 hb
          subst e3
          clear hs e g1 g2 HE e1 e2 he
          go_upto_region 4 with fail
          go_quiet (fail)
          go_upto_region 5 with fail
          refine wp_gen (fun W => Below w.heap.size w W ∧ W.cell? ⟨b1, o1 + i, none⟩ = some (.string x) ∧ W.cell? ⟨b2, o2 + i, none⟩ = some (.string y)) ⟨below_drewN hB _, bkeep (below_drewN (Below.refl _ _) _) c1, bkeep (below_drewN (Below.refl _ _) _) c2⟩ ?_
          clear hB c1 c2
          rintro W2 ⟨hB, c1, c2⟩
          go_quiet (fail)
          go_wp2
          exact bodyPost_ret (v := .tuple #[.string x, .string y, .bool true]) (by simp [results, Tryd.results14, go_sem]) rfl ⟨rfl, below_drewN hB _⟩
  · have hnm' : ¬ (n : Int) = (m : Int) := by omega
    obtain ⟨e1, e2, e3⟩ : x = ⟨#[]⟩ ∧ y = ⟨#[]⟩ ∧ ok = false := by
      unfold unlikeB at hz
      rw [if_neg hnm] at hz
      simp only [Prod.mk.injEq] at hz
      exact ⟨hz.1.symm, hz.2.1.symm, hz.2.2.symm⟩
    subst e1; subst e2; subst e3
    have hw1 : IntKind.i64.wrap ((n : Int) - 1) = (n : Int) - 1 := IntWalk.i64_in _ (by omega)
    have hw2 : wrap64 ((n : Int) - 1) = (n : Int) - 1 := IntWalk.wrap64_in _ (by omega)
    clear hz h1 h2
    go_enter Tryd.func14, Tryd.ntmps14
    go_upto_region 2 with fail
    go_loopw [7] (fun k W => k = .int .i64 ((n : Int) - 1) ∧ W = w) (fun _ _ => 0)
    case atStart => exact ⟨rfl, rfl⟩
    case round =>
      obtain ⟨rfl, rfl⟩ := hrel
      by_cases hn0 : (n : Int) - 1 ≥ 0
      · go_wp2
        exact bodyPost_ret (v := .tuple #[.string ⟨#[]⟩, .string ⟨#[]⟩, .bool false]) (by simp [results, Tryd.results14, go_sem]) rfl ⟨rfl, Below.refl _ _⟩
      · go_wp2
        exact bodyPost_ret (v := .tuple #[.string ⟨#[]⟩, .string ⟨#[]⟩, .bool false]) (by simp [results, Tryd.results14, go_sem]) rfl ⟨rfl, Below.refl _ _⟩
end Go.Proofs.YtfnmlegikcogoaaDoor
