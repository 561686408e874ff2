/-
  The walk of ClashUnlike: it answers true, where the program's calls do what is asked of them.
-/
import Derived.Test.YtfnmlegikcogoaaDoorClashLem
import Derived.Test.YtfnmlegikcogoaaDoorClashRefU
namespace Go.Proofs.YtfnmlegikcogoaaDoor
open Go Go.RowKit
set_option linter.unusedVariables false

set_option maxRecDepth 100000 in
set_option maxHeartbeats 8000000 in
theorem cunlike_body (G : World → Prop) (hA : AskClash G) (aw : ∀ W, G W → Calls Tryd.prog 9 #[] W fun e w' => e = .returned (.bool true) ∧ Below W.heap.size W w') (a : Option Addr) (n c : Nat) (f : Nat → ByteArray) (b : Option Addr) (m d : Nat) (g : Nat → ByteArray) (w : World) (hG0 : G w)
    (hS : StrS w a n c f) (hS2 : StrS w b m d g) : Calls Tryd.prog 4 #[.slice a n c, .slice b m d] w fun e w' => e = .returned (.bool true) ∧ Below w.heap.size w w' := by
  have HK := Lib.hid (fun (W W' : World) => @AskClash.keep G hA W W')
  have HG0 := Lib.hid hG0
  have HA := Lib.hid hA; have HS := Lib.hid hS; have HS2 := Lib.hid hS2
  have hn := hS.1.1; have hm := hS2.1.1
  unfold maxLen at hn hm
  clear hA hS hS2 hG0
  by_cases c1 : (100 : Int) < (n : Int)
  · go_enter Tryd.func4, Tryd.ntmps4
    go_wp2_with (go_at_call 9; (with_reducible refine (aw _ HG0.out).mono ?_); rintro e w2 ⟨rfl, hb⟩)
    go_ret
    exact ⟨rfl, hb⟩
  by_cases c2 : (100 : Int) < (m : Int)
  · go_enter Tryd.func4, Tryd.ntmps4
    go_wp2_with (go_at_call 9; (with_reducible refine (aw _ HG0.out).mono ?_); rintro e w2 ⟨rfl, hb⟩)
    go_ret
    exact ⟨rfl, hb⟩
  obtain ⟨x, y, ok, hz⟩ : ∃ x y ok, unlikeB f g n m = (x, y, ok) := ⟨_, _, _, rfl⟩
  have hok := unlikeB_ok f g n m
  have hne := unlikeB_ne f g n m
  rw [hz] at hok hne
  simp only at hok hne
  have k1 := HA.out.unlike a n c f b m d g x y ok w HS.out HS2.out (by omega) (by omega) hz HG0.out
  have k2 := fun (W : World) (hb : Below w.heap.size w W) => runlike_is a n c f b m d g x y ok W (HS.out.1.keep hb) (HS2.out.1.keep hb) hz
  have ks := fun (W : World) (hb : Below w.heap.size w W) => csame_is a b n m c d f g (sameB f g n m) W (HS.out.1.keep hb) (HS2.out.1.keep hb) rfl
  have HOK := Lib.hid hok
  clear hz hok
  cases ok with
  | false =>
    clear hne
    by_cases hnm : n = m
    · subst hnm
      have hs : sameB f g n n = true := by
        refine decide_eq_true ⟨rfl, Classical.byContradiction fun h => ?_⟩
        have := HOK.out.symm
        rw [decide_eq_true ⟨rfl, h⟩] at this
        cases this
      rw [hs] at ks
      clear hs
      go_enter Tryd.func4, Tryd.ntmps4
      go_wp2_with (first
        | (go_at_call 13; (with_reducible refine k1.mono ?_); rintro e w1 ⟨rfl, hb1⟩)
        | (go_at_call 14; (with_reducible refine (k2 w1 hb1).mono ?_); rintro e w2 ⟨rfl, hb2⟩; have hB2 := bthen hb1 hb2)
        | (go_at_call 9; (with_reducible refine (aw _ (HK.out _ _ HG0.out hB2)).mono ?_); rintro e w3 ⟨rfl, hb3⟩; have hB3 := bthen hB2 hb3)
        | (go_at_call 10; (with_reducible refine (ks w3 hB3).mono ?_); rintro e w4 ⟨rfl, hb4⟩))
      go_ret
      exact ⟨rfl, bthen hB3 hb4⟩
    · have hnm' : ¬ (n : Int) = (m : Int) := by omega
      clear ks
      go_enter Tryd.func4, Tryd.ntmps4
      go_wp2_with (first
        | (go_at_call 13; (with_reducible refine k1.mono ?_); rintro e w1 ⟨rfl, hb1⟩)
        | (go_at_call 14; (with_reducible refine (k2 w1 hb1).mono ?_); rintro e w2 ⟨rfl, hb2⟩; have hB2 := bthen hb1 hb2)
        | (go_at_call 9; (with_reducible refine (aw _ (HK.out _ _ HG0.out hB2)).mono ?_); rintro e w3 ⟨rfl, hb3⟩; have hB3 := bthen hB2 hb3))
      go_ret
      exact ⟨rfl, hB3⟩
  | true =>
    obtain ⟨hnm, hns⟩ := of_decide_eq_true HOK.out.symm
    subst hnm
    have hs : sameB f g n n = false := decide_eq_false fun h => hns h.2
    rw [hs] at ks
    have hbq := beq_of (decide_eq_false (hne rfl))
    clear hs hns hne
    go_enter Tryd.func4, Tryd.ntmps4
    go_wp2_with (first
      | (go_at_call 13; (with_reducible refine k1.mono ?_); rintro e w1 ⟨rfl, hb1⟩)
      | (go_at_call 14; (with_reducible refine (k2 w1 hb1).mono ?_); rintro e w2 ⟨rfl, hb2⟩; have hB2 := bthen hb1 hb2)
      | (go_at_call 9; (with_reducible refine (aw _ (HK.out _ _ HG0.out hB2)).mono ?_); rintro e w3 ⟨rfl, hb3⟩; have hB3 := bthen hB2 hb3)
      | (go_at_call 10; (with_reducible refine (ks w3 hB3).mono ?_); rintro e w4 ⟨rfl, hb4⟩))
    go_ret
    exact ⟨rfl, bthen hB3 hb4⟩
end Go.Proofs.YtfnmlegikcogoaaDoor
