/-
  What the program's Unlike of layer 11 comes to, whatever the lists' lengths.
-/
import Derived.Test.YtfnmlegikcogoaaDoorCPro2
namespace Go.Proofs.YtfnmlegikcogoaaDoor
open Go Go.RowKit
set_option linter.unusedVariables false

set_option maxHeartbeats 1000000 in
theorem gunlike_is (a : Option Addr) (n c : Nat) (f : Nat → ByteArray) (b : Option Addr) (m d : Nat) (g : Nat → ByteArray) (x y : ByteArray) (ok : Bool) (w : World) (h1 : StrA w a n f) (h2 : StrA w b m g) (hn : n ≤ 100) (hm : m ≤ 100) (hz : unlikeB f g n m = (x, y, ok)) :
    Calls Tryd.prog 13 #[.slice a n c, .slice b m d] w fun e w' => e = .returned (.tuple #[.string x, .string y, .bool ok]) ∧ Below w.heap.size w w' := by
  by_cases e : n = m
  · subst e
    exact (callsIn_wide (n := 3)).1 (gunlike_yes Fence.wide 3 trivial trivial trivial rfl (by omega) a n c f b d g x y ok w h1 h2 hn hz)
  · have hnm' : ¬ (n : Int) = (m : Int) := by omega
    have hnm : ((n : Int) != (m : Int)) = true := by simp; omega
    obtain ⟨e1, e2, e3⟩ : x = ⟨#[]⟩ ∧ y = ⟨#[]⟩ ∧ ok = false := by
      unfold unlikeB at hz
      rw [if_neg e] at hz
      simp only [Prod.mk.injEq] at hz
      exact ⟨hz.1.symm, hz.2.1.symm, hz.2.2.symm⟩
    subst e1; subst e2; subst e3
    clear hz h1 h2
    go_enter Tryd.func13, Tryd.ntmps13
    go_wp2
    exact bodyPost_ret (v := .tuple #[.string ⟨#[]⟩, .string ⟨#[]⟩, .bool false]) (by simp [results, Tryd.results13, go_sem]) rfl ⟨rfl, by
      have := (((((Below.refl w.heap.size w).alloc (Nat.le_refl _) (.cells #[.slice b m d] 24)).alloc (by simp) (.cells #[.string ⟨#[]⟩] 9)).alloc (by simp; omega) (.cells #[.string ⟨#[]⟩] 9)).alloc (by simp; omega) (.cells #[.bool false] 4))
      exact this⟩
end Go.Proofs.YtfnmlegikcogoaaDoor
