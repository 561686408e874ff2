/-
  What the document's 'the same numbers?' and 'the same pairs?' come to: contracts for the walk.
-/
import Derived.Test.YthfkfgjhgicfeaaGreatDoorGRow
import Derived.Deep.QuietTactic
import Derived.BigQuiet
namespace Go.Proofs.YthfkfgjhgicfeaaGreatDoor
open Go.RowKit
set_option linter.unusedVariables false

theorem sameq_is (a1 a2 : Option Addr) (l1 l2 c1 c2 : Nat) (xs ys : List (Int × Int)) (w : World) (h1 : QRowA w a1 l1 xs) (h2 : QRowA w a2 l2 ys) (he : xs = ys) :
    Calls Tryz.prog 11 #[.slice a1 l1 c1, .slice a2 l2 c2] w fun e w' => e = .returned (.bool true) ∧ ∃ n, w' = w.drewN n := by
  subst he
  obtain ⟨rfl, hm, hc1⟩ := h1
  obtain ⟨rfl, _, hc2⟩ := h2
  unfold maxLen at hm
  have HC1 := Lib.hid hc1; have HC2 := Lib.hid hc2
  clear hc1 hc2
  go_enter Tryz.func11, Tryz.ntmps11
  go_wp2_with fail
  go_loopw [5] (fun i W => ∃ k : Nat, k ≤ xs.length ∧ i = .int .i64 k ∧ ∃ n, W = w.drewN n) (fun i _ => xs.length - (intOf i).toNat)
  case atStart => exact ⟨0, Nat.zero_le _, rfl, 0, rfl⟩
  case round =>
    obtain ⟨k, hk, rfl, n, rfl⟩ := hrel
    by_cases hlt : k < xs.length
    · obtain ⟨b, off, rfl, g0, g1⟩ := HC1.out k hlt
      obtain ⟨b2, off2, rfl, g2, g3⟩ := HC2.out k hlt
      generalize (xs.getD k (0, 0)).1 = z at *
      generalize (xs.getD k (0, 0)).2 = z' at *
      have hlt' : (k : Int) < (xs.length : Int) := by omega
      go_upto_region 6 with fail
      go_quiet (fail)
      go_wp2
      go_roundw
      case rel => exact ⟨k + 1, by omega, by go_num, _, rfl⟩
      case measure => simp [intOf]; omega
    · go_wp2
      go_ret
      exact ⟨rfl, _, rfl⟩
end Go.Proofs.YthfkfgjhgicfeaaGreatDoor
