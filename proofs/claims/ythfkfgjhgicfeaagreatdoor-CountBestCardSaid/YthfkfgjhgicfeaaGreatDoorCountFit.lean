/-
  Which words layer 23's statements speak of.
-/
import Derived.Test.YthfkfgjhgicfeaaGreatDoorCountW
namespace Go.Proofs.YthfkfgjhgicfeaaGreatDoor
open Go Go.RowKit
set_option linter.unusedVariables false

def fitsV (n : Nat) (dim : Int) : Bool := decide ((n = 2 ∨ n = 4 ∨ n = 8 ∨ n = 16) ∧ 0 ≤ dim ∧ dim ≤ 4 ∧ dim ≤ n ∧ (n ≤ 8 ∨ dim ≤ 2))
set_option maxRecDepth 100000 in
set_option maxHeartbeats 8000000 in
theorem cfits (a : Option Addr) (n c : Nat) (dim : Int) (r : Bool) (w : World) (hr : fitsV n dim = r) :
    Calls Tryz.prog 14 #[.slice a n c, .int .i64 dim] w fun e w' => e = .returned (.bool r) ∧ Below w.heap.size w w' := by
  have HR := Lib.hid hr
  have HB := Lib.hid (Below.refl w.heap.size w)
  clear hr
  go_enter Tryz.func14, Tryz.ntmps14
  go_upto_region 2 with fail
  by_cases h1 : 2 ≤ (n : Int)
  · by_cases h2 : (n : Int) ≤ 16
    · have hn : n = 2 ∨ n = 4 ∨ n = 8 ∨ n = 16 ∨ n = 3 ∨ n = 5 ∨ n = 6 ∨ n = 7 ∨ n = 9 ∨ n = 10 ∨ n = 11 ∨ n = 12 ∨ n = 13 ∨ n = 14 ∨ n = 15 := by omega
      by_cases d0 : 0 ≤ dim
      · by_cases d1 : dim ≤ 4
        · have hd : dim = 0 ∨ dim = 1 ∨ dim = 2 ∨ dim = 3 ∨ dim = 4 := by omega
          clear h1 h2 d0 d1
          rcases hn with rfl | rfl | rfl | rfl | rfl | rfl | rfl | rfl | rfl | rfl | rfl | rfl | rfl | rfl | rfl
          iterate 4 (rcases hd with rfl | rfl | rfl | rfl | rfl <;> (have hr := HR.out; simp [fitsV] at hr; subst hr; go_wp2_with fail; go_ret; exact ⟨rfl, HB.out⟩))
          all_goals (clear hd; have hr := HR.out; simp [fitsV] at hr; subst hr; go_wp2_with fail; go_ret; exact ⟨rfl, HB.out⟩)
        · obtain rfl : r = false := by rw [← HR.out]; exact decide_eq_false (fun h => d1 h.2.2.1)
          rcases hn with rfl | rfl | rfl | rfl | rfl | rfl | rfl | rfl | rfl | rfl | rfl | rfl | rfl | rfl | rfl <;> (go_wp2_with fail; go_ret; exact ⟨rfl, HB.out⟩)
      · obtain rfl : r = false := by rw [← HR.out]; exact decide_eq_false (fun h => d0 h.2.1)
        rcases hn with rfl | rfl | rfl | rfl | rfl | rfl | rfl | rfl | rfl | rfl | rfl | rfl | rfl | rfl | rfl <;> (go_wp2_with fail; go_ret; exact ⟨rfl, HB.out⟩)
    · obtain rfl : r = false := by rw [← HR.out]; exact decide_eq_false (fun h => h2 (by omega))
      go_wp2_with fail
      go_ret
      exact ⟨rfl, HB.out⟩
  · obtain rfl : r = false := by rw [← HR.out]; exact decide_eq_false (fun h => h1 (by omega))
    go_wp2_with fail
    go_ret
    exact ⟨rfl, HB.out⟩
end Go.Proofs.YthfkfgjhgicfeaaGreatDoor
