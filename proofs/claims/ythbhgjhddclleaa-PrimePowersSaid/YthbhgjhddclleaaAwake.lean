/-
  The document's examples of layer 1: the call 'awake' answers true.
-/
import Derived.Test.YthbhgjhddclleaaList
import Derived.RowKit3
namespace Go.Proofs.Ythbhgjhddclleaa
open Go.RowKit
set_option linter.unusedVariables false

theorem U_lit (a : Int) (h : decide (0 ≤ a) = true) (h' : decide (a < 18446744073709551616) = true) : U a := ⟨of_decide_eq_true h, of_decide_eq_true h'⟩

theorem row_three (w : World) (x y z : Int) (t : TypeId) : Row (w.alloc (.cells #[.int .u64 x, .int .u64 y, .int .u64 z] t)) (.slice (some ⟨w.heap.size, 0, none⟩) 3 3) [x, y, z] := by
  right; right
  refine ⟨w.heap.size, 0, 3, rfl, by simp, by unfold maxLen; omega, ?_⟩
  intro i hi
  have : i = 0 ∨ i = 1 ∨ i = 2 := by simp at hi; omega
  rcases this with rfl | rfl | rfl <;> simp [go_sem]

def AwakePost (w : World) (e : Ending) (w' : World) : Prop := e = .returned (.bool true) ∧ ∃ c t, w' = w.alloc (.cells c t)

set_option maxHeartbeats 4000000 in
theorem awake_any (w : World) : Calls Try.prog 9 #[] w (AwakePost w) := by
  have i1 := fun w => inv_yes 2 (U_lit _ rfl rfl) (by decide +kernel) w
  rw [show enc (fpow (toF 2) 18446744069414584319) = 9223372034707292161 by rw [← fsq_eq 64 _ _ (by decide +kernel)]; decide +kernel] at i1
  have i2 := fun w => inv_no 18446744069414584321 (U_lit _ rfl rfl) (by decide +kernel) w
  have c1 := fun w => add_any 18446744069414584320 2 (U_lit _ rfl rfl) (U_lit _ rfl rfl) w
  rw [show enc (toF 18446744069414584320 + toF 2) = 1 by decide +kernel] at c1
  have c2 := fun w => sub_any 1 2 (U_lit _ rfl rfl) (U_lit _ rfl rfl) w
  rw [show enc (toF 1 - toF 2) = 18446744069414584320 by decide +kernel] at c2
  have c3 := fun w => neg_any 0 (U_lit _ rfl rfl) w
  rw [show enc (-toF 0) = 0 by decide +kernel] at c3
  have c4 := fun w => mul_any 4294967296 4294967296 (U_lit _ rfl rfl) (U_lit _ rfl rfl) w
  rw [show enc (toF 4294967296 * toF 4294967296) = 4294967295 by decide +kernel] at c4
  have c5 := fun w => mul_any 281474976710656 281474976710656 (U_lit _ rfl rfl) (U_lit _ rfl rfl) w
  rw [show enc (toF 281474976710656 * toF 281474976710656) = 18446744069414584320 by decide +kernel] at c5
  have c6 := fun w => pow_any 2 96 (U_lit _ rfl rfl) (U_lit _ rfl rfl) w
  rw [show enc (fpow (toF 2) (96 : Int).toNat) = 18446744069414584320 by rw [← fsq_eq 64 _ _ (by decide +kernel)]; decide +kernel] at c6
  have c7 := fun (w : World) t => sum_any _ _ _ (row_three w 1 2 3 t) (by intro n hn; simp at hn; rcases hn with rfl | rfl | rfl <;> exact U_lit _ rfl rfl)
  rw [show enc (fsum ([1, 2, 3].map toF)) = 6 by decide +kernel] at c7
  have c8 := fun (w : World) => prod_any (.slice none 0 0) [] w (Or.inl ⟨rfl, rfl⟩) (by simp)
  rw [show enc (fprod ([].map toF)) = 1 by decide +kernel] at c8
  have r1 := fun w => right_any 18446744069414584320 w
  rw [show decide ((18446744069414584320 : Int) < 18446744069414584321) = true from rfl] at r1
  have r2 := fun w => right_any 18446744069414584321 w
  rw [show decide ((18446744069414584321 : Int) < 18446744069414584321) = false from rfl] at r2
  go_enter Try.func9, Try.ntmps9
  go_wp2_with (first
    | (go_at_call 20; ((with_reducible refine (i1 _).mono ?_); rintro e w' ⟨rfl, rfl⟩))
    | (go_at_call 20; ((with_reducible refine (i2 _).mono ?_); rintro e w' ⟨rfl, rfl⟩))
    | (go_at_call 10; ((with_reducible refine (c1 _).mono ?_); rintro e w' ⟨rfl, rfl⟩))
    | (go_at_call 12; ((with_reducible refine (c2 _).mono ?_); rintro e w' ⟨rfl, rfl⟩))
    | (go_at_call 16; ((with_reducible refine (c3 _).mono ?_); rintro e w' ⟨rfl, rfl⟩))
    | (go_at_call 14; ((with_reducible refine (c4 _).mono ?_); rintro e w' ⟨rfl, rfl⟩))
    | (go_at_call 14; ((with_reducible refine (c5 _).mono ?_); rintro e w' ⟨rfl, rfl⟩))
    | (go_at_call 22; ((with_reducible refine (c6 _).mono ?_); rintro e w' ⟨rfl, rfl⟩))
    | (go_at_call 24; ((with_reducible refine (c7 _ _).mono ?_); rintro e w' ⟨rfl, rfl⟩))
    | (go_at_call 18; ((with_reducible refine (r1 _).mono ?_); rintro e w' ⟨rfl, rfl⟩))
    | (go_at_call 18; ((with_reducible refine (r2 _).mono ?_); rintro e w' ⟨rfl, rfl⟩))
    | (go_at_call 26; ((with_reducible refine (c8 _).mono ?_); rintro e w' ⟨rfl, rfl⟩)))
  go_ret
  exact ⟨rfl, _, _, rfl⟩
end Go.Proofs.Ythbhgjhddclleaa
