/-
  What the calls of the document's answer for layer 2 come to, the rest: contracts for the walk.
-/
import Derived.Test.YtmgbdccfgbflnaaPairRef
namespace Go.Proofs.Ytmgbdccfgbflnaa
open Go.RowKit Go.Sort Go.BigFrame
set_option linter.unusedVariables false

@[go_sem] theorem field_a (x y : Value) (w : World) : (Instr.field 41 (.agg #[x, y]) 0).run Try.prog w = .ok x w := by kernel_rfl
@[go_sem] theorem field_b (x y : Value) (w : World) : (Instr.field 41 (.agg #[x, y]) 1).run Try.prog w = .ok y w := by kernel_rfl

theorem rright_q (a b : Int) (w : World) : Calls Try.prog 22 #[.agg #[.int .u64 a, .int .u64 b]] w fun e w' => e = .returned (.bool (decide (a < 18446744069414584321) && decide (b < 18446744069414584321))) ∧ Below w.heap.size w w' := by
  by_cases h1 : a < 18446744069414584321
  · by_cases h2 : b < 18446744069414584321
    · rw [decide_eq_true h1, decide_eq_true h2]
      have e1 := decide_eq_true h1
      have e2 := decide_eq_true h2
      go_enter Try.func22, Try.ntmps22
      go_wp2
      go_ret
      exact ⟨rfl, (Below.refl _ _).alloc (Nat.le_refl _) _⟩
    · rw [decide_eq_true h1, decide_eq_false h2]
      have e1 := decide_eq_true h1
      have e2 := decide_eq_false h2
      clear h1 h2
      go_enter Try.func22, Try.ntmps22
      go_wp2
      go_ret
      exact ⟨rfl, (Below.refl _ _).alloc (Nat.le_refl _) _⟩
  · rw [decide_eq_false h1]
    have e1 := decide_eq_false h1
    clear h1
    go_enter Try.func22, Try.ntmps22
    go_wp2
    go_ret
    exact ⟨rfl, (Below.refl _ _).alloc (Nat.le_refl _) _⟩

end Go.Proofs.Ytmgbdccfgbflnaa
