/-
  What the laws of layer 6 need besides.
-/
import Derived.Test.YteleepblfipncaaZRow
namespace Go.Proofs.Yteleepblfipncaa
open Go.RowKit
set_option linter.unusedVariables false

theorem U16_wf {a : Int} (h : (Lit.int .u16 a).wf = true) : 0 ≤ a ∧ a ≤ 65535 := Go.bounds_u16 h
theorem is_below {f : FuncId} {args : Array Value} {v : Value} {w : World} (h : Calls Try.prog f args w fun e w' => e = .returned v ∧ w = w') : Calls Try.prog f args w fun e w' => e = .returned v ∧ Below w.heap.size w w' :=
  h.mono fun e w' ⟨h1, h2⟩ => ⟨h1, h2 ▸ Below.refl _ _⟩
theorem wrapi_pow' {k : Nat} (hk : k ≤ 32) : wrap64 (2 ^ k) = ((2 ^ k : Nat) : Int) := by
  have : ∀ k, k ≤ 32 → wrap64 (2 ^ k) = ((2 ^ k : Nat) : Int) := by decide +kernel
  exact this k hk
theorem mod_nat (k m : Int) (h0 : 0 ≤ k) (hm : 0 < m) : ∃ n : Nat, k % m = (n : Int) ∧ (n : Int) < m := by
  have h1 := Int.emod_nonneg k (by omega : m ≠ 0)
  have h2 := Int.emod_lt_of_pos k hm
  exact ⟨(k % m).toNat, by omega, by omega⟩
end Go.Proofs.Yteleepblfipncaa
