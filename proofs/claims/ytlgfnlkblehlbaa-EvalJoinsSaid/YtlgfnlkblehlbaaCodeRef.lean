/-
  What the document's calls of layer 15 come to: Right, takes, Print, Same. What is asked of the program's calls.
-/
import Derived.Test.YtlgfnlkblehlbaaCodeBack
import Derived.Test.YtlgfnlkblehlbaaBeside
import Derived.Laws.BytesArg
namespace Go.Proofs.Ytlgfnlkblehlbaa
open Go Go.RowKit
set_option linter.unusedVariables false

/-- A slice of operations. -/
def OpA (w : World) (a : Option Addr) (len : Nat) (zs : List Opn) : Prop :=
  zs.length = len ∧ len ≤ maxLen ∧ ∀ k, k < len → ∃ b off : Nat, a = some ⟨b, off, none⟩ ∧ w.cell? ⟨b, off + k * 2, none⟩ = some (.int .i64 (zs.getD k (0, 0)).1) ∧ w.cell? ⟨b, off + k * 2 + 1, none⟩ = some (.int .u64 (zs.getD k (0, 0)).2)
theorem OpA.keep {w w' : World} {a : Option Addr} {len : Nat} {zs : List Opn} (h : OpA w a len zs) (hb : Below w.heap.size w w') : OpA w' a len zs :=
  ⟨h.1, h.2.1, fun k hk => by obtain ⟨b, off, e, c0, c1⟩ := h.2.2 k hk; exact ⟨b, off, e, bkeep hb c0, bkeep hb c1⟩⟩
abbrev opV (o : Opn) : Value := .agg #[.int .i64 o.1, .int .u64 o.2]
/-- An operation, as it may come. -/
def OkO (o : Opn) : Prop := (-9223372036854775808 ≤ o.1 ∧ o.1 ≤ 9223372036854775807) ∧ U o.2
def ParsePost (W : World) (m : List Opn) (r : Int) (e : Ending) (w' : World) : Prop :=
  Below W.heap.size W w' ∧ ∃ (a : Option Addr) (cap : Nat), e = .returned (.tuple #[.slice a m.length cap, .int .i64 r]) ∧ OpA w' a m.length m ∧ (a = none → cap = 0)
set_option maxHeartbeats 2000000 in
theorem rcright_is (k n : Int) (r : Bool) (w : World) (hk : OkO (k, n)) (hr : rightO (k, n) = r) : Calls Try.prog 41 #[.agg #[.int .i64 k, .int .u64 n]] w fun e w' => e = .returned (.bool r) ∧ Below w.heap.size w w' := by
  have HR := Lib.hid hr
  clear hr
  go_enter Try.func41, Try.ntmps41
  go_upto_region 1 with fail
  refine wp_gen (fun W => Below w.heap.size w W ∧ W.cell? ⟨w.heap.size, 0, none⟩ = some (.int .i64 k) ∧ W.cell? ⟨w.heap.size, 1, none⟩ = some (.int .u64 n)) ⟨(Below.refl _ _).alloc (Nat.le_refl _) _, by simp [go_sem], by simp [go_sem]⟩ ?_
  obtain ⟨g, hg⟩ : ∃ g, w.heap.size = g := ⟨_, rfl⟩
  rintro W1 ⟨hB, c0, c1⟩
  rw [hg] at c0 c1
  simp only [hg]
  have HB := Lib.hid hB
  clear hB hg
  have hcase : k = 1 ∨ k = 2 ∨ k = 3 ∨ k = 4 ∨ k = 5 ∨ k = 6 ∨ (¬ k = 1 ∧ ¬ k = 2 ∧ ¬ k = 3 ∧ ¬ k = 4 ∧ ¬ k = 5 ∧ ¬ k = 6) := by omega
  rcases hcase with rfl | rfl | rfl | rfl | rfl | rfl | ⟨h1, h2, h3, h4, h5, h6⟩
  all_goals
    go_wp2_with fail
    go_ret
    refine ⟨?_, HB.out⟩
    rw [← HR.out]
    (simp_all [rightO]) <;> (rw [Bool.eq_iff_iff]; simp)
/-- The same operations: where they are. -/
def SameRel15 (w : World) (n : Nat) (i : Value) (W : World) : Prop := ∃ k : Nat, k ≤ n ∧ i = .int .i64 k ∧ Below w.heap.size w W
end Go.Proofs.Ytlgfnlkblehlbaa
