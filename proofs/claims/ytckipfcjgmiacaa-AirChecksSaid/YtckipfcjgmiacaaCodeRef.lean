/-
  What the document's calls of layer 15 come to: Right, takes, Print, Same. What is asked of the program's calls.
-/
import Derived.Test.YtckipfcjgmiacaaCodeBack
import Derived.Test.YtckipfcjgmiacaaBeside
import Derived.Laws.BytesArg
namespace Go.Proofs.Ytckipfcjgmiacaa
open Go Go.RowKit
set_option linter.unusedVariables false

/-- A slice of operations. -/
def OpA (w : World) (a : Option Addr) (len : Nat) (zs : List Opn) : Prop :=
  zs.length = len ∧ len ≤ maxLen ∧ ∀ k, k < len → ∃ b off : Nat, a = some ⟨b, off, none⟩ ∧ w.cell? ⟨b, off + k * 2, none⟩ = some (.int .i64 (zs.getD k (0, 0)).1) ∧ w.cell? ⟨b, off + k * 2 + 1, none⟩ = some (.int .u64 (zs.getD k (0, 0)).2)
theorem OpA.keep {w w' : World} {a : Option Addr} {len : Nat} {zs : List Opn} (h : OpA w a len zs) (hb : Below w.heap.size w w') : OpA w' a len zs :=
  ⟨h.1, h.2.1, fun k hk => by obtain ⟨b, off, e, c0, c1⟩ := h.2.2 k hk; exact ⟨b, off, e, bkeep hb c0, bkeep hb c1⟩⟩
abbrev opV (o : Opn) : Value := .agg #[.int .i64 o.1, .int .u64 o.2]
/-- An operation, as it may come. -/
def OkO (o : Opn) : Prop := (-9223372036854775808 ≤ o.1 ∧ o.1 ≤ 9223372036854775807) ∧ U o.2
def ParsePost (W : World) (m : List Opn) (r : Int) (e : Ending) (w' : World) : Prop :=
  Below W.heap.size W w' ∧ ∃ (a : Option Addr) (cap : Nat), e = .returned (.tuple #[.slice a m.length cap, .int .i64 r]) ∧ OpA w' a m.length m ∧ (a = none → cap = 0)
set_option maxHeartbeats 2000000 in
theorem rcright_is (k n : Int) (r : Bool) (w : World) (hk : OkO (k, n)) (hr : rightO (k, n) = r) : Calls Try.prog 42 #[.agg #[.int .i64 k, .int .u64 n]] w fun e w' => e = .returned (.bool r) ∧ Below w.heap.size w w' := by
  have HR := Lib.hid hr
  clear hr
  go_enter Try.func42, Try.ntmps42
  go_upto_region 1 with fail
  refine wp_gen (fun W => Below w.heap.size w W ∧ W.cell? ⟨w.heap.size, 0, none⟩ = some (.int .i64 k) ∧ W.cell? ⟨w.heap.size, 1, none⟩ = some (.int .u64 n)) ⟨(Below.refl _ _).alloc (Nat.le_refl _) _, by simp [go_sem], by simp [go_sem]⟩ ?_
  obtain ⟨g, hg⟩ : ∃ g, w.heap.size = g := ⟨_, rfl⟩
  rintro W1 ⟨hB, c0, c1⟩
  rw [hg] at c0 c1
  simp only [hg]
  have HB := Lib.hid hB
  clear hB hg
  have hcase : k = 1 ∨ k = 2 ∨ k = 3 ∨ k = 4 ∨ k = 5 ∨ k = 6 ∨ (¬ k = 1 ∧ ¬ k = 2 ∧ ¬ k = 3 ∧ ¬ k = 4 ∧ ¬ k = 5 ∧ ¬ k = 6) := by omega
  rcases hcase with rfl | rfl | rfl | rfl | rfl | rfl | ⟨h1, h2, h3, h4, h5, h6⟩
  all_goals
    go_wp2_with fail
    go_ret
    refine ⟨?_, HB.out⟩
    rw [← HR.out]
    (simp_all [rightO]) <;> (rw [Bool.eq_iff_iff]; simp)
set_option maxHeartbeats 1000000 in
theorem rtakes_is (k : Int) (r : Bool) (w : World) (hr : decide (k = 1 ∨ k = 2 ∨ k = 3) = r) : Calls Try.prog 41 #[.int .i64 k] w fun e w' => e = .returned (.bool r) ∧ w' = w := by
  subst hr
  by_cases h1 : k = 1
  · subst h1
    go_enter Try.func41, Try.ntmps41
    go_wp2
    go_ret
    exact ⟨rfl, rfl⟩
  · by_cases h2 : k = 2
    · subst h2
      go_enter Try.func41, Try.ntmps41
      go_wp2
      go_ret
      exact ⟨rfl, rfl⟩
    · by_cases h3 : k = 3
      · subst h3
        go_enter Try.func41, Try.ntmps41
        go_wp2
        go_ret
        exact ⟨rfl, rfl⟩
      · have e : decide (k = 1 ∨ k = 2 ∨ k = 3) = false := decide_eq_false (by omega)
        rw [e]
        clear e
        go_enter Try.func41, Try.ntmps41
        go_wp2
        go_ret
        exact ⟨by simp [h1, h2, h3], rfl⟩
/-- The same operations: where they are. -/
def SameRel15 (w : World) (n : Nat) (i : Value) (W : World) : Prop := ∃ k : Nat, k ≤ n ∧ i = .int .i64 k ∧ Below w.heap.size w W
set_option maxHeartbeats 2000000 in
theorem rsameO_is (a1 a2 : Option Addr) (n c1 c2 : Nat) (zs : List Opn) (w : World) (h1 : OpA w a1 n zs) (h2 : OpA w a2 n zs) : Calls Try.prog 14 #[.slice a1 n c1, .slice a2 n c2] w fun e w' => e = .returned (.bool true) ∧ Below w.heap.size w w' := by
  have hm := h1.2.1
  unfold maxLen at hm
  have H1 := Lib.hid h1; have H2 := Lib.hid h2
  clear h1 h2
  go_enter Try.func14, Try.ntmps14
  go_upto_region 4 with fail
  go_loopw [5] (SameRel15 w n) (fun i _ => n - (intOf i).toNat)
  case atStart => exact ⟨0, Nat.zero_le _, rfl, Below.refl _ _⟩
  case round =>
    obtain ⟨k, hk, rfl, hB⟩ := hrel
    by_cases hlt : k < n
    · have hlt' : (k : Int) < (n : Int) := by omega
      have hk0 : (0 : Int) ≤ (k : Int) := by omega
      obtain ⟨b, off, rfl, u0, u1⟩ := H1.out.2.2 k hlt
      obtain ⟨b', off', rfl, v0, v1⟩ := H2.out.2.2 k hlt
      replace u0 := bkeep hB u0; replace u1 := bkeep hB u1; replace v0 := bkeep hB v0; replace v1 := bkeep hB v1
      have HB := Lib.hid hB
      clear hB
      generalize (zs.getD k (0, 0)).1 = x at *
      generalize (zs.getD k (0, 0)).2 = y at *
      go_upto_region 6 with fail
      go_region
      go_wp2_with fail
      go_roundw
      case rel => exact ⟨k + 1, by omega, by go_num, HB.out.drew⟩
      case measure => simp [intOf]; omega
    · obtain rfl : k = n := by omega
      have HB := Lib.hid hB
      clear hB H1 H2
      go_wp2_with fail
      go_ret
      exact ⟨rfl, HB.out⟩
end Go.Proofs.Ytckipfcjgmiacaa
