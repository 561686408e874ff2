/-
  What is asked of the program's call of layer 16; the awake of its law; the walks of ShapeChecks and ShapeMore.
-/
import Derived.Test.YtckipfcjgmiacaaShapeRef
namespace Go.Proofs.Ytckipfcjgmiacaa
open Go Go.RowKit
set_option linter.unusedVariables false

structure AskShape (G : World → Prop) : Prop where
  keep : ∀ {W W' : World}, G W → Below W.heap.size W W' → G W'
  check : ∀ (a : Option Addr) (len cap : Nat) (zs : List Opn) (cols : Int) (nx : Bool) (d : Nat) (e : Int) (W : World), OpA W a len zs → (∀ o ∈ zs, OkO o) → len ≤ 1000 → -9223372036854775808 ≤ cols ∧ cols ≤ 9223372036854775807 → checkB zs cols nx = (d, e) → G W →
    Calls Try.prog 59 #[.slice a len cap, .int .i64 cols, .bool nx] W fun E w' => E = .returned (.tuple #[.int .i64 (d : Int), .int .i64 e]) ∧ Below W.heap.size W w'
theorem opA_lit (W : World) (t : TypeId) (l : List Opn) (cs : Array Value) (h : cs.toList = flatO l) (hl : l.length ≤ 1000) : OpA (W.alloc (.cells cs t)) (some ⟨W.heap.size, 0, none⟩) l.length l := by
  refine ⟨rfl, by unfold maxLen; omega, fun k hk => ⟨W.heap.size, 0, rfl, ?_⟩⟩
  obtain ⟨f0, f1⟩ := flatO_at l k hk
  have e : ∀ j v, (flatO l)[j]? = some v → (W.alloc (.cells cs t)).cell? ⟨W.heap.size, j, none⟩ = some v := fun j v hv => by
    rw [← h] at hv
    have : cs[j]? = some v := by simpa using hv
    simp [go_sem, this]
  rw [Nat.zero_add]
  exact ⟨e _ _ f0, e _ _ f1⟩
abbrev opX : Opn := (1, 0)
abbrev opY : Opn := (2, 1)
abbrev opM : Opn := (6, 0)
theorem okX : ∀ o, o = opX ∨ o = opY ∨ o = opM → OkO o := by
  rintro o (rfl | rfl | rfl) <;> exact ⟨by decide, by unfold U; decide⟩
theorem tell1 : checkB [opX, opY, opM] 2 true = (2, 0) := by decide +kernel
theorem tell2 : checkB [opX, opY, opM] 2 false = (0, 3) := by decide +kernel
theorem tell3 : checkB [opX, opY] 2 true = (0, 4) := by decide +kernel
theorem tell4 : checkB [opM] 2 true = (0, 4) := by decide +kernel
theorem tell5 : checkB [opY] 1 true = (0, 3) := by decide +kernel
theorem tell6 : checkB [opX, opX, opM, opX, opM, opX, opM, opX, opM] 2 true = (0, 5) := by decide +kernel
theorem tell7 : checkB [] 2 true = (0, 4) := by decide +kernel
theorem opA_none (W : World) : OpA W none 0 [] := ⟨rfl, by unfold maxLen; omega, fun k hk => by omega⟩
end Go.Proofs.Ytckipfcjgmiacaa
