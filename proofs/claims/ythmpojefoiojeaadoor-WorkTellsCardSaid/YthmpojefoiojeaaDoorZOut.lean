/-
  What zero.among, Out come to: contracts for the walk. (Written by gen_zpt.py.)
-/
import Derived.Test.YthmpojefoiojeaaDoorZPt
import Derived.Test.YthmpojefoiojeaaDoorGNum
namespace Go.Proofs.YthmpojefoiojeaaDoor
open Go.RowKit Go.Sort Go.BigFrame
set_option linter.unusedVariables false


/-- Two pairs' numbers, alike or not. -/
def EqB (a b c d : Int) (r : Bool) : Prop := (r = true ∧ a = c ∧ b = d) ∨ (r = false ∧ (a == c) = false) ∨ (r = false ∧ a = c ∧ (b == d) = false)
theorem eqB_enc (x y : F2) (r : Bool) (h : decide (x = y) = r) : EqB (enc x.a) (enc x.b) (enc y.a) (enc y.b) r := by
  by_cases h1 : x = y
  · exact Or.inl ⟨by rw [← h]; simpa using h1, by rw [h1], by rw [h1]⟩
  · have hr : r = false := by rw [← h]; simpa using h1
    by_cases ha : enc x.a = enc y.a
    · refine Or.inr (Or.inr ⟨hr, ha, ?_⟩)
      have : ¬ enc x.b = enc y.b := fun hb => h1 (F2.eq (enc_inj.mp ha) (enc_inj.mp hb))
      simpa using this
    · exact Or.inr (Or.inl ⟨hr, by simpa using ha⟩)

def AmongR (a b c k M pa pb q la lb : Int) (r : Bool) (sl : Nat) (v : Value) (W : World) : Prop :=
  match sl with
  | 7 => v = .agg #[.int .u64 a, .int .u64 b]
  | 8 => v = .int .i64 k
  | 9 => v = .int .u64 M
  | 10 => v = .agg #[.int .u64 pa, .int .u64 pb]
  | 11 => v = .int .u64 c
  | 12 => v = .int .i64 k
  | 13 => v = .int .u64 M
  | 14 => v = .int .u64 q
  | 15 => v = .agg #[.int .u64 la, .int .u64 lb]
  | _ => v = .bool r
theorem AmongR.keep {a b c k M pa pb q la lb : Int} {r : Bool} {sl : Nat} {v : Value} {W W' : World} (h : AmongR a b c k M pa pb q la lb r sl v W) (hb : Below W.heap.size W W') : AmongR a b c k M pa pb q la lb r sl v W' := h

theorem zq_one (W : World) (a b : Int) (t : TypeId) : QRow (W.alloc (.cells #[.int .u64 a, .int .u64 b] t)) (.slice (some ⟨W.heap.size, 0, none⟩) 1 1) [(a, b)] := by
  right; right
  refine ⟨W.heap.size, 0, 1, rfl, by simp, by unfold maxLen; omega, ?_⟩
  intro i hi
  have : i = 0 := by simp at hi; omega
  subst this; simp [go_sem]
/-- Whether a point lies out of rows and places, and isn't 0. -/
def outv (x : F2) (k m : Nat) : Bool := !decide (x = 0) && (!decide (qpow x (2 ^ k) = 1) && !decide (qpow x (2 ^ m) = lift (fpow 7 (2 ^ m))))
theorem zero_cases (x : F2) : (x = 0 ∧ enc x.a = 0 ∧ enc x.b = 0) ∨ (x ≠ 0 ∧ (enc x.a == 0) = false) ∨ (x ≠ 0 ∧ enc x.a = 0 ∧ (enc x.b == 0) = false) := by
  by_cases h : x = 0
  · exact Or.inl ⟨h, by rw [h]; rfl, by rw [h]; rfl⟩
  · by_cases h1 : enc x.a = 0
    · refine Or.inr (Or.inr ⟨h, h1, ?_⟩)
      have : ¬ enc x.b = 0 := fun h2 => h (F2.eq (enc_inj.mp (h1.trans enc_zero.symm)) (enc_inj.mp (h2.trans enc_zero.symm)))
      simpa using this
    · exact Or.inr (Or.inl ⟨h, by simpa using h1⟩)

end Go.Proofs.YthmpojefoiojeaaDoor
