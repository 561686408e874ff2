/-
  The words of a polynomial fold into one another at each place. Plain.
-/
import Derived.Test.YthfkfgjhgicfeaaGreatDoorGJudgeR
namespace Go.Proofs.YthfkfgjhgicfeaaGreatDoor
open Go Go.RowKit
set_option linter.unusedVariables false

theorem qe_lift (c : Nat → F2) (x : F) : ∀ n, qe n c (lift x) = evQ n c x
  | 0 => rfl
  | n + 1 => by
    have h := qe_lift c x n
    unfold qe at h ⊢
    rw [sq_succ, h, lift_qpow, ← scale_lift]
    unfold evQ ev
    rw [sm_succ, sm_succ]
    rfl
theorem finAt_ev (zs : QL) (x : F) : finAt zs x = evQ zs.length (qAt zs) x := by
  unfold finAt
  rw [List.length_map, ← qe_lift]
  refine qe_congr fun i hi => ?_
  unfold cq qAt
  simp [List.getD, hi]
def twoAt (w : QL) (i h : Nat) : Quad := (w.getD i (0, 0), w.getD (i + h) (0, 0))
/-! ### Sums -/
/-! ### Another first value -/
theorem lift_ne0 {a : F} (h : a ≠ 0) : lift a ≠ 0 := fun h0 => h (congrArg F2.a h0)
theorem halfF_ne : halfF ≠ 0 := fun h => by
  have h2 := mul_finv 2 (by decide)
  rw [show finv 2 = halfF from rfl, h] at h2
  revert h2
  decide +kernel
theorem alg_first (u y v : F2) : u * (1 + y * v) = y * (u * v) + u := F2.eq (by simp only [F2.mul_a, F2.add_a, F2.mul_b, F2.add_b, F2.one_a, F2.one_b]; grind) (by simp only [F2.mul_a, F2.add_a, F2.mul_b, F2.add_b, F2.one_a, F2.one_b]; grind)
theorem alg_d (d y h v : F2) : (d + 0) * h + y * ((d - 0) * (h * v)) = (d * h) * (1 + y * v) := F2.eq (by simp only [F2.mul_a, F2.add_a, F2.mul_b, F2.add_b, F2.sub_a, F2.sub_b, F2.one_a, F2.one_b, F2.zero_a, F2.zero_b]; grind) (by simp only [F2.mul_a, F2.add_a, F2.mul_b, F2.add_b, F2.sub_a, F2.sub_b, F2.one_a, F2.one_b, F2.zero_a, F2.zero_b]; grind)
/-- Two values fold alike only where they are alike, or where what is folded by is less the place's point. -/
theorem foldV_first {a a' b y : F2} {x : F} (hx : x ≠ 0) (h : foldV a b y x = foldV a' b y x) : a' = a ∨ y + lift x = 0 := by
  have hd : foldV (a' - a) 0 y x = 0 := by
    have e := foldV_add a b (a' - a) 0 y x
    rw [show a + (a' - a) = a' from F2.eq (by show a.a + (a'.a - a.a) = a'.a; grind) (by show a.b + (a'.b - a.b) = a'.b; grind), F2.add_zero, ← h] at e
    have : foldV a b y x + 0 = foldV a b y x + foldV (a' - a) 0 y x := by rw [F2.add_zero]; exact e
    exact (F2.eq (by have := congrArg F2.a this; rw [F2.add_a, F2.add_a] at this; grind) (by have := congrArg F2.b this; rw [F2.add_b, F2.add_b] at this; grind)).symm
  by_cases c : a' = a
  · exact Or.inl c
  · refine Or.inr ?_
    have hne : a' - a ≠ 0 := fun h0 => c (F2.eq (by have := congrArg F2.a h0; rw [F2.sub_a] at this; exact (by have h2 : a'.a - a.a = 0 := this; grind)) (by have := congrArg F2.b h0; rw [F2.sub_b] at this; exact (by have h2 : a'.b - a.b = 0 := this; grind)))
    generalize a' - a = d at *
    have hl : lift halfF ≠ 0 := lift_ne0 halfF_ne
    have e : foldV d 0 y x = (d * lift halfF) * (1 + y * lift (finv x)) := by
      unfold foldV
      rw [scale_lift, scale_lift, lift_mul]
      exact alg_d _ _ _ _
    rw [e] at hd
    have h1 := (F2.mul_eq_zero hd).resolve_left (F2.mul_ne_zero hne hl)
    have h2 := alg_first (lift x) y (lift (finv x))
    rw [h1, F2.mul_zero, ← lift_mul, mul_finv x hx, show (lift 1 : F2) = 1 from rfl, F2.mul_one] at h2
    exact h2.symm
end Go.Proofs.YthfkfgjhgicfeaaGreatDoor
