/-
  Work that a nonce shows: plain; what is asked of the program's calls of layer 14.
-/
import Derived.Test.YthmpojefoiojeaaDoorSpongeM
import Derived.Lib.BitFns
namespace Go.Proofs.YthmpojefoiojeaaDoor
open Go Go.RowKit
set_option linter.unusedVariables false

abbrev byte4 : ByteArray := ⟨#[4]⟩
/-- How many of 64 bits are 0, from the highest one on. -/
def lz (n : Int) : Int := 64 - (Lib.bitLen n.toNat : Int)
theorem lz_bd {n : Int} (h : U n) : 0 ≤ lz n ∧ lz n ≤ 64 := by
  have h2 := Lib.bitLen_le n.toNat 64 (Nat.le_refl _) (by have := h.2; simp only [Nat.reducePow]; omega)
  unfold lz
  omega
def workB (s : ByteArray) (n : Int) : ByteArray := sumB (byte4 ++ s ++ eightB n)
theorem workB_is (s : ByteArray) (n : Int) : sumB (byte4 ++ s ++ eightB n) = workB s n := by unfold workB; rfl
theorem workB_size (s : ByteArray) (n : Int) : (workB s n).size = 32 := by unfold workB; exact sumB_size _
def weightB (s : ByteArray) (n : Int) : Int := lz (numB (workB s n) 0)
theorem weightB_bd (s : ByteArray) (n : Int) : 0 ≤ weightB s n ∧ weightB s n ≤ 64 := lz_bd (numB_U _ _)
/-- The least nonce below n that meets it. -/
def least (p : Nat → Bool) : Nat → Option Nat
  | 0 => none
  | n + 1 => match least p n with
    | some k => some k
    | none => if p n then some n else none
theorem least_some {p : Nat → Bool} : ∀ {n k : Nat}, least p n = some k → k < n ∧ p k = true ∧ ∀ j, j < k → p j = false
  | 0, k, h => by cases h
  | n + 1, k, h => by
    rw [least] at h
    cases c : least p n with
    | some m =>
      rw [c] at h
      cases h
      obtain ⟨h1, h2, h3⟩ := least_some c
      exact ⟨by omega, h2, h3⟩
    | none =>
      rw [c] at h
      by_cases e : p n = true
      · simp only [if_pos e] at h
        cases h
        refine ⟨by omega, e, fun j hj => ?_⟩
        have := least_none.1 c j hj
        exact this
      · simp only [if_neg e] at h
        cases h
where
  least_none {p : Nat → Bool} : ∀ {n : Nat}, least p n = none ↔ ∀ j, j < n → p j = false
  | 0 => ⟨fun _ j hj => by omega, fun _ => rfl⟩
  | n + 1 => by
    rw [least]
    cases c : least p n with
    | some m =>
      refine ⟨(fun h => by cases h), fun h => ?_⟩
      have : ∀ j, j < n → p j = false := fun j hj => h j (by omega)
      rw [least_none.2 this] at c
      cases c
    | none =>
      by_cases e : p n = true
      · simp only [if_pos e]
        exact ⟨(fun h => by cases h), fun h => by rw [h n (by omega)] at e; cases e⟩
      · simp only [if_neg e]
        refine ⟨fun _ j hj => ?_, fun _ => trivial⟩
        by_cases d : j = n
        · subst d; simpa using e
        · exact least_none.1 c j (by omega)
theorem least_none {p : Nat → Bool} {n : Nat} : least p n = none ↔ ∀ j, j < n → p j = false := least_some.least_none
theorem least_le {p : Nat → Bool} {n m k : Nat} (h : least p n = some k) (hm : n ≤ m) : least p m = some k := by
  obtain ⟨h1, h2, h3⟩ := least_some h
  cases c : least p m with
  | none => have := least_none.1 c k (by omega); rw [h2] at this; cases this
  | some j =>
    obtain ⟨g1, g2, g3⟩ := least_some c
    have : ¬ j < k := fun x => by have := h3 j x; rw [g2] at this; cases this
    have : ¬ k < j := fun x => by have := g3 k x; rw [h2] at this; cases this
    rw [show j = k by omega]
def meetsB (s : ByteArray) (want : Int) (n : Nat) : Bool := decide (weightB s n ≥ want)
def searchB (s : ByteArray) (want : Int) (lim : Nat) : Int × Bool := match least (meetsB s want) lim with
  | some k => (k, true)
  | none => (0, false)
structure AskWork (G : World → Prop) : Prop where
  keep : ∀ {W W' : World}, G W → Below W.heap.size W W' → G W'
  weight : ∀ (s : ByteArray) (c n : Int) (W : World), s.size ≤ 10000 → U n → G W → Calls Tryd.prog 8 #[spong s c, .int .u64 n] W fun e w' => e = .returned (.int .i64 (weightB s n)) ∧ Below W.heap.size W w'
  meets : ∀ (s : ByteArray) (c n want : Int) (W : World), s.size ≤ 10000 → U n → -9223372036854775808 ≤ want ∧ want ≤ 9223372036854775807 → G W → Calls Tryd.prog 10 #[spong s c, .int .u64 n, .int .i64 want] W fun e w' => e = .returned (.bool (decide (weightB s n ≥ want))) ∧ Below W.heap.size W w'
  search : ∀ (s : ByteArray) (c want : Int) (lim : Nat) (W : World), s.size ≤ 10000 → -9223372036854775808 ≤ want ∧ want ≤ 9223372036854775807 → lim ≤ 1000000 → G W →
    Calls Tryd.prog 12 #[spong s c, .int .i64 want, .int .u64 lim] W fun e w' => e = .returned (.tuple #[.int .u64 (searchB s want lim).1, .bool (searchB s want lim).2]) ∧ Below W.heap.size W w'
end Go.Proofs.YthmpojefoiojeaaDoor
