/-
  Ways up, text by text: plain; what is asked of the program's calls of layer 11.
-/
import Derived.Test.YtfnmlegikcogoaaDoorTreeM
namespace Go.Proofs.YtfnmlegikcogoaaDoor
open Go Go.RowKit
set_option linter.unusedVariables false

/-- A place, halved so often (towards 0). -/
def hv (i : Int) : Nat → Int
  | 0 => i
  | k + 1 => (hv i k).tdiv 2
theorem hv_nat (i : Nat) : ∀ k, hv (i : Int) k = ((i / 2 ^ k : Nat) : Int)
  | 0 => by simp [hv]
  | k + 1 => by rw [hv, hv_nat i k, half_pow]; rfl
theorem hv_bd {i : Int} (h : -9223372036854775808 ≤ i ∧ i ≤ 9223372036854775807) : ∀ k, -9223372036854775808 ≤ hv i k ∧ hv i k ≤ 9223372036854775807
  | 0 => h
  | k + 1 => by
    have := hv_bd h k
    rw [hv]
    generalize hv i k = x at *
    rcases Int.le_total 0 x with c | c
    · rw [Int.tdiv_eq_ediv_of_nonneg c]; omega
    · obtain ⟨y, hy⟩ : ∃ y, x = -y := ⟨-x, by omega⟩
      subst hy
      rw [Int.neg_tdiv, Int.tdiv_eq_ediv_of_nonneg (by omega)]; omega
/-- What is summed on the way: the row's text behind a byte 0; then two sums behind a byte 1. -/
def trailT (s : ByteArray) (i : Int) (g : Nat → ByteArray) : Nat → ByteArray
  | 0 => byte0 ++ s
  | k + 1 => if (hv i k).tmod 2 = 0 then byte1 ++ sumB (trailT s i g k) ++ g k else byte1 ++ g k ++ sumB (trailT s i g k)
theorem trail_climb (s : ByteArray) (i : Nat) (g : Nat → ByteArray) : ∀ k, sumB (trailT s i g k) = climbB (leafB s) i g k
  | 0 => rfl
  | k + 1 => by
    have e : (hv (i : Int) k).tmod 2 = 0 ↔ i / 2 ^ k % 2 = 0 := by
      rw [hv_nat]
      generalize i / 2 ^ k = j
      rw [Int.tmod_eq_emod_of_nonneg (by omega)]
      omega
    rw [trailT, climbB]
    by_cases h : i / 2 ^ k % 2 = 0
    · rw [if_pos h, if_pos (e.2 h), trail_climb s i g k]; rfl
    · rw [if_neg h, if_neg (fun c => h (e.1 c)), trail_climb s i g k]; rfl
theorem trail_size (s : ByteArray) (i : Int) (g : Nat → ByteArray) (m : Nat) (hg : ∀ k, k < m → (g k).size = 32) : ∀ k, k < m → (trailT s i g (k + 1)).size = 65 := by
  intro k hk
  rw [trailT]
  have h1 := hg k hk
  have h2 := sumB_size (trailT s i g k)
  split <;> rw [ByteArray.size_append, ByteArray.size_append, h1, h2] <;> rfl
theorem append_inj2 {a b c d : ByteArray} (h : a ++ b = c ++ d) (hs : a.size = c.size) : a = c ∧ b = d := by
  have hl : a.data.toList ++ b.data.toList = c.data.toList ++ d.data.toList := by
    have := congrArg (fun x => x.data.toList) h
    simpa using this
  have hs' : a.data.toList.length = c.data.toList.length := by rw [← Go.Lib.size_eq, ← Go.Lib.size_eq]; exact hs
  obtain ⟨h1, h2⟩ := List.append_inj hl hs'
  exact ⟨ByteArray.ext (Array.toList_inj.1 h1), ByteArray.ext (Array.toList_inj.1 h2)⟩
/-- Ways that meet in one text come of like sums. -/
theorem trail_back {s t : ByteArray} {i : Int} {g h : Nat → ByteArray} {k : Nat} (hg : (g k).size = 32) (hh : (h k).size = 32) (e : trailT s i g (k + 1) = trailT t i h (k + 1)) : sumB (trailT s i g k) = sumB (trailT t i h k) := by
  have z1 := sumB_size (trailT s i g k)
  have z2 := sumB_size (trailT t i h k)
  rw [trailT, trailT] at e
  split at e
  · obtain ⟨e1, _⟩ := append_inj2 e (by rw [ByteArray.size_append, ByteArray.size_append, z1, z2])
    exact (append_inj2 e1 rfl).2
  · exact (append_inj2 e (by rw [ByteArray.size_append, ByteArray.size_append, hg, hh])).2
/-- The last place where two lists of as many texts are unlike: so many places from the first one on are looked at. -/
def lastU (f g : Nat → ByteArray) : Nat → Option Nat
  | 0 => none
  | n + 1 => if f n ≠ g n then some n else lastU f g n
theorem lastU_some {f g : Nat → ByteArray} : ∀ {n k : Nat}, lastU f g n = some k → k < n ∧ f k ≠ g k ∧ ∀ j, k < j → j < n → f j = g j
  | 0, k, h => by cases h
  | n + 1, k, h => by
    rw [lastU] at h
    by_cases c : f n ≠ g n
    · rw [if_pos c] at h
      cases h
      exact ⟨by omega, c, fun j h1 h2 => by omega⟩
    · rw [if_neg c] at h
      obtain ⟨h1, h2, h3⟩ := lastU_some h
      refine ⟨by omega, h2, fun j hj hj2 => ?_⟩
      by_cases e : j = n
      · subst e; exact Classical.byContradiction c
      · exact h3 j hj (by omega)
theorem lastU_none {f g : Nat → ByteArray} : ∀ {n : Nat}, lastU f g n = none ↔ ∀ j, j < n → f j = g j
  | 0 => by simp [lastU]
  | n + 1 => by
    rw [lastU]
    by_cases c : f n ≠ g n
    · rw [if_pos c]
      exact ⟨(fun h => by cases h), fun h => absurd (h n (by omega)) c⟩
    · rw [if_neg c, lastU_none]
      refine ⟨fun h j hj => ?_, fun h j hj => h j (by omega)⟩
      by_cases e : j = n
      · subst e; exact Classical.byContradiction c
      · exact h j (by omega)
/-- What is told: two texts and true; or nothing. -/
def unlikeB (f g : Nat → ByteArray) (n m : Nat) : ByteArray × ByteArray × Bool :=
  if n = m then match lastU f g n with
    | some k => (f k, g k, true)
    | none => (⟨#[]⟩, ⟨#[]⟩, false)
  else (⟨#[]⟩, ⟨#[]⟩, false)
theorem unlikeB_ok (f g : Nat → ByteArray) (n m : Nat) : (unlikeB f g n m).2.2 = decide (n = m ∧ ¬ ∀ j, j < n → f j = g j) := by
  unfold unlikeB
  by_cases h : n = m
  · rw [if_pos h]
    cases c : lastU f g n with
    | none =>
      have := lastU_none.1 c
      exact (decide_eq_false (fun x => x.2 this)).symm
    | some k =>
      obtain ⟨h1, h2, _⟩ := lastU_some c
      exact (decide_eq_true ⟨h, fun x => h2 (x k h1)⟩).symm
  · rw [if_neg h]
    exact (decide_eq_false (fun x => h x.1)).symm
theorem unlikeB_ne (f g : Nat → ByteArray) (n m : Nat) (h : (unlikeB f g n m).2.2 = true) : (unlikeB f g n m).1 ≠ (unlikeB f g n m).2.1 := by
  unfold unlikeB at h ⊢
  by_cases e : n = m
  · rw [if_pos e] at h ⊢
    cases c : lastU f g n with
    | none => rw [c] at h; cases h
    | some k => exact (lastU_some c).2.1
  · rw [if_neg e] at h; cases h
/-- Two openings of one place that lead to one root, of unlike texts: two unlike texts of one sum are told. -/
theorem clash_binds {s t : ByteArray} {i : Int} {g h : Nat → ByteArray} {n : Nat} (hg : ∀ k, k < n → (g k).size = 32) (hh : ∀ k, k < n → (h k).size = 32) (hr : sumB (trailT s i g n) = sumB (trailT t i h n)) (hne : s ≠ t) :
    ∃ x y, unlikeB (trailT s i g) (trailT t i h) (n + 1) (n + 1) = (x, y, true) ∧ x ≠ y ∧ sumB x = sumB y ∧ max x.size y.size ≤ max 65 (max (1 + s.size) (1 + t.size)) := by
  have h0 : trailT s i g 0 ≠ trailT t i h 0 := fun e => hne (append_inj2 e rfl).2
  cases c : lastU (trailT s i g) (trailT t i h) (n + 1) with
  | none => exact absurd (lastU_none.1 c 0 (by omega)) h0
  | some k =>
    obtain ⟨h1, h2, h3⟩ := lastU_some c
    refine ⟨trailT s i g k, trailT t i h k, by unfold unlikeB; rw [if_pos rfl, c], h2, ?_, ?_⟩
    · by_cases e : k = n
      · subst e; exact hr
      · exact trail_back (hg k (by omega)) (hh k (by omega)) (h3 (k + 1) (by omega) (by omega))
    · cases k with
      | zero =>
        rw [trailT, trailT, ByteArray.size_append, ByteArray.size_append]
        show max (1 + _) (1 + _) ≤ _
        omega
      | succ k =>
        rw [trail_size s i g n hg k (by omega), trail_size t i h n hh k (by omega)]
        omega
/-- Of two openings: their texts and their paths. -/
def extractB (root : ByteArray) (depth i : Int) (s : ByteArray) (g : Nat → ByteArray) (n : Nat) (t : ByteArray) (h : Nat → ByteArray) (m : Nat) : ByteArray × ByteArray × Bool :=
  if leadsB root depth i (leafB s) g n = true ∧ leadsB root depth i (leafB t) h m = true ∧ s ≠ t then unlikeB (trailT s i g) (trailT t i h) (n + 1) (m + 1) else (⟨#[]⟩, ⟨#[]⟩, false)
structure AskClash (G : World → Prop) : Prop where
  keep : ∀ {W W' : World}, G W → Below W.heap.size W W' → G W'
  trail : ∀ (i : Int) (a : Option Addr) (len cap : Nat) (zs : List Int) (b : Option Addr) (lenb capb : Nat) (qs : List (Int × Int)) (p : Option Addr) (n c : Nat) (g : Nat → ByteArray) (W : World), RowA W a len zs → (∀ n ∈ zs, U n) → QRowA W b lenb qs → (∀ n ∈ qs, U n.1 ∧ U n.2) → len ≤ 10000 → lenb ≤ 10000 →
    StrS W p n c g → n ≤ 70 → (∀ k, k < n → (g k).size ≤ 100) → -9223372036854775808 ≤ i ∧ i ≤ 9223372036854775807 → G W →
    Calls Tryd.prog 11 #[.int .i64 i, .agg #[.slice a len cap, .slice b lenb capb, .slice p n c]] W fun e w' => Below W.heap.size W w' ∧ ∃ r cr, e = .returned (.slice r (n + 1) cr) ∧ StrS w' r (n + 1) cr (trailT (openB zs qs) i g)
  unlike : ∀ (a : Option Addr) (n c : Nat) (f : Nat → ByteArray) (b : Option Addr) (m d : Nat) (g : Nat → ByteArray) (x y : ByteArray) (ok : Bool) (W : World), StrS W a n c f → StrS W b m d g → n ≤ 100 → m ≤ 100 → unlikeB f g n m = (x, y, ok) → G W →
    Calls Tryd.prog 13 #[.slice a n c, .slice b m d] W fun e w' => e = .returned (.tuple #[.string x, .string y, .bool ok]) ∧ Below W.heap.size W w'
  extract : ∀ (root : ByteArray) (depth i : Int) (a : Option Addr) (len cap : Nat) (zs : List Int) (b : Option Addr) (lenb capb : Nat) (qs : List (Int × Int)) (p : Option Addr) (n c : Nat) (g : Nat → ByteArray) (a2 : Option Addr) (len2 cap2 : Nat) (zs2 : List Int) (b2 : Option Addr) (lenb2 capb2 : Nat) (qs2 : List (Int × Int)) (p2 : Option Addr) (n2 c2 : Nat) (g2 : Nat → ByteArray) (x y : ByteArray) (ok : Bool) (W : World),
    RowA W a len zs → (∀ n ∈ zs, U n) → QRowA W b lenb qs → (∀ n ∈ qs, U n.1 ∧ U n.2) → len ≤ 10000 → lenb ≤ 10000 → StrS W p n c g → n ≤ 70 → (∀ k, k < n → (g k).size ≤ 100) →
    RowA W a2 len2 zs2 → (∀ n ∈ zs2, U n) → QRowA W b2 lenb2 qs2 → (∀ n ∈ qs2, U n.1 ∧ U n.2) → len2 ≤ 10000 → lenb2 ≤ 10000 → StrS W p2 n2 c2 g2 → n2 ≤ 70 → (∀ k, k < n2 → (g2 k).size ≤ 100) →
    -9223372036854775808 ≤ depth ∧ depth ≤ 9223372036854775807 → -9223372036854775808 ≤ i ∧ i ≤ 9223372036854775807 → extractB root depth i (openB zs qs) g n (openB zs2 qs2) g2 n2 = (x, y, ok) → G W →
    Calls Tryd.prog 15 #[.string root, .int .i64 depth, .int .i64 i, .agg #[.slice a len cap, .slice b lenb capb, .slice p n c], .agg #[.slice a2 len2 cap2, .slice b2 lenb2 capb2, .slice p2 n2 c2]] W fun e w' => e = .returned (.tuple #[.string x, .string y, .bool ok]) ∧ Below W.heap.size W w'
end Go.Proofs.YtfnmlegikcogoaaDoor
