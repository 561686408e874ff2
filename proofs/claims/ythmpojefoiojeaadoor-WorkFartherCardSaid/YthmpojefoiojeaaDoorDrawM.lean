/-
  What is drawn of a sponge: plain; what is asked of the program's calls of layer 13.
-/
import Derived.Test.YthmpojefoiojeaaDoorSpongeM
import Derived.Test.YthmpojefoiojeaaDoorZOut
import Derived.Test.YthmpojefoiojeaaDoorGRow
namespace Go.Proofs.YthmpojefoiojeaaDoor
open Go Go.RowKit
set_option linter.unusedVariables false

def up (c : Int) : Int := IntKind.i64.wrap (c + 1)
theorem up_bd (c : Int) : -9223372036854775808 ≤ up c ∧ up c ≤ 9223372036854775807 := by unfold up; rw [IntKind.wrap_i64]; omega
/-- The next pair; at most so many tries. -/
def pairD (X : Int → ByteArray) : Nat → Int → Int × (Int × Int) × Bool
  | 0, c => (c, (0, 0), false)
  | k + 1, c => if numB (X c) 0 < 18446744069414584321 ∧ numB (X c) 8 < 18446744069414584321 then (up c, (numB (X c) 0, numB (X c) 8), true) else pairD X k (up c)
theorem pairD_bd (X : Int → ByteArray) : ∀ (k : Nat) (c : Int), -9223372036854775808 ≤ c ∧ c ≤ 9223372036854775807 → -9223372036854775808 ≤ (pairD X k c).1 ∧ (pairD X k c).1 ≤ 9223372036854775807
  | 0, c, h => h
  | k + 1, c, h => by
    rw [pairD]
    split
    · exact up_bd c
    · exact pairD_bd X k (up c) (up_bd c)
theorem pairD_fit (X : Int → ByteArray) : ∀ (k : Nat) (c : Int), (0 ≤ (pairD X k c).2.1.1 ∧ (pairD X k c).2.1.1 < 18446744069414584321) ∧ (0 ≤ (pairD X k c).2.1.2 ∧ (pairD X k c).2.1.2 < 18446744069414584321)
  | 0, c => by show (0 ≤ (0 : Int) ∧ (0 : Int) < 18446744069414584321) ∧ (0 ≤ (0 : Int) ∧ (0 : Int) < 18446744069414584321); omega
  | k + 1, c => by
    rw [pairD]
    split
    · next h => exact ⟨⟨(numB_U _ _).1, h.1⟩, ⟨(numB_U _ _).1, h.2⟩⟩
    · exact pairD_fit X k (up c)
theorem pairD_or (X : Int → ByteArray) : ∀ (k : Nat) (c : Int), (pairD X k c).2.2 = true ∨ (pairD X k c).2.1 = (0, 0)
  | 0, c => Or.inr rfl
  | k + 1, c => by
    rw [pairD]
    split
    · exact Or.inl rfl
    · exact pairD_or X k (up c)
theorem pairD_no (X : Int → ByteArray) (k : Nat) (c : Int) (h : (pairD X k c).2.2 = false) : (pairD X k c).2.1 = (0, 0) := by
  rcases pairD_or X k c with d | d
  · rw [h] at d; cases d
  · exact d
theorem pairD_step {X : Int → ByteArray} {k : Nat} {c : Int} {res : Int × (Int × Int) × Bool} (h : pairD X (k + 1) c = res) :
    (numB (X c) 0 < 18446744069414584321 → numB (X c) 8 < 18446744069414584321 → (up c, (numB (X c) 0, numB (X c) 8), true) = res) ∧ (¬ (numB (X c) 0 < 18446744069414584321 ∧ numB (X c) 8 < 18446744069414584321) → pairD X k (up c) = res) := by
  rw [pairD] at h
  refine ⟨fun h1 h2 => ?_, fun h1 => ?_⟩
  · rw [if_pos ⟨h1, h2⟩] at h; exact h
  · rw [if_neg h1] at h; exact h
/-- So many pairs, one behind the other; none, as soon as one doesn't come. -/
abbrev Drawn := Int × (Int × Int) × Bool
def pairsD (p : Int → Drawn) (c : Int) : Nat → Int × List (Int × Int) × Bool
  | 0 => (c, [], true)
  | k + 1 => if (pairsD p c k).2.2 = true then
      (if (p (pairsD p c k).1).2.2 = true then ((p (pairsD p c k).1).1, (pairsD p c k).2.1 ++ [(p (pairsD p c k).1).2.1], true) else ((p (pairsD p c k).1).1, [], false))
    else ((pairsD p c k).1, [], false)
theorem pairsD_stop (p : Int → Drawn) (c : Int) (k : Nat) (h : (pairsD p c k).2.2 = false) : (pairsD p c k).2.1 = [] ∧ ∀ n, k ≤ n → pairsD p c n = ((pairsD p c k).1, [], false) := by
  have h1 : (pairsD p c k).2.1 = [] := by
    cases k with
    | zero => cases h
    | succ k =>
      rw [pairsD] at h ⊢
      split
      · next d =>
        rw [if_pos d] at h
        split
        · next e => rw [if_pos e] at h; cases h
        · rfl
      · rfl
  refine ⟨h1, fun n hn => ?_⟩
  obtain ⟨m, rfl⟩ : ∃ m, n = k + m := ⟨n - k, by omega⟩
  clear hn
  induction m with
  | zero =>
    show pairsD p c k = _
    exact Prod.ext rfl (Prod.ext h1 h)
  | succ m ih =>
    rw [Nat.add_succ, pairsD, ih, if_neg (fun h => by cases h)]
theorem pairsD_len (p : Int → Drawn) (c : Int) : ∀ k, (pairsD p c k).2.2 = true → (pairsD p c k).2.1.length = k
  | 0, _ => rfl
  | k + 1, h => by
    rw [pairsD] at h ⊢
    split
    · next d =>
      rw [if_pos d] at h
      split
      · rw [List.length_append, pairsD_len p c k d]; rfl
      · next e => rw [if_neg e] at h; cases h
    · next d => rw [if_neg d] at h; cases h
theorem pairsD_bd (p : Int → Drawn) (hp : ∀ c, -9223372036854775808 ≤ c ∧ c ≤ 9223372036854775807 → -9223372036854775808 ≤ (p c).1 ∧ (p c).1 ≤ 9223372036854775807) (c : Int) (hc : -9223372036854775808 ≤ c ∧ c ≤ 9223372036854775807) : ∀ k, -9223372036854775808 ≤ (pairsD p c k).1 ∧ (pairsD p c k).1 ≤ 9223372036854775807
  | 0 => hc
  | k + 1 => by
    rw [pairsD]
    have := pairsD_bd p hp c hc k
    split
    · split <;> exact hp _ this
    · exact this
theorem pairsD_fit (p : Int → Drawn) (hp : ∀ c, (0 ≤ (p c).2.1.1 ∧ (p c).2.1.1 < 18446744069414584321) ∧ (0 ≤ (p c).2.1.2 ∧ (p c).2.1.2 < 18446744069414584321)) (c : Int) : ∀ k, ∀ x ∈ (pairsD p c k).2.1, (0 ≤ x.1 ∧ x.1 < 18446744069414584321) ∧ (0 ≤ x.2 ∧ x.2 < 18446744069414584321)
  | 0 => by intro x hx; cases hx
  | k + 1 => by
    rw [pairsD]
    split
    · split
      · intro x hx
        rcases List.mem_append.1 hx with hx | hx
        · exact pairsD_fit p hp c k x hx
        · obtain rfl : x = _ := by simpa using hx
          exact hp _
      · intro x hx; cases hx
    · intro x hx; cases hx
abbrev q2 (a b : Int) : F2 := ⟨toF a, toF b⟩
/-- The next pair that is out; at most so many tries. -/
def outD (p : Int → Drawn) (K M : Nat) : Nat → Int → Int × (Int × Int) × Bool
  | 0, c => (c, (0, 0), false)
  | k + 1, c => if (p c).2.2 = true then (if outv (q2 (p c).2.1.1 (p c).2.1.2) K M = true then p c else outD p K M k (p c).1) else ((p c).1, (0, 0), false)
theorem outD_out (p : Int → Drawn) (K M : Nat) : ∀ (k : Nat) (c : Int), (outD p K M k c).2.2 = true → outv (q2 (outD p K M k c).2.1.1 (outD p K M k c).2.1.2) K M = true
  | 0, c, h => by cases h
  | k + 1, c, h => by
    rw [outD] at h ⊢
    split
    · next d =>
      rw [if_pos d] at h
      split
      · next e => exact e
      · next e => rw [if_neg e] at h; exact outD_out p K M k _ h
    · next d => rw [if_neg d] at h; cases h
theorem outD_fit (p : Int → Drawn) (hp : ∀ c, (0 ≤ (p c).2.1.1 ∧ (p c).2.1.1 < 18446744069414584321) ∧ (0 ≤ (p c).2.1.2 ∧ (p c).2.1.2 < 18446744069414584321)) (K M : Nat) : ∀ (k : Nat) (c : Int), (0 ≤ (outD p K M k c).2.1.1 ∧ (outD p K M k c).2.1.1 < 18446744069414584321) ∧ (0 ≤ (outD p K M k c).2.1.2 ∧ (outD p K M k c).2.1.2 < 18446744069414584321)
  | 0, c => by show (0 ≤ (0 : Int) ∧ (0 : Int) < 18446744069414584321) ∧ (0 ≤ (0 : Int) ∧ (0 : Int) < 18446744069414584321); omega
  | k + 1, c => by
    rw [outD]
    split
    · split
      · exact hp c
      · exact outD_fit p hp K M k _
    · show (0 ≤ (0 : Int) ∧ (0 : Int) < 18446744069414584321) ∧ (0 ≤ (0 : Int) ∧ (0 : Int) < 18446744069414584321); omega
theorem outD_step {p : Int → Drawn} {K M k : Nat} {c r x y : Int} {ok : Bool} {res : Drawn} (h : outD p K M (k + 1) c = res) (hp : p c = (r, (x, y), ok)) :
    (ok = false → (r, (0, 0), false) = res) ∧ (ok = true → outv (q2 x y) K M = true → (r, (x, y), true) = res) ∧ (ok = true → outv (q2 x y) K M = false → outD p K M k r = res) := by
  rw [outD] at h
  simp only [hp] at h
  refine ⟨fun e => ?_, fun e e' => ?_, fun e e' => ?_⟩
  · subst e
    simpa using h
  · subst e
    simpa [e'] using h
  · subst e
    simpa [e'] using h
/-- So many places below 2^k. -/
def placesD (s : ByteArray) (c : Int) (k : Nat) : Nat → Int × List Int
  | 0 => (c, [])
  | i + 1 => (up (placesD s c k i).1, (placesD s c k i).2 ++ [numB (sqB s (placesD s c k i).1) 0 % (2 ^ k : Nat)])
theorem placesD_len (s : ByteArray) (c : Int) (k : Nat) : ∀ i, (placesD s c k i).2.length = i
  | 0 => rfl
  | i + 1 => by rw [placesD, List.length_append, placesD_len s c k i]; rfl
theorem placesD_bd (s : ByteArray) (c : Int) (k : Nat) (hc : -9223372036854775808 ≤ c ∧ c ≤ 9223372036854775807) : ∀ i, -9223372036854775808 ≤ (placesD s c k i).1 ∧ (placesD s c k i).1 ≤ 9223372036854775807
  | 0 => hc
  | i + 1 => up_bd _
/-- Where a place is drawn, whatever its bound. -/
theorem placesD_count (s : ByteArray) (c : Int) (k k' : Nat) : ∀ i, (placesD s c k i).1 = (placesD s c k' i).1
  | 0 => rfl
  | i + 1 => by rw [placesD, placesD, placesD_count s c k k' i]
theorem placesD_at (s : ByteArray) (c : Int) (k : Nat) : ∀ n i, i < n → (placesD s c k n).2.getD i 0 = numB (sqB s (placesD s c k i).1) 0 % (2 ^ k : Nat)
  | 0, i, h => by omega
  | n + 1, i, h => by
    rw [placesD]
    by_cases e : i = n
    · subst e
      simp [List.getD, placesD_len]
    · rw [← placesD_at s c k n i (by omega)]
      simp [List.getD, List.getElem?_append_left, placesD_len, show i < n by omega]
/-- A slice of places. -/
def IRowA (w : World) (a : Option Addr) (len : Nat) (zs : List Int) : Prop :=
  zs.length = len ∧ len ≤ maxLen ∧ ∀ k, k < len → ∃ b off : Nat, a = some ⟨b, off, none⟩ ∧ w.cell? ⟨b, off + k, none⟩ = some (.int .i64 (zs.getD k 0))
theorem IRowA.keep {w w' : World} {a : Option Addr} {len : Nat} {zs : List Int} (h : IRowA w a len zs) (hb : Below w.heap.size w w') : IRowA w' a len zs :=
  ⟨h.1, h.2.1, fun k hk => by obtain ⟨b, off, e, c⟩ := h.2.2 k hk; exact ⟨b, off, e, bkeep hb c⟩⟩
abbrev pairV (x : Int × Int) : Value := .agg #[.int .u64 x.1, .int .u64 x.2]
def PairsPost (W : World) (s : ByteArray) (r : Int) (l : List (Int × Int)) (ok : Bool) (e : Ending) (w' : World) : Prop :=
  Below W.heap.size W w' ∧ ∃ (a : Option Addr) (cap : Nat), e = .returned (.tuple #[spong s r, .slice a l.length cap, .bool ok]) ∧ QRowA w' a l.length l
def PlacesPost (W : World) (s : ByteArray) (r : Int) (l : List Int) (e : Ending) (w' : World) : Prop :=
  Below W.heap.size W w' ∧ ∃ (a : Option Addr) (cap : Nat), e = .returned (.tuple #[spong s r, .slice a l.length cap]) ∧ IRowA w' a l.length l
end Go.Proofs.YthmpojefoiojeaaDoor
