/-
  Trees of sums: plain; what is asked of the program's calls of layer 10.
-/
import Derived.Test.YthmpojefoiojeaaDoorLeafM
namespace Go.Proofs.YthmpojefoiojeaaDoor
open Go Go.RowKit
set_option linter.unusedVariables false

/-- The place beside. -/
def nb (j : Nat) : Nat := if j % 2 = 0 then j + 1 else j - 1
theorem nb_lt {j m : Nat} (h : j < 2 * m) : nb j < 2 * m := by unfold nb; split <;> omega
/-- The sums of a row, from the leaves up. -/
def lev (f : Nat → ByteArray) : Nat → Nat → ByteArray
  | 0, j => f j
  | k + 1, j => nodeB (lev f k (2 * j)) (lev f k (2 * j + 1))
def climbB (s : ByteArray) (i : Nat) (g : Nat → ByteArray) : Nat → ByteArray
  | 0 => s
  | k + 1 => if i / 2 ^ k % 2 = 0 then nodeB (climbB s i g k) (g k) else nodeB (g k) (climbB s i g k)
def pathB (f : Nat → ByteArray) (i k : Nat) : ByteArray := lev f k (nb (i / 2 ^ k))
theorem half_pow (i k : Nat) : i / 2 ^ (k + 1) = i / 2 ^ k / 2 := by rw [Nat.pow_succ, Nat.div_div_eq_div_mul]
/-- A leaf's path leads up, row by row. -/
theorem climb_path (f : Nat → ByteArray) (i : Nat) : ∀ k, climbB (f i) i (pathB f i) k = lev f k (i / 2 ^ k)
  | 0 => by simp [climbB, lev]
  | k + 1 => by
    rw [climbB, climb_path f i k, half_pow]
    unfold pathB nb
    generalize i / 2 ^ k = j
    by_cases h : j % 2 = 0
    · rw [if_pos h, if_pos h, lev, show 2 * (j / 2) = j by omega]
    · rw [if_neg h, if_neg h, lev, show 2 * (j / 2) = j - 1 by omega, show j - 1 + 1 = j by omega]
theorem climb_congr {s : ByteArray} {i : Nat} {g h : Nat → ByteArray} : ∀ {n : Nat}, (∀ k, k < n → g k = h k) → climbB s i g n = climbB s i h n
  | 0, _ => rfl
  | n + 1, e => by rw [climbB, climbB, climb_congr (fun k hk => e k (by omega)), e n (by omega)]
theorem nodeB_size (a b : ByteArray) : (nodeB a b).size = 32 := by unfold nodeB; exact sumB_size _
theorem leafB_size (s : ByteArray) : (leafB s).size = 32 := by unfold leafB; exact sumB_size _
theorem lev_size (f : Nat → ByteArray) (n : Nat) : ∀ (k m : Nat), (∀ j, j < m * 2 ^ k → (f j).size ≤ n) → 32 ≤ n → ∀ j, j < m → (lev f k j).size ≤ n
  | 0, m, h, _, j, hj => h j (by simpa using hj)
  | k + 1, m, h, hn, j, hj => by rw [lev, nodeB_size]; exact hn
theorem lev_size32 (f : Nat → ByteArray) (h : ∀ j, (f j).size = 32) : ∀ (k j : Nat), (lev f k j).size = 32
  | 0, j => h j
  | k + 1, j => by rw [lev, nodeB_size]
theorem climb_size (s : ByteArray) (i : Nat) (g : Nat → ByteArray) (m : Nat) (hs : s.size ≤ m) (hm : 32 ≤ m) : ∀ n, (climbB s i g n).size ≤ m
  | 0 => hs
  | n + 1 => by rw [climbB]; split <;> rw [nodeB_size] <;> exact hm
/-- How many rows a tree over so many leaves has. -/
def rowsN (n : Nat) : Nat := if n = 1 then 1 else if n = 2 then 2 else if n = 4 then 3 else if n = 8 then 4 else if n = 16 then 5 else if n = 32 then 6 else if n = 64 then 7 else 0
theorem rowsN_le (n : Nat) : rowsN n ≤ 7 := by
  unfold rowsN
  repeat' split
  all_goals omega
theorem rowsN_pow {n : Nat} (h : rowsN n ≠ 0) : n = 2 ^ (rowsN n - 1) := by
  have : n = 1 ∨ n = 2 ∨ n = 4 ∨ n = 8 ∨ n = 16 ∨ n = 32 ∨ n = 64 := by
    unfold rowsN at h
    repeat' split at h
    all_goals omega
  rcases this with rfl | rfl | rfl | rfl | rfl | rfl | rfl <;> rfl
theorem rowsN_two {d : Nat} (h : d ≤ 6) : rowsN (2 ^ d) = d + 1 := by
  have : d = 0 ∨ d = 1 ∨ d = 2 ∨ d = 3 ∨ d = 4 ∨ d = 5 ∨ d = 6 := by omega
  rcases this with rfl | rfl | rfl | rfl | rfl | rfl | rfl <;> rfl
/-- A tree: rows of texts, each half as long as the one ahead; none of it lies below B. -/
def TreeA (B : Nat) (W : World) (a : Option Addr) (L c : Nat) (f : Nat → ByteArray) : Prop :=
  L ≤ c ∧ c ≤ maxLen ∧ (a = none → L = 0 ∧ c = 0) ∧ ∀ k, k < L → ∃ b off : Nat, a = some ⟨b, off, none⟩ ∧ B ≤ b ∧ ∃ (ak : Option Addr) (ck : Nat), W.cell? ⟨b, off + k, none⟩ = some (.slice ak (2 ^ (L - 1 - k)) ck) ∧ 2 ^ (L - 1 - k) ≤ ck ∧ ck ≤ maxLen ∧ (∀ x, ak = some x → B ≤ x.block) ∧ StrA W ak (2 ^ (L - 1 - k)) (lev f k)
theorem TreeA.keep {B : Nat} {W W' : World} {a : Option Addr} {L c : Nat} {f : Nat → ByteArray} (h : TreeA B W a L c f) (hb : Below W.heap.size W W') : TreeA B W' a L c f :=
  ⟨h.1, h.2.1, h.2.2.1, fun k hk => by
    obtain ⟨b, off, e, hB, ak, ck, hc, h1, h2, h4, h3⟩ := h.2.2.2 k hk
    exact ⟨b, off, e, hB, ak, ck, bkeep hb hc, h1, h2, h4, h3.keep hb⟩⟩
theorem TreeA.weak {B B' : Nat} {W : World} {a : Option Addr} {L c : Nat} {f : Nat → ByteArray} (h : TreeA B W a L c f) (hb : B' ≤ B) : TreeA B' W a L c f :=
  ⟨h.1, h.2.1, h.2.2.1, fun k hk => by
    obtain ⟨b, off, e, hB, ak, ck, hc, h1, h2, h4, h3⟩ := h.2.2.2 k hk
    exact ⟨b, off, e, Nat.le_trans hb hB, ak, ck, hc, h1, h2, fun x hx => Nat.le_trans hb (h4 x hx), h3⟩⟩
theorem StrA.far {W : World} {a : Option Addr} {n g o : Nat} {v : Value} {f : Nat → ByteArray} (h : StrA W a n f) (ha : ∀ x, a = some x → g ≠ x.block) : StrA (W.setCell ⟨g, o, none⟩ v) a n f :=
  ⟨h.1, fun k hk => by
    obtain ⟨b, off, e, hc⟩ := h.2 k hk
    exact ⟨b, off, e, (World.cell?_setCell_far _ _ _ _ (ha _ e)).trans hc⟩⟩
theorem TreeA.far {B g o : Nat} {v : Value} {W : World} {a : Option Addr} {L c : Nat} {f : Nat → ByteArray} (h : TreeA B W a L c f) (hg : g < B) : TreeA B (W.setCell ⟨g, o, none⟩ v) a L c f :=
  ⟨h.1, h.2.1, h.2.2.1, fun k hk => by
    obtain ⟨b, off, e, hB, ak, ck, hc, h1, h2, h4, h3⟩ := h.2.2.2 k hk
    exact ⟨b, off, e, hB, ak, ck, (World.cell?_setCell_far _ _ _ _ (show g ≠ b by omega)).trans hc, h1, h2, h4, h3.far (fun x hx => by have := h4 x hx; omega)⟩⟩
/-- A slice of texts as it may be handed on: nil is empty. -/
def StrS (W : World) (a : Option Addr) (n c : Nat) (f : Nat → ByteArray) : Prop := StrA W a n f ∧ n ≤ c ∧ c ≤ maxLen ∧ (a = none → n = 0 ∧ c = 0)
theorem StrS.keep {W W' : World} {a : Option Addr} {n c : Nat} {f : Nat → ByteArray} (h : StrS W a n c f) (hb : Below W.heap.size W W') : StrS W' a n c f := ⟨h.1.keep hb, h.2⟩
def leadsB (root : ByteArray) (depth i : Int) (s : ByteArray) (g : Nat → ByteArray) (n : Nat) : Bool :=
  decide (0 ≤ depth ∧ depth ≤ 40 ∧ 0 ≤ i ∧ i < 2 ^ depth.toNat ∧ (n : Int) = depth ∧ (∀ k, k < n → (g k).size = 32) ∧ climbB s i.toNat g n = root)
def PathPost (L : Nat) (f : Nat → ByteArray) (i : Int) (W : World) (e : Ending) (w' : World) : Prop :=
  Below W.heap.size W w' ∧ ((L ≠ 0 ∧ 0 ≤ i ∧ i < 2 ^ (L - 1) ∧ ∃ a c, e = .returned (.tuple #[.slice a (L - 1) c, .bool true]) ∧ StrS w' a (L - 1) c (pathB f i.toNat) ∧ ∀ x, a = some x → W.heap.size ≤ x.block) ∨
    (¬ (L ≠ 0 ∧ 0 ≤ i ∧ i < 2 ^ (L - 1)) ∧ ∃ a c, e = .returned (.tuple #[.slice a 0 c, .bool false])))
end Go.Proofs.YthmpojefoiojeaaDoor
