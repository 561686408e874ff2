/-
  Do values fold into one another? Plain; how they lie in memory; what is asked of the program's calls of layer 22.
-/
import Derived.Test.YteghnaocncmiaaaGChain
import Derived.Test.YteghnaocncmiaaaGPolyR
namespace Go.Proofs.Yteghnaocncmiaaa
open Go Go.RowKit
set_option linter.unusedVariables false

abbrev Quad := (Int × Int) × (Int × Int)
abbrev zeroQ : Quad := ((0, 0), (0, 0))
def UsQ (q : Quad) : Prop := (U q.1.1 ∧ U q.1.2) ∧ U q.2.1 ∧ U q.2.2
abbrev quadV (q : Quad) : Value := .agg #[.int .u64 q.1.1, .int .u64 q.1.2, .int .u64 q.2.1, .int .u64 q.2.2]
/-- A slice of pairs of pairs. -/
def QuadsA (W : World) (a : Option Addr) (n : Nat) (qs : List Quad) : Prop :=
  qs.length = n ∧ n ≤ maxLen ∧ ∀ k, k < n → ∃ b off : Nat, a = some ⟨b, off, none⟩ ∧ W.cell? ⟨b, off + k * 4, none⟩ = some (.int .u64 (qs.getD k zeroQ).1.1) ∧ W.cell? ⟨b, off + k * 4 + 1, none⟩ = some (.int .u64 (qs.getD k zeroQ).1.2) ∧
    W.cell? ⟨b, off + k * 4 + 2, none⟩ = some (.int .u64 (qs.getD k zeroQ).2.1) ∧ W.cell? ⟨b, off + k * 4 + 3, none⟩ = some (.int .u64 (qs.getD k zeroQ).2.2)
theorem QuadsA.keep {W W' : World} {a : Option Addr} {n : Nat} {qs : List Quad} (h : QuadsA W a n qs) (hb : Below W.heap.size W W') : QuadsA W' a n qs :=
  ⟨h.1, h.2.1, fun k hk => by
    obtain ⟨b, off, e, c0, c1, c2, c3⟩ := h.2.2 k hk
    exact ⟨b, off, e, bkeep hb c0, bkeep hb c1, bkeep hb c2, bkeep hb c3⟩⟩
theorem QuadsA.nil (W : World) : QuadsA W none 0 [] := ⟨rfl, by unfold maxLen; omega, fun k hk => by omega⟩
/-- As many as there must be, of 2^k rows. -/
def rightJ (k bl fo : Int) (nb : Nat) (pl : Int) (nl nf : Nat) : Prop :=
  (0 ≤ k ∧ k ≤ 10 ∧ 1 ≤ bl ∧ bl ≤ 4 ∧ 0 ≤ fo ∧ fo ≤ k) ∧ (nb : Int) = fo ∧ 0 ≤ pl ∧ pl < ((2 ^ (k + bl - 1).toNat : Nat) : Int) ∧ (nl : Int) = max 0 (fo - 1) ∧ (nf : Int) = ((2 ^ (k - fo).toNat : Nat) : Int)
instance (k bl fo : Int) (nb : Nat) (pl : Int) (nl nf : Nat) : Decidable (rightJ k bl fo nb pl nl nf) := by unfold rightJ; exact inferInstance
/-- What the last polynomial comes to. -/
def finAt (zs : QL) (x : F) : F2 := qe (zs.map toQ).length (cq (zs.map toQ)) (lift x)
/-- The place behind j folds, of a word of 2^m values. -/
def jAt (m pl j : Nat) : Nat := pl % 2 ^ (m - 1 - j)
def jTwo (first : Quad) (layers : List Quad) (j : Nat) : Quad := if j = 0 then first else layers.getD (j - 1) zeroQ
def jV (m pl : Nat) (bys : QL) (first : Quad) (layers : List Quad) (j : Nat) : F2 :=
  foldV (toQ (jTwo first layers j).1) (toQ (jTwo first layers j).2) (qAt bys j) (pointF ((m - j : Nat) : Int) (j : Int) (jAt m pl j : Int))
def jSel (q : Quad) (s : Nat) : F2 := if s = 0 then toQ q.1 else toQ q.2
/-- What the j-th fold must come to. -/
def jWant (m fo pl : Nat) (layers : List Quad) (fin : QL) (j : Nat) : F2 :=
  if j + 1 = fo then finAt fin (pointF ((m - j - 1 : Nat) : Int) ((j + 1 : Nat) : Int) (jAt m pl j : Int)) else jSel (layers.getD j zeroQ) (jAt m pl j / 2 ^ (m - j - 2))
def jOk (m fo pl : Nat) (bys : QL) (first : Quad) (layers : List Quad) (fin : QL) (j : Nat) : Bool := decide (jV m pl bys first layers j = jWant m fo pl layers fin j)
/-- All folds up to a place. -/
def jAll (m fo pl : Nat) (bys : QL) (first : Quad) (layers : List Quad) (fin : QL) : Nat → Bool
  | 0 => true
  | j + 1 => jAll m fo pl bys first layers fin j && jOk m fo pl bys first layers fin j
def jNone (m pl : Nat) (first : Quad) (fin : QL) : Bool :=
  decide (toQ first.1 = finAt fin (pointF (m : Int) 0 (pl : Int))) && decide (toQ first.2 = finAt fin (pointF (m : Int) 0 ((pl + 2 ^ (m - 1) : Nat) : Int)))
/-- Is it taken? -/
def judgeB (k bl fo : Int) (bys : QL) (pl : Int) (first : Quad) (layers : List Quad) (fin : QL) : Bool :=
  if rightJ k bl fo bys.length pl layers.length fin.length then (if fo = 0 then jNone (k + bl).toNat pl.toNat first fin else jAll (k + bl).toNat fo.toNat pl.toNat bys first layers fin fo.toNat) else false
theorem jAll_at {m fo pl : Nat} {bys : QL} {first : Quad} {layers : List Quad} {fin : QL} : ∀ {n j : Nat}, jAll m fo pl bys first layers fin n = true → j < n → jOk m fo pl bys first layers fin j = true
  | n + 1, j, h, hj => by
    rw [jAll, Bool.and_eq_true] at h
    by_cases c : j = n
    · rw [c]; exact h.2
    · exact jAll_at h.1 (by omega)
theorem jAll_of {m fo pl : Nat} {bys : QL} {first : Quad} {layers : List Quad} {fin : QL} : ∀ {n : Nat}, (∀ j, j < n → jOk m fo pl bys first layers fin j = true) → jAll m fo pl bys first layers fin n = true
  | 0, _ => rfl
  | n + 1, h => by
    rw [jAll, jAll_of fun j hj => h j (by omega), h n (by omega)]
    rfl
theorem jAt_next (m pl j : Nat) (h : j + 2 ≤ m) : jAt m pl j % 2 ^ (m - j - 2) = jAt m pl (j + 1) := by
  unfold jAt
  rw [show m - 1 - (j + 1) = m - j - 2 by omega, Nat.mod_mod_of_dvd]
  exact Nat.pow_dvd_pow 2 (by omega)
theorem jAt_lt (m pl j : Nat) : jAt m pl j < 2 ^ (m - 1 - j) := Nat.mod_lt _ (Nat.two_pow_pos _)
theorem jAt_zero {m pl : Nat} (h : pl < 2 ^ (m - 1)) : jAt m pl 0 = pl := Nat.mod_eq_of_lt h
structure AskJudge (G : World → Prop) : Prop where
  keep : ∀ {W W' : World}, G W → Below W.heap.size W W' → G W'
  right : ∀ (k bl fo qu gr : Int) (a : Option Addr) (n c : Nat) (bys : QL) (pl : Int) (la : Option Addr) (ln lc : Nat) (layers : List Quad) (fa : Option Addr) (fn fc : Nat) (fin : QL) (r : Bool) (W : World), I64 k → I64 bl → I64 fo → I64 pl → QRowA W a n bys → QuadsA W la ln layers → QRowA W fa fn fin →
    decide (rightJ k bl fo bys.length pl layers.length fin.length) = r → G W →
    Calls Try.prog 9 #[.int .i64 k, .agg #[.int .i64 bl, .int .i64 fo, .int .i64 qu, .int .i64 gr], .slice a n c, .int .i64 pl, .slice la ln lc, .slice fa fn fc] W fun e w' => e = .returned (.bool r) ∧ Below W.heap.size W w'
  judge : ∀ (k bl fo qu gr : Int) (a : Option Addr) (n c : Nat) (bys : QL) (pl : Int) (first : Quad) (la : Option Addr) (ln lc : Nat) (layers : List Quad) (fa : Option Addr) (fn fc : Nat) (fin : QL) (r : Bool) (W : World), I64 k → I64 bl → I64 fo → I64 pl → QRowA W a n bys → (∀ n ∈ bys, U n.1 ∧ U n.2) → UsQ first → QuadsA W la ln layers → (∀ q ∈ layers, UsQ q) → QRowA W fa fn fin → (∀ n ∈ fin, U n.1 ∧ U n.2) →
    judgeB k bl fo bys pl first layers fin = r → G W →
    Calls Try.prog 11 #[.int .i64 k, .agg #[.int .i64 bl, .int .i64 fo, .int .i64 qu, .int .i64 gr], .slice a n c, .int .i64 pl, quadV first, .slice la ln lc, .slice fa fn fc] W fun e w' => e = .returned (.bool r) ∧ Below W.heap.size W w'
end Go.Proofs.Yteghnaocncmiaaa
