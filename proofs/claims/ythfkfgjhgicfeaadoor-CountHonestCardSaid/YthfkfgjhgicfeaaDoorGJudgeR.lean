/-
  JudgeM: Do values fold into one another? Plain; how they lie in memory; what is asked of the program's calls of layer 22.
  JudgeRef: What the document's Right of layer 22 comes to.
  JudgeRefJ: What the document's Judge of layer 22 comes to. (Written by gen_jref.py.)
  JudgeRefK: What the document's Judge of layer 22 comes to, whatever it is given.
-/
import Derived.Test.YthfkfgjhgicfeaaDoorGChain
import Derived.Test.YthfkfgjhgicfeaaDoorGPolyR
import Derived.Test.YthfkfgjhgicfeaaDoorEqB
import Derived.Test.YthfkfgjhgicfeaaDoorGFold
import Derived.Test.YthfkfgjhgicfeaaDoorGArgs
import Derived.BigQuiet
namespace Go.Proofs.YthfkfgjhgicfeaaDoor
open Go Go.RowKit
set_option linter.unusedVariables false

abbrev Quad := (Int × Int) × (Int × Int)
abbrev zeroQ : Quad := ((0, 0), (0, 0))
def UsQ (q : Quad) : Prop := (U q.1.1 ∧ U q.1.2) ∧ U q.2.1 ∧ U q.2.2
abbrev quadV (q : Quad) : Value := .agg #[.int .u64 q.1.1, .int .u64 q.1.2, .int .u64 q.2.1, .int .u64 q.2.2]
/-- A slice of pairs of pairs. -/
def QuadsA (W : World) (a : Option Addr) (n : Nat) (qs : List Quad) : Prop :=
  qs.length = n ∧ n ≤ maxLen ∧ ∀ k, k < n → ∃ b off : Nat, a = some ⟨b, off, none⟩ ∧ W.cell? ⟨b, off + k * 4, none⟩ = some (.int .u64 (qs.getD k zeroQ).1.1) ∧ W.cell? ⟨b, off + k * 4 + 1, none⟩ = some (.int .u64 (qs.getD k zeroQ).1.2) ∧
    W.cell? ⟨b, off + k * 4 + 2, none⟩ = some (.int .u64 (qs.getD k zeroQ).2.1) ∧ W.cell? ⟨b, off + k * 4 + 3, none⟩ = some (.int .u64 (qs.getD k zeroQ).2.2)
theorem QuadsA.keep {W W' : World} {a : Option Addr} {n : Nat} {qs : List Quad} (h : QuadsA W a n qs) (hb : Below W.heap.size W W') : QuadsA W' a n qs :=
  ⟨h.1, h.2.1, fun k hk => by
    obtain ⟨b, off, e, c0, c1, c2, c3⟩ := h.2.2 k hk
    exact ⟨b, off, e, bkeep hb c0, bkeep hb c1, bkeep hb c2, bkeep hb c3⟩⟩
theorem QuadsA.nil (W : World) : QuadsA W none 0 [] := ⟨rfl, by unfold maxLen; omega, fun k hk => by omega⟩
/-- As many as there must be, of 2^k rows. -/
def rightJ (k bl fo : Int) (nb : Nat) (pl : Int) (nl nf : Nat) : Prop :=
  (0 ≤ k ∧ k ≤ 10 ∧ 1 ≤ bl ∧ bl ≤ 4 ∧ 0 ≤ fo ∧ fo ≤ k) ∧ (nb : Int) = fo ∧ 0 ≤ pl ∧ pl < ((2 ^ (k + bl - 1).toNat : Nat) : Int) ∧ (nl : Int) = max 0 (fo - 1) ∧ (nf : Int) = ((2 ^ (k - fo).toNat : Nat) : Int)
instance (k bl fo : Int) (nb : Nat) (pl : Int) (nl nf : Nat) : Decidable (rightJ k bl fo nb pl nl nf) := by unfold rightJ; exact inferInstance
/-- What the last polynomial comes to. -/
def finAt (zs : QL) (x : F) : F2 := qe (zs.map toQ).length (cq (zs.map toQ)) (lift x)
/-- The place behind j folds, of a word of 2^m values. -/
def jAt (m pl j : Nat) : Nat := pl % 2 ^ (m - 1 - j)
def jTwo (first : Quad) (layers : List Quad) (j : Nat) : Quad := if j = 0 then first else layers.getD (j - 1) zeroQ
def jV (m pl : Nat) (bys : QL) (first : Quad) (layers : List Quad) (j : Nat) : F2 :=
  foldV (toQ (jTwo first layers j).1) (toQ (jTwo first layers j).2) (qAt bys j) (pointF ((m - j : Nat) : Int) (j : Int) (jAt m pl j : Int))
def jSel (q : Quad) (s : Nat) : F2 := if s = 0 then toQ q.1 else toQ q.2
/-- What the j-th fold must come to. -/
def jWant (m fo pl : Nat) (layers : List Quad) (fin : QL) (j : Nat) : F2 :=
  if j + 1 = fo then finAt fin (pointF ((m - j - 1 : Nat) : Int) ((j + 1 : Nat) : Int) (jAt m pl j : Int)) else jSel (layers.getD j zeroQ) (jAt m pl j / 2 ^ (m - j - 2))
def jOk (m fo pl : Nat) (bys : QL) (first : Quad) (layers : List Quad) (fin : QL) (j : Nat) : Bool := decide (jV m pl bys first layers j = jWant m fo pl layers fin j)
/-- All folds up to a place. -/
def jAll (m fo pl : Nat) (bys : QL) (first : Quad) (layers : List Quad) (fin : QL) : Nat → Bool
  | 0 => true
  | j + 1 => jAll m fo pl bys first layers fin j && jOk m fo pl bys first layers fin j
def jNone (m pl : Nat) (first : Quad) (fin : QL) : Bool :=
  decide (toQ first.1 = finAt fin (pointF (m : Int) 0 (pl : Int))) && decide (toQ first.2 = finAt fin (pointF (m : Int) 0 ((pl + 2 ^ (m - 1) : Nat) : Int)))
/-- Is it taken? -/
def judgeB (k bl fo : Int) (bys : QL) (pl : Int) (first : Quad) (layers : List Quad) (fin : QL) : Bool :=
  if rightJ k bl fo bys.length pl layers.length fin.length then (if fo = 0 then jNone (k + bl).toNat pl.toNat first fin else jAll (k + bl).toNat fo.toNat pl.toNat bys first layers fin fo.toNat) else false
theorem jAll_at {m fo pl : Nat} {bys : QL} {first : Quad} {layers : List Quad} {fin : QL} : ∀ {n j : Nat}, jAll m fo pl bys first layers fin n = true → j < n → jOk m fo pl bys first layers fin j = true
  | n + 1, j, h, hj => by
    rw [jAll, Bool.and_eq_true] at h
    by_cases c : j = n
    · rw [c]; exact h.2
    · exact jAll_at h.1 (by omega)
theorem jAll_of {m fo pl : Nat} {bys : QL} {first : Quad} {layers : List Quad} {fin : QL} : ∀ {n : Nat}, (∀ j, j < n → jOk m fo pl bys first layers fin j = true) → jAll m fo pl bys first layers fin n = true
  | 0, _ => rfl
  | n + 1, h => by
    rw [jAll, jAll_of fun j hj => h j (by omega), h n (by omega)]
    rfl
theorem jAt_next (m pl j : Nat) (h : j + 2 ≤ m) : jAt m pl j % 2 ^ (m - j - 2) = jAt m pl (j + 1) := by
  unfold jAt
  rw [show m - 1 - (j + 1) = m - j - 2 by omega, Nat.mod_mod_of_dvd]
  exact Nat.pow_dvd_pow 2 (by omega)
theorem jAt_lt (m pl j : Nat) : jAt m pl j < 2 ^ (m - 1 - j) := Nat.mod_lt _ (Nat.two_pow_pos _)
theorem jAt_zero {m pl : Nat} (h : pl < 2 ^ (m - 1)) : jAt m pl 0 = pl := Nat.mod_eq_of_lt h
structure AskJudge (G : World → Prop) : Prop where
  keep : ∀ {W W' : World}, G W → Below W.heap.size W W' → G W'
  right : ∀ (k bl fo qu gr : Int) (a : Option Addr) (n c : Nat) (bys : QL) (pl : Int) (la : Option Addr) (ln lc : Nat) (layers : List Quad) (fa : Option Addr) (fn fc : Nat) (fin : QL) (r : Bool) (W : World), I64 k → I64 bl → I64 fo → I64 pl → QRowA W a n bys → QuadsA W la ln layers → QRowA W fa fn fin →
    decide (rightJ k bl fo bys.length pl layers.length fin.length) = r → G W →
    Calls Tryd.prog 30 #[.int .i64 k, .agg #[.int .i64 bl, .int .i64 fo, .int .i64 qu, .int .i64 gr], .slice a n c, .int .i64 pl, .slice la ln lc, .slice fa fn fc] W fun e w' => e = .returned (.bool r) ∧ Below W.heap.size W w'
  judge : ∀ (k bl fo qu gr : Int) (a : Option Addr) (n c : Nat) (bys : QL) (pl : Int) (first : Quad) (la : Option Addr) (ln lc : Nat) (layers : List Quad) (fa : Option Addr) (fn fc : Nat) (fin : QL) (r : Bool) (W : World), I64 k → I64 bl → I64 fo → I64 pl → QRowA W a n bys → (∀ n ∈ bys, U n.1 ∧ U n.2) → UsQ first → QuadsA W la ln layers → (∀ q ∈ layers, UsQ q) → QRowA W fa fn fin → (∀ n ∈ fin, U n.1 ∧ U n.2) →
    judgeB k bl fo bys pl first layers fin = r → G W →
    Calls Tryd.prog 31 #[.int .i64 k, .agg #[.int .i64 bl, .int .i64 fo, .int .i64 qu, .int .i64 gr], .slice a n c, .int .i64 pl, quadV first, .slice la ln lc, .slice fa fn fc] W fun e w' => e = .returned (.bool r) ∧ Below W.heap.size W w'
end Go.Proofs.YthfkfgjhgicfeaaDoor
namespace Go.Proofs.YthfkfgjhgicfeaaDoor
open Go Go.RowKit
set_option linter.unusedVariables false

theorem pw_cast (M : Nat) : (2 : Int) ^ M = ((2 ^ M : Nat) : Int) := by simp
theorem pw_wrap (M : Nat) (h : M ≤ 40) : wrap64 ((2 : Int) ^ M) = ((2 ^ M : Nat) : Int) := by
  have h1 : 2 ^ M ≤ 2 ^ 40 := Nat.pow_le_pow_right (by decide) h
  rw [pw_cast]
  generalize 2 ^ M = x at *
  exact IntWalk.wrap64_in _ (by omega)
theorem w_add (a b : Nat) (ha : a ≤ 1000000000) (hb : b ≤ 1000000000) : IntKind.i64.wrap ((a : Int) + (b : Int)) = ((a + b : Nat) : Int) ∧ wrap64 ((a : Int) + (b : Int)) = ((a + b : Nat) : Int) :=
  ⟨by rw [IntWalk.i64_in _ (by omega)]; omega, by rw [IntWalk.wrap64_in _ (by omega)]; omega⟩
theorem w_sub (a b : Nat) (h : b ≤ a) (ha : a ≤ 1000000000) : IntKind.i64.wrap ((a : Int) - (b : Int)) = ((a - b : Nat) : Int) ∧ wrap64 ((a : Int) - (b : Int)) = ((a - b : Nat) : Int) :=
  ⟨by rw [IntWalk.i64_in _ (by omega)]; omega, by rw [IntWalk.wrap64_in _ (by omega)]; omega⟩
theorem w_sub1 (a : Nat) (h : 1 ≤ a) (ha : a ≤ 1000000000) : IntKind.i64.wrap ((a : Int) - 1) = ((a - 1 : Nat) : Int) ∧ wrap64 ((a : Int) - 1) = ((a - 1 : Nat) : Int) :=
  ⟨by rw [IntWalk.i64_in _ (by omega)]; omega, by rw [IntWalk.wrap64_in _ (by omega)]; omega⟩
theorem w_sub2 (a : Nat) (h : 2 ≤ a) (ha : a ≤ 1000000000) : IntKind.i64.wrap ((a : Int) - 2) = ((a - 2 : Nat) : Int) ∧ wrap64 ((a : Int) - 2) = ((a - 2 : Nat) : Int) :=
  ⟨by rw [IntWalk.i64_in _ (by omega)]; omega, by rw [IntWalk.wrap64_in _ (by omega)]; omega⟩
theorem w_less (a : Nat) (ha : a ≤ 1000000000) : IntKind.i64.wrap ((a : Int) - 1) = (a : Int) - 1 ∧ wrap64 ((a : Int) - 1) = (a : Int) - 1 :=
  ⟨IntWalk.i64_in _ (by omega), IntWalk.wrap64_in _ (by omega)⟩
theorem w_one (a : Nat) (ha : a ≤ 1000000000) : IntKind.i64.wrap ((a : Int) + 1) = ((a + 1 : Nat) : Int) ∧ wrap64 ((a : Int) + 1) = ((a + 1 : Nat) : Int) :=
  ⟨by rw [IntWalk.i64_in _ (by omega)]; omega, by rw [IntWalk.wrap64_in _ (by omega)]; omega⟩
theorem w_u64 (a : Nat) (ha : a ≤ 1000000000) : IntKind.u64.wrap (a : Int) = (a : Int) := by rw [IntKind.wrap_u64]; omega
def RjBox (W : World) (g : Nat) (bl fo qu gr : Int) : Prop := W.cell? ⟨g, 0, none⟩ = some (.int .i64 bl) ∧ W.cell? ⟨g, 1, none⟩ = some (.int .i64 fo) ∧ W.cell? ⟨g, 2, none⟩ = some (.int .i64 qu) ∧ W.cell? ⟨g, 3, none⟩ = some (.int .i64 gr)
theorem RjBox.keep {W W' : World} {g : Nat} {bl fo qu gr : Int} (h : RjBox W g bl fo qu gr) (hb : Below W.heap.size W W') : RjBox W' g bl fo qu gr := ⟨bkeep hb h.1, bkeep hb h.2.1, bkeep hb h.2.2.1, bkeep hb h.2.2.2⟩
end Go.Proofs.YthfkfgjhgicfeaaDoor
namespace Go.Proofs.YthfkfgjhgicfeaaDoor
open Go Go.RowKit Go.Sort Go.BigFrame
set_option linter.unusedVariables false

def QuadC (W : World) (g : Nat) (q : Quad) : Prop := W.cell? ⟨g, 0, none⟩ = some (.int .u64 q.1.1) ∧ W.cell? ⟨g, 1, none⟩ = some (.int .u64 q.1.2) ∧ W.cell? ⟨g, 2, none⟩ = some (.int .u64 q.2.1) ∧ W.cell? ⟨g, 3, none⟩ = some (.int .u64 q.2.2)
theorem QuadC.keep {W W' : World} {g : Nat} {q : Quad} (h : QuadC W g q) (hb : Below W.heap.size W W') : QuadC W' g q := ⟨bkeep hb h.1, bkeep hb h.2.1, bkeep hb h.2.2.1, bkeep hb h.2.2.2⟩
theorem polyA_q {W : World} {a : Option Addr} {n : Nat} {zs : QL} (h : QRowA W a n zs) (hu : ∀ n ∈ zs, U n.1 ∧ U n.2) : PolyA W a n (zs.map toQ) := by
  obtain ⟨e, hm, hc⟩ := h
  refine ⟨by rw [List.length_map]; exact e, hm, fun k hk => ?_⟩
  obtain ⟨b, off, ea, c, d⟩ := hc k hk
  have hu' := hu (zs.getD k (0, 0)) (by simp [List.getD, show k < zs.length by omega])
  refine ⟨b, off, _, _, ea, c, d, ?_⟩
  have : cq (zs.map toQ) k = toQ (zs.getD k (0, 0)) := by
    unfold cq
    simp [List.getD, show k < zs.length by omega]
  rw [this]
  exact rep_raw hu'.1 hu'.2
theorem right_nat {K B : Nat} {fo pl : Int} {n ln fn : Nat} (h : rightJ (K : Int) (B : Int) fo n pl ln fn) : ∃ O PL : Nat, fo = (O : Int) ∧ pl = (PL : Int) ∧ K ≤ 10 ∧ 1 ≤ B ∧ B ≤ 4 ∧ O ≤ K ∧ n = O ∧ PL < 2 ^ (K + B - 1) ∧ ln = O - 1 ∧ fn = 2 ^ (K - O) := by
  obtain ⟨⟨h1, h2, h3, h4, h5, h6⟩, h7, h8, h9, h10, h11⟩ := h
  obtain ⟨O, rfl⟩ := Int.eq_ofNat_of_zero_le h5
  obtain ⟨PL, rfl⟩ := Int.eq_ofNat_of_zero_le h8
  rw [show ((K : Int) + (B : Int) - 1).toNat = K + B - 1 by omega] at h9
  rw [show ((K : Int) - (O : Int)).toNat = K - O by omega] at h11
  exact ⟨O, PL, rfl, rfl, by omega, by omega, by omega, by omega, by omega, Int.ofNat_lt.1 h9, by omega, Int.ofNat.inj h11⟩
theorem pow13 {m : Nat} (h : m ≤ 13) : 2 ^ m ≤ 8192 := Nat.le_trans (Nat.pow_le_pow_right (by decide) h) (by decide)
structure JnN (M PL : Nat) : Prop where
  m1 : IntKind.i64.wrap ((M : Int) - 1) = ((M - 1 : Nat) : Int)
  m2 : wrap64 ((M : Int) - 1) = ((M - 1 : Nat) : Int)
  u : IntKind.u64.wrap ((M - 1 : Nat) : Int) = ((M - 1 : Nat) : Int)
  d : M - 1 ≤ 40
  p : wrap64 ((2 : Int) ^ (M - 1)) = ((2 ^ (M - 1) : Nat) : Int)
  a1 : IntKind.i64.wrap ((PL : Int) + ((2 ^ (M - 1) : Nat) : Int)) = ((PL + 2 ^ (M - 1) : Nat) : Int)
  a2 : wrap64 ((PL : Int) + ((2 ^ (M - 1) : Nat) : Int)) = ((PL + 2 ^ (M - 1) : Nat) : Int)
  b1 : (PL : Int) ≤ 9223372036854775807
  b2 : ((PL + 2 ^ (M - 1) : Nat) : Int) ≤ 9223372036854775807
theorem jnN {M PL : Nat} (h1 : 1 ≤ M) (h2 : M ≤ 14) (h3 : PL < 2 ^ (M - 1)) : JnN M PL := by
  have c1 : M - 1 ≤ 13 := by omega
  have c2 : M ≤ 1000000000 := by omega
  have c3 : M - 1 ≤ 1000000000 := by omega
  have c4 : M - 1 ≤ 40 := by omega
  have hp := pow13 c1
  have c5 : PL ≤ 1000000000 := by omega
  have c6 : 2 ^ (M - 1) ≤ 1000000000 := by omega
  have c7 : (PL : Int) ≤ 9223372036854775807 := by omega
  have c8 : ((PL + 2 ^ (M - 1) : Nat) : Int) ≤ 9223372036854775807 := by omega
  exact ⟨(w_sub1 M h1 c2).1, (w_sub1 M h1 c2).2, w_u64 (M - 1) c3, c4, pw_wrap (M - 1) c4, (w_add PL (2 ^ (M - 1)) c5 c6).1, (w_add PL (2 ^ (M - 1)) c5 c6).2, c7, c8⟩
structure JfN (M O j : Nat) : Prop where
  a1 : IntKind.i64.wrap ((M : Int) - (j : Int)) = ((M - j : Nat) : Int)
  a2 : wrap64 ((M : Int) - (j : Int)) = ((M - j : Nat) : Int)
  b1 : IntKind.i64.wrap (((M - j : Nat) : Int) - 1) = ((M - j - 1 : Nat) : Int)
  b2 : wrap64 (((M - j : Nat) : Int) - 1) = ((M - j - 1 : Nat) : Int)
  c1 : IntKind.i64.wrap ((j : Int) + 1) = ((j + 1 : Nat) : Int)
  c2 : wrap64 ((j : Int) + 1) = ((j + 1 : Nat) : Int)
  e1 : IntKind.i64.wrap ((O : Int) - 1) = ((O - 1 : Nat) : Int)
  e2 : wrap64 ((O : Int) - 1) = ((O - 1 : Nat) : Int)
theorem jfN {M O j : Nat} (h1 : j < O) (h2 : O < M) (h3 : M ≤ 14) : JfN M O j := by
  have a1 : j ≤ M := by omega
  have a2 : M ≤ 1000000000 := by omega
  have a3 : 1 ≤ M - j := by omega
  have a4 : M - j ≤ 1000000000 := by omega
  have a5 : j ≤ 1000000000 := by omega
  have a6 : 1 ≤ O := by omega
  have a7 : O ≤ 1000000000 := by omega
  exact ⟨(w_sub M j a1 a2).1, (w_sub M j a1 a2).2, (w_sub1 (M - j) a3 a4).1, (w_sub1 (M - j) a3 a4).2, (w_one j a5).1, (w_one j a5).2, (w_sub1 O a6 a7).1, (w_sub1 O a6 a7).2⟩
structure JfH (M j A : Nat) : Prop where
  d1 : IntKind.i64.wrap (((M - j : Nat) : Int) - 2) = ((M - j - 2 : Nat) : Int)
  d2 : wrap64 (((M - j : Nat) : Int) - 2) = ((M - j - 2 : Nat) : Int)
  u : IntKind.u64.wrap ((M - j - 2 : Nat) : Int) = ((M - j - 2 : Nat) : Int)
  d : M - j - 2 ≤ 40
  p : wrap64 ((2 : Int) ^ (M - j - 2)) = ((2 ^ (M - j - 2) : Nat) : Int)
  nz : ¬ ((2 ^ (M - j - 2) : Nat) : Int) = 0
  q : ((A : Nat) : Int).tdiv ((2 ^ (M - j - 2) : Nat) : Int) = ((A / 2 ^ (M - j - 2) : Nat) : Int)
  r : ((A : Nat) : Int).tmod ((2 ^ (M - j - 2) : Nat) : Int) = ((A % 2 ^ (M - j - 2) : Nat) : Int)
  s : A / 2 ^ (M - j - 2) = 0 ∨ A / 2 ^ (M - j - 2) = 1
  w : IntKind.i64.wrap ((A / 2 ^ (M - j - 2) : Nat) : Int) = ((A / 2 ^ (M - j - 2) : Nat) : Int) ∧ wrap64 ((A / 2 ^ (M - j - 2) : Nat) : Int) = ((A / 2 ^ (M - j - 2) : Nat) : Int)
  x : IntKind.i64.wrap ((A % 2 ^ (M - j - 2) : Nat) : Int) = ((A % 2 ^ (M - j - 2) : Nat) : Int) ∧ wrap64 ((A % 2 ^ (M - j - 2) : Nat) : Int) = ((A % 2 ^ (M - j - 2) : Nat) : Int)
theorem small_wrap {n : Nat} (h : n ≤ 1000000) : IntKind.i64.wrap (n : Int) = (n : Int) ∧ wrap64 (n : Int) = (n : Int) := ⟨IntWalk.i64_in _ (by omega), IntWalk.wrap64_in _ (by omega)⟩
theorem jfX {A X : Nat} (hpos : 0 < X) (hA : A < 2 * X) (hb : 2 * X ≤ 8192) : ¬ (X : Int) = 0 ∧ (A : Int).tdiv (X : Int) = ((A / X : Nat) : Int) ∧ (A : Int).tmod (X : Int) = ((A % X : Nat) : Int) ∧ (A / X = 0 ∨ A / X = 1) ∧ A / X ≤ 1000000 ∧ A % X ≤ 1000000 := by
  have hs : A / X < 2 := (Nat.div_lt_iff_lt_mul hpos).2 hA
  have hr : A % X < X := Nat.mod_lt _ hpos
  have hd : A / X ≤ A := Nat.div_le_self A X
  refine ⟨by omega, ?_, ?_, ?_, by generalize A / X = z at *; omega, by generalize A % X = z at *; omega⟩
  · rw [Int.tdiv_eq_ediv_of_nonneg (Int.natCast_nonneg _)]; rfl
  · rw [Int.tmod_eq_emod_of_nonneg (Int.natCast_nonneg _)]; rfl
  · generalize A / X = z at *; omega
theorem jfH {M j A : Nat} (h1 : j + 2 ≤ M) (h3 : M ≤ 14) (hA : A < 2 ^ (M - 1 - j)) : JfH M j A := by
  have c1 : 2 ≤ M - j := by omega
  have c2 : M - j ≤ 1000000000 := by omega
  have c3 : M - j - 2 ≤ 1000000000 := by omega
  have hd : M - j - 2 ≤ 40 := by omega
  have c5 : M - 1 - j ≤ 13 := by omega
  have c6 : M - 1 - j = M - j - 2 + 1 := by omega
  have g1 := w_sub2 (M - j) c1 c2
  have g2 := w_u64 (M - j - 2) c3
  have g3 := pw_wrap (M - j - 2) hd
  have hb := pow13 c5
  have h2 : 2 ^ (M - 1 - j) = 2 * 2 ^ (M - j - 2) := by rw [c6, Nat.pow_succ, Nat.mul_comm]
  rw [h2] at hA hb
  obtain ⟨x1, x2, x3, x4, x5, x6⟩ := jfX (Nat.two_pow_pos (M - j - 2)) hA hb
  exact ⟨g1.1, g1.2, g2, hd, g3, x1, x2, x3, x4, small_wrap x5, small_wrap x6⟩
def QuadN (W : World) (g : Nat) (q : Quad) : Prop := QuadC W g q ∧ W.frozen? ⟨g, 0, none⟩ = false ∧ W.frozen? ⟨g, 1, none⟩ = false ∧ W.frozen? ⟨g, 2, none⟩ = false ∧ W.frozen? ⟨g, 3, none⟩ = false
theorem QuadN.keep {W W' : World} {g : Nat} {q : Quad} (h : QuadN W g q) (hb : Below W.heap.size W W') : QuadN W' g q := ⟨h.1.keep hb, bfree hb h.1.1 h.2.1, bfree hb h.1.2.1 h.2.2.1, bfree hb h.1.2.2.1 h.2.2.2.1, bfree hb h.1.2.2.2 h.2.2.2.2⟩
theorem jTwo_U {first : Quad} {layers : List Quad} (h1 : UsQ first) (h2 : ∀ q ∈ layers, UsQ q) (j : Nat) : UsQ (jTwo first layers j) := by
  unfold jTwo
  split
  · exact h1
  · by_cases h : j - 1 < layers.length
    · rw [show layers.getD (j - 1) zeroQ = layers[j - 1] by simp [List.getD, h]]
      exact h2 _ (List.getElem_mem h)
    · rw [show layers.getD (j - 1) zeroQ = zeroQ by simp [List.getD, h]]
      refine ⟨⟨⟨?_, ?_⟩, ?_, ?_⟩, ⟨?_, ?_⟩, ?_, ?_⟩ <;> decide
theorem sub_le32 {M j : Nat} (h : M ≤ 14) : M - j ≤ 32 := by omega
theorem jAt_int {M : Nat} (PL : Nat) (h : M ≤ 14) {j : Nat} : (jAt M PL j : Int) ≤ 9223372036854775807 := by
  have h1 := jAt_lt M PL j
  have h2 := pow13 (show M - 1 - j ≤ 13 by omega)
  omega
def JfOB (g18 bb bo n c j m1 A M : Nat) (s0 s1 s2 s3 y0 y1 : Int) (x : F) (vv : F2) (sl : Nat) (v : Value) : Prop :=
  match sl with
  | 79 => v = .pointer (some ⟨g18, 0, none⟩)
  | 80 => v = .agg #[.int .u64 s0, .int .u64 s1]
  | 81 => v = .pointer (some ⟨g18, 2, none⟩)
  | 82 => v = .agg #[.int .u64 s2, .int .u64 s3]
  | 83 => v = .slice (some ⟨bb, bo, none⟩) n c
  | 84 => v = .int .i64 (j : Int)
  | 85 => v = .pointer (some ⟨bb, bo + j * 2, none⟩)
  | 86 => v = .agg #[.int .u64 y0, .int .u64 y1]
  | 87 => v = .int .i64 (M : Int)
  | 88 => v = .int .i64 (j : Int)
  | 89 => v = .int .i64 (m1 : Int)
  | 90 => v = .int .i64 (j : Int)
  | 91 => v = .int .i64 (A : Int)
  | 92 => v = .int .u64 (enc x)
  | 93 => v = .tuple #[.agg #[.int .u64 (enc vv.a), .int .u64 (enc vv.b)], .bool true]
  | 78 => v = .tuple #[.agg #[.int .u64 (enc vv.a), .int .u64 (enc vv.b)], .bool true]
  | 94 => v = .agg #[.int .u64 (enc vv.a), .int .u64 (enc vv.b)]
  | _ => v = .bool true
def JfOA (B : Nat) (g18 bb bo n c j m1 A M : Nat) (s0 s1 s2 s3 y0 y1 : Int) (x : F) (vv : F2) (s : Bool) (v : Value) (W : World) : Prop := ∃ q : Nat, B ≤ q ∧ v = .pointer (some ⟨q, 0, none⟩) ∧ Duo W q (if s then .int .u64 (enc vv.a) else .int .u64 0) (if s then .int .u64 (enc vv.b) else .int .u64 0)
def JfOG (B : Nat) (g18 bb bo n c j m1 A M : Nat) (s0 s1 s2 s3 y0 y1 : Int) (x : F) (vv : F2) (s : Bool) (sl : Nat) (v : Value) (W : World) : Prop := if sl = 21 then JfOA B g18 bb bo n c j m1 A M s0 s1 s2 s3 y0 y1 x vv s v W else JfOB g18 bb bo n c j m1 A M s0 s1 s2 s3 y0 y1 x vv sl v
theorem JfOG.keep {B : Nat} {g18 bb bo n c j m1 A M : Nat} {s0 s1 s2 s3 y0 y1 : Int} {x : F} {vv : F2} (s : Bool) (sl : Nat) (v : Value) (W W' : World) (h : JfOG B g18 bb bo n c j m1 A M s0 s1 s2 s3 y0 y1 x vv s sl v W) (hb : Below W.heap.size W W') : JfOG B g18 bb bo n c j m1 A M s0 s1 s2 s3 y0 y1 x vv s sl v W' := by
  unfold JfOG at *
  split
  · next c => rw [if_pos c] at h; obtain ⟨q, h0, h1, h2⟩ := h; exact ⟨q, h0, h1, h2.keep hb⟩
  · next c => rw [if_neg c] at h; exact h
def JfRel (w : World) (M O PL : Nat) (bys : QL) (first : Quad) (layers : List Quad) (fin : QL) (g : Nat) (v i : Value) (W : World) : Prop :=
  ∃ j : Nat, j < O ∧ i = .int .i64 (j : Int) ∧ v = .int .i64 (jAt M PL j : Int) ∧ Below w.heap.size w W ∧ QuadN W g (jTwo first layers j) ∧ jAll M O PL bys first layers fin j = true
end Go.Proofs.YthfkfgjhgicfeaaDoor
namespace Go.Proofs.YthfkfgjhgicfeaaDoor
open Go Go.RowKit Go.Sort Go.BigFrame
set_option linter.unusedVariables false

end Go.Proofs.YthfkfgjhgicfeaaDoor
