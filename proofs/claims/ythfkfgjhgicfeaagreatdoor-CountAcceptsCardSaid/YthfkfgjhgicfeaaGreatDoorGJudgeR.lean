/-
  JudgeM: Do values fold into one another? Plain; how they lie in memory; what is asked of the program's calls of layer 22.
  JudgeRef: What the document's Right of layer 22 comes to.
  JudgeRefJ: What the document's Judge of layer 22 comes to. (Written by gen_jref.py.)
  JudgeRefK: What the document's Judge of layer 22 comes to, whatever it is given.
-/
import Derived.Test.YthfkfgjhgicfeaaGreatDoorGChain
import Derived.Test.YthfkfgjhgicfeaaGreatDoorGPolyR
import Derived.Test.YthfkfgjhgicfeaaGreatDoorEqB
import Derived.Test.YthfkfgjhgicfeaaGreatDoorGFold
import Derived.Test.YthfkfgjhgicfeaaGreatDoorGArgs
import Derived.BigQuiet
namespace Go.Proofs.YthfkfgjhgicfeaaGreatDoor
open Go Go.RowKit
set_option linter.unusedVariables false

abbrev Quad := (Int × Int) × (Int × Int)
abbrev zeroQ : Quad := ((0, 0), (0, 0))
def UsQ (q : Quad) : Prop := (U q.1.1 ∧ U q.1.2) ∧ U q.2.1 ∧ U q.2.2
abbrev quadV (q : Quad) : Value := .agg #[.int .u64 q.1.1, .int .u64 q.1.2, .int .u64 q.2.1, .int .u64 q.2.2]
/-- A slice of pairs of pairs. -/
def QuadsA (W : World) (a : Option Addr) (n : Nat) (qs : List Quad) : Prop :=
  qs.length = n ∧ n ≤ maxLen ∧ ∀ k, k < n → ∃ b off : Nat, a = some ⟨b, off, none⟩ ∧ W.cell? ⟨b, off + k * 4, none⟩ = some (.int .u64 (qs.getD k zeroQ).1.1) ∧ W.cell? ⟨b, off + k * 4 + 1, none⟩ = some (.int .u64 (qs.getD k zeroQ).1.2) ∧
    W.cell? ⟨b, off + k * 4 + 2, none⟩ = some (.int .u64 (qs.getD k zeroQ).2.1) ∧ W.cell? ⟨b, off + k * 4 + 3, none⟩ = some (.int .u64 (qs.getD k zeroQ).2.2)
theorem QuadsA.keep {W W' : World} {a : Option Addr} {n : Nat} {qs : List Quad} (h : QuadsA W a n qs) (hb : Below W.heap.size W W') : QuadsA W' a n qs :=
  ⟨h.1, h.2.1, fun k hk => by
    obtain ⟨b, off, e, c0, c1, c2, c3⟩ := h.2.2 k hk
    exact ⟨b, off, e, bkeep hb c0, bkeep hb c1, bkeep hb c2, bkeep hb c3⟩⟩
theorem QuadsA.nil (W : World) : QuadsA W none 0 [] := ⟨rfl, by unfold maxLen; omega, fun k hk => by omega⟩
/-- As many as there must be, of 2^k rows. -/
def rightJ (k bl fo : Int) (nb : Nat) (pl : Int) (nl nf : Nat) : Prop :=
  (0 ≤ k ∧ k ≤ 10 ∧ 1 ≤ bl ∧ bl ≤ 4 ∧ 0 ≤ fo ∧ fo ≤ k) ∧ (nb : Int) = fo ∧ 0 ≤ pl ∧ pl < ((2 ^ (k + bl - 1).toNat : Nat) : Int) ∧ (nl : Int) = max 0 (fo - 1) ∧ (nf : Int) = ((2 ^ (k - fo).toNat : Nat) : Int)
instance (k bl fo : Int) (nb : Nat) (pl : Int) (nl nf : Nat) : Decidable (rightJ k bl fo nb pl nl nf) := by unfold rightJ; exact inferInstance
/-- What the last polynomial comes to. -/
def finAt (zs : QL) (x : F) : F2 := qe (zs.map toQ).length (cq (zs.map toQ)) (lift x)
/-- The place behind j folds, of a word of 2^m values. -/
def jAt (m pl j : Nat) : Nat := pl % 2 ^ (m - 1 - j)
def jTwo (first : Quad) (layers : List Quad) (j : Nat) : Quad := if j = 0 then first else layers.getD (j - 1) zeroQ
def jV (m pl : Nat) (bys : QL) (first : Quad) (layers : List Quad) (j : Nat) : F2 :=
  foldV (toQ (jTwo first layers j).1) (toQ (jTwo first layers j).2) (qAt bys j) (pointF ((m - j : Nat) : Int) (j : Int) (jAt m pl j : Int))
def jSel (q : Quad) (s : Nat) : F2 := if s = 0 then toQ q.1 else toQ q.2
/-- What the j-th fold must come to. -/
def jWant (m fo pl : Nat) (layers : List Quad) (fin : QL) (j : Nat) : F2 :=
  if j + 1 = fo then finAt fin (pointF ((m - j - 1 : Nat) : Int) ((j + 1 : Nat) : Int) (jAt m pl j : Int)) else jSel (layers.getD j zeroQ) (jAt m pl j / 2 ^ (m - j - 2))
def jOk (m fo pl : Nat) (bys : QL) (first : Quad) (layers : List Quad) (fin : QL) (j : Nat) : Bool := decide (jV m pl bys first layers j = jWant m fo pl layers fin j)
/-- All folds up to a place. -/
def jAll (m fo pl : Nat) (bys : QL) (first : Quad) (layers : List Quad) (fin : QL) : Nat → Bool
  | 0 => true
  | j + 1 => jAll m fo pl bys first layers fin j && jOk m fo pl bys first layers fin j
def jNone (m pl : Nat) (first : Quad) (fin : QL) : Bool :=
  decide (toQ first.1 = finAt fin (pointF (m : Int) 0 (pl : Int))) && decide (toQ first.2 = finAt fin (pointF (m : Int) 0 ((pl + 2 ^ (m - 1) : Nat) : Int)))
/-- Is it taken? -/
def judgeB (k bl fo : Int) (bys : QL) (pl : Int) (first : Quad) (layers : List Quad) (fin : QL) : Bool :=
  if rightJ k bl fo bys.length pl layers.length fin.length then (if fo = 0 then jNone (k + bl).toNat pl.toNat first fin else jAll (k + bl).toNat fo.toNat pl.toNat bys first layers fin fo.toNat) else false
theorem jAll_at {m fo pl : Nat} {bys : QL} {first : Quad} {layers : List Quad} {fin : QL} : ∀ {n j : Nat}, jAll m fo pl bys first layers fin n = true → j < n → jOk m fo pl bys first layers fin j = true
  | n + 1, j, h, hj => by
    rw [jAll, Bool.and_eq_true] at h
    by_cases c : j = n
    · rw [c]; exact h.2
    · exact jAll_at h.1 (by omega)
theorem jAt_next (m pl j : Nat) (h : j + 2 ≤ m) : jAt m pl j % 2 ^ (m - j - 2) = jAt m pl (j + 1) := by
  unfold jAt
  rw [show m - 1 - (j + 1) = m - j - 2 by omega, Nat.mod_mod_of_dvd]
  exact Nat.pow_dvd_pow 2 (by omega)
theorem jAt_lt (m pl j : Nat) : jAt m pl j < 2 ^ (m - 1 - j) := Nat.mod_lt _ (Nat.two_pow_pos _)
theorem jAt_zero {m pl : Nat} (h : pl < 2 ^ (m - 1)) : jAt m pl 0 = pl := Nat.mod_eq_of_lt h
end Go.Proofs.YthfkfgjhgicfeaaGreatDoor
namespace Go.Proofs.YthfkfgjhgicfeaaGreatDoor
open Go Go.RowKit
set_option linter.unusedVariables false

theorem pw_cast (M : Nat) : (2 : Int) ^ M = ((2 ^ M : Nat) : Int) := by simp
theorem pw_wrap (M : Nat) (h : M ≤ 40) : wrap64 ((2 : Int) ^ M) = ((2 ^ M : Nat) : Int) := by
  have h1 : 2 ^ M ≤ 2 ^ 40 := Nat.pow_le_pow_right (by decide) h
  rw [pw_cast]
  generalize 2 ^ M = x at *
  exact IntWalk.wrap64_in _ (by omega)
theorem w_add (a b : Nat) (ha : a ≤ 1000000000) (hb : b ≤ 1000000000) : IntKind.i64.wrap ((a : Int) + (b : Int)) = ((a + b : Nat) : Int) ∧ wrap64 ((a : Int) + (b : Int)) = ((a + b : Nat) : Int) :=
  ⟨by rw [IntWalk.i64_in _ (by omega)]; omega, by rw [IntWalk.wrap64_in _ (by omega)]; omega⟩
theorem w_sub (a b : Nat) (h : b ≤ a) (ha : a ≤ 1000000000) : IntKind.i64.wrap ((a : Int) - (b : Int)) = ((a - b : Nat) : Int) ∧ wrap64 ((a : Int) - (b : Int)) = ((a - b : Nat) : Int) :=
  ⟨by rw [IntWalk.i64_in _ (by omega)]; omega, by rw [IntWalk.wrap64_in _ (by omega)]; omega⟩
theorem w_sub1 (a : Nat) (h : 1 ≤ a) (ha : a ≤ 1000000000) : IntKind.i64.wrap ((a : Int) - 1) = ((a - 1 : Nat) : Int) ∧ wrap64 ((a : Int) - 1) = ((a - 1 : Nat) : Int) :=
  ⟨by rw [IntWalk.i64_in _ (by omega)]; omega, by rw [IntWalk.wrap64_in _ (by omega)]; omega⟩
theorem w_sub2 (a : Nat) (h : 2 ≤ a) (ha : a ≤ 1000000000) : IntKind.i64.wrap ((a : Int) - 2) = ((a - 2 : Nat) : Int) ∧ wrap64 ((a : Int) - 2) = ((a - 2 : Nat) : Int) :=
  ⟨by rw [IntWalk.i64_in _ (by omega)]; omega, by rw [IntWalk.wrap64_in _ (by omega)]; omega⟩
theorem w_less (a : Nat) (ha : a ≤ 1000000000) : IntKind.i64.wrap ((a : Int) - 1) = (a : Int) - 1 ∧ wrap64 ((a : Int) - 1) = (a : Int) - 1 :=
  ⟨IntWalk.i64_in _ (by omega), IntWalk.wrap64_in _ (by omega)⟩
theorem w_one (a : Nat) (ha : a ≤ 1000000000) : IntKind.i64.wrap ((a : Int) + 1) = ((a + 1 : Nat) : Int) ∧ wrap64 ((a : Int) + 1) = ((a + 1 : Nat) : Int) :=
  ⟨by rw [IntWalk.i64_in _ (by omega)]; omega, by rw [IntWalk.wrap64_in _ (by omega)]; omega⟩
theorem w_u64 (a : Nat) (ha : a ≤ 1000000000) : IntKind.u64.wrap (a : Int) = (a : Int) := by rw [IntKind.wrap_u64]; omega
def RjBox (W : World) (g : Nat) (bl fo qu gr : Int) : Prop := W.cell? ⟨g, 0, none⟩ = some (.int .i64 bl) ∧ W.cell? ⟨g, 1, none⟩ = some (.int .i64 fo) ∧ W.cell? ⟨g, 2, none⟩ = some (.int .i64 qu) ∧ W.cell? ⟨g, 3, none⟩ = some (.int .i64 gr)
theorem RjBox.keep {W W' : World} {g : Nat} {bl fo qu gr : Int} (h : RjBox W g bl fo qu gr) (hb : Below W.heap.size W W') : RjBox W' g bl fo qu gr := ⟨bkeep hb h.1, bkeep hb h.2.1, bkeep hb h.2.2.1, bkeep hb h.2.2.2⟩
set_option maxRecDepth 100000 in
set_option maxHeartbeats 8000000 in
theorem rjright_is (k bl fo qu gr : Int) (a : Option Addr) (n c : Nat) (pl : Int) (la : Option Addr) (ln lc : Nat) (fa : Option Addr) (fn fc : Nat) (r : Bool) (w : World) (hr : decide (rightJ k bl fo n pl ln fn) = r) :
    Calls Tryz.prog 57 #[.int .i64 k, .agg #[.int .i64 bl, .int .i64 fo, .int .i64 qu, .int .i64 gr], .slice a n c, .int .i64 pl, .slice la ln lc, .slice fa fn fc] w fun e w' => e = .returned (.bool r) ∧ Below w.heap.size w w' := by
  have HNO : Hid (¬ rightJ k bl fo n pl ln fn → false = r) := Lib.hid fun h => by rw [← hr]; exact (decide_eq_false h).symm
  have HYES : Hid (rightJ k bl fo n pl ln fn → true = r) := Lib.hid fun h => by rw [← hr]; exact (decide_eq_true h).symm
  clear hr
  go_enter Tryz.func57, Tryz.ntmps57
  go_upto_region 1 with fail
  obtain ⟨g, hg⟩ : ∃ g, w.heap.size = g := ⟨_, rfl⟩
  refine wp_gen (fun W => Below w.heap.size w W ∧ RjBox W g bl fo qu gr) ⟨(Below.refl _ _).alloc (Nat.le_refl _) _, by subst hg; simp [RjBox, go_sem]⟩ ?_
  rintro w0 ⟨hB0, c0, c1, c2, c3⟩
  simp only [hg]
  have HB := Lib.hid hB0
  clear hB0 hg
  by_cases h1 : k < 0
  · have e := HNO.out (fun h => by have := h.1.1; omega)
    subst e
    clear HNO HYES
    go_wp2_with fail
    go_ret
    exact ⟨rfl, HB.out⟩
  by_cases h2 : 10 < k
  · have e := HNO.out (fun h => by have := h.1.2.1; omega)
    subst e
    clear HNO HYES
    go_wp2_with fail
    go_ret
    exact ⟨rfl, HB.out⟩
  by_cases h3 : bl < 1
  · have e := HNO.out (fun h => by have := h.1.2.2.1; omega)
    subst e
    clear HNO HYES
    go_wp2_with fail
    go_ret
    exact ⟨rfl, HB.out⟩
  by_cases h4 : 4 < bl
  · have e := HNO.out (fun h => by have := h.1.2.2.2.1; omega)
    subst e
    clear HNO HYES
    go_wp2_with fail
    go_ret
    exact ⟨rfl, HB.out⟩
  by_cases h5 : fo < 0
  · have e := HNO.out (fun h => by have := h.1.2.2.2.2.1; omega)
    subst e
    clear HNO HYES
    go_wp2_with fail
    go_ret
    exact ⟨rfl, HB.out⟩
  by_cases h6 : k < fo
  · have e := HNO.out (fun h => by have := h.1.2.2.2.2.2; omega)
    subst e
    clear HNO HYES
    go_wp2_with fail
    go_ret
    exact ⟨rfl, HB.out⟩
  obtain ⟨K, rfl⟩ := Int.eq_ofNat_of_zero_le (show 0 ≤ k by omega)
  obtain ⟨B, rfl⟩ := Int.eq_ofNat_of_zero_le (show 0 ≤ bl by omega)
  obtain ⟨O, rfl⟩ := Int.eq_ofNat_of_zero_le (show 0 ≤ fo by omega)
  have b1 : K ≤ 10 := by omega
  have b2 : 1 ≤ B ∧ B ≤ 4 := by omega
  have b3 : O ≤ K := by omega
  obtain ⟨M, hM⟩ : ∃ M, K + B = M := ⟨_, rfl⟩
  have hM1 : 1 ≤ M ∧ M ≤ 14 := by omega
  have HJ : Hid (rightJ (K : Int) (B : Int) (O : Int) n pl ln fn ↔ ((n : Int) = (O : Int) ∧ 0 ≤ pl ∧ pl < ((2 ^ (M - 1) : Nat) : Int) ∧ (ln : Int) = max 0 ((O : Int) - 1) ∧ (fn : Int) = ((2 ^ (K - O) : Nat) : Int))) := Lib.hid (by
    have e1 : ((K : Int) + (B : Int) - 1).toNat = M - 1 := by omega
    have e2 : ((K : Int) - (O : Int)).toNat = K - O := by omega
    unfold rightJ
    rw [e1, e2]
    exact ⟨fun h => h.2, fun h => ⟨⟨by omega, by omega, by omega, by omega, by omega, by omega⟩, h⟩⟩)
  obtain ⟨w1, w1'⟩ := w_add K B (by omega) (by omega)
  rw [hM] at w1 w1'
  have hMd : M - 1 ≤ 40 := by omega
  have hKd : K - O ≤ 40 := by omega
  have g1 := w_sub1 M hM1.1 (by have := hM1.2; omega)
  have g2 := w_sub K O b3 (by omega)
  have g3 := w_u64 (M - 1) (by omega)
  have g4 := w_u64 (K - O) (by omega)
  have g5 := w_less O (by omega)
  have g6 := pw_wrap (M - 1) hMd
  have g7 := pw_wrap (K - O) hKd
  obtain ⟨m1, hm1⟩ : ∃ m, M - 1 = m := ⟨_, rfl⟩
  obtain ⟨d, hd⟩ : ∃ m, K - O = m := ⟨_, rfl⟩
  rw [hm1] at g1 g3 g6 HJ hMd
  rw [hd] at g2 g4 g7 HJ hKd
  obtain ⟨X, hX⟩ : ∃ X, 2 ^ m1 = X := ⟨_, rfl⟩
  obtain ⟨Y, hY⟩ : ∃ X, 2 ^ d = X := ⟨_, rfl⟩
  rw [hX] at g6 HJ
  rw [hY] at g7 HJ
  obtain ⟨g1, g1'⟩ := g1
  obtain ⟨g2, g2'⟩ := g2
  obtain ⟨g5, g5'⟩ := g5
  clear hM hM1 hm1 hd hX hY b1 b2 b3
  go_upto_region 3 with fail
  clear h1 h2 h3 h4 h5 h6
  by_cases n1 : (n : Int) = (O : Int)
  case neg =>
    have e := HNO.out (fun h => n1 (HJ.out.1 h).1)
    subst e
    clear HNO HYES HJ
    go_wp2_with fail
    go_ret
    exact ⟨rfl, HB.out⟩
  by_cases n2 : 0 ≤ pl
  case neg =>
    have e := HNO.out (fun h => n2 (HJ.out.1 h).2.1)
    subst e
    clear HNO HYES HJ
    go_wp2_with fail
    go_ret
    exact ⟨rfl, HB.out⟩
  by_cases n3 : pl < (X : Int)
  case neg =>
    have e := HNO.out (fun h => n3 (HJ.out.1 h).2.2.1)
    subst e
    clear HNO HYES HJ
    go_wp2_with fail
    go_ret
    exact ⟨rfl, HB.out⟩
  by_cases n4 : (ln : Int) = max 0 ((O : Int) - 1)
  case neg =>
    have e := HNO.out (fun h => n4 (HJ.out.1 h).2.2.2.1)
    subst e
    clear HNO HYES HJ
    go_wp2_with fail
    go_ret
    exact ⟨rfl, HB.out⟩
  by_cases n5 : (fn : Int) = (Y : Int)
  case neg =>
    have e := HNO.out (fun h => n5 (HJ.out.1 h).2.2.2.2)
    subst e
    clear HNO HYES HJ
    go_wp2_with fail
    go_ret
    exact ⟨by first | rfl | (simp; exact n5) | (simp; omega) | (rw [beq_eq_false_iff_ne.2 n5]; rfl), HB.out⟩
  have e := HYES.out (HJ.out.2 ⟨n1, n2, n3, n4, n5⟩)
  subst e
  clear HNO HYES HJ
  go_wp2_with fail
  go_ret
  exact ⟨rfl, HB.out⟩
end Go.Proofs.YthfkfgjhgicfeaaGreatDoor
namespace Go.Proofs.YthfkfgjhgicfeaaGreatDoor
open Go Go.RowKit Go.Sort Go.BigFrame
set_option linter.unusedVariables false

def QuadC (W : World) (g : Nat) (q : Quad) : Prop := W.cell? ⟨g, 0, none⟩ = some (.int .u64 q.1.1) ∧ W.cell? ⟨g, 1, none⟩ = some (.int .u64 q.1.2) ∧ W.cell? ⟨g, 2, none⟩ = some (.int .u64 q.2.1) ∧ W.cell? ⟨g, 3, none⟩ = some (.int .u64 q.2.2)
theorem QuadC.keep {W W' : World} {g : Nat} {q : Quad} (h : QuadC W g q) (hb : Below W.heap.size W W') : QuadC W' g q := ⟨bkeep hb h.1, bkeep hb h.2.1, bkeep hb h.2.2.1, bkeep hb h.2.2.2⟩
theorem polyA_q {W : World} {a : Option Addr} {n : Nat} {zs : QL} (h : QRowA W a n zs) (hu : ∀ n ∈ zs, U n.1 ∧ U n.2) : PolyA W a n (zs.map toQ) := by
  obtain ⟨e, hm, hc⟩ := h
  refine ⟨by rw [List.length_map]; exact e, hm, fun k hk => ?_⟩
  obtain ⟨b, off, ea, c, d⟩ := hc k hk
  have hu' := hu (zs.getD k (0, 0)) (by simp [List.getD, show k < zs.length by omega])
  refine ⟨b, off, _, _, ea, c, d, ?_⟩
  have : cq (zs.map toQ) k = toQ (zs.getD k (0, 0)) := by
    unfold cq
    simp [List.getD, show k < zs.length by omega]
  rw [this]
  exact rep_raw hu'.1 hu'.2
/-- What the document's At comes to of a row of raw pairs, at a number. -/
theorem rfinat_is {W : World} {a : Option Addr} {n c : Nat} {zs : QL} (h : QRowA W a n zs) (hu : ∀ n ∈ zs, U n.1 ∧ U n.2) (hn : n ≤ 4294967296) (x : F) (y : F2) (hy : finAt zs x = y) :
    Calls Tryz.prog 32 #[.slice a n c, .agg #[.int .u64 (enc (lift x).a), .int .u64 (enc (lift x).b)]] W fun e w' => e = .returned (.agg #[.int .u64 (enc y.a), .int .u64 (enc y.b)]) ∧ Below W.heap.size W w' := by
  have hl : (zs.map toQ).length = n := by rw [List.length_map]; exact h.1
  have hp := polyA_q h hu
  have k := rat_a a c (zs.map toQ) (enc (lift x).a) (enc (lift x).b) (lift x) y W (by rw [hl]; exact hp) (rep_enc _) (by omega) hy
  rwa [hl] at k
theorem right_nat {K B : Nat} {fo pl : Int} {n ln fn : Nat} (h : rightJ (K : Int) (B : Int) fo n pl ln fn) : ∃ O PL : Nat, fo = (O : Int) ∧ pl = (PL : Int) ∧ K ≤ 10 ∧ 1 ≤ B ∧ B ≤ 4 ∧ O ≤ K ∧ n = O ∧ PL < 2 ^ (K + B - 1) ∧ ln = O - 1 ∧ fn = 2 ^ (K - O) := by
  obtain ⟨⟨h1, h2, h3, h4, h5, h6⟩, h7, h8, h9, h10, h11⟩ := h
  obtain ⟨O, rfl⟩ := Int.eq_ofNat_of_zero_le h5
  obtain ⟨PL, rfl⟩ := Int.eq_ofNat_of_zero_le h8
  rw [show ((K : Int) + (B : Int) - 1).toNat = K + B - 1 by omega] at h9
  rw [show ((K : Int) - (O : Int)).toNat = K - O by omega] at h11
  exact ⟨O, PL, rfl, rfl, by omega, by omega, by omega, by omega, by omega, Int.ofNat_lt.1 h9, by omega, Int.ofNat.inj h11⟩
theorem pow13 {m : Nat} (h : m ≤ 13) : 2 ^ m ≤ 8192 := Nat.le_trans (Nat.pow_le_pow_right (by decide) h) (by decide)
structure JnN (M PL : Nat) : Prop where
  m1 : IntKind.i64.wrap ((M : Int) - 1) = ((M - 1 : Nat) : Int)
  m2 : wrap64 ((M : Int) - 1) = ((M - 1 : Nat) : Int)
  u : IntKind.u64.wrap ((M - 1 : Nat) : Int) = ((M - 1 : Nat) : Int)
  d : M - 1 ≤ 40
  p : wrap64 ((2 : Int) ^ (M - 1)) = ((2 ^ (M - 1) : Nat) : Int)
  a1 : IntKind.i64.wrap ((PL : Int) + ((2 ^ (M - 1) : Nat) : Int)) = ((PL + 2 ^ (M - 1) : Nat) : Int)
  a2 : wrap64 ((PL : Int) + ((2 ^ (M - 1) : Nat) : Int)) = ((PL + 2 ^ (M - 1) : Nat) : Int)
  b1 : (PL : Int) ≤ 9223372036854775807
  b2 : ((PL + 2 ^ (M - 1) : Nat) : Int) ≤ 9223372036854775807
theorem jnN {M PL : Nat} (h1 : 1 ≤ M) (h2 : M ≤ 14) (h3 : PL < 2 ^ (M - 1)) : JnN M PL := by
  have c1 : M - 1 ≤ 13 := by omega
  have c2 : M ≤ 1000000000 := by omega
  have c3 : M - 1 ≤ 1000000000 := by omega
  have c4 : M - 1 ≤ 40 := by omega
  have hp := pow13 c1
  have c5 : PL ≤ 1000000000 := by omega
  have c6 : 2 ^ (M - 1) ≤ 1000000000 := by omega
  have c7 : (PL : Int) ≤ 9223372036854775807 := by omega
  have c8 : ((PL + 2 ^ (M - 1) : Nat) : Int) ≤ 9223372036854775807 := by omega
  exact ⟨(w_sub1 M h1 c2).1, (w_sub1 M h1 c2).2, w_u64 (M - 1) c3, c4, pw_wrap (M - 1) c4, (w_add PL (2 ^ (M - 1)) c5 c6).1, (w_add PL (2 ^ (M - 1)) c5 c6).2, c7, c8⟩
set_option maxRecDepth 100000 in
set_option maxHeartbeats 8000000 in
theorem rjnone_is (K B : Nat) (qu gr : Int) (a : Option Addr) (n c : Nat) (pl : Int) (first : Quad) (la : Option Addr) (ln lc : Nat) (fa : Option Addr) (fn fc : Nat) (fin : QL) (r : Bool) (w : World) (hq : UsQ first) (hf : QRowA w fa fn fin) (hfu : ∀ n ∈ fin, U n.1 ∧ U n.2)
    (hj : rightJ (K : Int) (B : Int) 0 n pl ln fn) (hr : jNone (K + B) pl.toNat first fin = r) :
    Calls Tryz.prog 26 #[.int .i64 (K : Int), .agg #[.int .i64 (B : Int), .int .i64 0, .int .i64 qu, .int .i64 gr], .slice a n c, .int .i64 pl, quadV first, .slice la ln lc, .slice fa fn fc] w fun e w' => e = .returned (.bool r) ∧ Below w.heap.size w w' := by
  have kR := fun W => rjright_is (K : Int) (B : Int) 0 qu gr a n c pl la ln lc fa fn fc true W (decide_eq_true hj)
  obtain ⟨O, PL, hO, rfl, b1, b2, b3, b4, b5, b6, b7, b8⟩ := right_nat hj
  rw [Int.toNat_natCast] at hr
  obtain ⟨M, hM⟩ : ∃ M, K + B = M := ⟨_, rfl⟩
  rw [hM] at hr b6
  have hfn : fn ≤ 4294967296 := by
    have := pow13 (show K - O ≤ 13 by omega)
    omega
  have hN := jnN (show 1 ≤ M by omega) (show M ≤ 14 by omega) b6
  have hKB := w_add K B (by omega) (by omega)
  rw [hM] at hKB
  obtain ⟨q1, q2⟩ := hq
  obtain ⟨va, hva⟩ : ∃ v, toQ first.1 = v := ⟨_, rfl⟩
  obtain ⟨vb, hvb⟩ : ∃ v, toQ first.2 = v := ⟨_, rfl⟩
  have ra : Rep first.1.1 first.1.2 va := by rw [← hva]; exact rep_raw q1.1 q1.2
  have rb : Rep first.2.1 first.2.2 vb := by rw [← hvb]; exact rep_raw q2.1 q2.2
  have HF := Lib.hid hf
  obtain ⟨x1, hx1⟩ : ∃ x, pointF (M : Int) 0 (PL : Int) = x := ⟨_, rfl⟩
  obtain ⟨x2, hx2⟩ : ∃ x, pointF (M : Int) 0 ((PL + 2 ^ (M - 1) : Nat) : Int) = x := ⟨_, rfl⟩
  have p1 := fun W => rfpoint_is (M : Int) 0 (PL : Int) (enc x1) hN.b1 (by rw [hx1]) W
  have p2 := fun W => rfpoint_is (M : Int) 0 ((PL + 2 ^ (M - 1) : Nat) : Int) (enc x2) hN.b2 (by rw [hx2]) W
  have l1 := fun W => rlift_q (enc x1) (lift x1) (enc_U _) (by rw [toF_enc]) W
  have l2 := fun W => rlift_q (enc x2) (lift x2) (enc_U _) (by rw [toF_enc]) W
  have a1 := fun W => radd_q first.1.1 first.1.2 0 0 va 0 va ra rep_zero (F2.add_zero va) W
  have a2 := fun W => radd_q first.2.1 first.2.2 0 0 vb 0 vb rb rep_zero (F2.add_zero vb) W
  obtain ⟨y1, hy1⟩ : ∃ y, finAt fin x1 = y := ⟨_, rfl⟩
  obtain ⟨y2, hy2⟩ : ∃ y, finAt fin x2 = y := ⟨_, rfl⟩
  have f1 := fun W (h : Below w.heap.size w W) => rfinat_is (c := fc) (HF.out.keep h) hfu hfn x1 y1 hy1
  have f2 := fun W (h : Below w.heap.size w W) => rfinat_is (c := fc) (HF.out.keep h) hfu hfn x2 y2 hy2
  have hr' : (decide (va = y1) && decide (vb = y2)) = r := by rw [← hr, ← hva, ← hvb, ← hy1, ← hy2, ← hx1, ← hx2]; rfl
  have e1 := eqB_enc va y1 _ rfl
  have e2 := eqB_enc vb y2 _ rfl
  generalize decide (va = y1) = r1 at *
  generalize decide (vb = y2) = r2 at *
  obtain ⟨n1, n2, n3, n4, n5, n6, n7, _, _⟩ := hN
  obtain ⟨m1, hm1⟩ : ∃ m, M - 1 = m := ⟨_, rfl⟩
  rw [hm1] at n1 n2 n3 n4 n5 n6 n7 p2
  obtain ⟨X, hX⟩ : ∃ X, 2 ^ m1 = X := ⟨_, rfl⟩
  rw [hX] at n5 n6 n7 p2
  obtain ⟨Y, hY⟩ : ∃ Y, PL + X = Y := ⟨_, rfl⟩
  rw [hY] at n6 n7 p2
  obtain ⟨k1, k2⟩ := hKB
  obtain ⟨⟨q0, q1⟩, ⟨q2, q3⟩⟩ := first
  simp only at a1 a2 ra rb
  have hrr := hr'
  clear hr hva hvb ra rb hx1 hx2 hy1 hy2 hm1 hX hY hM hfu hj hO b1 b2 b3 b4 b5 b6 b7 b8 hf hfn hr' q1 q2
  go_enter Tryz.func26, Tryz.ntmps26
  go_upto_region 1 with fail
  obtain ⟨g, hg⟩ : ∃ g, w.heap.size = g := ⟨_, rfl⟩
  obtain ⟨g', hg'⟩ : ∃ h, g + 1 = h := ⟨_, rfl⟩
  refine wp_gen (fun W => Below w.heap.size w W ∧ RjBox W g (B : Int) 0 qu gr ∧ QuadC W g' ((q0, q1), (q2, q3))) ⟨((Below.refl _ _).alloc (Nat.le_refl _) _).alloc (by simp) _, by subst hg' hg; simp [RjBox, go_sem], by subst hg' hg; simp [QuadC, go_sem]⟩ ?_
  rintro w0 ⟨hB0, hP, hQ⟩
  simp only [hg, hg']
  have HB := Lib.hid hB0
  have HP := Lib.hid hP; have HQ := Lib.hid hQ
  obtain ⟨c0, c1, c2, c3⟩ := hP
  obtain ⟨d0, d1, d2, d3⟩ := hQ
  clear hB0 hg hg'
  go_upto_region 6 with (first
    | (go_at_call 57; (with_reducible refine (kR _).mono ?_); rintro e w1 ⟨rfl, hb⟩; replace c0 := bkeep hb c0; replace c1 := bkeep hb c1; replace d0 := bkeep hb d0; replace d1 := bkeep hb d1; replace d2 := bkeep hb d2; replace d3 := bkeep hb d3; replace HB := Lib.hid (bthen HB.out hb); clear hb)
    | (go_at_call 58; (first | with_reducible refine (p1 _).mono ?_ | with_reducible refine (p2 _).mono ?_); rintro e w2 ⟨rfl, hb⟩; replace d0 := bkeep hb d0; replace d1 := bkeep hb d1; replace d2 := bkeep hb d2; replace d3 := bkeep hb d3; replace HB := Lib.hid (bthen HB.out hb); clear hb))
  clear kR p1 p2 n1 n2 n3 n4 n5 n6 n7 k1 k2 c0 c1 c2 c3
  rcases e1 with ⟨rfl, h1, h2⟩ | ⟨rfl, h1⟩ | ⟨rfl, h1, h2⟩
  case inl =>
    rcases e2 with ⟨rfl, h3, h4⟩ | ⟨rfl, h3⟩ | ⟨rfl, h3, h4⟩
    all_goals
      subst hrr
      go_wp2_with (first
        | (go_at_call 33; (first | with_reducible refine (a1 _).mono ?_ | with_reducible refine (a2 _).mono ?_); rintro e w3 ⟨rfl, hb⟩; replace d2 := bkeep hb d2; replace d3 := bkeep hb d3; replace HB := Lib.hid (bthen HB.out hb); clear hb)
        | (go_at_call 59; (first | with_reducible refine (l1 _).mono ?_ | with_reducible refine (l2 _).mono ?_); rintro e w4 ⟨rfl, hb⟩; replace d2 := bkeep hb d2; replace d3 := bkeep hb d3; replace HB := Lib.hid (bthen HB.out hb); clear hb)
        | (go_at_call 32; (first | with_reducible refine (f1 _ HB.out).mono ?_ | with_reducible refine (f2 _ HB.out).mono ?_); rintro e w5 ⟨rfl, hb⟩; replace d2 := bkeep hb d2; replace d3 := bkeep hb d3; replace HB := Lib.hid (bthen HB.out hb); clear hb))
      go_ret
      exact ⟨rfl, HB.out⟩
  all_goals
    subst hrr
    go_wp2_with (first
        | (go_at_call 33; (first | with_reducible refine (a1 _).mono ?_ | with_reducible refine (a2 _).mono ?_); rintro e w3 ⟨rfl, hb⟩; replace d2 := bkeep hb d2; replace d3 := bkeep hb d3; replace HB := Lib.hid (bthen HB.out hb); clear hb)
        | (go_at_call 59; (first | with_reducible refine (l1 _).mono ?_ | with_reducible refine (l2 _).mono ?_); rintro e w4 ⟨rfl, hb⟩; replace d2 := bkeep hb d2; replace d3 := bkeep hb d3; replace HB := Lib.hid (bthen HB.out hb); clear hb)
        | (go_at_call 32; (first | with_reducible refine (f1 _ HB.out).mono ?_ | with_reducible refine (f2 _ HB.out).mono ?_); rintro e w5 ⟨rfl, hb⟩; replace d2 := bkeep hb d2; replace d3 := bkeep hb d3; replace HB := Lib.hid (bthen HB.out hb); clear hb))
    go_ret
    exact ⟨rfl, HB.out⟩
structure JfN (M O j : Nat) : Prop where
  a1 : IntKind.i64.wrap ((M : Int) - (j : Int)) = ((M - j : Nat) : Int)
  a2 : wrap64 ((M : Int) - (j : Int)) = ((M - j : Nat) : Int)
  b1 : IntKind.i64.wrap (((M - j : Nat) : Int) - 1) = ((M - j - 1 : Nat) : Int)
  b2 : wrap64 (((M - j : Nat) : Int) - 1) = ((M - j - 1 : Nat) : Int)
  c1 : IntKind.i64.wrap ((j : Int) + 1) = ((j + 1 : Nat) : Int)
  c2 : wrap64 ((j : Int) + 1) = ((j + 1 : Nat) : Int)
  e1 : IntKind.i64.wrap ((O : Int) - 1) = ((O - 1 : Nat) : Int)
  e2 : wrap64 ((O : Int) - 1) = ((O - 1 : Nat) : Int)
theorem jfN {M O j : Nat} (h1 : j < O) (h2 : O < M) (h3 : M ≤ 14) : JfN M O j := by
  have a1 : j ≤ M := by omega
  have a2 : M ≤ 1000000000 := by omega
  have a3 : 1 ≤ M - j := by omega
  have a4 : M - j ≤ 1000000000 := by omega
  have a5 : j ≤ 1000000000 := by omega
  have a6 : 1 ≤ O := by omega
  have a7 : O ≤ 1000000000 := by omega
  exact ⟨(w_sub M j a1 a2).1, (w_sub M j a1 a2).2, (w_sub1 (M - j) a3 a4).1, (w_sub1 (M - j) a3 a4).2, (w_one j a5).1, (w_one j a5).2, (w_sub1 O a6 a7).1, (w_sub1 O a6 a7).2⟩
structure JfH (M j A : Nat) : Prop where
  d1 : IntKind.i64.wrap (((M - j : Nat) : Int) - 2) = ((M - j - 2 : Nat) : Int)
  d2 : wrap64 (((M - j : Nat) : Int) - 2) = ((M - j - 2 : Nat) : Int)
  u : IntKind.u64.wrap ((M - j - 2 : Nat) : Int) = ((M - j - 2 : Nat) : Int)
  d : M - j - 2 ≤ 40
  p : wrap64 ((2 : Int) ^ (M - j - 2)) = ((2 ^ (M - j - 2) : Nat) : Int)
  nz : ¬ ((2 ^ (M - j - 2) : Nat) : Int) = 0
  q : ((A : Nat) : Int).tdiv ((2 ^ (M - j - 2) : Nat) : Int) = ((A / 2 ^ (M - j - 2) : Nat) : Int)
  r : ((A : Nat) : Int).tmod ((2 ^ (M - j - 2) : Nat) : Int) = ((A % 2 ^ (M - j - 2) : Nat) : Int)
  s : A / 2 ^ (M - j - 2) = 0 ∨ A / 2 ^ (M - j - 2) = 1
  w : IntKind.i64.wrap ((A / 2 ^ (M - j - 2) : Nat) : Int) = ((A / 2 ^ (M - j - 2) : Nat) : Int) ∧ wrap64 ((A / 2 ^ (M - j - 2) : Nat) : Int) = ((A / 2 ^ (M - j - 2) : Nat) : Int)
  x : IntKind.i64.wrap ((A % 2 ^ (M - j - 2) : Nat) : Int) = ((A % 2 ^ (M - j - 2) : Nat) : Int) ∧ wrap64 ((A % 2 ^ (M - j - 2) : Nat) : Int) = ((A % 2 ^ (M - j - 2) : Nat) : Int)
theorem small_wrap {n : Nat} (h : n ≤ 1000000) : IntKind.i64.wrap (n : Int) = (n : Int) ∧ wrap64 (n : Int) = (n : Int) := ⟨IntWalk.i64_in _ (by omega), IntWalk.wrap64_in _ (by omega)⟩
theorem jfX {A X : Nat} (hpos : 0 < X) (hA : A < 2 * X) (hb : 2 * X ≤ 8192) : ¬ (X : Int) = 0 ∧ (A : Int).tdiv (X : Int) = ((A / X : Nat) : Int) ∧ (A : Int).tmod (X : Int) = ((A % X : Nat) : Int) ∧ (A / X = 0 ∨ A / X = 1) ∧ A / X ≤ 1000000 ∧ A % X ≤ 1000000 := by
  have hs : A / X < 2 := (Nat.div_lt_iff_lt_mul hpos).2 hA
  have hr : A % X < X := Nat.mod_lt _ hpos
  have hd : A / X ≤ A := Nat.div_le_self A X
  refine ⟨by omega, ?_, ?_, ?_, by generalize A / X = z at *; omega, by generalize A % X = z at *; omega⟩
  · rw [Int.tdiv_eq_ediv_of_nonneg (Int.natCast_nonneg _)]; rfl
  · rw [Int.tmod_eq_emod_of_nonneg (Int.natCast_nonneg _)]; rfl
  · generalize A / X = z at *; omega
theorem jfH {M j A : Nat} (h1 : j + 2 ≤ M) (h3 : M ≤ 14) (hA : A < 2 ^ (M - 1 - j)) : JfH M j A := by
  have c1 : 2 ≤ M - j := by omega
  have c2 : M - j ≤ 1000000000 := by omega
  have c3 : M - j - 2 ≤ 1000000000 := by omega
  have hd : M - j - 2 ≤ 40 := by omega
  have c5 : M - 1 - j ≤ 13 := by omega
  have c6 : M - 1 - j = M - j - 2 + 1 := by omega
  have g1 := w_sub2 (M - j) c1 c2
  have g2 := w_u64 (M - j - 2) c3
  have g3 := pw_wrap (M - j - 2) hd
  have hb := pow13 c5
  have h2 : 2 ^ (M - 1 - j) = 2 * 2 ^ (M - j - 2) := by rw [c6, Nat.pow_succ, Nat.mul_comm]
  rw [h2] at hA hb
  obtain ⟨x1, x2, x3, x4, x5, x6⟩ := jfX (Nat.two_pow_pos (M - j - 2)) hA hb
  exact ⟨g1.1, g1.2, g2, hd, g3, x1, x2, x3, x4, small_wrap x5, small_wrap x6⟩
def QuadN (W : World) (g : Nat) (q : Quad) : Prop := QuadC W g q ∧ W.frozen? ⟨g, 0, none⟩ = false ∧ W.frozen? ⟨g, 1, none⟩ = false ∧ W.frozen? ⟨g, 2, none⟩ = false ∧ W.frozen? ⟨g, 3, none⟩ = false
theorem QuadN.keep {W W' : World} {g : Nat} {q : Quad} (h : QuadN W g q) (hb : Below W.heap.size W W') : QuadN W' g q := ⟨h.1.keep hb, bfree hb h.1.1 h.2.1, bfree hb h.1.2.1 h.2.2.1, bfree hb h.1.2.2.1 h.2.2.2.1, bfree hb h.1.2.2.2 h.2.2.2.2⟩
theorem jTwo_U {first : Quad} {layers : List Quad} (h1 : UsQ first) (h2 : ∀ q ∈ layers, UsQ q) (j : Nat) : UsQ (jTwo first layers j) := by
  unfold jTwo
  split
  · exact h1
  · by_cases h : j - 1 < layers.length
    · rw [show layers.getD (j - 1) zeroQ = layers[j - 1] by simp [List.getD, h]]
      exact h2 _ (List.getElem_mem h)
    · rw [show layers.getD (j - 1) zeroQ = zeroQ by simp [List.getD, h]]
      refine ⟨⟨⟨?_, ?_⟩, ?_, ?_⟩, ⟨?_, ?_⟩, ?_, ?_⟩ <;> decide
theorem sub_le32 {M j : Nat} (h : M ≤ 14) : M - j ≤ 32 := by omega
theorem jAt_int {M : Nat} (PL : Nat) (h : M ≤ 14) {j : Nat} : (jAt M PL j : Int) ≤ 9223372036854775807 := by
  have h1 := jAt_lt M PL j
  have h2 := pow13 (show M - 1 - j ≤ 13 by omega)
  omega
def JfOB (g18 bb bo n c j m1 A M : Nat) (s0 s1 s2 s3 y0 y1 : Int) (x : F) (vv : F2) (sl : Nat) (v : Value) : Prop :=
  match sl with
  | 79 => v = .pointer (some ⟨g18, 0, none⟩)
  | 80 => v = .agg #[.int .u64 s0, .int .u64 s1]
  | 81 => v = .pointer (some ⟨g18, 2, none⟩)
  | 82 => v = .agg #[.int .u64 s2, .int .u64 s3]
  | 83 => v = .slice (some ⟨bb, bo, none⟩) n c
  | 84 => v = .int .i64 (j : Int)
  | 85 => v = .pointer (some ⟨bb, bo + j * 2, none⟩)
  | 86 => v = .agg #[.int .u64 y0, .int .u64 y1]
  | 87 => v = .int .i64 (M : Int)
  | 88 => v = .int .i64 (j : Int)
  | 89 => v = .int .i64 (m1 : Int)
  | 90 => v = .int .i64 (j : Int)
  | 91 => v = .int .i64 (A : Int)
  | 92 => v = .int .u64 (enc x)
  | 93 => v = .tuple #[.agg #[.int .u64 (enc vv.a), .int .u64 (enc vv.b)], .bool true]
  | 78 => v = .tuple #[.agg #[.int .u64 (enc vv.a), .int .u64 (enc vv.b)], .bool true]
  | 94 => v = .agg #[.int .u64 (enc vv.a), .int .u64 (enc vv.b)]
  | _ => v = .bool true
def JfOA (B : Nat) (g18 bb bo n c j m1 A M : Nat) (s0 s1 s2 s3 y0 y1 : Int) (x : F) (vv : F2) (s : Bool) (v : Value) (W : World) : Prop := ∃ q : Nat, B ≤ q ∧ v = .pointer (some ⟨q, 0, none⟩) ∧ Duo W q (if s then .int .u64 (enc vv.a) else .int .u64 0) (if s then .int .u64 (enc vv.b) else .int .u64 0)
def JfOG (B : Nat) (g18 bb bo n c j m1 A M : Nat) (s0 s1 s2 s3 y0 y1 : Int) (x : F) (vv : F2) (s : Bool) (sl : Nat) (v : Value) (W : World) : Prop := if sl = 21 then JfOA B g18 bb bo n c j m1 A M s0 s1 s2 s3 y0 y1 x vv s v W else JfOB g18 bb bo n c j m1 A M s0 s1 s2 s3 y0 y1 x vv sl v
theorem JfOG.keep {B : Nat} {g18 bb bo n c j m1 A M : Nat} {s0 s1 s2 s3 y0 y1 : Int} {x : F} {vv : F2} (s : Bool) (sl : Nat) (v : Value) (W W' : World) (h : JfOG B g18 bb bo n c j m1 A M s0 s1 s2 s3 y0 y1 x vv s sl v W) (hb : Below W.heap.size W W') : JfOG B g18 bb bo n c j m1 A M s0 s1 s2 s3 y0 y1 x vv s sl v W' := by
  unfold JfOG at *
  split
  · next c => rw [if_pos c] at h; obtain ⟨q, h0, h1, h2⟩ := h; exact ⟨q, h0, h1, h2.keep hb⟩
  · next c => rw [if_neg c] at h; exact h
def JfRel (w : World) (M O PL : Nat) (bys : QL) (first : Quad) (layers : List Quad) (fin : QL) (g : Nat) (v i : Value) (W : World) : Prop :=
  ∃ j : Nat, j < O ∧ i = .int .i64 (j : Int) ∧ v = .int .i64 (jAt M PL j : Int) ∧ Below w.heap.size w W ∧ QuadN W g (jTwo first layers j) ∧ jAll M O PL bys first layers fin j = true
set_option maxRecDepth 100000 in
set_option maxHeartbeats 8000000 in
theorem rjfold_is (K B : Nat) (fo qu gr : Int) (a : Option Addr) (n c : Nat) (bys : QL) (pl : Int) (first : Quad) (la : Option Addr) (ln lc : Nat) (layers : List Quad) (fa : Option Addr) (fn fc : Nat) (fin : QL) (r : Bool) (w : World) (hby : QRowA w a n bys) (hbu : ∀ n ∈ bys, U n.1 ∧ U n.2) (hq : UsQ first) (hly : QuadsA w la ln layers) (hlu : ∀ q ∈ layers, UsQ q) (hf : QRowA w fa fn fin) (hfu : ∀ n ∈ fin, U n.1 ∧ U n.2)
    (hj : rightJ (K : Int) (B : Int) fo n pl ln fn) (h0 : ¬ fo = 0) (hr : jAll (K + B) fo.toNat pl.toNat bys first layers fin fo.toNat = r) :
    Calls Tryz.prog 26 #[.int .i64 (K : Int), .agg #[.int .i64 (B : Int), .int .i64 fo, .int .i64 qu, .int .i64 gr], .slice a n c, .int .i64 pl, quadV first, .slice la ln lc, .slice fa fn fc] w fun e w' => e = .returned (.bool r) ∧ Below w.heap.size w w' := by
  have kR := fun W => rjright_is (K : Int) (B : Int) fo qu gr a n c pl la ln lc fa fn fc true W (decide_eq_true hj)
  obtain ⟨O, PL, rfl, rfl, b1, b2, b3, b4, b5, b6, b7, b8⟩ := right_nat hj
  rw [Int.toNat_natCast, Int.toNat_natCast] at hr
  obtain ⟨M, hM⟩ : ∃ M, K + B = M := ⟨_, rfl⟩
  rw [hM] at hr b6
  have hfn : fn ≤ 4294967296 := by
    have h1 := pow13 (show K - O ≤ 13 by omega)
    omega
  have hO0 : 0 < O := by omega
  have hOM : O < M := by omega
  have hM14 : M ≤ 14 := by omega
  have hKB := w_add K B (by omega) (by omega)
  rw [hM] at hKB
  obtain ⟨k1, k2⟩ := hKB
  have HN := Lib.hid (And.intro hO0 (And.intro hOM hM14))
  have HLN := Lib.hid b7; have HBN := Lib.hid b5
  have HBY := Lib.hid hby; have HBU := Lib.hid hbu; have HLY := Lib.hid hly; have HLU := Lib.hid hlu; have HF := Lib.hid hf; have HFU := Lib.hid hfu; have HFN := Lib.hid hfn; have HR := Lib.hid hr; have HQU := Lib.hid hq
  have hat0 := jAt_zero b6
  have HAT0 := Lib.hid hat0
  obtain ⟨⟨q0, q1⟩, ⟨q2, q3⟩⟩ := first
  clear hj hr hfn hO0 hOM hM14 hM b1 b2 b3 b4 b5 b6 b7 b8 hby hbu hly hlu hf hfu hq hat0
  have h0 : ¬ (O : Int) = 0 := h0
  go_enter Tryz.func26, Tryz.ntmps26
  go_upto_region 1 with fail
  obtain ⟨g, hg⟩ : ∃ g, w.heap.size = g := ⟨_, rfl⟩
  obtain ⟨g', hg'⟩ : ∃ h, g + 1 = h := ⟨_, rfl⟩
  refine wp_gen (fun W => Below w.heap.size w W ∧ RjBox W g (B : Int) (O : Int) qu gr ∧ QuadC W g' ((q0, q1), (q2, q3))) ⟨((Below.refl _ _).alloc (Nat.le_refl _) _).alloc (by simp) _, by subst hg' hg; simp [RjBox, go_sem], by subst hg' hg; simp [QuadC, go_sem]⟩ ?_
  rintro w0 ⟨hB0, hP, hQ⟩
  simp only [hg, hg']
  have HB := Lib.hid hB0
  have HP := Lib.hid hP; have HQ := Lib.hid hQ
  obtain ⟨c0, c1, c2, c3⟩ := hP
  obtain ⟨d0, d1, d2, d3⟩ := hQ
  clear hB0 hg hg'
  go_upto_region 7 with (go_at_call 57; (with_reducible refine (kR _).mono ?_); rintro e w1 ⟨rfl, hb⟩; replace c0 := bkeep hb c0; replace c1 := bkeep hb c1; replace d0 := bkeep hb d0; replace d1 := bkeep hb d1; replace d2 := bkeep hb d2; replace d3 := bkeep hb d3; replace HB := Lib.hid (bthen HB.out hb); replace HP := Lib.hid (HP.out.keep hb); clear hb)
  clear kR k1 k2 c0 c1 c2 c3
  go_upto_region 8 with fail
  have HBY1 := Lib.hid (HBY.out.keep HB.out); have HLY1 := Lib.hid (HLY.out.keep HB.out); have HF1 := Lib.hid (HF.out.keep HB.out)
  have HB1 := HB
  refine wp_gen (fun W => Below w1.heap.size w1 W ∧ QuadN W w1.heap.size ((q0, q1), (q2, q3))) ⟨(Below.refl _ _).alloc (Nat.le_refl _) _, by simp [QuadN, QuadC, go_sem]⟩ ?_
  obtain ⟨g18, hg18⟩ : ∃ g, w1.heap.size = g := ⟨_, rfl⟩
  simp only [hg18]
  rintro w2 ⟨hB2, hN2⟩
  have HB2 := Lib.hid hB2; have HN2 := Lib.hid hN2; have HG := Lib.hid hg18
  clear hB2 hN2 hg18 d0 d1 d2 d3 HQ HBY HLY HF HB
  go_upto_region 9 with fail
  have hz : ((O : Int) == 0) = false := beq_eq_false_iff_ne.2 h0
  simp only [hz]
  clear h0 hz
  go_loopw [19, 20] (JfRel w1 M O PL bys ((q0, q1), (q2, q3)) layers fin g18) (fun _ i _ => O - (intOf i).toNat)
  case atStart => exact ⟨0, HN.out.1, rfl, by rw [HAT0.out], by rw [HG.out]; exact HB2.out, HN2.out, rfl⟩
  case round =>
    clear HB2 HN2 HAT0
    obtain ⟨j, hj, rfl, rfl, hB, hN, hall⟩ := hrel
    obtain ⟨hO0, hOM, hM14⟩ := HN.out
    have hNN := jfN hj hOM hM14
    have hA := jAt_lt M PL j
    have hltI : (j : Int) < (O : Int) := Int.ofNat_lt.2 hj
    have hj0 : (0 : Int) ≤ (j : Int) := Int.natCast_nonneg j
    obtain ⟨bb, bo, hae, y0c, y1c⟩ := (HBY1.out.keep hB).2.2 j (by rw [HBN.out]; exact hj)
    subst hae
    have hjn : (j : Int) < (n : Int) := by rw [HBN.out]; exact hltI
    have ry := qAt_rep HBU.out (show j < bys.length by rw [HBY1.out.1, HBN.out]; exact hj)
    have hUT := jTwo_U HQU.out HLU.out j
    obtain ⟨TW, hTW⟩ : ∃ T, jTwo ((q0, q1), (q2, q3)) layers j = T := ⟨_, rfl⟩
    rw [hTW] at hN hUT
    have ra := rep_raw hUT.1.1 hUT.1.2
    have rb := rep_raw hUT.2.1 hUT.2.2
    obtain ⟨x, hx⟩ : ∃ x, pointF ((M - j : Nat) : Int) (j : Int) (jAt M PL j : Int) = x := ⟨_, rfl⟩
    have hxne : x ≠ 0 := by rw [← hx, pointF_pt (M - j) (sub_le32 hM14) (j : Int)]; exact pt_ne (shiftF_ne _) (M - j) (sub_le32 hM14) _
    have hAi := jAt_int PL hM14 (j := j)
    have p1 := fun W => rfpoint_is ((M - j : Nat) : Int) (j : Int) (jAt M PL j : Int) (enc x) hAi (by rw [hx]) W
    obtain ⟨vv, hv⟩ : ∃ v, foldV (toQ TW.1) (toQ TW.2) (qAt bys j) x = v := ⟨_, rfl⟩
    have o1 := fun W => rfone_is TW.1.1 TW.1.2 TW.2.1 TW.2.2 _ _ (enc x) (toQ TW.1) (toQ TW.2) (qAt bys j) vv x true W ra rb ry (enc_U _) (toF_enc _) (by unfold oneRes; rw [if_neg hxne, hv])
    have HV : Hid (jV M PL bys ((q0, q1), (q2, q3)) layers j = vv) := Lib.hid (by unfold jV; rw [hTW, hx]; exact hv)
    have HB := Lib.hid hB; have HNT := Lib.hid hN; have HALL := Lib.hid hall; have HJ := Lib.hid hj; have HA := Lib.hid hA; have HAI := Lib.hid hAi
    have HNN := Lib.hid hNN
    obtain ⟨n1, n2, _, _, _, _, n7, n8⟩ := hNN
    obtain ⟨t0c, t1c, t2c, t3c⟩ := hN.1
    obtain ⟨A, hAe⟩ : ∃ A, jAt M PL j = A := ⟨_, rfl⟩
    have HAE := Lib.hid hAe
    obtain ⟨m1, hm1⟩ : ∃ m, M - j = m := ⟨_, rfl⟩
    rw [hm1, hAe] at p1
    rw [hm1] at n1 n2
    rw [hAe]
    have HM1 := Lib.hid hm1
    clear hB hN hall hj hA hO0 hOM hM14 ry hUT ra rb hx hxne hv hTW hAe hm1 hAi
    obtain ⟨⟨s0, s1⟩, ⟨s2, s3⟩⟩ := TW
    simp only at t0c t1c t2c t3c o1
    generalize (bys.getD j (0, 0)).1 = y0 at *
    generalize (bys.getD j (0, 0)).2 = y1 at *
    have hc1 := (HP.out.keep HB.out).2.1
    go_upto_region 11 with fail
    clear hc1
    refine wp_twow [(some 79, [], true), (some 80, [79], true), (some 81, [], true), (some 82, [81], true), (some 83, [], true), (some 84, [], true), (some 85, [83, 84], true), (some 86, [85], true), (some 87, [], true), (some 88, [], true), (some 89, [87, 88], true), (some 90, [], true), (some 91, [], true), (some 92, [89, 90, 91], true), (some 93, [80, 82, 86, 92], true), (some 78, [93], true), (some 94, [78], true), (some 95, [78], false), (some 21, [], true), (none, [21, 94], false)]
      19 (JfOG wr.heap.size g18 bb bo n c j m1 A M s0 s1 s2 s3 y0 y1 x vv) (fun _ W => Below wr.heap.size wr W) (by kernel_rfl) (by kernel_rfl) (below_drewN (Below.refl _ _) 1) JfOG.keep ?_ ?_
    · refine opsv_one ?_ (opsv_one ?_ (opsv_one ?_ (opsv_one ?_ (opsv_one ?_ (opsv_one ?_ (opsv_one ?_ (opsv_one ?_ (opsv_one ?_ (opsv_one ?_ (opsv_one ?_ (opsv_one ?_ (opsv_one ?_ (opsv_one ?_ (opsv_one ?_ (opsv_one ?_ (opsv_one ?_ (opsv_one ?_ (opsv_one ?_ (opsv_st ?_ opsv_nil)))))))))))))))))))
      all_goals
        first | refine OpRunsV.any ?_ | refine StRunsV.any ?_
      · intro Q0 σ s W' KK hs1 hb hn hK
        simp only [fill, List.filterMap, Act.put, List.setIfInBounds_toArray, List.set_cons_zero, List.set_cons_succ] at hK ⊢
        clear hn
        have HH := Lib.hid hb
        clear hb
        go_simp
        exact hK _ _ rfl (Below.refl _ _) HH.out
      · intro Q0 σ s W' KK hs1 hb hn hK
        simp only [fill, List.filterMap, Act.put, List.setIfInBounds_toArray, List.set_cons_zero, List.set_cons_succ] at hK ⊢
        have h79 : σ 79 = _ := hn 79 (by decide)
        clear hn
        simp only [h79] at hK
        have t0c' := bkeep hb t0c
        have t1c' := bkeep hb t1c
        clear t0c t1c
        have HH := Lib.hid hb
        clear hb
        go_simp
        exact hK _ _ rfl (Below.refl _ _) HH.out
      · intro Q0 σ s W' KK hs1 hb hn hK
        simp only [fill, List.filterMap, Act.put, List.setIfInBounds_toArray, List.set_cons_zero, List.set_cons_succ] at hK ⊢
        clear hn
        have HH := Lib.hid hb
        clear hb
        go_simp
        exact hK _ _ rfl (Below.refl _ _) HH.out
      · intro Q0 σ s W' KK hs1 hb hn hK
        simp only [fill, List.filterMap, Act.put, List.setIfInBounds_toArray, List.set_cons_zero, List.set_cons_succ] at hK ⊢
        have h81 : σ 81 = _ := hn 81 (by decide)
        clear hn
        simp only [h81] at hK
        have t2c' := bkeep hb t2c
        have t3c' := bkeep hb t3c
        clear t2c t3c
        have HH := Lib.hid hb
        clear hb
        go_simp
        exact hK _ _ rfl (Below.refl _ _) HH.out
      · intro Q0 σ s W' KK hs1 hb hn hK
        simp only [fill, List.filterMap, Act.put, List.setIfInBounds_toArray, List.set_cons_zero, List.set_cons_succ] at hK ⊢
        clear hn
        have HH := Lib.hid hb
        clear hb
        go_simp
        exact hK _ _ rfl (Below.refl _ _) HH.out
      · intro Q0 σ s W' KK hs1 hb hn hK
        simp only [fill, List.filterMap, Act.put, List.setIfInBounds_toArray, List.set_cons_zero, List.set_cons_succ] at hK ⊢
        clear hn
        have HH := Lib.hid hb
        clear hb
        go_simp
        exact hK _ _ rfl (Below.refl _ _) HH.out
      · intro Q0 σ s W' KK hs1 hb hn hK
        simp only [fill, List.filterMap, Act.put, List.setIfInBounds_toArray, List.set_cons_zero, List.set_cons_succ] at hK ⊢
        have h83 : σ 83 = _ := hn 83 (by decide)
        have h84 : σ 84 = _ := hn 84 (by decide)
        clear hn
        simp only [h83, h84] at hK
        have HH := Lib.hid hb
        clear hb
        go_simp
        exact hK _ _ rfl (Below.refl _ _) HH.out
      · intro Q0 σ s W' KK hs1 hb hn hK
        simp only [fill, List.filterMap, Act.put, List.setIfInBounds_toArray, List.set_cons_zero, List.set_cons_succ] at hK ⊢
        have h85 : σ 85 = _ := hn 85 (by decide)
        clear hn
        simp only [h85] at hK
        have y0c' := bkeep hb y0c
        have y1c' := bkeep hb y1c
        clear y0c y1c
        have HH := Lib.hid hb
        clear hb
        go_simp
        exact hK _ _ rfl (Below.refl _ _) HH.out
      · intro Q0 σ s W' KK hs1 hb hn hK
        simp only [fill, List.filterMap, Act.put, List.setIfInBounds_toArray, List.set_cons_zero, List.set_cons_succ] at hK ⊢
        clear hn
        have HH := Lib.hid hb
        clear hb
        go_simp
        exact hK _ _ rfl (Below.refl _ _) HH.out
      · intro Q0 σ s W' KK hs1 hb hn hK
        simp only [fill, List.filterMap, Act.put, List.setIfInBounds_toArray, List.set_cons_zero, List.set_cons_succ] at hK ⊢
        clear hn
        have HH := Lib.hid hb
        clear hb
        go_simp
        exact hK _ _ rfl (Below.refl _ _) HH.out
      · intro Q0 σ s W' KK hs1 hb hn hK
        simp only [fill, List.filterMap, Act.put, List.setIfInBounds_toArray, List.set_cons_zero, List.set_cons_succ] at hK ⊢
        have h87 : σ 87 = _ := hn 87 (by decide)
        have h88 : σ 88 = _ := hn 88 (by decide)
        clear hn
        simp only [h87, h88] at hK
        have HH := Lib.hid hb
        clear hb
        go_simp
        exact hK _ _ rfl (Below.refl _ _) HH.out
      · intro Q0 σ s W' KK hs1 hb hn hK
        simp only [fill, List.filterMap, Act.put, List.setIfInBounds_toArray, List.set_cons_zero, List.set_cons_succ] at hK ⊢
        clear hn
        have HH := Lib.hid hb
        clear hb
        go_simp
        exact hK _ _ rfl (Below.refl _ _) HH.out
      · intro Q0 σ s W' KK hs1 hb hn hK
        simp only [fill, List.filterMap, Act.put, List.setIfInBounds_toArray, List.set_cons_zero, List.set_cons_succ] at hK ⊢
        clear hn
        have HH := Lib.hid hb
        clear hb
        go_simp
        exact hK _ _ rfl (Below.refl _ _) HH.out
      · intro Q0 σ s W' KK hs1 hb hn hK
        simp only [fill, List.filterMap, Act.put, List.setIfInBounds_toArray, List.set_cons_zero, List.set_cons_succ] at hK ⊢
        have h89 : σ 89 = _ := hn 89 (by decide)
        have h90 : σ 90 = _ := hn 90 (by decide)
        have h91 : σ 91 = _ := hn 91 (by decide)
        clear hn
        simp only [h89, h90, h91] at hK
        go_simp
        go_at_call 58
        refine (p1 _).mono ?_
        rintro e w1 ⟨rfl, hb1⟩
        exact hK _ _ rfl hb1 (bthen hb hb1)
      · intro Q0 σ s W' KK hs1 hb hn hK
        simp only [fill, List.filterMap, Act.put, List.setIfInBounds_toArray, List.set_cons_zero, List.set_cons_succ] at hK ⊢
        have h80 : σ 80 = _ := hn 80 (by decide)
        have h82 : σ 82 = _ := hn 82 (by decide)
        have h86 : σ 86 = _ := hn 86 (by decide)
        have h92 : σ 92 = _ := hn 92 (by decide)
        clear hn
        simp only [h80, h82, h86, h92] at hK
        go_simp
        go_at_call 60
        refine (o1 _).mono ?_
        rintro e w1 ⟨rfl, hb1⟩
        exact hK _ _ rfl hb1 (bthen hb hb1)
      · intro Q0 σ s W' KK hs1 hb hn hK
        simp only [fill, List.filterMap, Act.put, List.setIfInBounds_toArray, List.set_cons_zero, List.set_cons_succ] at hK ⊢
        have h93 : σ 93 = _ := hn 93 (by decide)
        clear hn
        simp only [h93] at hK
        have HH := Lib.hid hb
        clear hb
        go_simp
        exact hK _ _ rfl (Below.refl _ _) HH.out
      · intro Q0 σ s W' KK hs1 hb hn hK
        simp only [fill, List.filterMap, Act.put, List.setIfInBounds_toArray, List.set_cons_zero, List.set_cons_succ] at hK ⊢
        have h78 : σ 78 = _ := hn 78 (by decide)
        clear hn
        simp only [h78] at hK
        have HH := Lib.hid hb
        clear hb
        go_simp
        exact hK _ _ rfl (Below.refl _ _) HH.out
      · intro Q0 σ s W' KK hs1 hb hn hK
        simp only [fill, List.filterMap, Act.put, List.setIfInBounds_toArray, List.set_cons_zero, List.set_cons_succ] at hK ⊢
        have h78 : σ 78 = _ := hn 78 (by decide)
        clear hn
        simp only [h78] at hK
        have HH := Lib.hid hb
        clear hb
        go_simp
        exact hK _ _ rfl (Below.refl _ _) HH.out
      · intro Q0 σ s W' KK hs1 hb hn hK
        simp only [fill, List.filterMap, Act.put, List.setIfInBounds_toArray, List.set_cons_zero, List.set_cons_succ] at hK ⊢
        obtain rfl := hs1 rfl
        clear hn
        go_simp
        refine hK _ _ ?_ ((Below.refl _ _).alloc (Nat.le_refl _) _) (bthen hb ((Below.refl _ _).alloc (Nat.le_refl _) _))
        exact ⟨W'.heap.size, hb.size, rfl, by simp [Duo, go_sem]⟩
      · intro Q0 σ W' KK hb hn hK
        simp only [fill, List.filterMap, Act.put, List.setIfInBounds_toArray, List.set_cons_zero, List.set_cons_succ] at hK ⊢
        have hs94 : σ 94 = _ := hn 94 (by decide)
        obtain ⟨q, hq, eA, hV⟩ : JfOA wr.heap.size g18 bb bo n c j m1 A M s0 s1 s2 s3 y0 y1 x vv false (σ 21) W' := hn 21 (by decide)
        clear hn
        have HKP : Hid (∀ (kk : Nat) (W'' : World), Duo W'' q (.int .u64 (enc vv.a)) (.int .u64 (enc vv.b)) → JfOG wr.heap.size g18 bb bo n c j m1 A M s0 s1 s2 s3 y0 y1 x vv false kk (σ kk) W' → JfOG wr.heap.size g18 bb bo n c j m1 A M s0 s1 s2 s3 y0 y1 x vv true kk (σ kk) W'') := Lib.hid fun kk W'' hD hk => by
            by_cases c : kk = 21
            · subst c; exact ⟨q, hq, eA, hD⟩
            · unfold JfOG at *; rw [if_neg c] at *; exact hk
        have HQ' := Lib.hid hq
        simp only [if_neg Bool.false_ne_true] at hV
        have HV := Lib.hid hV
        obtain ⟨v0, v1, f0, f1⟩ := hV
        clear hq
        simp only [hs94, eA] at hK
        go_simp
        exact hK undef ((W'.setCell ⟨q, 0, none⟩ (.int .u64 (enc vv.a))).setCell ⟨q, 1, none⟩ (.int .u64 (enc vv.b))) (fun kk e => by cases e) (fun kk hk => HKP.out kk _ (HV.out.set _ _) hk) ((hb.setCell HQ'.out _).setCell HQ'.out _)
    · intro σ W' hb hR'
      have h94 : σ 94 = .agg #[.int .u64 (enc vv.a), .int .u64 (enc vv.b)] := hR' 94 (by decide)
      have h95 : σ 95 = .bool true := hR' 95 (by decide)
      obtain ⟨g21, hg21, h21, hV21⟩ : JfOA wr.heap.size g18 bb bo n c j m1 A M s0 s1 s2 s3 y0 y1 x vv true (σ 21) W' := hR' 21 (by decide)
      simp only [if_true] at hV21
      have HB' := Lib.hid (bthen HB.out hb); have HNT' := Lib.hid (HNT.out.keep hb); have HV21 := Lib.hid hV21
      have HGNE : Hid (g18 ≠ g21) := Lib.hid (Nat.ne_of_lt (Nat.lt_of_lt_of_le (World.block_lt_of_cell? wr _ t0c) hg21))
      clear hR' hb hg21 hV21 t0c t1c t2c t3c y0c y1c p1 o1 HB HNT n1 n2
      simp only [fill, List.filterMap, Act.put, List.setIfInBounds_toArray, List.set_cons_zero, List.set_cons_succ, List.length_cons, List.length_nil, List.drop_succ_cons, List.drop_zero, Nat.reduceAdd, h94, h95, h21]
      clear h94 h95 h21
      by_cases hlast : j + 1 = O
      · have ho : O - 1 = j := by rw [← hlast]; rfl
        obtain ⟨m2, hm2⟩ : ∃ m, M - j - 1 = m := ⟨_, rfl⟩
        have hjp : ((j + 1 : Nat) : Int) = (j : Int) + 1 := rfl
        obtain ⟨x2, hx2⟩ : ∃ x, pointF (m2 : Int) ((j : Int) + 1) (A : Int) = x := ⟨_, rfl⟩
        obtain ⟨y2, hy2⟩ : ∃ y, finAt fin x2 = y := ⟨_, rfl⟩
        have hr2 : decide (vv = y2) = r := by
          have h1 := HR.out
          have h2 := HALL.out
          rw [← hlast] at h1 h2
          rw [jAll, h2, Bool.true_and] at h1
          rw [← h1]
          unfold jOk jWant
          rw [HV.out, if_pos rfl, HAE.out, hm2, hjp, hx2, hy2]
        have e2 := eqB_enc vv y2 r hr2
        have p2 := fun W (h : Below W'.heap.size W' W) => rfpoint_is (m2 : Int) ((j : Int) + 1) (A : Int) (enc x2) (by rw [← HAE.out]; exact HAI.out) (by rw [hx2]) W
        have l2 := fun W (h : Below W'.heap.size W' W) => rlift_q (enc x2) (lift x2) (enc_U _) (by rw [toF_enc]) W
        have f2 := fun W (h : Below W'.heap.size W' W) => rfinat_is (c := fc) (HF1.out.keep (bthen HB'.out h)) HFU.out HFN.out x2 y2 hy2
        obtain ⟨n1, n2, n3, n4, n5, n6, n7, n8⟩ := HNN.out
        rw [HM1.out] at n1 n2 n3 n4
        have hm2' : m1 - 1 = m2 := by rw [← HM1.out]; exact hm2
        rw [hm2'] at n3 n4
        clear n5 n6
        rw [ho] at n7 n8
        have hc1 := (HP.out.keep HB'.out).2.1
        obtain ⟨v0c, v1c, _, _⟩ := HV21.out
        have HLAST := Lib.hid hlast
        clear hlast ho hm2 hjp hx2 hy2 hr2 hm2'
        go_upto_region 13 with fail
        clear hc1 n7 n8
        rcases e2 with ⟨rfl, h1, h2⟩ | ⟨rfl, h1⟩ | ⟨rfl, h1, h2⟩
        all_goals
          replace v0c := fun q : Regrown => cell_regrown v0c q.d q.os
          replace v1c := fun q : Regrown => cell_regrown v1c q.d q.os
          refine wp_region_quiet_below (by kernel_rfl) (by kernel_rfl) ?_
          repeat (first | go_big_quiet_step (first
            | (go_at_call 58; with_reducible exact Calls.regrown_of (p2 _ (below_regrown W' _ _)))
            | (go_at_call 59; with_reducible exact Calls.regrown_of (l2 _ (below_regrown W' _ _)))
            | (go_at_call 32; with_reducible exact Calls.regrown_of (f2 _ (below_regrown W' _ _)))) | quiet_step (fail))
          refine wpQuiet_nil ?_
          rintro _ ⟨pq, rfl⟩
          have HBE := Lib.hid (bthen HB'.out (below_regrown W' pq.d pq.os))
          clear v0c v1c p2 l2 f2 n1 n2 n3 n4
          go_wp2_with fail
          go_ret
          exact ⟨rfl, bthen HB1.out HBE.out⟩
      · have hj2 : j + 1 < O := by
          have := HJ.out
          omega
        have hJ2 := HJ.out
        obtain ⟨hO0, hOM, hM14⟩ := HN.out
        have hne : (↑j == ((O - 1 : Nat) : Int)) = false := beq_eq_false_iff_ne.2 (by omega)
        have hMj : j + 2 ≤ M := by omega
        have hjl : j < ln := by rw [HLN.out]; omega
        have hA := HA.out
        have hnx := jAt_next M PL j hMj
        rw [HAE.out] at hA hnx
        obtain ⟨h1, h2, h3, h4, h5, h6, h7, h8, h9, ⟨h10, h11⟩, ⟨h12, h13⟩⟩ := jfH hMj hM14 hA
        have hw : jWant M O PL layers fin j = jSel (layers.getD j zeroQ) (A / 2 ^ (M - j - 2)) := by
          unfold jWant
          rw [if_neg hlast, HAE.out]
        obtain ⟨m3, hm3⟩ : ∃ m, M - j - 2 = m := ⟨_, rfl⟩
        obtain ⟨X, hX⟩ : ∃ X, 2 ^ m3 = X := ⟨_, rfl⟩
        rw [hm3] at h1 h2 h3 h4 h5 h6 h7 h8 h9 h10 h11 h12 h13 hnx hw
        rw [hX] at h5 h6 h7 h8 h9 h10 h11 h12 h13 hnx hw
        rw [HM1.out] at h1 h2
        obtain ⟨S, hS⟩ : ∃ S, A / X = S := ⟨_, rfl⟩
        obtain ⟨R, hR⟩ : ∃ R, A % X = R := ⟨_, rfl⟩
        rw [hS] at h7 h9 h10 h11 hw
        rw [hR] at h8 h12 h13 hnx
        have HNX := Lib.hid hnx; have HW := Lib.hid hw; have HS := Lib.hid h9
        have HDIV := Lib.hid (And.intro h7 (And.intro h10 h11)); have HMOD := Lib.hid (And.intro h8 (And.intro h12 h13))
        have HNZ := Lib.hid h6; have HJ2 := Lib.hid hj2
        obtain ⟨n1, n2, _, _, _, _, n7, n8⟩ := HNN.out
        rw [HM1.out] at n1 n2
        obtain ⟨lb, lo, hle, l0c, l1c, l2c, l3c⟩ := (HLY1.out.keep HB'.out).2.2 j hjl
        subst hle
        have hu4 := (HLU.out (layers.getD j zeroQ) (by
          rw [show layers.getD j zeroQ = layers[j]'(by rw [HLY1.out.1]; exact hjl) by simp [List.getD, show j < layers.length by rw [HLY1.out.1]; exact hjl]]
          exact List.getElem_mem _))
        have hTJ : jTwo ((q0, q1), (q2, q3)) layers (j + 1) = layers.getD j zeroQ := by
          unfold jTwo
          rw [if_neg (by omega)]
          rfl
        have hjlI : (j : Int) < (ln : Int) := Int.ofNat_lt.2 hjl
        generalize layers.getD j zeroQ = L at *
        obtain ⟨⟨z0, z1⟩, ⟨z2, z3⟩⟩ := L
        simp only at l0c l1c l2c l3c
        have HU4 := Lib.hid hu4; have HTJ := Lib.hid hTJ; have HLAST := Lib.hid hlast
        have hj0 : (0 : Int) ≤ (j : Int) := Int.natCast_nonneg j
        have hc1 := (HP.out.keep HB'.out).2.1
        generalize O - 1 = O1 at n7 n8 hne
        clear hJ2 hO0 hOM hM14 hMj hjl hA hnx h7 h8 h9 h10 h11 h12 h13 hw hm3 hS hR hu4 hTJ hlast hj2
        go_upto_region 15 with fail
        clear hc1 n7 n8 hne
        obtain ⟨⟨t0c, t1c, t2c, t3c⟩, f0c, f1c, f2c, f3c⟩ := HNT'.out
        go_upto_region 16 with fail
        have hgne := HGNE.out
        simp only [h5]
        refine wp_gen (fun W => Below w1.heap.size w1 W ∧ QuadN W g18 ((z0, z1), (z2, z3)) ∧ Duo W g21 (.int .u64 (enc vv.a)) (.int .u64 (enc vv.b))) ⟨?_, ?_, ?_⟩ ?_
        · have hg : w1.heap.size ≤ g18 := by rw [HG.out]; exact Nat.le_refl _
          exact (((HB'.out.setCell hg _).setCell hg _).setCell hg _).setCell hg _
        · simp [QuadN, QuadC, go_sem, t0c, t1c, t2c, t3c, f0c, f1c, f2c, f3c]
        · exact (((HV21.out.far hgne _ _).far hgne _ _).far hgne _ _).far hgne _ _
        rintro w5 ⟨hB5, hN5, hV5⟩
        clear l0c l1c l2c l3c t0c t1c t2c t3c f0c f1c f2c f3c hgne h1 h2 h3 h4 h5 n1 n2 h6
        have HB5 := Lib.hid hB5; have HN5 := Lib.hid hN5
        obtain ⟨⟨t0c, t1c, t2c, t3c⟩, _, _, _, _⟩ := hN5
        obtain ⟨v0c, v1c, _, _⟩ := hV5
        clear hB5
        rcases HS.out with hs | hs
        · subst hs
          obtain ⟨sel, hsel⟩ : ∃ z, jSel ((z0, z1), (z2, z3)) 0 = z := ⟨_, rfl⟩
          have hrep : Rep z0 z1 sel := by rw [← hsel]; exact rep_raw HU4.out.1.1 HU4.out.1.2
          have kad := fun W (h : Below w5.heap.size w5 W) => radd_q _ _ 0 0 sel 0 sel hrep rep_zero (F2.add_zero sel) W
          obtain ⟨r2, hr2⟩ : ∃ b, decide (vv = sel) = b := ⟨_, rfl⟩
          have e2 := eqB_enc vv sel r2 hr2
          have HOK : Hid (jOk M O PL bys ((q0, q1), (q2, q3)) layers fin j = r2) := Lib.hid (by unfold jOk; rw [HV.out, HW.out, hsel]; exact hr2)
          have hd : (A : Int).tdiv (X : Int) = 0 := HDIV.out.1
          have hnz := HNZ.out
          clear hr2 hsel hrep t2c t3c
          rcases e2 with ⟨rfl, h1, h2⟩ | ⟨rfl, h1⟩ | ⟨rfl, h1, h2⟩
          case inl =>
            replace v0c := fun q : Regrown => cell_regrown v0c q.d q.os
            replace v1c := fun q : Regrown => cell_regrown v1c q.d q.os
            replace t0c := fun q : Regrown => cell_regrown t0c q.d q.os
            replace t1c := fun q : Regrown => cell_regrown t1c q.d q.os
            refine wp_region_quiet_below (by kernel_rfl) (by kernel_rfl) ?_
            repeat (first | go_big_quiet_step (first
              | (go_at_call 33; with_reducible exact Calls.regrown_of (kad _ (below_regrown w5 _ _)))) | quiet_step (fail))
            refine wpQuiet_nil ?_
            rintro _ ⟨pq, rfl⟩
            have HBE := Lib.hid (bthen HB5.out (below_regrown w5 pq.d pq.os))
            have HNE := Lib.hid (HN5.out.keep (below_regrown w5 pq.d pq.os))
            clear v0c v1c t0c t1c kad hd
            obtain ⟨hm, hmw⟩ := HMOD.out
            obtain ⟨hmw1, hmw2⟩ := hmw
            go_wp2_with fail
            clear hm hmw1 hmw2 hnz
            go_roundw
            case rel => exact ⟨j + 1, HJ2.out, by go_num, by rw [← HNX.out], HBE.out, by rw [HTJ.out]; exact HNE.out, by rw [jAll, HALL.out, HOK.out]; rfl⟩
            case measure =>
              have := HJ.out
              simp [intOf]
              omega
          all_goals
            replace v0c := fun q : Regrown => cell_regrown v0c q.d q.os
            replace v1c := fun q : Regrown => cell_regrown v1c q.d q.os
            replace t0c := fun q : Regrown => cell_regrown t0c q.d q.os
            replace t1c := fun q : Regrown => cell_regrown t1c q.d q.os
            refine wp_region_quiet_below (by kernel_rfl) (by kernel_rfl) ?_
            repeat (first | go_big_quiet_step (first
              | (go_at_call 33; with_reducible exact Calls.regrown_of (kad _ (below_regrown w5 _ _)))) | quiet_step (fail))
            refine wpQuiet_nil ?_
            rintro _ ⟨pq, rfl⟩
            have HBE := Lib.hid (bthen HB5.out (below_regrown w5 pq.d pq.os))
            have HNE := Lib.hid (HN5.out.keep (below_regrown w5 pq.d pq.os))
            clear v0c v1c t0c t1c kad hd
            have hrf : r = false := by
              cases hr' : r
              · rfl
              · exfalso
                have := jAll_at (HR.out.trans hr') HJ.out
                rw [HOK.out] at this
                cases this
            subst hrf
            go_wp2_with fail
            go_ret
            exact ⟨rfl, bthen HB1.out HBE.out⟩
        · subst hs
          obtain ⟨sel, hsel⟩ : ∃ z, jSel ((z0, z1), (z2, z3)) 1 = z := ⟨_, rfl⟩
          have hrep : Rep z2 z3 sel := by rw [← hsel]; exact rep_raw HU4.out.2.1 HU4.out.2.2
          have kad := fun W (h : Below w5.heap.size w5 W) => radd_q _ _ 0 0 sel 0 sel hrep rep_zero (F2.add_zero sel) W
          obtain ⟨r2, hr2⟩ : ∃ b, decide (vv = sel) = b := ⟨_, rfl⟩
          have e2 := eqB_enc vv sel r2 hr2
          have HOK : Hid (jOk M O PL bys ((q0, q1), (q2, q3)) layers fin j = r2) := Lib.hid (by unfold jOk; rw [HV.out, HW.out, hsel]; exact hr2)
          have hd : (A : Int).tdiv (X : Int) = 1 := HDIV.out.1
          have hnz := HNZ.out
          clear hr2 hsel hrep t0c t1c
          rcases e2 with ⟨rfl, h1, h2⟩ | ⟨rfl, h1⟩ | ⟨rfl, h1, h2⟩
          case inl =>
            replace v0c := fun q : Regrown => cell_regrown v0c q.d q.os
            replace v1c := fun q : Regrown => cell_regrown v1c q.d q.os
            replace t2c := fun q : Regrown => cell_regrown t2c q.d q.os
            replace t3c := fun q : Regrown => cell_regrown t3c q.d q.os
            refine wp_region_quiet_below (by kernel_rfl) (by kernel_rfl) ?_
            repeat (first | go_big_quiet_step (first
              | (go_at_call 33; with_reducible exact Calls.regrown_of (kad _ (below_regrown w5 _ _)))) | quiet_step (fail))
            refine wpQuiet_nil ?_
            rintro _ ⟨pq, rfl⟩
            have HBE := Lib.hid (bthen HB5.out (below_regrown w5 pq.d pq.os))
            have HNE := Lib.hid (HN5.out.keep (below_regrown w5 pq.d pq.os))
            clear v0c v1c t2c t3c kad hd
            obtain ⟨hm, hmw⟩ := HMOD.out
            obtain ⟨hmw1, hmw2⟩ := hmw
            go_wp2_with fail
            clear hm hmw1 hmw2 hnz
            go_roundw
            case rel => exact ⟨j + 1, HJ2.out, by go_num, by rw [← HNX.out], HBE.out, by rw [HTJ.out]; exact HNE.out, by rw [jAll, HALL.out, HOK.out]; rfl⟩
            case measure =>
              have := HJ.out
              simp [intOf]
              omega
          all_goals
            replace v0c := fun q : Regrown => cell_regrown v0c q.d q.os
            replace v1c := fun q : Regrown => cell_regrown v1c q.d q.os
            replace t2c := fun q : Regrown => cell_regrown t2c q.d q.os
            replace t3c := fun q : Regrown => cell_regrown t3c q.d q.os
            refine wp_region_quiet_below (by kernel_rfl) (by kernel_rfl) ?_
            repeat (first | go_big_quiet_step (first
              | (go_at_call 33; with_reducible exact Calls.regrown_of (kad _ (below_regrown w5 _ _)))) | quiet_step (fail))
            refine wpQuiet_nil ?_
            rintro _ ⟨pq, rfl⟩
            have HBE := Lib.hid (bthen HB5.out (below_regrown w5 pq.d pq.os))
            have HNE := Lib.hid (HN5.out.keep (below_regrown w5 pq.d pq.os))
            clear v0c v1c t2c t3c kad hd
            have hrf : r = false := by
              cases hr' : r
              · rfl
              · exfalso
                have := jAll_at (HR.out.trans hr') HJ.out
                rw [HOK.out] at this
                cases this
            subst hrf
            go_wp2_with fail
            go_ret
            exact ⟨rfl, bthen HB1.out HBE.out⟩
end Go.Proofs.YthfkfgjhgicfeaaGreatDoor
namespace Go.Proofs.YthfkfgjhgicfeaaGreatDoor
open Go Go.RowKit Go.Sort Go.BigFrame
set_option linter.unusedVariables false

set_option maxRecDepth 100000 in
set_option maxHeartbeats 8000000 in
theorem rjwrong_is (k bl fo qu gr : Int) (a : Option Addr) (n c : Nat) (pl : Int) (first : Quad) (la : Option Addr) (ln lc : Nat) (fa : Option Addr) (fn fc : Nat) (w : World) (hj : ¬ rightJ k bl fo n pl ln fn) :
    Calls Tryz.prog 26 #[.int .i64 k, .agg #[.int .i64 bl, .int .i64 fo, .int .i64 qu, .int .i64 gr], .slice a n c, .int .i64 pl, quadV first, .slice la ln lc, .slice fa fn fc] w fun e w' => e = .returned (.bool false) ∧ Below w.heap.size w w' := by
  have kR := fun W => rjright_is k bl fo qu gr a n c pl la ln lc fa fn fc false W (decide_eq_false hj)
  obtain ⟨⟨q0, q1⟩, ⟨q2, q3⟩⟩ := first
  clear hj
  go_enter Tryz.func26, Tryz.ntmps26
  go_upto_region 1 with fail
  obtain ⟨g, hg⟩ : ∃ g, w.heap.size = g := ⟨_, rfl⟩
  obtain ⟨g', hg'⟩ : ∃ h, g + 1 = h := ⟨_, rfl⟩
  refine wp_gen (fun W => Below w.heap.size w W ∧ RjBox W g bl fo qu gr ∧ QuadC W g' ((q0, q1), (q2, q3))) ⟨((Below.refl _ _).alloc (Nat.le_refl _) _).alloc (by simp) _, by subst hg' hg; simp [RjBox, go_sem], by subst hg' hg; simp [QuadC, go_sem]⟩ ?_
  rintro w0 ⟨hB0, hP, hQ⟩
  simp only [hg, hg']
  have HB := Lib.hid hB0
  obtain ⟨c0, c1, c2, c3⟩ := hP
  obtain ⟨d0, d1, d2, d3⟩ := hQ
  clear hB0 hg hg'
  go_wp2_with (go_at_call 57; (with_reducible refine (kR _).mono ?_); rintro e w1 ⟨rfl, hb⟩; replace c0 := bkeep hb c0; replace c1 := bkeep hb c1; replace d0 := bkeep hb d0; replace d1 := bkeep hb d1; replace d2 := bkeep hb d2; replace d3 := bkeep hb d3; replace HB := Lib.hid (bthen HB.out hb); clear hb)
  go_ret
  exact ⟨rfl, HB.out⟩
theorem rjjudge_is (k bl fo qu gr : Int) (a : Option Addr) (n c : Nat) (bys : QL) (pl : Int) (first : Quad) (la : Option Addr) (ln lc : Nat) (layers : List Quad) (fa : Option Addr) (fn fc : Nat) (fin : QL) (r : Bool) (w : World) (hby : QRowA w a n bys) (hbu : ∀ n ∈ bys, U n.1 ∧ U n.2) (hq : UsQ first) (hly : QuadsA w la ln layers) (hlu : ∀ q ∈ layers, UsQ q) (hf : QRowA w fa fn fin) (hfu : ∀ n ∈ fin, U n.1 ∧ U n.2)
    (hr : judgeB k bl fo bys pl first layers fin = r) :
    Calls Tryz.prog 26 #[.int .i64 k, .agg #[.int .i64 bl, .int .i64 fo, .int .i64 qu, .int .i64 gr], .slice a n c, .int .i64 pl, quadV first, .slice la ln lc, .slice fa fn fc] w fun e w' => e = .returned (.bool r) ∧ Below w.heap.size w w' := by
  unfold judgeB at hr
  rw [hby.1, hly.1, hf.1] at hr
  by_cases hj : rightJ k bl fo n pl ln fn
  · rw [if_pos hj] at hr
    obtain ⟨K, rfl⟩ := Int.eq_ofNat_of_zero_le hj.1.1
    obtain ⟨B, rfl⟩ := Int.eq_ofNat_of_zero_le (show 0 ≤ bl by have := hj.1.2.2.1; omega)
    rw [show ((K : Int) + (B : Int)).toNat = K + B from by rw [← Int.natCast_add, Int.toNat_natCast]] at hr
    by_cases h0 : fo = 0
    · rw [if_pos h0] at hr
      subst h0
      exact rjnone_is K B qu gr a n c pl first la ln lc fa fn fc fin r w hq hf hfu hj hr
    · rw [if_neg h0] at hr
      exact rjfold_is K B fo qu gr a n c bys pl first la ln lc layers fa fn fc fin r w hby hbu hq hly hlu hf hfu hj h0 hr
  · rw [if_neg hj] at hr
    subst hr
    exact rjwrong_is k bl fo qu gr a n c pl first la ln lc fa fn fc w hj
end Go.Proofs.YthfkfgjhgicfeaaGreatDoor
