/-
  A polynomial's word is taken at all places. Plain.
-/
import Derived.Test.YthfkfgjhgicfeaaDoorCountH
namespace Go.Proofs.YthfkfgjhgicfeaaDoor
open Go Go.RowKit
set_option linter.unusedVariables false

theorem opnL_rows : ∀ (rows : List QL) (m a : Nat), rows.length ≤ m → (∀ j, j < rows.length → (rows.getD j []).length = 2 ^ (m - j)) →
    opnL rows a = (List.range rows.length).map fun j => twoAt (rows.getD j []) (a % 2 ^ (m - 1 - j)) (2 ^ (m - 1 - j))
  | [], m, a, _, _ => rfl
  | w :: r, m, a, hm, h => by
    have hm1 : r.length + 1 ≤ m := hm
    have h0 : w.length = 2 ^ m := h 0 (Nat.succ_pos _)
    have hh : w.length / 2 = 2 ^ (m - 1) := half_len (by rw [h0, show m - 1 + 1 = m by omega])
    have ih := opnL_rows r (m - 1) (a % 2 ^ (m - 1)) (by omega) (fun j hj => by
      have := h (j + 1) (Nat.succ_lt_succ hj)
      rwa [show m - (j + 1) = m - 1 - j by omega] at this)
    rw [opnL, hh, if_neg (by have := Nat.two_pow_pos (m - 1); omega), ih, List.length_cons, List.range_succ_eq_map, List.map_cons, List.map_map]
    congr 1
    refine List.map_congr_left fun j hj => ?_
    have hj := List.mem_range.1 hj
    show twoAt (r.getD j []) (a % 2 ^ (m - 1) % 2 ^ (m - 1 - 1 - j)) _ = twoAt (r.getD j []) (a % 2 ^ (m - 1 - (j + 1))) _
    rw [show m - 1 - 1 - j = m - 1 - (j + 1) by omega, Nat.mod_mod_of_dvd _ (Nat.pow_dvd_pow 2 (by omega))]
theorem opnL_at {rows : List QL} {m a : Nat} (h1 : rows.length ≤ m) (h2 : ∀ j, j < rows.length → (rows.getD j []).length = 2 ^ (m - j)) {j : Nat} (hj : j < rows.length) :
    (opnL rows a).getD j zeroQ = twoAt (rows.getD j []) (jAt m a j) (2 ^ (m - 1 - j)) := by
  rw [opnL_rows rows m a h1 h2]
  unfold jAt
  simp [List.getD, hj]
theorem opnL_len {rows : List QL} {m a : Nat} (h1 : rows.length ≤ m) (h2 : ∀ j, j < rows.length → (rows.getD j []).length = 2 ^ (m - j)) : (opnL rows a).length = rows.length := by
  rw [opnL_rows rows m a h1 h2]; simp
/-- The words of a polynomial's word. -/
theorem wordsV_yes {l ys : QL} (h : chOk l ys ys.length = true) : wordsV l ys = (chRows l ys ys.length).take (max 1 ys.length) := by
  unfold wordsV
  rw [chainV_yes h, if_pos rfl]
  simp only [chRows_len]
  split
  · rw [show max 1 ys.length = ys.length + 1 - 1 by omega]
  · rw [List.take_of_length_le (by rw [chRows_len]; omega)]
/-- A polynomial's word is taken at all places. -/
theorem honest_accepts (z ys : QL) (k bl : Nat) (hz : z.length = 2 ^ k) (hk : k ≤ 10) (hb1 : 1 ≤ bl) (hb : bl ≤ 4) (hy : ys.length ≤ k) :
    acceptsV (k : Int) (bl : Int) (ys.length : Int) ys (wordsV (forthQ z (shiftF 0) (k + bl)) ys) (nrmQ (chZ z ys k ys.length)) = 2 ^ (k + bl - 1) := by
  have hD := chain_down z ys k (k + bl) hz (by omega) (by omega)
  obtain ⟨w, hw⟩ : ∃ w, forthQ z (shiftF 0) (k + bl) = w := ⟨_, rfl⟩
  have hW : wordsV w ys = (chRows w ys ys.length).take (max 1 ys.length) := wordsV_yes (by rw [← hw]; exact (hD _ hy).2)
  have hat : ∀ j, j < max 1 ys.length → (wordsV w ys).getD j [] = chW w ys j := fun j hj => by
    rw [hW, show ((chRows w ys ys.length).take (max 1 ys.length)).getD j [] = (chRows w ys ys.length).getD j [] by simp only [List.getD, List.getElem?_take_of_lt hj], chRows_at _ _ (by omega)]
  have hWl : (wordsV w ys).length = max 1 ys.length := by rw [hW, List.length_take, chRows_len]; omega
  have hlen : ∀ j, j < (wordsV w ys).length → ((wordsV w ys).getD j []).length = 2 ^ (k + bl - j) := fun j hj => by
    rw [hWl] at hj
    rw [hat j hj, ← hw, (hD j (by omega)).1]
    exact forthQ_len _ _ _
  rw [hw]
  unfold acceptsV
  rw [show ((k : Int) + (bl : Int) - 1).toNat = k + bl - 1 by omega]
  refine many_all fun i hi => ?_
  have hV : opnV (wordsV w ys) (i : Int) = opnL (wordsV w ys) i := by unfold opnV; rw [if_neg (by omega), Int.toNat_natCast]
  have hl1 : (wordsV w ys).length ≤ k + bl := by rw [hWl]; omega
  refine judge_honest z ys k bl i _ _ hz hk hb1 hb hy hi ?_ ?_ ?_
  · unfold opnF
    rw [hV, opnL_at hl1 hlen (by rw [hWl]; omega), hat 0 (by omega), jAt_zero hi, hw, Nat.sub_zero]
  · unfold opnR
    rw [hV, List.length_drop, opnL_len hl1 hlen, hWl]
    omega
  · intro j hj
    unfold opnR
    rw [hV, show ((opnL (wordsV w ys) i).drop 1).getD j zeroQ = (opnL (wordsV w ys) i).getD (j + 1) zeroQ by simp [List.getD], opnL_at hl1 hlen (by rw [hWl]; omega), hat (j + 1) (by omega), hw]
theorem atP_ev (z : QL) (x : F) : atP (z.map toQ) (lift x) = evQ z.length (qAt z) x := by
  rw [← finAt_ev]; rfl
theorem honest_at (z : QL) (m : Nat) (hm : m ≤ 32) {i : Nat} (hi : i < 2 ^ m) : atP (z.map toQ) (ptV (m : Int) 0 i) = qAt (forthQ z (shiftF 0) m) i := by
  rw [ptV_pt hm, atP_ev, qAt_forth z _ m hi]
/-- .. has it at all places. -/
theorem honest_agree (z : QL) (m : Nat) (hm : m ≤ 20) : agreeV (forthQ z (shiftF 0) m) 0 (z.map toQ) false = 2 ^ m := by
  have hl : (forthQ z (shiftF 0) m).length = 2 ^ m := forthQ_len _ _ _
  unfold agreeV agreeC agreeN
  rw [lg_len hl, if_pos (by omega), if_neg (by decide), hl]
  exact many_all fun i hi => decide_eq_true (honest_at z m (by omega) hi)
theorem agreeT_le (x v : Nat → F2) (c : F2 → F2) (h : Nat) : agreeT x v c h ≤ h := many_le _ _
/-- .. and the best one, at all pairs. -/
theorem honest_best (z : QL) (m k : Nat) (hm1 : 1 ≤ m) (hm : m ≤ 4) (hz : z.length = 2 ^ k) (hk : k ≤ m) : bestV (forthQ z (shiftF 0) m) 0 ((2 ^ k : Nat) : Int) true = 2 ^ (m - 1) := by
  have hl : (forthQ z (shiftF 0) m).length = 2 ^ m := forthQ_len _ _ _
  have hg := lg_len hl
  have hh : (forthQ z (shiftF 0) m).length / 2 = 2 ^ (m - 1) := half_len (by rw [hl, show m - 1 + 1 = m by omega])
  have hp : 2 ^ m = 2 ^ (m - 1) + 2 ^ (m - 1) := by rw [show m = m - 1 + 1 by omega, Nat.pow_succ, show m - 1 + 1 - 1 = m - 1 by omega]; omega
  have hx : ApartTo' (forthQ z (shiftF 0) m).length (ptV (lg ((forthQ z (shiftF 0) m).length : Int)) 0) := by rw [hg, hl]; exact ptV_apart (by omega) 0
  have hB : bestOk (forthQ z (shiftF 0) m).length ((2 ^ k : Nat) : Int) := by
    unfold bestOk
    rw [hg, hl]
    exact ⟨by omega, by omega, Int.natCast_nonneg _, Int.ofNat_le.2 (Nat.pow_le_pow_right (by decide) hk)⟩
  have hT : ∀ c, agreeC (forthQ z (shiftF 0) m) 0 c true = agreeT (ptV (m : Int) 0) (qAt (forthQ z (shiftF 0) m)) c (2 ^ (m - 1)) := fun c => by
    unfold agreeC
    rw [hg, if_pos (by omega), if_pos rfl, hh]
  refine Nat.le_antisymm ?_ ?_
  · by_cases h0 : 0 < bestV (forthQ z (shiftF 0) m) 0 ((2 ^ k : Nat) : Int) true
    · obtain ⟨c, _, e⟩ := best_is (fun _ => hx) h0
      rw [e, hT]
      exact agreeT_le _ _ _ _
    · omega
  · have hq : ∀ y, qe (2 ^ k) (cq (z.map toQ)) y = atP (z.map toQ) y := fun y => by unfold atP; rw [List.length_map, hz]
    have hat : ∀ i, i < 2 ^ m → qe (2 ^ k) (cq (z.map toQ)) (ptV (m : Int) 0 i) = qAt (forthQ z (shiftF 0) m) i := fun i hi => by rw [hq]; exact honest_at z m (by omega) hi
    have hall : agreeN (ptV (m : Int) 0) (qAt (forthQ z (shiftF 0) m)) (qe (2 ^ k) (cq (z.map toQ))) (2 ^ m) = 2 ^ m := many_all fun i hi => decide_eq_true (hat i hi)
    have htwo : agreeT (ptV (m : Int) 0) (qAt (forthQ z (shiftF 0) m)) (qe (2 ^ k) (cq (z.map toQ))) (2 ^ (m - 1)) = 2 ^ (m - 1) := many_all fun i hi => by
      rw [Bool.and_eq_true]
      exact ⟨decide_eq_true (hat i (by omega)), decide_eq_true (hat _ (by omega))⟩
    have := best_ge (two := true) hB hx (c := cq (z.map toQ)) (by rw [Int.toNat_natCast, ← hz, ← List.length_map (f := toQ)]; exact cq_upto _) (by
      rw [Int.toNat_natCast, hg, hl, hall]
      exact Nat.pow_le_pow_right (by decide) hk)
    rw [hT, Int.toNat_natCast, htwo] at this
    exact this
end Go.Proofs.YthfkfgjhgicfeaaDoor
