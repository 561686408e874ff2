/-
  The words of a polynomial fold into one another at each place. Plain.
-/
import Derived.Test.YthfkfgjhgicfeaaDoorGJudgeR
namespace Go.Proofs.YthfkfgjhgicfeaaDoor
open Go Go.RowKit
set_option linter.unusedVariables false

theorem qe_lift (c : Nat → F2) (x : F) : ∀ n, qe n c (lift x) = evQ n c x
  | 0 => rfl
  | n + 1 => by
    have h := qe_lift c x n
    unfold qe at h ⊢
    rw [sq_succ, h, lift_qpow, ← scale_lift]
    unfold evQ ev
    rw [sm_succ, sm_succ]
    rfl
theorem finAt_ev (zs : QL) (x : F) : finAt zs x = evQ zs.length (qAt zs) x := by
  unfold finAt
  rw [List.length_map, ← qe_lift]
  refine qe_congr fun i hi => ?_
  unfold cq qAt
  simp [List.getD, hi]
def twoAt (w : QL) (i h : Nat) : Quad := (w.getD i (0, 0), w.getD (i + h) (0, 0))
/-- What lies at a place of a word and half way round folds to what lies at that place of the next one. -/
theorem chW_fold (l ys : QL) (m j A : Nat) (hm : m ≤ 20) (hj : j < m) (hl : (chW l ys j).length = 2 ^ (m - j)) (hA : A < 2 ^ (m - 1 - j)) :
    foldV (toQ (twoAt (chW l ys j) A (2 ^ (m - 1 - j))).1) (toQ (twoAt (chW l ys j) A (2 ^ (m - 1 - j))).2) (qAt ys j) (pointF ((m - j : Nat) : Int) (j : Int) (A : Int)) = qAt (chW l ys (j + 1)) A := by
  have hg : lg ((chW l ys j).length : Int) = ((m - j : Nat) : Int) := by rw [hl]; exact lg_pow (m - j)
  have hh : (chW l ys j).length / 2 = 2 ^ (m - 1 - j) := by
    rw [hl, show m - j = m - 1 - j + 1 by omega, Nat.pow_succ, Nat.mul_div_cancel _ (by decide)]
  have e : chW l ys (j + 1) = (wordV (chW l ys j) (qAt ys j) (j : Int)).1 := rfl
  rw [e, wordV_yes (by rw [hg]; omega)]
  unfold qAt
  rw [show (wordN (chW l ys j) (toQ (ys.getD j (0, 0))) (lg ((chW l ys j).length : Int)) (j : Int) ((chW l ys j).length / 2), true).1 = wordN (chW l ys j) (qAt ys j) (lg ((chW l ys j).length : Int)) (j : Int) ((chW l ys j).length / 2) from rfl, hh, wordN_at _ _ _ _ hA, toQ_encP, hg]
  rfl
/-- Where all is opened of the words, and the last polynomial is the last word's, it is taken. -/
theorem jAll_words (l ys : QL) (m O pl : Nat) (first : Quad) (layers : List Quad) (fin : QL) (hm : m ≤ 20) (hO : O < m) (hl : ∀ j, j ≤ O → (chW l ys j).length = 2 ^ (m - j))
    (h0 : first = twoAt (chW l ys 0) (jAt m pl 0) (2 ^ (m - 1 - 0))) (hly : ∀ j, j + 1 < O → layers.getD j zeroQ = twoAt (chW l ys (j + 1)) (jAt m pl (j + 1)) (2 ^ (m - 1 - (j + 1))))
    (hf : ∀ A : Nat, A < 2 ^ (m - O) → finAt fin (pointF ((m - O : Nat) : Int) (O : Int) (A : Int)) = qAt (chW l ys O) A) : jAll m O pl ys first layers fin O = true := by
  refine jAll_of fun j hj => decide_eq_true ?_
  have hT : jTwo first layers j = twoAt (chW l ys j) (jAt m pl j) (2 ^ (m - 1 - j)) := by
    unfold jTwo
    split
    · next c => subst c; exact h0
    · next c =>
      have := hly (j - 1) (by omega)
      rwa [show j - 1 + 1 = j by omega] at this
  have hA := jAt_lt m pl j
  unfold jV jWant
  rw [hT, chW_fold l ys m j _ hm (by omega) (hl j (by omega)) hA]
  by_cases c : j + 1 = O
  · rw [if_pos c, show m - j - 1 = m - O by omega, c]
    refine (hf _ ?_).symm
    rwa [show m - O = m - 1 - j by omega]
  · rw [if_neg c, hly j (by omega)]
    have hx := jAt_next m pl j (by omega)
    have hp : 0 < 2 ^ (m - j - 2) := Nat.two_pow_pos _
    have e : 2 ^ (m - 1 - j) = 2 * 2 ^ (m - j - 2) := by rw [show m - 1 - j = m - j - 2 + 1 by omega, Nat.pow_succ, Nat.mul_comm]
    rw [e] at hA
    have hd := Nat.div_add_mod (jAt m pl j) (2 ^ (m - j - 2))
    have hs : jAt m pl j / 2 ^ (m - j - 2) < 2 := (Nat.div_lt_iff_lt_mul hp).2 hA
    rw [hx] at hd
    rw [show m - 1 - (j + 1) = m - j - 2 by omega]
    generalize 2 ^ (m - j - 2) = X at *
    generalize jAt m pl j / X = s at *
    have : s = 0 ∨ s = 1 := by omega
    rcases this with rfl | rfl
    · rw [show jAt m pl j = jAt m pl (j + 1) by omega]; rfl
    · rw [show jAt m pl j = jAt m pl (j + 1) + X by omega]; rfl
theorem finAt_nrm (zs : QL) (x : F) : finAt (nrmQ zs) x = evQ zs.length (qAt zs) x := by
  rw [finAt_ev, nrmQ_len]
  exact evQ_congr fun j hj => nrmQ_at zs j
/-- What is folded rightly is taken. -/
theorem judge_honest (z ys : QL) (k bl pl : Nat) (first : Quad) (layers : List Quad) (hz : z.length = 2 ^ k) (hk : k ≤ 10) (hb1 : 1 ≤ bl) (hb : bl ≤ 4) (hy : ys.length ≤ k) (hpl : pl < 2 ^ (k + bl - 1))
    (h0 : first = twoAt (chW (forthQ z (shiftF 0) (k + bl)) ys 0) pl (2 ^ (k + bl - 1))) (hll : layers.length = ys.length - 1)
    (hly : ∀ j, j + 1 < ys.length → layers.getD j zeroQ = twoAt (chW (forthQ z (shiftF 0) (k + bl)) ys (j + 1)) (jAt (k + bl) pl (j + 1)) (2 ^ (k + bl - 1 - (j + 1)))) :
    judgeB (k : Int) (bl : Int) (ys.length : Int) ys (pl : Int) first layers (nrmQ (chZ z ys k ys.length)) = true := by
  have hN : (nrmQ (chZ z ys k ys.length)).length = 2 ^ (k - ys.length) := by rw [nrmQ_len, chZ_len z ys k hz]
  have hD := chain_down z ys k (k + bl) hz (by omega) (by omega)
  have hL : ∀ j, j ≤ k → (chW (forthQ z (shiftF 0) (k + bl)) ys j).length = 2 ^ (k + bl - j) := fun j hj => by rw [(hD j hj).1]; exact forthQ_len _ _ _
  have hR : rightJ (k : Int) (bl : Int) (ys.length : Int) ys.length (pl : Int) layers.length (nrmQ (chZ z ys k ys.length)).length := by
    refine ⟨by omega, rfl, by omega, ?_, by omega, ?_⟩
    · rw [show ((k : Int) + (bl : Int) - 1).toNat = k + bl - 1 by omega]; exact Int.ofNat_lt.2 hpl
    · rw [hN, show ((k : Int) - (ys.length : Int)).toNat = k - ys.length by omega]
  unfold judgeB
  rw [if_pos hR, show ((k : Int) + (bl : Int)).toNat = k + bl from by rw [← Int.natCast_add, Int.toNat_natCast], Int.toNat_natCast, Int.toNat_natCast]
  have hfin : ∀ A : Nat, A < 2 ^ (k + bl - ys.length) → finAt (nrmQ (chZ z ys k ys.length)) (pointF ((k + bl - ys.length : Nat) : Int) (ys.length : Int) (A : Int)) = qAt (chW (forthQ z (shiftF 0) (k + bl)) ys ys.length) A := fun A hA => by
    rw [finAt_nrm, (hD ys.length hy).1]
    unfold qAt
    rw [forthQ_at _ _ _ hA, toQ_encP, pointF_pt _ (by omega)]
    rfl
  by_cases c : (ys.length : Int) = 0
  · rw [if_pos c]
    have c' : ys.length = 0 := by omega
    rw [c'] at hfin ⊢
    have hp : 2 ^ (k + bl - 0) = 2 ^ (k + bl - 1) + 2 ^ (k + bl - 1) := by rw [show k + bl - 0 = k + bl - 1 + 1 by omega, Nat.pow_succ, Nat.mul_two]
    have e1 := hfin pl (by omega)
    have e2 := hfin (pl + 2 ^ (k + bl - 1)) (by omega)
    unfold jNone
    rw [Bool.and_eq_true]
    refine ⟨decide_eq_true ?_, decide_eq_true ?_⟩
    · rw [h0]; exact e1.symm
    · rw [h0]; exact e2.symm
  · rw [if_neg c]
    exact jAll_words _ ys (k + bl) ys.length pl first layers _ (by omega) (by omega) (fun j hj => hL j (by omega)) (by rw [h0, jAt_zero hpl]; rfl) hly hfin
/-! ### Sums -/
def addQd (p q : Quad) : Quad := (encP (toQ p.1 + toQ q.1), encP (toQ p.2 + toQ q.2))
def sumQs (l r : List Quad) (n : Nat) : List Quad := (List.range n).map fun i => addQd (l.getD i zeroQ) (r.getD i zeroQ)
theorem sumQs_len (l r : List Quad) (n : Nat) : (sumQs l r n).length = n := by simp [sumQs]
theorem sumQs_at (l r : List Quad) {n i : Nat} (h : i < n) : (sumQs l r n).getD i zeroQ = addQd (l.getD i zeroQ) (r.getD i zeroQ) := by simp [sumQs, List.getD, h]
theorem sumQ_qAt (l r : QL) {n i : Nat} (h : i < n) : qAt (sumQ l r n) i = qAt l i + qAt r i := by
  unfold qAt
  rw [sumQ_at _ _ h, toQ_encP]
  rfl
theorem finAt_sum {l r : QL} {n : Nat} (h1 : l.length = n) (h2 : r.length = n) (x : F) : finAt (sumQ l r n) x = finAt l x + finAt r x := by
  rw [finAt_ev, finAt_ev, finAt_ev, sumQ_len, h1, h2, ← qe_lift, ← qe_lift, ← qe_lift, ← qe_add]
  exact qe_congr fun i hi => sumQ_qAt l r hi
/-- The sum of two that are taken is. -/
theorem judge_sums {k bl fo pl : Int} {bys : QL} {f1 f2 : Quad} {l1 l2 : List Quad} {z1 z2 : QL} (h1 : judgeB k bl fo bys pl f1 l1 z1 = true) (h2 : judgeB k bl fo bys pl f2 l2 z2 = true) :
    judgeB k bl fo bys pl (addQd f1 f2) (sumQs l1 l2 l1.length) (sumQ z1 z2 z1.length) = true := by
  unfold judgeB at h1 h2 ⊢
  by_cases r1 : rightJ k bl fo bys.length pl l1.length z1.length
  · by_cases r2 : rightJ k bl fo bys.length pl l2.length z2.length
    · have el : l2.length = l1.length := by have a := r1.2.2.2.2.1; have b := r2.2.2.2.2.1; omega
      have ez : z2.length = z1.length := Int.ofNat.inj (r2.2.2.2.2.2.trans r1.2.2.2.2.2.symm)
      rw [if_pos r1] at h1
      rw [if_pos r2] at h2
      rw [sumQs_len, sumQ_len, if_pos r1]
      by_cases c : fo = 0
      · rw [if_pos c] at h1 h2 ⊢
        unfold jNone at h1 h2 ⊢
        rw [Bool.and_eq_true] at h1 h2 ⊢
        obtain ⟨a1, b1⟩ := h1
        obtain ⟨a2, b2⟩ := h2
        refine ⟨decide_eq_true ?_, decide_eq_true ?_⟩
        · rw [finAt_sum rfl ez, ← of_decide_eq_true a1, ← of_decide_eq_true a2]; exact toQ_encP _
        · rw [finAt_sum rfl ez, ← of_decide_eq_true b1, ← of_decide_eq_true b2]; exact toQ_encP _
      · rw [if_neg c] at h1 h2 ⊢
        refine jAll_of fun j hj => decide_eq_true ?_
        have a1 := of_decide_eq_true (jAll_at h1 hj)
        have a2 := of_decide_eq_true (jAll_at h2 hj)
        have hfo := r1.2.2.2.2.1
        have hT : jTwo (addQd f1 f2) (sumQs l1 l2 l1.length) j = addQd (jTwo f1 l1 j) (jTwo f2 l2 j) := by
          unfold jTwo
          split
          · rfl
          · exact sumQs_at l1 l2 (by omega)
        have hV : jV (k + bl).toNat pl.toNat bys (addQd f1 f2) (sumQs l1 l2 l1.length) j = jV (k + bl).toNat pl.toNat bys f1 l1 j + jV (k + bl).toNat pl.toNat bys f2 l2 j := by
          unfold jV
          rw [hT, ← foldV_add]
          unfold addQd
          rw [toQ_encP, toQ_encP]
        rw [hV, a1, a2]
        unfold jWant
        by_cases e : j + 1 = fo.toNat
        · rw [if_pos e, if_pos e, if_pos e, finAt_sum rfl ez]
        · rw [if_neg e, if_neg e, if_neg e, sumQs_at l1 l2 (by omega)]
          unfold jSel addQd
          split
          · exact (toQ_encP _).symm
          · exact (toQ_encP _).symm
    · rw [if_neg r2] at h2; cases h2
  · rw [if_neg r1] at h1; cases h1
/-! ### Another first value -/
theorem lift_ne0 {a : F} (h : a ≠ 0) : lift a ≠ 0 := fun h0 => h (congrArg F2.a h0)
theorem halfF_ne : halfF ≠ 0 := fun h => by
  have h2 := mul_finv 2 (by decide)
  rw [show finv 2 = halfF from rfl, h] at h2
  revert h2
  decide +kernel
theorem alg_first (u y v : F2) : u * (1 + y * v) = y * (u * v) + u := F2.eq (by simp only [F2.mul_a, F2.add_a, F2.mul_b, F2.add_b, F2.one_a, F2.one_b]; grind) (by simp only [F2.mul_a, F2.add_a, F2.mul_b, F2.add_b, F2.one_a, F2.one_b]; grind)
theorem alg_d (d y h v : F2) : (d + 0) * h + y * ((d - 0) * (h * v)) = (d * h) * (1 + y * v) := F2.eq (by simp only [F2.mul_a, F2.add_a, F2.mul_b, F2.add_b, F2.sub_a, F2.sub_b, F2.one_a, F2.one_b, F2.zero_a, F2.zero_b]; grind) (by simp only [F2.mul_a, F2.add_a, F2.mul_b, F2.add_b, F2.sub_a, F2.sub_b, F2.one_a, F2.one_b, F2.zero_a, F2.zero_b]; grind)
/-- Two values fold alike only where they are alike, or where what is folded by is less the place's point. -/
theorem foldV_first {a a' b y : F2} {x : F} (hx : x ≠ 0) (h : foldV a b y x = foldV a' b y x) : a' = a ∨ y + lift x = 0 := by
  have hd : foldV (a' - a) 0 y x = 0 := by
    have e := foldV_add a b (a' - a) 0 y x
    rw [show a + (a' - a) = a' from F2.eq (by show a.a + (a'.a - a.a) = a'.a; grind) (by show a.b + (a'.b - a.b) = a'.b; grind), F2.add_zero, ← h] at e
    have : foldV a b y x + 0 = foldV a b y x + foldV (a' - a) 0 y x := by rw [F2.add_zero]; exact e
    exact (F2.eq (by have := congrArg F2.a this; rw [F2.add_a, F2.add_a] at this; grind) (by have := congrArg F2.b this; rw [F2.add_b, F2.add_b] at this; grind)).symm
  by_cases c : a' = a
  · exact Or.inl c
  · refine Or.inr ?_
    have hne : a' - a ≠ 0 := fun h0 => c (F2.eq (by have := congrArg F2.a h0; rw [F2.sub_a] at this; exact (by have h2 : a'.a - a.a = 0 := this; grind)) (by have := congrArg F2.b h0; rw [F2.sub_b] at this; exact (by have h2 : a'.b - a.b = 0 := this; grind)))
    generalize a' - a = d at *
    have hl : lift halfF ≠ 0 := lift_ne0 halfF_ne
    have e : foldV d 0 y x = (d * lift halfF) * (1 + y * lift (finv x)) := by
      unfold foldV
      rw [scale_lift, scale_lift, lift_mul]
      exact alg_d _ _ _ _
    rw [e] at hd
    have h1 := (F2.mul_eq_zero hd).resolve_left (F2.mul_ne_zero hne hl)
    have h2 := alg_first (lift x) y (lift (finv x))
    rw [h1, F2.mul_zero, ← lift_mul, mul_finv x hx, show (lift 1 : F2) = 1 from rfl, F2.mul_one] at h2
    exact h2.symm
theorem judge_right {k bl fo pl : Int} {bys : QL} {first : Quad} {layers : List Quad} {fin : QL} (h : judgeB k bl fo bys pl first layers fin = true) : rightJ k bl fo bys.length pl layers.length fin.length := by
  by_cases r : rightJ k bl fo bys.length pl layers.length fin.length
  · exact r
  · unfold judgeB at h
    rw [if_neg r] at h
    cases h
theorem judge_same {k bl fo pl : Int} {bys : QL} {f1 f2 : Quad} {layers : List Quad} {fin : QL} (h1 : toQ f1.1 = toQ f2.1) (h2 : toQ f1.2 = toQ f2.2) : judgeB k bl fo bys pl f1 layers fin = judgeB k bl fo bys pl f2 layers fin := by
  unfold judgeB
  have e0 : jNone (k + bl).toNat pl.toNat f1 fin = jNone (k + bl).toNat pl.toNat f2 fin := by unfold jNone; rw [h1, h2]
  have ej : ∀ j, jOk (k + bl).toNat fo.toNat pl.toNat bys f1 layers fin j = jOk (k + bl).toNat fo.toNat pl.toNat bys f2 layers fin j := fun j => by
    unfold jOk jV jTwo
    split
    · rw [h1, h2]
    · rfl
  have ea : ∀ n, jAll (k + bl).toNat fo.toNat pl.toNat bys f1 layers fin n = jAll (k + bl).toNat fo.toNat pl.toNat bys f2 layers fin n := fun n => by
    induction n with
    | zero => rfl
    | succ n ih => rw [jAll, jAll, ih, ej]
  rw [e0, ea]
theorem judge_first {k bl fo pl : Int} {bys : QL} {p p' b : Int × Int} {layers : List Quad} {fin : QL} (h1 : judgeB k bl fo bys pl (p, b) layers fin = true) (h2 : judgeB k bl fo bys pl (p', b) layers fin = true) (hne : ¬ toQ p' = toQ p) :
    0 < fo ∧ qAt bys 0 + lift (pointF (k + bl) 0 pl) = 0 := by
  have r := judge_right h1
  unfold judgeB at h1 h2
  rw [if_pos r] at h1 h2
  have hfo := r.1.2.2.2.2.1
  by_cases c : fo = 0
  · rw [if_pos c] at h1 h2
    unfold jNone at h1 h2
    rw [Bool.and_eq_true] at h1 h2
    exact absurd ((of_decide_eq_true h2.1).trans (of_decide_eq_true h1.1).symm) hne
  · rw [if_neg c] at h1 h2
    refine ⟨by omega, ?_⟩
    have h0 : 0 < fo.toNat := by omega
    have a1 := of_decide_eq_true (jAll_at h1 h0)
    have a2 := of_decide_eq_true (jAll_at h2 h0)
    have hm : (k + bl).toNat ≤ 32 := by have := r.1; omega
    have hp : pl.toNat < 2 ^ ((k + bl).toNat - 1) := by
      have h3 := r.2.2.2.1
      rw [show (k + bl - 1).toNat = (k + bl).toNat - 1 by omega] at h3
      have h4 := r.2.2.1
      generalize 2 ^ ((k + bl).toNat - 1) = X at *
      omega
    have e : jV (k + bl).toNat pl.toNat bys (p, b) layers 0 = jV (k + bl).toNat pl.toNat bys (p', b) layers 0 := a1.trans a2.symm
    unfold jV at e
    rw [jAt_zero hp] at e
    have hpt : pointF (((k + bl).toNat - 0 : Nat) : Int) ((0 : Nat) : Int) (pl.toNat : Int) = pointF (k + bl) 0 pl := by
      rw [show (((k + bl).toNat - 0 : Nat) : Int) = k + bl by have := r.1; omega, show (pl.toNat : Int) = pl by have := r.2.2.1; omega]
      rfl
    rw [hpt] at e
    have hx : pointF (k + bl) 0 pl ≠ 0 := by
      rw [← hpt]
      exact (pointF_pt _ (by omega) ((0 : Nat) : Int) pl.toNat) ▸ pt_ne (shiftF_ne _) _ (by omega) _
    exact (foldV_first hx e).resolve_left hne
end Go.Proofs.YthfkfgjhgicfeaaDoor
