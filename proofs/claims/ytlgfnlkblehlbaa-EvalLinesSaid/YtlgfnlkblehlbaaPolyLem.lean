/-
  What holds of sums, products and quotients of polynomials as they are told. Plain mathematics over XPolyAsk's words.
-/
import Derived.Test.YtlgfnlkblehlbaaPolyAsk
namespace Go.Proofs.Ytlgfnlkblehlbaa
set_option linter.unusedVariables false

theorem atP_pl {n : Nat} {c : Nat → F2} (h : Upto n c) (x : F2) : atP (pl n c) x = qe n c x := qe_pl h x
theorem degP_pl {n : Nat} {c : Nat → F2} (h : Upto n c) : degP (pl n c) = (tn c n : Int) - 1 := by unfold degP; rw [tn_pl h]
theorem atP_mul (l m : List F2) (x : F2) : atP (mulP l m) x = atP l x * atP m x := by
  unfold mulP
  rw [atP_pl (mulP_upto l m)]
  exact cv_eval _ _ (cq_upto l) _ _ (cq_upto m) _ x (by omega)
theorem atP_add (l m : List F2) (x : F2) : atP (addP l m) x = atP l x + atP m x := by
  unfold addP
  rw [atP_pl (addP_upto l m (Nat.le_max_left _ _) (Nat.le_max_right _ _)), qe_add, qe_more x (Nat.le_max_left _ _) (cq_upto l), qe_more x (Nat.le_max_right _ _) (cq_upto m)]
  rfl
theorem scaP_upto (l : List F2) (x : F2) : Upto l.length (fun i => cq l i * x) := fun i hi => by dsimp only; rw [cq_upto l i hi, F2.zero_mul]
theorem atP_sca (l : List F2) (z x : F2) : atP (scaP l z) x = z * atP l x := by
  unfold scaP
  rw [atP_pl (scaP_upto l z), qe_scale]
  rfl
theorem div_upto (l : List F2) (x : F2) : Upto (l.length - 1) (dq l.length (cq l) x) := dq_upto _ _ _
theorem degP_div (l : List F2) (x : F2) : degP (divP l x) = max (degP l - 1) (-1) := by
  unfold divP
  rw [degP_pl (div_upto l x), dq_tn (cq_upto l)]
  unfold degP
  generalize tn (cq l) l.length = t
  omega
theorem lin_cq (x : F2) (i : Nat) : cq [-x, 1] i = lin x i := lin_poly x i
theorem euclidP (l : List F2) (x : F2) : addP (mulP (divP l x) [-x, 1]) [atP l x] = trimP l := by
  have hu := div_upto l x
  refine pl_same (addP_upto _ _ (Nat.le_max_left _ _) (Nat.le_max_right _ _)) (cq_upto l) fun i => ?_
  unfold mulP divP
  rw [cq_pl (mulP_upto _ _), cv_congr (cq_pl hu) (lin_cq x) i, ← euclid (cq_upto l) x i]
  congr 1
  cases i with
  | zero => rfl
  | succ i => rw [if_neg (by omega)]; exact cq_upto [atP l x] (i + 1) (by simp)
theorem degP_mul (l m : List F2) : degP (mulP l m) = if degP l < 0 ∨ degP m < 0 then -1 else degP l + degP m := by
  unfold mulP
  rw [degP_pl (mulP_upto l m), tn_cv (cq_upto l) (cq_upto m)]
  unfold degP
  generalize tn (cq l) l.length = s
  generalize tn (cq m) m.length = t
  by_cases h : s = 0 ∨ t = 0
  · rw [if_pos h, if_pos (by omega)]; rfl
  · rw [if_neg h, if_neg (by omega)]; omega
theorem degP_add (l m : List F2) : degP (addP l m) ≤ max (degP l) (degP m) := by
  have hu := addP_upto l m (Nat.le_max_left l.length m.length) (Nat.le_max_right _ _)
  unfold addP
  rw [degP_pl hu]
  unfold degP
  have h : tn (fun i => cq l i + cq m i) (max l.length m.length) ≤ max (tn (cq l) l.length) (tn (cq m) m.length) := by
    refine Nat.le_of_not_lt fun hlt => ?_
    obtain ⟨k, hk⟩ : ∃ k, tn (fun i => cq l i + cq m i) (max l.length m.length) = k + 1 := ⟨tn (fun i => cq l i + cq m i) (max l.length m.length) - 1, by omega⟩
    refine tn_top hk ?_
    rw [tn_upto (cq_upto l) k (by omega), tn_upto (cq_upto m) k (by omega), F2.add_zero]
  omega
theorem degP_nn (l : List F2) : -1 ≤ degP l ∧ degP l < l.length := by
  unfold degP
  have := tn_le (cq l) l.length
  omega
/-- X less each of some, all together. -/
def rootsP (l : List F2) (k : Nat) : List F2 := pl (k + 1) (pp l.length (cq l) k)
theorem pp_upto' (l : List F2) (k : Nat) (h : k ≤ l.length) : Upto (k + 1) (pp l.length (cq l) k) := by
  have := pp_upto l.length (cq l) k
  unfold pn at this
  rwa [if_neg (by omega)] at this
theorem rootsP_zero (l : List F2) : rootsP l 0 = [1] := pl_one2
theorem rootsP_step (l : List F2) (k : Nat) (h : k < l.length) : mulP (rootsP l k) [-(cq l k), 1] = rootsP l (k + 1) := by
  refine mul_lin (pp_upto' l k (by omega)) (cq l k) (pp_upto' l (k + 1) (by omega)) fun i => ?_
  show _ = (if k = l.length then _ else _ : Nat → F2) i
  rw [if_neg (by omega)]
theorem degP_roots (l : List F2) (k : Nat) (h : k ≤ l.length) : degP (rootsP l k) = k := by
  unfold rootsP
  have hu := pp_upto' l k h
  rw [degP_pl hu, tn_is hu hu (by rw [pp_top l.length (cq l) k h]; exact F2.one_ne_zero)]
  omega
theorem atP_roots (l : List F2) (k : Nat) (h : k ≤ l.length) (x : F2) : atP (rootsP l k) x = 0 ↔ ∃ i, i < k ∧ x = cq l i := by
  unfold rootsP
  rw [atP_pl (pp_upto' l k h)]
  have e := pp_eval l.length (cq l) x k
  unfold pn at e
  rw [if_neg (by omega)] at e
  rw [e, ps_zero]
  exact ⟨fun ⟨i, h1, _, h3⟩ => ⟨i, h1, h3⟩, fun ⟨i, h1, h3⟩ => ⟨i, h1, by omega, h3⟩⟩
end Go.Proofs.Ytlgfnlkblehlbaa
