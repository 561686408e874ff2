/-
  What holds of the one through points, as it is told: for the walk of PolyThrough. Plain mathematics over XPolyAsk's words.
-/
import Derived.Test.YtlgfnlkblehlbaaPolyLem
namespace Go.Proofs.Ytlgfnlkblehlbaa
set_option linter.unusedVariables false

/-- No two of a list are the same. -/
def Apart (l : List F2) : Prop := ∀ i j, i < l.length → j < i → cq l i ≠ cq l j
theorem Apart.yes {l m : List F2} (h : Apart l) (hl : l.length = m.length) : thrB l m = true := by
  refine thrB_yes hl fun i hi h0 => ?_
  obtain ⟨j, h1, h2, h3⟩ := (ps_zero i (cq l) (cq l i) l.length).1 h0
  rcases Nat.lt_or_gt_of_ne h2 with c | c
  · exact h i j hi c h3
  · exact h j i h1 c h3.symm
theorem Apart.thrL {l m : List F2} (h : Apart l) (hl : l.length = m.length) : thrL l m = pl l.length (lgr l.length (cq l) (cq m) l.length) := by
  unfold Go.Proofs.Ytlgfnlkblehlbaa.thrL
  rw [if_pos (h.yes hl)]
theorem Apart.at {l m : List F2} (h : Apart l) (hl : l.length = m.length) (i : Nat) (hi : i < l.length) : atP (Go.Proofs.Ytlgfnlkblehlbaa.thrL l m) (cq l i) = cq m i := by
  rw [h.thrL hl, atP_pl (lgr_upto _ _ _ _ (Nat.le_refl _))]
  exact lgr_eval _ _ _ h i hi
theorem Apart.deg {l m : List F2} (h : Apart l) (hl : l.length = m.length) : degP (Go.Proofs.Ytlgfnlkblehlbaa.thrL l m) < l.length := by
  rw [h.thrL hl, degP_pl (lgr_upto _ _ _ _ (Nat.le_refl _))]
  have := tn_le (lgr l.length (cq l) (cq m) l.length) l.length
  omega
theorem Apart.len {l m : List F2} (h : Apart l) (hl : l.length = m.length) : (Go.Proofs.Ytlgfnlkblehlbaa.thrL l m).length ≤ l.length := by
  rw [h.thrL hl, pl_len]
  exact tn_le _ _
/-- The values of p at a list's first k. -/
def valsP (p l : List F2) (k : Nat) : List F2 := mk k fun i => atP p (cq l i)
theorem valsP_len (p l : List F2) (k : Nat) : (valsP p l k).length = k := mk_len _ _
theorem valsP_at (p l : List F2) (k i : Nat) (h : i < k) : cq (valsP p l k) i = atP p (cq l i) := mk_at _ _ _ h
theorem valsP_succ (p l : List F2) (k : Nat) : valsP p l (k + 1) = valsP p l k ++ [atP p (cq l k)] := by unfold valsP mk; rw [List.range_succ, List.map_append]; rfl
/-- The one through a polynomial's values at more places than its degree is it. -/
theorem Apart.one {p l : List F2} (h : Apart l) (hd : degP p < l.length) : Go.Proofs.Ytlgfnlkblehlbaa.thrL l (valsP p l l.length) = trimP p := by
  have hl : l.length = (valsP p l l.length).length := (valsP_len _ _ _).symm
  have hu : Upto l.length (cq p) := (tn_upto (cq_upto p)).more (by unfold degP at hd; omega)
  rw [h.thrL hl]
  unfold trimP
  refine pl_same (lgr_upto _ _ _ _ (Nat.le_refl _)) (cq_upto p) fun i => ?_
  refine through_one (lgr_upto _ _ _ _ (Nat.le_refl _)) hu (cq l) h (fun j hj => ?_) i
  rw [lgr_eval _ _ _ h j hj, valsP_at _ _ _ _ hj]
  unfold atP
  by_cases c : p.length ≤ l.length
  · exact (qe_more _ c (cq_upto p)).symm
  · exact qe_more _ (by omega) hu
end Go.Proofs.Ytlgfnlkblehlbaa
