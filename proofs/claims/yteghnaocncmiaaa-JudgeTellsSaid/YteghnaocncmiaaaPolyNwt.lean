/-
  The polynomial through points, put together point by point: of those gone through so far. Plain mathematics over XPolyAsk's words.
-/
import Derived.Test.YteghnaocncmiaaaGPolyR
namespace Go.Proofs.Yteghnaocncmiaaa
set_option linter.unusedVariables false

/-- One that comes to the values at the first k places. -/
def Gone (l m : List F2) (k : Nat) (o : List F2) : Prop := ∃ c, Upto k c ∧ o = pl k c ∧ ∀ j, j < k → qe k c (cq l j) = cq m j
/-- No two of the first k are the same. -/
def ApartTo (l : List F2) (k : Nat) : Prop := ∀ i j, i < k → j < i → cq l i ≠ cq l j
theorem Gone.start (l m : List F2) : Gone l m 0 [] := ⟨fun _ => 0, fun _ _ => rfl, (pl_nil fun _ => rfl).symm, fun j hj => absurd hj (Nat.not_lt_zero _)⟩
theorem ApartTo.start (l : List F2) : ApartTo l 0 := fun i j h => absurd h (Nat.not_lt_zero _)
theorem Gone.len {l m : List F2} {k : Nat} {o : List F2} (h : Gone l m k o) : o.length ≤ k := by
  obtain ⟨c, _, rfl, _⟩ := h
  rw [pl_len]; exact tn_le _ _
theorem rootsP_len (l : List F2) (k : Nat) : (rootsP l k).length ≤ k + 1 := by unfold rootsP; rw [pl_len]; exact tn_le _ _
theorem scaP_len (l : List F2) (x : F2) : (scaP l x).length ≤ l.length := by unfold scaP; rw [pl_len]; exact tn_le _ _
theorem addP_len (l m : List F2) : (addP l m).length ≤ max l.length m.length := by unfold addP; rw [pl_len]; exact tn_le _ _
theorem ApartTo.step {l : List F2} {k : Nat} (h : ApartTo l k) (hk : k < l.length) (hne : atP (rootsP l k) (cq l k) ≠ 0) : ApartTo l (k + 1) := by
  intro i j hi hj
  by_cases e : i = k
  · subst e
    intro he
    exact hne ((atP_roots l i (by omega) (cq l i)).2 ⟨j, hj, he⟩)
  · exact h i j (by omega) hj
/-- A meeting: there is none. -/
theorem thrB_met {l m : List F2} {k : Nat} (hk : k < l.length) (h0 : atP (rootsP l k) (cq l k) = 0) : thrB l m = false := by
  obtain ⟨i, h1, h2⟩ := (atP_roots l k (by omega) (cq l k)).1 h0
  exact thrB_two hk ((ps_zero k (cq l) (cq l k) l.length).2 ⟨i, by omega, by omega, h2⟩)
theorem Gone.step {l m : List F2} {k : Nat} {o : List F2} (h : Gone l m k o) (hk : k < l.length) {p a s z : F2} (hp : atP (rootsP l k) (cq l k) = p) (ha : atP o (cq l k) = a) (hne : p ≠ 0) (hs : cq m k - a = s) (hz : s * qinv p = z) :
    Gone l m (k + 1) (addP o (scaP (rootsP l k) z)) := by
  obtain ⟨c, hc, rfl, hv⟩ := h
  have hg := pp_upto' l k (Nat.le_of_lt hk)
  have hz0 : Upto (k + 1) (fun i => c i + pp l.length (cq l) k i * z) := fun i hi => by dsimp only; rw [hc i (by omega), hg i hi, F2.zero_mul, F2.add_zero]
  refine ⟨fun i => c i + pp l.length (cq l) k i * z, hz0, ?_, fun j hj => ?_⟩
  · exact add_scale hc hg hz0 z fun i => rfl
  · have hgz : ∀ y, atP (rootsP l k) y = qe (k + 1) (pp l.length (cq l) k) y := fun y => atP_pl hg y
    have hoz : ∀ y, atP (pl k c) y = qe k c y := fun y => atP_pl hc y
    rw [qe_add, qe_scale, qe_more _ (Nat.le_succ k) hc, ← hgz]
    by_cases e : j = k
    · subst e
      rw [hp, ← hoz, ha, ← hz, ← hs]
      have h1 := mul_qinv p hne
      calc a + (cq m j - a) * qinv p * p = a + (cq m j - a) * (p * qinv p) := by ac_rfl
        _ = cq m j := by rw [h1, F2.mul_comm, F2.one_mul, F2.sub_eq, F2.add_comm (cq m j), ← F2.add_assoc, F2.add_neg, F2.zero_add]
    · rw [(atP_roots l k (Nat.le_of_lt hk) (cq l j)).2 ⟨j, by omega, rfl⟩, F2.mul_zero, F2.add_zero, hv j (by omega)]
theorem Gone.all {l m : List F2} {o : List F2} (h : Gone l m l.length o) (ha : ApartTo l l.length) (hl : l.length = m.length) : thrB l m = true ∧ thrL l m = o := by
  have hA : Apart l := ha
  refine ⟨hA.yes hl, ?_⟩
  obtain ⟨c, hc, rfl, hv⟩ := h
  rw [hA.thrL hl]
  refine pl_same (lgr_upto _ _ _ _ (Nat.le_refl _)) hc fun i => ?_
  refine through_one (lgr_upto _ _ _ _ (Nat.le_refl _)) hc (cq l) hA (fun j hj => ?_) i
  rw [lgr_eval _ _ _ hA j hj, hv j hj]
end Go.Proofs.Yteghnaocncmiaaa
