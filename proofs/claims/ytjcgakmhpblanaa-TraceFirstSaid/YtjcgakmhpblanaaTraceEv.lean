/-
  Each of all rules can be run.
-/
import Derived.Test.YtjcgakmhpblanaaTraceRef
namespace Go.Proofs.Ytjcgakmhpblanaa
open Go Go.RowKit
set_option linter.unusedVariables false

theorem stepO_ran {cols : Int} {l : List Opn} {d k : Nat} (h : checkB l cols false = (d, 0)) (hk : (k : Int) < cols) (hc : cols ≤ 8) : Ran cols true (stepO k l) [] := by
  obtain ⟨_, h2, h3, _⟩ := checkB_ok h
  have e5 : pushS cols false (5, 0) (d :: [1]) = (0, (if (5 : Int) = 6 then 1 + d else max 1 d) :: []) := by
    unfold pushS
    rw [if_neg (by simp [rightO]), if_neg (by decide), if_neg (by decide)]
  have h5 : Ran cols false [(5, 0)] (d :: [1]) := by
    rw [Ran, e5]
    exact ⟨rfl, rfl⟩
  have hl : Ran cols false (l ++ [(5, 0)]) ([] ++ [1]) := ran_run (m := [(5, 0)]) [1] h2 (by rw [h3]; exact h5)
  have e2 : pushS cols true (2, (k : Int)) [] = (0, [1]) := by
    unfold pushS
    rw [if_neg (by simp [rightO]; omega), if_pos (by simp), if_neg (by simp; omega)]
  unfold stepO
  rw [Ran, e2]
  exact ⟨rfl, ran_more (Int.le_refl _) hl⟩
theorem AirP.rule_ev {A : AirP} (h : A.check = 0) {k : Nat} (hk : k < A.all.1.length) : (∀ o ∈ A.all.1.getD k [], OkO o) ∧ EvOk (A.all.1.getD k []) A.cols := by
  obtain ⟨_, hfit, h3, h4, _⟩ := AirP.check_ok h
  have h0 : A.all.2 = 0 := by rw [h3]; exact h4
  have hc : k < A.count := by rw [← AirP.all_len h0]; exact hk
  obtain ⟨l, d, p1, p2, p3, _, _, p4⟩ := AirP.rule_ok h0 hc
  have hl := (parse_okO p1).1
  rw [p3]
  unfold AirP.form
  by_cases hs : k < A.steps.length
  · rw [if_pos hs]
    rw [show decide (¬ k < A.steps.length) = false from decide_eq_false (fun c => c hs)] at p2
    have hkc : (k : Int) < A.cols := by
      have := hfit.2.2.1
      omega
    refine ⟨fun o ho => ?_, stepO_ran p2 hkc hfit.2.1, ?_⟩
    · unfold stepO at ho
      rcases List.mem_cons.1 ho with rfl | ho
      · exact ⟨by simp, by have := hfit.2.1; unfold U; simp only; omega⟩
      · rcases List.mem_append.1 ho with ho | ho
        · exact hl o ho
        · rw [List.mem_singleton] at ho
          subst ho
          exact ⟨by simp, by unfold U; simp⟩
    · unfold stepO
      simp only [List.length_cons, List.length_append, List.length_nil]
      omega
  · rw [if_neg hs]
    exact ⟨hl, ran_more (Int.le_refl _) (checkB_ran p2), by omega⟩
end Go.Proofs.Ytjcgakmhpblanaa
