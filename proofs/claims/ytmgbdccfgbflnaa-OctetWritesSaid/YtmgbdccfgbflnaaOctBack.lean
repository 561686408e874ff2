/-
  There and back: what the rows of the document are read as. Plain mathematics.
-/
import Derived.Test.YtmgbdccfgbflnaaOctRef6
namespace Go.Proofs.Ytmgbdccfgbflnaa
open Go Go.RowKit
set_option linter.unusedVariables false

theorem nums_row (l : List Int) (hl : ∀ x ∈ l, U x) : nums (rowB l) l.length = l := by
  apply List.ext_getElem
  · rw [nums_len]
  · intro j h1 h2
    have e1 : (nums (rowB l) l.length).getD j 0 = (nums (rowB l) l.length)[j] := by simp only [List.getD, List.getElem?_eq_getElem h1, Option.getD_some]
    have e2 : l.getD j 0 = l[j] := by simp only [List.getD, List.getElem?_eq_getElem h2, Option.getD_some]
    rw [← e1, ← e2, nums_at _ _ _ h2, rowB_num l hl j h2]
theorem okR_row (l : List Int) (hl : ∀ x ∈ l, U x) (hm : l.length ≤ 1048576) : OkR (rowB l) (l.length : Int) ↔ ∀ k, k < l.length → l.getD k 0 < 18446744069414584321 := by
  constructor
  · rintro ⟨_, _, _, h⟩ k hk
    have := h k (by omega)
    rwa [rowB_num l hl k hk] at this
  · intro h
    refine ⟨by omega, by omega, by rw [rowB_size]; omega, fun k hk => ?_⟩
    rw [rowB_num l hl k (by omega)]
    exact h k (by omega)
theorem okR_more (l : List Int) (s : ByteArray) (hs : s.size ≠ 0) : ¬ OkR (rowB l ++ s) (l.length : Int) := by
  rintro ⟨_, _, h, _⟩
  rw [ByteArray.size_append, rowB_size] at h
  omega
theorem prs_flat (zs : List (Int × Int)) (hz : ∀ z ∈ zs, U z.1 ∧ U z.2) : prs (pairB zs) zs.length = zs := by
  have hl : ∀ zs : List (Int × Int), (∀ z ∈ zs, U z.1 ∧ U z.2) → ∀ x ∈ flatN zs, U x := by
    intro zs
    induction zs with
    | nil => intro _ x hx; simp [flatN] at hx
    | cons z l ih =>
      intro h x hx
      simp only [flatN, List.mem_cons] at hx
      rcases hx with rfl | rfl | hx
      · exact (h z (by simp)).1
      · exact (h z (by simp)).2
      · exact ih (fun y hy => h y (by simp [hy])) x hx
  apply List.ext_getElem
  · rw [prs_len]
  · intro j h1 h2
    have e2 : zs.getD j (0, 0) = zs[j] := by simp only [List.getD, List.getElem?_eq_getElem h2, Option.getD_some]
    have hlen := flatN_len zs
    simp only [prs, List.getElem_map, List.getElem_range]
    rw [pairB_row, rowB_num _ (hl zs hz) _ (by omega), rowB_num _ (hl zs hz) _ (by omega), flatN_even, flatN_odd, e2]
end Go.Proofs.Ytmgbdccfgbflnaa
