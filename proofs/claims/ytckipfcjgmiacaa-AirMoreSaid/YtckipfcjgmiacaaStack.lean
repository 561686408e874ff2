/-
  A stack that the call keeps in a slice of its own: put by append, taken by cutting and append.
-/
import Derived.Test.YtckipfcjgmiacaaGRow
import Derived.Test.YtckipfcjgmiacaaBeside
namespace Go.Proofs.Ytckipfcjgmiacaa
open Go Go.RowKit
set_option linter.unusedVariables false

/-- The cells of a stack (its top ahead), the bottom first. -/
def stkV {α : Type} (f : α → List Value) (st : List α) : List Value := st.reverse.flatMap f
theorem stkV_nil {α : Type} (f : α → List Value) : stkV f [] = [] := rfl
theorem stkV_cons {α : Type} (f : α → List Value) (x : α) (st : List α) : stkV f (x :: st) = stkV f st ++ f x := by simp [stkV]
theorem stkV_len {α : Type} {f : α → List Value} {s : Nat} (hf : ∀ x, (f x).length = s) : ∀ st : List α, (stkV f st).length = st.length * s
  | [] => by simp [stkV]
  | x :: st => by rw [stkV_cons, List.length_append, hf, stkV_len hf st, List.length_cons, Nat.succ_mul]
/-- A row that is cut. -/
theorem own_cut {W : World} {B : Nat} {e : TypeId} {s g cap n m : Nat} {xs ys : List Value} (h : W.ownsRow B e s (.slice (some ⟨g, 0, none⟩) n cap) n (xs ++ ys)) (hm : m ≤ n) (hx : xs.length = m * s) : W.ownsRow B e s (.slice (some ⟨g, 0, none⟩) m cap) m xs := by
  obtain ⟨_, ⟨h0, _⟩ | ⟨g', cap', cur, hv, hg, hh, hn, hcap, hsz, ht⟩⟩ := h
  · cases h0
  · cases hv
    refine ⟨hx, .inr ⟨g, cap, cur, rfl, hg, hh, by omega, hcap, hsz, ?_⟩⟩
    have h3 : (cur.toList.take (n * s)).take (m * s) = (xs ++ ys).take (m * s) := by rw [ht]
    rw [List.take_take, Nat.min_eq_left (Nat.mul_le_mul_right _ hm)] at h3
    rw [h3, ← hx]
    simp
/-- A stack with one on top: its top's cells. -/
theorem stk_one {α : Type} {f : α → List Value} {s : Nat} (hf : ∀ x, (f x).length = s) {W : World} {B : Nat} {e : TypeId} {v : Value} {x : α} {r : List α} (h : W.ownsRow B e s v (r.length + 1) (stkV f (x :: r))) :
    ∃ g cap, v = .slice (some ⟨g, 0, none⟩) (r.length + 1 : Nat) cap ∧ r.length + 1 ≤ cap ∧ cap ≤ maxLen ∧ (∀ j, j < s → W.cell? ⟨g, r.length * s + j, none⟩ = (f x)[j]?) := by
  obtain ⟨hl, ⟨h0, h1⟩ | ⟨g, cap, cur, hv, hg, hh, hn, hcap, hsz, ht⟩⟩ := id h
  · omega
  · refine ⟨g, cap, hv, hn, hcap, fun j hj => ?_⟩
    subst hv
    rw [h.cellAt (r.length * s + j) (by rw [Nat.succ_mul]; omega), stkV_cons, List.getElem?_append_right (by rw [stkV_len hf]; omega), stkV_len hf]
    congr 1
    omega
/-- A stack with two on top: their cells; cut by both. -/
theorem stk_two {α : Type} {f : α → List Value} {s : Nat} (hf : ∀ x, (f x).length = s) {W : World} {B : Nat} {e : TypeId} {v : Value} {a b : α} {r : List α} (h : W.ownsRow B e s v (r.length + 1 + 1) (stkV f (b :: a :: r))) :
    ∃ g cap, v = .slice (some ⟨g, 0, none⟩) (r.length + 1 + 1 : Nat) cap ∧ r.length + 1 + 1 ≤ cap ∧ cap ≤ maxLen ∧ (∀ j, j < s → W.cell? ⟨g, r.length * s + j, none⟩ = (f a)[j]?) ∧ (∀ j, j < s → W.cell? ⟨g, (r.length + 1) * s + j, none⟩ = (f b)[j]?) ∧
      W.ownsRow B e s (.slice (some ⟨g, 0, none⟩) r.length cap) r.length (stkV f r) := by
  obtain ⟨g, cap, rfl, h1, h2, h3⟩ := stk_one (r := a :: r) hf h
  refine ⟨g, cap, rfl, h1, h2, fun j hj => ?_, h3, ?_⟩
  · have h4 := own_cut (m := r.length + 1) (xs := stkV f (a :: r)) (ys := f b) (by rw [← stkV_cons]; exact h) (by simp) (by rw [stkV_len hf]; rfl)
    obtain ⟨g', cap', e, _, _, h5⟩ := stk_one hf h4
    cases e
    exact h5 j hj
  · exact own_cut (m := r.length) (xs := stkV f r) (ys := f a ++ f b) (by rw [← List.append_assoc, ← stkV_cons, ← stkV_cons]; exact h) (by simp; omega) (stkV_len hf r)
/-- A stack of integers. -/
abbrev stI (k : IntKind) (x : Int) : List Value := [.int k x]
theorem stI_len (k : IntKind) (x : Int) : (stI k x).length = 1 := rfl
/-- A stack of pairs. -/
abbrev stP (x : Int × Int) : List Value := [.int .u64 x.1, .int .u64 x.2]
theorem stP_len (x : Int × Int) : (stP x).length = 2 := rfl
end Go.Proofs.Ytckipfcjgmiacaa
