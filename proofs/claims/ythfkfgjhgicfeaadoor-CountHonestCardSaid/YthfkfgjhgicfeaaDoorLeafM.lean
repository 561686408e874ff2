/-
  Sums of rows: plain; texts side by side; what is asked of the program's calls of layer 9.
-/
import Derived.Test.YthfkfgjhgicfeaaDoorGOct
import Derived.Test.YthfkfgjhgicfeaaDoorBAsk
namespace Go.Proofs.YthfkfgjhgicfeaaDoor
open Go Go.RowKit
set_option linter.unusedVariables false

abbrev byte0 : ByteArray := ⟨#[0]⟩
abbrev byte1 : ByteArray := ⟨#[1]⟩
def openB (zs : List Int) (qs : List (Int × Int)) : ByteArray := if zs.length = 0 then pairB qs else rowB zs
def leafB (s : ByteArray) : ByteArray := sumB (byte0 ++ s)
def nodeB (a b : ByteArray) : ByteArray := sumB (byte1 ++ a ++ b)
theorem cat_two (f : Nat → ByteArray) : cat f 2 = f 0 ++ f 1 := by show cat f 1 ++ f 1 = _; rw [cat_one]
theorem bsum_two {f : FuncId} {G : World → Prop} (hk : ∀ {W W' : World}, G W → Below W.heap.size W W' → G W') (hs : ∀ (a : Option Addr) (len cap : Nat) (F : Nat → ByteArray) (W : World), StrA W a len F → lens F len ≤ 1000000 → G W → Calls Tryd.prog f #[.slice a len cap] W fun e w' => e = .returned (.string (sumB (cat F len))) ∧ Below W.heap.size W w')
    (s0 s1 z : ByteArray) (hz : sumB (s0 ++ s1) = z) (hl : s0.size + s1.size ≤ 1000000) (W : World) (t : TypeId) (hG : G W) : Calls Tryd.prog f #[.slice (some ⟨W.heap.size, 0, none⟩) 2 2] (W.alloc (.cells #[.string s0, .string s1] t)) fun e w' => e = .returned (.string z) ∧ Below W.heap.size W w' := by
  have hb := (Below.refl W.heap.size W).alloc (Nat.le_refl _) (.cells #[.string s0, .string s1] t)
  have h := hs (some ⟨W.heap.size, 0, none⟩) 2 2 (fun j => if j = 0 then s0 else s1) _ (str_lit W #[.string s0, .string s1] t 2 _ (by unfold maxLen; omega) (fun j hj => by
    have : j = 0 ∨ j = 1 := by omega
    rcases this with rfl | rfl <;> rfl)) (by simp [lens]; omega) (hk hG hb)
  rw [cat_two] at h
  simp only [if_true, show ¬ (1 : Nat) = 0 by decide, if_false, hz] at h
  exact h.mono fun e w' ⟨h1, h2⟩ => ⟨h1, bthen hb h2⟩
theorem openB_size (zs : List Int) (qs : List (Int × Int)) (h1 : zs.length ≤ 10000) (h2 : qs.length ≤ 10000) : (openB zs qs).size ≤ 200000 := by
  unfold openB
  split
  · unfold pairB; rw [pairT_size]; omega
  · rw [rowB_size]; omega
/-- Unlike rows have unlike bytes. -/
theorem rowB_inj {l m : List Int} (hl : ∀ x ∈ l, U x) (hm : ∀ x ∈ m, U x) (h : rowB l = rowB m) : l = m := by
  have hs : l.length = m.length := by have := congrArg ByteArray.size h; rw [rowB_size, rowB_size] at this; omega
  apply List.ext_getElem hs
  intro j h1 h2
  have e1 := rowB_num l hl j h1
  have e2 := rowB_num m hm j h2
  rw [h] at e1
  have e3 := e1.symm.trans e2
  simpa only [List.getD, List.getElem?_eq_getElem h1, List.getElem?_eq_getElem h2, Option.getD_some] using e3
theorem openB_nil (zs : List Int) : openB zs [] = rowB zs := by
  unfold openB
  split
  · next h =>
    obtain rfl := List.length_eq_zero_iff.mp h
    rfl
  · rfl
theorem openB_row (qs : List (Int × Int)) : openB [] qs = pairB qs := if_pos rfl
end Go.Proofs.YthfkfgjhgicfeaaDoor
