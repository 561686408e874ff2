/-
  What is asked of the program's calls of layer 7, in worlds of a kind that new memory doesn't change; what follows for texts side by side.
-/
import Derived.Test.YthfkfgjhgicfeaaDoorGBlk
namespace Go.Proofs.YthfkfgjhgicfeaaDoor
open Go Go.RowKit
set_option linter.unusedVariables false

def IsWords (n : Nat) (h : Nat → Int) : Prop := ∀ j, j < n → 0 ≤ h j ∧ h j < 4294967296
theorem str_lit (W : World) (c : Array Value) (t : TypeId) (n : Nat) (f : Nat → ByteArray) (hn : n ≤ maxLen) (h : ∀ j, j < n → c[j]? = some (.string (f j))) : StrA (W.alloc (.cells c t)) (some ⟨W.heap.size, 0, none⟩) n f :=
  ⟨hn, fun k hk => ⟨W.heap.size, 0, rfl, by rw [Nat.zero_add, cell_of_row _ _ _ _ _ _ (heap_alloc_new W (.cells c t))]; exact h k hk⟩⟩
theorem nil_cat (s : ByteArray) : (⟨#[]⟩ : ByteArray) ++ s = s := by
  apply ByteArray.ext
  rw [ByteArray.data_append]
  simp
theorem cat_one (f : Nat → ByteArray) : cat f 1 = f 0 := nil_cat _
theorem cat_three (f : Nat → ByteArray) : cat f 3 = f 0 ++ f 1 ++ f 2 := by show cat f 1 ++ f 1 ++ f 2 = _; rw [cat_one]
theorem bsum_one {f : FuncId} {G : World → Prop} (hk : ∀ {W W' : World}, G W → Below W.heap.size W W' → G W') (hs : ∀ (a : Option Addr) (len cap : Nat) (F : Nat → ByteArray) (W : World), StrA W a len F → lens F len ≤ 1000000 → G W → Calls Tryd.prog f #[.slice a len cap] W fun e w' => e = .returned (.string (sumB (cat F len))) ∧ Below W.heap.size W w')
    (s z : ByteArray) (hz : sumB s = z) (hl : s.size ≤ 1000000) (W : World) (t : TypeId) (hG : G W) : Calls Tryd.prog f #[.slice (some ⟨W.heap.size, 0, none⟩) 1 1] (W.alloc (.cells #[.string s] t)) fun e w' => e = .returned (.string z) ∧ Below W.heap.size W w' := by
  have hb := (Below.refl W.heap.size W).alloc (Nat.le_refl _) (.cells #[.string s] t)
  have h := hs (some ⟨W.heap.size, 0, none⟩) 1 1 (fun _ => s) _ (str_lit W #[.string s] t 1 (fun _ => s) (by unfold maxLen; omega) (fun j hj => by
    have : j = 0 := by omega
    subst this; rfl)) (by simp [lens]; exact hl) (hk hG hb)
  rw [cat_one, hz] at h
  exact h.mono fun e w' ⟨h1, h2⟩ => ⟨h1, bthen hb h2⟩
theorem bsum_three {f : FuncId} {G : World → Prop} (hk : ∀ {W W' : World}, G W → Below W.heap.size W W' → G W') (hs : ∀ (a : Option Addr) (len cap : Nat) (F : Nat → ByteArray) (W : World), StrA W a len F → lens F len ≤ 1000000 → G W → Calls Tryd.prog f #[.slice a len cap] W fun e w' => e = .returned (.string (sumB (cat F len))) ∧ Below W.heap.size W w')
    (s0 s1 s2 z : ByteArray) (hz : sumB (s0 ++ s1 ++ s2) = z) (hl : s0.size + s1.size + s2.size ≤ 1000000) (W : World) (t : TypeId) (hG : G W) : Calls Tryd.prog f #[.slice (some ⟨W.heap.size, 0, none⟩) 3 3] (W.alloc (.cells #[.string s0, .string s1, .string s2] t)) fun e w' => e = .returned (.string z) ∧ Below W.heap.size W w' := by
  have hb := (Below.refl W.heap.size W).alloc (Nat.le_refl _) (.cells #[.string s0, .string s1, .string s2] t)
  have h := hs (some ⟨W.heap.size, 0, none⟩) 3 3 (fun j => if j = 0 then s0 else if j = 1 then s1 else s2) _ (str_lit W #[.string s0, .string s1, .string s2] t 3 _ (by unfold maxLen; omega) (fun j hj => by
    have : j = 0 ∨ j = 1 ∨ j = 2 := by omega
    rcases this with rfl | rfl | rfl <;> rfl)) (by simp [lens]; omega) (hk hG hb)
  rw [cat_three] at h
  simp only [if_true, show ¬ (1 : Nat) = 0 by decide, show ¬ (2 : Nat) = 0 by decide, show ¬ (2 : Nat) = 1 by decide, if_false, hz] at h
  exact h.mono fun e w' ⟨h1, h2⟩ => ⟨h1, bthen hb h2⟩
theorem bsum_none {f : FuncId} {G : World → Prop} (hs : ∀ (a : Option Addr) (len cap : Nat) (F : Nat → ByteArray) (W : World), StrA W a len F → lens F len ≤ 1000000 → G W → Calls Tryd.prog f #[.slice a len cap] W fun e w' => e = .returned (.string (sumB (cat F len))) ∧ Below W.heap.size W w')
    (W : World) (hG : G W) : Calls Tryd.prog f #[.slice none 0 0] W fun e w' => e = .returned (.string (sumB ⟨#[]⟩)) ∧ Below W.heap.size W w' :=
  hs none 0 0 (fun _ => ⟨#[]⟩) W ⟨by unfold maxLen; omega, fun k hk => by omega⟩ (by simp [lens]) hG

end Go.Proofs.YthfkfgjhgicfeaaDoor
