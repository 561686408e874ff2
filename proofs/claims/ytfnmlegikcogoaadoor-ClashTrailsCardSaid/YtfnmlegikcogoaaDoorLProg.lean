/-
  The program's calls of layer 9: what is asked of them is so.
-/
import Derived.Test.YtfnmlegikcogoaaDoorLeafM
import Derived.Test.YtfnmlegikcogoaaDoorBProg
import Derived.Test.YtfnmlegikcogoaaDoorGOctPro
namespace Go.Proofs.YtfnmlegikcogoaaDoor
open Go Go.RowKit
set_option linter.unusedVariables false

theorem gleafB_is (s : ByteArray) : sumB (byte0 ++ s) = leafB s := by unfold leafB; rfl
theorem gnodeB_is (a b : ByteArray) : sumB (byte1 ++ a ++ b) = nodeB a b := by unfold nodeB; rfl
theorem gsum2 (s0 s1 z : ByteArray) (hz : sumB (s0 ++ s1) = z) (hl : s0.size + s1.size ≤ 1000000) (W : World) (t : TypeId) (hG : TabB W) : Calls Tryd.prog 24 #[.slice (some ⟨W.heap.size, 0, none⟩) 2 2] (W.alloc (.cells #[.string s0, .string s1] t)) fun e w' => e = .returned (.string z) ∧ Below W.heap.size W w' :=
  bsum_two ask7.keep ask7.sum s0 s1 z hz hl W t hG
theorem gsum3 (s0 s1 s2 z : ByteArray) (hz : sumB (s0 ++ s1 ++ s2) = z) (hl : s0.size + s1.size + s2.size ≤ 1000000) (W : World) (t : TypeId) (hG : TabB W) : Calls Tryd.prog 24 #[.slice (some ⟨W.heap.size, 0, none⟩) 3 3] (W.alloc (.cells #[.string s0, .string s1, .string s2] t)) fun e w' => e = .returned (.string z) ∧ Below W.heap.size W w' :=
  bsum_three ask7.keep ask7.sum s0 s1 s2 z hz hl W t hG
theorem gsum1 (s0 z : ByteArray) (hz : sumB s0 = z) (hl : s0.size ≤ 1000000) (W : World) (t : TypeId) (hG : TabB W) : Calls Tryd.prog 24 #[.slice (some ⟨W.heap.size, 0, none⟩) 1 1] (W.alloc (.cells #[.string s0] t)) fun e w' => e = .returned (.string z) ∧ Below W.heap.size W w' :=
  bsum_one ask7.keep ask7.sum s0 z hz hl W t hG
set_option maxHeartbeats 1000000 in
theorem glnode_is (s t : ByteArray) (w : World) (hl : s.size + t.size ≤ 100000) (hT : TabB w) :
    Calls Tryd.prog 50 #[.string s, .string t] w fun e w' => e = .returned (.string (nodeB s t)) ∧ Below w.heap.size w w' := by
  have s1 := gsum3 byte1 s t _ (gnodeB_is _ _) (by show 1 + _ + _ ≤ _; omega)
  generalize nodeB s t = Z at *
  go_enter Tryd.func50, Tryd.ntmps50
  go_wp2_with (go_at_call 24; (with_reducible refine (s1 w _ hT).mono ?_); rintro e w2 ⟨rfl, hb2⟩)
  go_ret
  exact ⟨rfl, hb2⟩
set_option maxHeartbeats 1000000 in
theorem gltext_is (a : Option Addr) (len cap : Nat) (zs : List Int) (b : Option Addr) (lenb capb : Nat) (qs : List (Int × Int)) (p : Value) (w : World) (hr : RowA w a len zs) (hu : ∀ n ∈ zs, U n) (hq : QRowA w b lenb qs) (hv : ∀ n ∈ qs, U n.1 ∧ U n.2) (hl : len ≤ 10000) (hlb : lenb ≤ 10000) :
    Calls Tryd.prog 22 #[.agg #[.slice a len cap, .slice b lenb capb, p]] w fun e w' => e = .returned (.string (openB zs qs)) ∧ Below w.heap.size w w' := by
  have hb0 := fun o => (Below.refl w.heap.size w).alloc (Nat.le_refl _) o
  have r1 := fun o => orow_is a len cap zs (w.alloc o) (hr.keep (hb0 o)) hu (by omega)
  have r2 := fun o => opairs_is b lenb capb qs (w.alloc o) (hq.keep (hb0 o)) hv (by omega)
  have hz := hr.1
  unfold openB
  clear hr hq
  by_cases h0 : zs.length = 0
  · rw [if_pos h0]
    have h0I : ¬ (0 : Int) < (len : Int) := by omega
    generalize pairB qs = R at *
    go_enter Tryd.func22, Tryd.ntmps22
    go_wp2_with (go_at_call 35; (with_reducible refine (r2 _).mono ?_); rintro e w1 ⟨rfl, hb1⟩)
    go_ret
    exact ⟨rfl, bthen (hb0 _) hb1⟩
  · rw [if_neg h0]
    have h0I : (0 : Int) < (len : Int) := by omega
    generalize rowB zs = R at *
    go_enter Tryd.func22, Tryd.ntmps22
    go_wp2_with (go_at_call 34; (with_reducible refine (r1 _).mono ?_); rintro e w1 ⟨rfl, hb1⟩)
    go_ret
    exact ⟨rfl, bthen (hb0 _) hb1⟩
set_option maxHeartbeats 1000000 in
theorem glof_is (a : Option Addr) (len cap : Nat) (zs : List Int) (b : Option Addr) (lenb capb : Nat) (qs : List (Int × Int)) (p : Value) (w : World) (hr : RowA w a len zs) (hu : ∀ n ∈ zs, U n) (hq : QRowA w b lenb qs) (hv : ∀ n ∈ qs, U n.1 ∧ U n.2) (hl : len ≤ 10000) (hlb : lenb ≤ 10000) (hp : p.oneCell' = true) (hT : TabB w) :
    Calls Tryd.prog 42 #[.agg #[.slice a len cap, .slice b lenb capb, p]] w fun e w' => e = .returned (.string (leafB (openB zs qs))) ∧ Below w.heap.size w w' := by
  have hb0 := fun o => (Below.refl w.heap.size w).alloc (Nat.le_refl _) o
  have r1 := fun o => gltext_is a len cap zs b lenb capb qs p (w.alloc o) (hr.keep (hb0 o)) hu (hq.keep (hb0 o)) hv hl hlb
  have s1 := gsum2 byte0 (openB zs qs) _ (gleafB_is _) (by have := openB_size zs qs (by have := hr.1; omega) (by have := hq.1; omega); show 1 + _ ≤ _; omega)
  generalize leafB (openB zs qs) = Z at *
  generalize openB zs qs = R at *
  clear hr hq
  go_enter Tryd.func42, Tryd.ntmps42
  go_wp2_with (first
    | (go_at_call 22; (with_reducible refine (r1 _).mono ?_); rintro e w1 ⟨rfl, hb1⟩; replace hb1 := bthen (hb0 _) hb1)
    | (go_at_call 24; (with_reducible refine (s1 w1 _ (hT.keep hb1)).mono ?_); rintro e w2 ⟨rfl, hb2⟩))
  go_ret
  exact ⟨rfl, bthen hb1 hb2⟩
end Go.Proofs.YtfnmlegikcogoaaDoor
