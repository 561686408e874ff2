/-
  What the document's calls of layer 9 come to.
-/
import Derived.Test.YtfnmlegikcogoaaDoorLeafM
import Derived.Test.YtfnmlegikcogoaaDoorBSum
namespace Go.Proofs.YtfnmlegikcogoaaDoor
open Go Go.RowKit
set_option linter.unusedVariables false

theorem rsum2 (s0 s1 z : ByteArray) (hz : sumB (s0 ++ s1) = z) (hl : s0.size + s1.size ≤ 1000000) (W : World) (t : TypeId) : Calls Tryd.prog 19 #[.slice (some ⟨W.heap.size, 0, none⟩) 2 2] (W.alloc (.cells #[.string s0, .string s1] t)) fun e w' => e = .returned (.string z) ∧ Below W.heap.size W w' :=
  bsum_two (G := fun _ => True) (fun _ _ => trivial) (fun a len cap F W h1 h2 _ => rsum_is a len cap F W h1 h2) s0 s1 z hz hl W t trivial
theorem rsum3 (s0 s1 s2 z : ByteArray) (hz : sumB (s0 ++ s1 ++ s2) = z) (hl : s0.size + s1.size + s2.size ≤ 1000000) (W : World) (t : TypeId) : Calls Tryd.prog 19 #[.slice (some ⟨W.heap.size, 0, none⟩) 3 3] (W.alloc (.cells #[.string s0, .string s1, .string s2] t)) fun e w' => e = .returned (.string z) ∧ Below W.heap.size W w' :=
  bsum_three (G := fun _ => True) (fun _ _ => trivial) (fun a len cap F W h1 h2 _ => rsum_is a len cap F W h1 h2) s0 s1 s2 z hz hl W t trivial
theorem rsum1 (s0 z : ByteArray) (hz : sumB s0 = z) (hl : s0.size ≤ 1000000) (W : World) (t : TypeId) : Calls Tryd.prog 19 #[.slice (some ⟨W.heap.size, 0, none⟩) 1 1] (W.alloc (.cells #[.string s0] t)) fun e w' => e = .returned (.string z) ∧ Below W.heap.size W w' :=
  bsum_one (G := fun _ => True) (fun _ _ => trivial) (fun a len cap F W h1 h2 _ => rsum_is a len cap F W h1 h2) s0 z hz hl W t trivial
theorem leafB_is (s : ByteArray) : sumB (byte0 ++ s) = leafB s := by unfold leafB; rfl
theorem nodeB_is (a b : ByteArray) : sumB (byte1 ++ a ++ b) = nodeB a b := by unfold nodeB; rfl
set_option maxHeartbeats 1000000 in
theorem rlbase_is (a : Option Addr) (len cap : Nat) (zs : List Int) (w : World) (hr : RowA w a len zs) (hu : ∀ n ∈ zs, U n) (hl : len ≤ 10000) :
    Calls Tryd.prog 32 #[.slice a len cap] w fun e w' => e = .returned (.string (leafB (rowB zs))) ∧ Below w.heap.size w w' := by
  have r1 := rrow_is a len cap zs w hr hu (by omega)
  have s1 := rsum2 byte0 (rowB zs) _ (leafB_is _) (by rw [rowB_size]; have := hr.1; show 1 + _ ≤ _; omega)
  generalize leafB (rowB zs) = Z at *
  generalize rowB zs = R at *
  clear hr
  go_enter Tryd.func32, Tryd.ntmps32
  go_wp2_with (first
    | (go_at_call 27; (with_reducible refine r1.mono ?_); rintro e w1 ⟨rfl, hb1⟩)
    | (go_at_call 19; (with_reducible refine (s1 w1 _).mono ?_); rintro e w2 ⟨rfl, hb2⟩))
  go_ret
  exact ⟨rfl, bthen hb1 hb2⟩
set_option maxHeartbeats 1000000 in
theorem rlpairs_is (a : Option Addr) (len cap : Nat) (qs : List (Int × Int)) (w : World) (hr : QRowA w a len qs) (hu : ∀ n ∈ qs, U n.1 ∧ U n.2) (hl : len ≤ 10000) :
    Calls Tryd.prog 33 #[.slice a len cap] w fun e w' => e = .returned (.string (leafB (pairB qs))) ∧ Below w.heap.size w w' := by
  have r1 := rpairs_is a len cap qs w hr hu (by omega)
  have s1 := rsum2 byte0 (pairB qs) _ (leafB_is _) (by unfold pairB; rw [pairT_size]; have := hr.1; show 1 + _ ≤ _; omega)
  generalize leafB (pairB qs) = Z at *
  generalize pairB qs = R at *
  clear hr
  go_enter Tryd.func33, Tryd.ntmps33
  go_wp2_with (first
    | (go_at_call 28; (with_reducible refine r1.mono ?_); rintro e w1 ⟨rfl, hb1⟩)
    | (go_at_call 19; (with_reducible refine (s1 w1 _).mono ?_); rintro e w2 ⟨rfl, hb2⟩))
  go_ret
  exact ⟨rfl, bthen hb1 hb2⟩
set_option maxHeartbeats 1000000 in
theorem rlnode_is (s t : ByteArray) (w : World) (hl : s.size + t.size ≤ 100000) :
    Calls Tryd.prog 31 #[.string s, .string t] w fun e w' => e = .returned (.string (nodeB s t)) ∧ Below w.heap.size w w' := by
  have s1 := rsum3 byte1 s t _ (nodeB_is _ _) (by show 1 + _ + _ ≤ _; omega)
  generalize nodeB s t = Z at *
  go_enter Tryd.func31, Tryd.ntmps31
  go_wp2_with (go_at_call 19; (with_reducible refine (s1 w _).mono ?_); rintro e w2 ⟨rfl, hb2⟩)
  go_ret
  exact ⟨rfl, hb2⟩
set_option maxHeartbeats 1000000 in
theorem rltext_is (a : Option Addr) (len cap : Nat) (zs : List Int) (b : Option Addr) (lenb capb : Nat) (qs : List (Int × Int)) (p : Value) (w : World) (hr : RowA w a len zs) (hu : ∀ n ∈ zs, U n) (hq : QRowA w b lenb qs) (hv : ∀ n ∈ qs, U n.1 ∧ U n.2) (hl : len ≤ 10000) (hlb : lenb ≤ 10000) :
    Calls Tryd.prog 18 #[.agg #[.slice a len cap, .slice b lenb capb, p]] w fun e w' => e = .returned (.string (openB zs qs)) ∧ Below w.heap.size w w' := by
  have hb0 := fun o => (Below.refl w.heap.size w).alloc (Nat.le_refl _) o
  have r1 := fun o => rrow_is a len cap zs (w.alloc o) (hr.keep (hb0 o)) hu (by omega)
  have r2 := fun o => rpairs_is b lenb capb qs (w.alloc o) (hq.keep (hb0 o)) hv (by omega)
  have hz := hr.1
  unfold openB
  clear hr hq
  by_cases h0 : zs.length = 0
  · rw [if_pos h0]
    have h0I : ¬ (0 : Int) < (len : Int) := by omega
    generalize pairB qs = R at *
    go_enter Tryd.func18, Tryd.ntmps18
    go_wp2_with (go_at_call 28; (with_reducible refine (r2 _).mono ?_); rintro e w1 ⟨rfl, hb1⟩)
    go_ret
    exact ⟨rfl, bthen (hb0 _) hb1⟩
  · rw [if_neg h0]
    have h0I : (0 : Int) < (len : Int) := by omega
    generalize rowB zs = R at *
    go_enter Tryd.func18, Tryd.ntmps18
    go_wp2_with (go_at_call 27; (with_reducible refine (r1 _).mono ?_); rintro e w1 ⟨rfl, hb1⟩)
    go_ret
    exact ⟨rfl, bthen (hb0 _) hb1⟩
set_option maxHeartbeats 1000000 in
theorem rlof_is (a : Option Addr) (len cap : Nat) (zs : List Int) (b : Option Addr) (lenb capb : Nat) (qs : List (Int × Int)) (p : Value) (w : World) (hr : RowA w a len zs) (hu : ∀ n ∈ zs, U n) (hq : QRowA w b lenb qs) (hv : ∀ n ∈ qs, U n.1 ∧ U n.2) (hl : len ≤ 10000) (hlb : lenb ≤ 10000) :
    Calls Tryd.prog 21 #[.agg #[.slice a len cap, .slice b lenb capb, p]] w fun e w' => e = .returned (.string (leafB (openB zs qs))) ∧ Below w.heap.size w w' := by
  have hb0 := fun o => (Below.refl w.heap.size w).alloc (Nat.le_refl _) o
  have r1 := fun o => rlbase_is a len cap zs (w.alloc o) (hr.keep (hb0 o)) hu (by omega)
  have r2 := fun o => rlpairs_is b lenb capb qs (w.alloc o) (hq.keep (hb0 o)) hv (by omega)
  have hz := hr.1
  unfold openB
  clear hr hq
  by_cases h0 : zs.length = 0
  · rw [if_pos h0]
    have h0I : ¬ (0 : Int) < (len : Int) := by omega
    generalize leafB (pairB qs) = R at *
    go_enter Tryd.func21, Tryd.ntmps21
    go_wp2_with (go_at_call 33; (with_reducible refine (r2 _).mono ?_); rintro e w1 ⟨rfl, hb1⟩)
    go_ret
    exact ⟨rfl, bthen (hb0 _) hb1⟩
  · rw [if_neg h0]
    have h0I : (0 : Int) < (len : Int) := by omega
    generalize leafB (rowB zs) = R at *
    go_enter Tryd.func21, Tryd.ntmps21
    go_wp2_with (go_at_call 32; (with_reducible refine (r1 _).mono ?_); rintro e w1 ⟨rfl, hb1⟩)
    go_ret
    exact ⟨rfl, bthen (hb0 _) hb1⟩
end Go.Proofs.YtfnmlegikcogoaaDoor
