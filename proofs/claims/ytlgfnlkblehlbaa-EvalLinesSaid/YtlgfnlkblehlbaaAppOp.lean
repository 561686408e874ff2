/-
  One row of a call's own appended to in a region that draws its order ('xs = append(xs, f(..))'), another row beside. No function of the program is named.
-/
import Derived.Test.YtlgfnlkblehlbaaTwoRows
namespace Go.Proofs.Ytlgfnlkblehlbaa
open Go Go.RowKit
set_option linter.unusedVariables false

/-- sb: the new element's array; sa: the append; W0: the world where the region begins. -/
structure AppOp (w W0 : World) (e : TypeId) (s sb sa : Nat) (v9 : Value) (n n2 : Nat) (xs ys z : List Value) (simple : List Nat) (val : Nat → Value) (D : Nat → Bool) (σ : Nat → Value) (W : World) : Prop where
  bel : Below w.heap.size w W
  pre : D sa = false → Below W0.heap.size W0 W
  c3 : D sa = true → D sb = true
  li : D sa = false → D sb = true → ∃ g, σ sb = .slice (some ⟨g, 0, none⟩) 1 1 ∧ ∀ j u, z[j]? = some u → W.cell? ((⟨g, 0, none⟩ : Addr).add j) = some u
  post : D sa = true → W.ownsRow w.heap.size e s (σ sa) (n + 1) (xs ++ z) ∧ W.ownsRow w.heap.size e s v9 n2 ys ∧ ∀ k, (σ sa).ownBlock = some k → v9.ownBlock ≠ some k
  sv : ∀ d, d ∈ simple → D d = true → σ d = val d
section
variable {w W0 : World} {e : TypeId} {s sb sa : Nat} {v9 : Value} {n n2 : Nat} {xs ys z : List Value} {simple : List Nat} {val : Nat → Value} {D : Nat → Bool} {σ : Nat → Value} {W : World}
theorem AppOp.start (hw : Below w.heap.size w W) (hb : Below W0.heap.size W0 W) (σ : Nat → Value) : AppOp w W0 e s sb sa v9 n n2 xs ys z simple val (fun _ => false) σ W :=
  ⟨hw, fun _ => hb, fun h => absurd h Bool.false_ne_true, fun _ h => absurd h Bool.false_ne_true, fun h => absurd h Bool.false_ne_true, fun _ _ h => absurd h Bool.false_ne_true⟩
/-- An operation whose value is known, by new memory alone. -/
theorem AppOp.next (h : AppOp w W0 e s sb sa v9 n n2 xs ys z simple val D σ W) {d : Nat} {v : Value} {W' : World} (hb : Below W.heap.size W W') (h0 : d ≠ sb ∧ d ≠ sa) (hv : v = val d) :
    AppOp w W0 e s sb sa v9 n n2 xs ys z simple val (fun k => if k = d then true else D k) (fun k => if k = d then v else σ k) W' := by
  obtain ⟨h1, h2⟩ := h0
  refine ⟨bthen h.bel hb, ?_, ?_, ?_, ?_, ?_⟩
  · simp only [if_neg (Ne.symm h2)]; exact fun c => bthen (h.pre c) hb
  · simp only [if_neg (Ne.symm h2), if_neg (Ne.symm h1)]; exact h.c3
  · simp only [if_neg (Ne.symm h2), if_neg (Ne.symm h1)]
    intro c c'
    obtain ⟨g, q1, q2⟩ := h.li c c'
    exact ⟨g, q1, fun j u hu => bkeep hb (q2 j u hu)⟩
  · simp only [if_neg (Ne.symm h2)]
    intro c
    obtain ⟨q1, q2, q3⟩ := h.post c
    exact ⟨own_keep q1 hb, own_keep q2 hb, q3⟩
  · intro d' hd
    by_cases c : d' = d
    · subst c; intro _; simp only [if_pos]; exact hv
    · simp only [if_neg c]; exact h.sv d' hd
/-- The new element's array. -/
theorem AppOp.build (h : AppOp w W0 e s sb sa v9 n n2 xs ys z simple val D σ W) {W' : World} {g : Nat} (hd : D sb = false) (hb : Below W.heap.size W W') (h0 : sb ≠ sa) (hs : sb ∉ simple)
    (hz : ∀ j u, z[j]? = some u → W'.cell? ((⟨g, 0, none⟩ : Addr).add j) = some u) :
    AppOp w W0 e s sb sa v9 n n2 xs ys z simple val (fun k => if k = sb then true else D k) (fun k => if k = sb then .slice (some ⟨g, 0, none⟩) 1 1 else σ k) W' := by
  have da : D sa = false := by
    cases c : D sa with
    | false => rfl
    | true => exact absurd (h.c3 c) (by simp [hd])
  refine ⟨bthen h.bel hb, ?_, ?_, ?_, ?_, ?_⟩
  · intro _; exact bthen (h.pre da) hb
  · intro _; simp
  · intro _ _; exact ⟨g, by simp, hz⟩
  · simp only [if_neg (Ne.symm h0), da]; intro c; cases c
  · intro d' hd'
    have c : d' ≠ sb := fun c => hs (c ▸ hd')
    simp only [if_neg c]; exact h.sv d' hd'
/-- The append. -/
theorem AppOp.app (h : AppOp w W0 e s sb sa v9 n n2 xs ys z simple val D σ W) {v8 v' : Value} {W' : World} (hd : D sa = false) (hb : D sb = true) (h0 : sb ≠ sa) (hs : sa ∉ simple)
    (h8 : W0.ownsRow w.heap.size e s v8 n xs) (h9 : W0.ownsRow w.heap.size e s v9 n2 ys) (ap : ∀ k, v8.ownBlock = some k → v9.ownBlock ≠ some k)
    (hown : W'.ownsRow w.heap.size e s v' (n + 1) (xs ++ z)) (hg : W.grownBy W' v8.ownBlock) (hat : v'.ownBlock = v8.ownBlock ∨ v'.ownBlock = some W.heap.size) :
    AppOp w W0 e s sb sa v9 n n2 xs ys z simple val (fun k => if k = sa then true else D k) (fun k => if k = sa then v' else σ k) W' := by
  have k8 := own_keep h8 (h.pre hd)
  have k9 := own_keep h9 (h.pre hd)
  have hge : ∀ k, v8.ownBlock = some k → w.heap.size ≤ k := own_ge k8
  have hlt9 : ∀ k, v9.ownBlock = some k → k < W.heap.size := fun k hk => (k9.lt k hk).2
  refine ⟨h.bel.grown hg h.bel.size hge, ?_, ?_, ?_, ?_, ?_⟩
  · intro c; simp at c
  · intro _; simp only [if_neg h0]; exact hb
  · intro c; simp at c
  · intro _
    simp only [if_pos]
    refine ⟨hown, k9.kept hg (own_apart ap), fun k hk => ?_⟩
    rcases hat with he | he
    · exact ap k (he ▸ hk)
    · intro c9
      have := hlt9 k c9
      rw [hk] at he
      cases he
      omega
  · intro d' hd'
    have c : d' ≠ sa := fun c => hs (c ▸ hd')
    simp only [if_neg c]; exact h.sv d' hd'
end
end Go.Proofs.Ytlgfnlkblehlbaa
