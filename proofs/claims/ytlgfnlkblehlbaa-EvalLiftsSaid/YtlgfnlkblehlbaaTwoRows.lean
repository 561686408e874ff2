/-
  Two rows of like elements that a call puts together itself, both appended to in one region that draws its order ('xs, ys = append(xs, a), append(ys, b)'), whatever the elements are. No function of the program is named.
-/
import Derived.Test.YtlgfnlkblehlbaaRows3
import Derived.Test.YtlgfnlkblehlbaaGRow
namespace Go.Proofs.Ytlgfnlkblehlbaa
open Go Go.RowKit
set_option linter.unusedVariables false

structure TwoRows (w : World) (e : TypeId) (s s1 a1 s2 a2 : Nat) (v8 v9 : Value) (n : Nat) (xs ys z1 z2 : List Value) (simple : List Nat) (val : Nat → Value) (D : Nat → Bool) (σ : Nat → Value) (W : World) : Prop where
  below : Below w.heap.size w W
  rx : W.ownsRow w.heap.size e s (curV D σ a1 v8) (if D a1 = true then n + 1 else n) (if D a1 = true then xs ++ z1 else xs)
  ry : W.ownsRow w.heap.size e s (curV D σ a2 v9) (if D a2 = true then n + 1 else n) (if D a2 = true then ys ++ z2 else ys)
  ap : ∀ k, (curV D σ a1 v8).ownBlock = some k → (curV D σ a2 v9).ownBlock ≠ some k
  n1 : D s1 = true → D a1 = false → ∃ g, σ s1 = .slice (some ⟨g, 0, none⟩) 1 1 ∧ g < W.heap.size ∧ (∀ j u, z1[j]? = some u → W.cell? ((⟨g, 0, none⟩ : Addr).add j) = some u) ∧ (curV D σ a1 v8).ownBlock ≠ some g ∧ (curV D σ a2 v9).ownBlock ≠ some g
  n2 : D s2 = true → D a2 = false → ∃ g, σ s2 = .slice (some ⟨g, 0, none⟩) 1 1 ∧ g < W.heap.size ∧ (∀ j u, z2[j]? = some u → W.cell? ((⟨g, 0, none⟩ : Addr).add j) = some u) ∧ (curV D σ a1 v8).ownBlock ≠ some g ∧ (curV D σ a2 v9).ownBlock ≠ some g
  sv : ∀ d, d ∈ simple → D d = true → σ d = val d
section
variable {w : World} {e : TypeId} {s s1 a1 s2 a2 : Nat} {v8 v9 : Value} {n : Nat} {xs ys z1 z2 : List Value} {simple : List Nat} {val : Nat → Value} {D : Nat → Bool} {σ : Nat → Value} {W : World}
theorem TwoRows.swap (h : TwoRows w e s s1 a1 s2 a2 v8 v9 n xs ys z1 z2 simple val D σ W) : TwoRows w e s s2 a2 s1 a1 v9 v8 n ys xs z2 z1 simple val D σ W :=
  ⟨h.below, h.ry, h.rx, fun k hk hc => h.ap k hc hk, fun c c' => by obtain ⟨g, q1, q2, q3, q4, q5⟩ := h.n2 c c'; exact ⟨g, q1, q2, q3, q5, q4⟩, fun c c' => by obtain ⟨g, q1, q2, q3, q4, q5⟩ := h.n1 c c'; exact ⟨g, q1, q2, q3, q5, q4⟩, h.sv⟩
theorem TwoRows.start (hb : Below w.heap.size w W) (h8 : W.ownsRow w.heap.size e s v8 n xs) (h9 : W.ownsRow w.heap.size e s v9 n ys) (ap : ∀ k, v8.ownBlock = some k → v9.ownBlock ≠ some k) (σ : Nat → Value) : TwoRows w e s s1 a1 s2 a2 v8 v9 n xs ys z1 z2 simple val (fun _ => false) σ W :=
  ⟨hb, h8, h9, ap, fun h => absurd h Bool.false_ne_true, fun h => absurd h Bool.false_ne_true, fun d _ h => absurd h Bool.false_ne_true⟩
theorem addr_kept {W W' : World} {g : Nat} {z : List Value} (hb : W'.heap[g]? = W.heap[g]?) (h : ∀ j u, z[j]? = some u → W.cell? ((⟨g, 0, none⟩ : Addr).add j) = some u) : ∀ j u, z[j]? = some u → W'.cell? ((⟨g, 0, none⟩ : Addr).add j) = some u := fun j u hu => by
  have := h j u hu
  rw [Addr.add_lit] at this ⊢
  exact (World.cell?_of_block (a := ⟨g, 0 + j, none⟩) hb).trans this
theorem block_kept {W W' : World} {g : Nat} (hb : Below W.heap.size W W') (h : g < W.heap.size) : W'.heap[g]? = W.heap[g]? := hb.block g h
/-- An operation by new memory alone. -/
theorem TwoRows.next (h : TwoRows w e s s1 a1 s2 a2 v8 v9 n xs ys z1 z2 simple val D σ W) {d : Nat} {v : Value} {W' : World} (hb : Below W.heap.size W W') (h0 : d ≠ s1 ∧ d ≠ a1 ∧ d ≠ s2 ∧ d ≠ a2) (hv : v = val d) :
    TwoRows w e s s1 a1 s2 a2 v8 v9 n xs ys z1 z2 simple val (fun k => if k = d then true else D k) (fun k => if k = d then v else σ k) W' := by
  obtain ⟨h1, h2, h4, h5⟩ := h0
  refine ⟨bthen h.below hb, ?_, ?_, ?_, ?_, ?_, ?_⟩
  · rw [curV_other (Ne.symm h2)]
    simp only [if_neg (Ne.symm h2)]
    exact own_keep h.rx hb
  · rw [curV_other (Ne.symm h5)]
    simp only [if_neg (Ne.symm h5)]
    exact own_keep h.ry hb
  · rw [curV_other (Ne.symm h2), curV_other (Ne.symm h5)]; exact h.ap
  · rw [curV_other (Ne.symm h2), curV_other (Ne.symm h5)]
    simp only [if_neg (Ne.symm h1), if_neg (Ne.symm h2)]
    intro c1 c2
    obtain ⟨g, k1, k2, k3, k4⟩ := h.n1 c1 c2
    exact ⟨g, k1, Nat.lt_of_lt_of_le k2 hb.size, addr_kept (block_kept hb k2) k3, k4⟩
  · rw [curV_other (Ne.symm h2), curV_other (Ne.symm h5)]
    simp only [if_neg (Ne.symm h4), if_neg (Ne.symm h5)]
    intro c1 c2
    obtain ⟨g, k1, k2, k3, k4⟩ := h.n2 c1 c2
    exact ⟨g, k1, Nat.lt_of_lt_of_le k2 hb.size, addr_kept (block_kept hb k2) k3, k4⟩
  · intro d' hd
    by_cases c : d' = d
    · subst c; intro _; simp only [if_pos]; exact hv
    · simp only [if_neg c]; exact h.sv d' hd
/-- A new array of one element. -/
theorem TwoRows.lay1 (h : TwoRows w e s s1 a1 s2 a2 v8 v9 n xs ys z1 z2 simple val D σ W) {W' : World} (hb : Below W.heap.size W W') (hg : W.heap.size < W'.heap.size) (h0 : s1 ≠ a1 ∧ s1 ≠ s2 ∧ s1 ≠ a2) (hs : s1 ∉ simple)
    (hz : ∀ j u, z1[j]? = some u → W'.cell? ((⟨W.heap.size, 0, none⟩ : Addr).add j) = some u) :
    TwoRows w e s s1 a1 s2 a2 v8 v9 n xs ys z1 z2 simple val (fun k => if k = s1 then true else D k) (fun k => if k = s1 then .slice (some ⟨W.heap.size, 0, none⟩) 1 1 else σ k) W' := by
  obtain ⟨h2, h4, h5⟩ := h0
  refine ⟨bthen h.below hb, ?_, ?_, ?_, ?_, ?_, ?_⟩
  · rw [curV_other (Ne.symm h2)]
    simp only [if_neg (Ne.symm h2)]
    exact own_keep h.rx hb
  · rw [curV_other (Ne.symm h5)]
    simp only [if_neg (Ne.symm h5)]
    exact own_keep h.ry hb
  · rw [curV_other (Ne.symm h2), curV_other (Ne.symm h5)]; exact h.ap
  · rw [curV_other (Ne.symm h2), curV_other (Ne.symm h5)]
    intro _ _
    refine ⟨W.heap.size, by rw [if_pos rfl], hg, hz, fun hk => ?_, fun hk => ?_⟩
    · have := (h.rx.lt _ hk).2; omega
    · have := (h.ry.lt _ hk).2; omega
  · rw [curV_other (Ne.symm h2), curV_other (Ne.symm h5)]
    simp only [if_neg (Ne.symm h4), if_neg (Ne.symm h5)]
    intro c1 c2
    obtain ⟨g, k1, k2, k3, k4⟩ := h.n2 c1 c2
    exact ⟨g, k1, Nat.lt_of_lt_of_le k2 hb.size, addr_kept (block_kept hb k2) k3, k4⟩
  · intro d' hd
    have c : d' ≠ s1 := fun c => hs (c ▸ hd)
    simp only [if_neg c]; exact h.sv d' hd
/-- An append. -/
theorem TwoRows.app1 (h : TwoRows w e s s1 a1 s2 a2 v8 v9 n xs ys z1 z2 simple val D σ W) {v' : Value} {W' : World} (hd : D a1 = false) (h0 : a1 ≠ s1 ∧ a1 ≠ s2 ∧ a1 ≠ a2) (hs : a1 ∉ simple)
    (hown : W'.ownsRow w.heap.size e s v' (n + 1) (xs ++ z1)) (hg : W.grownBy W' v8.ownBlock) (hat : v'.ownBlock = v8.ownBlock ∨ v'.ownBlock = some W.heap.size) :
    TwoRows w e s s1 a1 s2 a2 v8 v9 n xs ys z1 z2 simple val (fun k => if k = a1 then true else D k) (fun k => if k = a1 then v' else σ k) W' := by
  obtain ⟨h2, h4, h5⟩ := h0
  have hrx : W.ownsRow w.heap.size e s v8 n xs := by have := h.rx; unfold curV at this; simpa [hd] using this
  have hap : ∀ k, v8.ownBlock = some k → (curV D σ a2 v9).ownBlock ≠ some k := by have := h.ap; unfold curV at this ⊢; simpa [hd] using this
  have hge : ∀ k, v8.ownBlock = some k → w.heap.size ≤ k := own_ge hrx
  have cv : curV (fun k => if k = a1 then true else D k) (fun k => if k = a1 then v' else σ k) a1 v8 = v' := by unfold curV; simp
  have c0 : curV D σ a1 v8 = v8 := by unfold curV; simp [hd]
  have hlt9 : ∀ k, (curV D σ a2 v9).ownBlock = some k → k < W.heap.size := fun k hk => (h.ry.lt k hk).2
  refine ⟨h.below.grown hg h.below.size hge, ?_, ?_, ?_, ?_, ?_, ?_⟩
  · rw [cv]; simp only [if_pos]; exact hown
  · rw [curV_other (Ne.symm h5)]
    simp only [if_neg (Ne.symm h5)]
    exact h.ry.kept hg (own_apart hap)
  · rw [cv, curV_other (Ne.symm h5)]
    intro k hk
    rcases hat with he | he
    · exact hap k (he ▸ hk)
    · intro h9
      have := hlt9 k h9
      rw [hk] at he
      cases he
      omega
  · intro _ c2; simp at c2
  · rw [cv, curV_other (Ne.symm h5)]
    simp only [if_neg (Ne.symm h4), if_neg (Ne.symm h5)]
    intro c1 c2
    obtain ⟨g, k1, k2, k3, k4, k5⟩ := h.n2 c1 c2
    rw [c0] at k4
    refine ⟨g, k1, Nat.lt_of_lt_of_le k2 hg.size, addr_kept (hg.block g k2 (fun c => k4 c.symm)) k3, fun hv => ?_, k5⟩
    rcases hat with he | he
    · exact k4 (he ▸ hv)
    · rw [hv] at he
      cases he
      omega
  · intro d' hd'
    have c : d' ≠ a1 := fun c => hs (c ▸ hd')
    simp only [if_neg c]; exact h.sv d' hd'
theorem TwoRows.row1 (h : TwoRows w e s s1 a1 s2 a2 v8 v9 n xs ys z1 z2 simple val D σ W) (hd : D a1 = false) : W.ownsRow w.heap.size e s v8 n xs := by have := h.rx; unfold curV at this; simpa [hd] using this
theorem TwoRows.done (h : TwoRows w e s s1 a1 s2 a2 v8 v9 n xs ys z1 z2 simple val D σ W) (h1 : D a1 = true) (h2 : D a2 = true) :
    W.ownsRow w.heap.size e s (σ a1) (n + 1) (xs ++ z1) ∧ W.ownsRow w.heap.size e s (σ a2) (n + 1) (ys ++ z2) ∧ ∀ k, (σ a1).ownBlock = some k → (σ a2).ownBlock ≠ some k := by
  refine ⟨?_, ?_, ?_⟩
  · have := h.rx; unfold curV at this; simpa [h1] using this
  · have := h.ry; unfold curV at this; simpa [h2] using this
  · have := h.ap; unfold curV at this; simpa [h1, h2] using this
end
end Go.Proofs.Ytlgfnlkblehlbaa
