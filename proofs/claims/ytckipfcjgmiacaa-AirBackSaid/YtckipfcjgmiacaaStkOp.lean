/-
  An operation on the two topmost values of a stack that the call keeps in a slice of its own, in a region that draws its order: 's = append(s[:n-2], f(s[n-2], s[n-1]))'. No function of the program is named.
-/
import Derived.Test.YtckipfcjgmiacaaStack
import Derived.Test.YtckipfcjgmiacaaRows3
namespace Go.Proofs.Ytckipfcjgmiacaa
open Go Go.RowKit
set_option linter.unusedVariables false

/-- la, lb: the loads; sc: the call; sb: the new element's array; sa: the append; sf: what is assigned. -/
structure StkOp (w W0 : World) (e : TypeId) (s la lb sc sb sa sf n : Nat) (xs z : List Value) (simple : List Nat) (val : Nat → Value) (D : Nat → Bool) (σ : Nat → Value) (W : World) : Prop where
  pre : D sa = false → Below W0.heap.size W0 W
  c1 : D sc = true → D la = true ∧ D lb = true
  c2 : D sb = true → D sc = true
  c3 : D sa = true → D sb = true
  li : D sa = false → D sb = true → ∃ g, σ sb = .slice (some ⟨g, 0, none⟩) 1 1 ∧ ∀ j u, z[j]? = some u → W.cell? ((⟨g, 0, none⟩ : Addr).add j) = some u
  post : D sa = true → W.ownsRow w.heap.size e s (σ sa) (n + 1) (xs ++ z) ∧ Below w.heap.size w W
  fin : D sf = true → D sa = true ∧ σ sf = σ sa
  sv : ∀ d, d ∈ simple → D d = true → σ d = val d
section
variable {w W0 : World} {e : TypeId} {s la lb sc sb sa sf n : Nat} {xs z : List Value} {simple : List Nat} {val : Nat → Value} {D : Nat → Bool} {σ : Nat → Value} {W : World}
theorem StkOp.start (hb : Below W0.heap.size W0 W) (σ : Nat → Value) : StkOp w W0 e s la lb sc sb sa sf n xs z simple val (fun _ => false) σ W :=
  ⟨fun _ => hb, fun h => absurd h Bool.false_ne_true, fun h => absurd h Bool.false_ne_true, fun h => absurd h Bool.false_ne_true, fun _ h => absurd h Bool.false_ne_true, fun h => absurd h Bool.false_ne_true, fun h => absurd h Bool.false_ne_true, fun _ _ h => absurd h Bool.false_ne_true⟩
theorem StkOp.openb (h : StkOp w W0 e s la lb sc sb sa sf n xs z simple val D σ W) (hd : D sb = false) : D sa = false := by
  cases c : D sa with
  | false => rfl
  | true => exact absurd (h.c3 c) (by simp [hd])
theorem StkOp.openc (h : StkOp w W0 e s la lb sc sb sa sf n xs z simple val D σ W) (hd : D sc = false) : D sb = false := by
  cases c : D sb with
  | false => rfl
  | true => exact absurd (h.c2 c) (by simp [hd])
theorem StkOp.opena (h : StkOp w W0 e s la lb sc sb sa sf n xs z simple val D σ W) (hd : D la = false) : D sa = false := by
  refine h.openb (h.openc ?_)
  cases c : D sc with
  | false => rfl
  | true => exact absurd (h.c1 c).1 (by simp [hd])
theorem StkOp.openl (h : StkOp w W0 e s la lb sc sb sa sf n xs z simple val D σ W) (hd : D lb = false) : D sa = false := by
  refine h.openb (h.openc ?_)
  cases c : D sc with
  | false => rfl
  | true => exact absurd (h.c1 c).2 (by simp [hd])
/-- An operation whose value is known, by new memory alone; neither the call nor one behind it. -/
theorem StkOp.next (h : StkOp w W0 e s la lb sc sb sa sf n xs z simple val D σ W) {d : Nat} {v : Value} {W' : World} (hb : Below W.heap.size W W') (h0 : d ≠ sc ∧ d ≠ sb ∧ d ≠ sa ∧ d ≠ sf) (hv : v = val d) :
    StkOp w W0 e s la lb sc sb sa sf n xs z simple val (fun k => if k = d then true else D k) (fun k => if k = d then v else σ k) W' := by
  obtain ⟨h1, h2, h3, h4⟩ := h0
  refine ⟨?_, ?_, ?_, ?_, ?_, ?_, ?_, ?_⟩
  · simp only [if_neg (Ne.symm h3)]; exact fun c => bthen (h.pre c) hb
  · simp only [if_neg (Ne.symm h1)]
    intro c
    obtain ⟨q1, q2⟩ := h.c1 c
    exact ⟨by simp [q1], by simp [q2]⟩
  · simp only [if_neg (Ne.symm h2), if_neg (Ne.symm h1)]; exact h.c2
  · simp only [if_neg (Ne.symm h3), if_neg (Ne.symm h2)]; exact h.c3
  · simp only [if_neg (Ne.symm h3), if_neg (Ne.symm h2)]
    intro c c'
    obtain ⟨g, q1, q2⟩ := h.li c c'
    exact ⟨g, q1, fun j u hu => bkeep hb (q2 j u hu)⟩
  · simp only [if_neg (Ne.symm h3)]
    intro c
    obtain ⟨q1, q2⟩ := h.post c
    exact ⟨own_keep q1 hb, bthen q2 hb⟩
  · simp only [if_neg (Ne.symm h4), if_neg (Ne.symm h3)]; exact h.fin
  · intro d' hd
    by_cases c : d' = d
    · subst c; intro _; simp only [if_pos]; exact hv
    · simp only [if_neg c]; exact h.sv d' hd
/-- The call. -/
theorem StkOp.call (h : StkOp w W0 e s la lb sc sb sa sf n xs z simple val D σ W) {v : Value} {W' : World} (hd : D sc = false) (ha : D la = true) (hl : D lb = true) (hb : Below W.heap.size W W') (h0 : sc ≠ la ∧ sc ≠ lb ∧ sc ≠ sb ∧ sc ≠ sa ∧ sc ≠ sf) (hv : v = val sc) :
    StkOp w W0 e s la lb sc sb sa sf n xs z simple val (fun k => if k = sc then true else D k) (fun k => if k = sc then v else σ k) W' := by
  obtain ⟨h1, h1', h2, h3, h4⟩ := h0
  have db := h.openc hd
  have da := h.openb db
  refine ⟨?_, ?_, ?_, ?_, ?_, ?_, ?_, ?_⟩
  · intro _; exact bthen (h.pre da) hb
  · simp only [if_neg (Ne.symm h1), if_neg (Ne.symm h1')]; exact fun _ => ⟨ha, hl⟩
  · intro _; simp
  · simp only [if_neg (Ne.symm h3), if_neg (Ne.symm h2)]; exact h.c3
  · simp only [if_neg (Ne.symm h2), db]; intro _ c; cases c
  · simp only [if_neg (Ne.symm h3), da]; intro c; cases c
  · simp only [if_neg (Ne.symm h4), if_neg (Ne.symm h3)]; exact h.fin
  · intro d' hd
    by_cases c : d' = sc
    · subst c; intro _; simp only [if_pos]; exact hv
    · simp only [if_neg c]; exact h.sv d' hd
/-- The new element's array. -/
theorem StkOp.build (h : StkOp w W0 e s la lb sc sb sa sf n xs z simple val D σ W) {W' : World} {g : Nat} (hd : D sb = false) (hc : D sc = true) (hb : Below W.heap.size W W') (h0 : sb ≠ la ∧ sb ≠ lb ∧ sb ≠ sc ∧ sb ≠ sa ∧ sb ≠ sf) (hs : sb ∉ simple)
    (hz : ∀ j u, z[j]? = some u → W'.cell? ((⟨g, 0, none⟩ : Addr).add j) = some u) :
    StkOp w W0 e s la lb sc sb sa sf n xs z simple val (fun k => if k = sb then true else D k) (fun k => if k = sb then .slice (some ⟨g, 0, none⟩) 1 1 else σ k) W' := by
  obtain ⟨h1, h1', h2, h3, h4⟩ := h0
  have da := h.openb hd
  refine ⟨?_, ?_, ?_, ?_, ?_, ?_, ?_, ?_⟩
  · intro _; exact bthen (h.pre da) hb
  · simp only [if_neg (Ne.symm h1), if_neg (Ne.symm h1'), if_neg (Ne.symm h2)]; exact h.c1
  · intro _; simp only [if_neg (Ne.symm h2)]; exact hc
  · intro _; simp
  · intro _ _; exact ⟨g, by simp, hz⟩
  · simp only [if_neg (Ne.symm h3), da]; intro c; cases c
  · simp only [if_neg (Ne.symm h4), if_neg (Ne.symm h3)]; exact h.fin
  · intro d' hd'
    have c : d' ≠ sb := fun c => hs (c ▸ hd')
    simp only [if_neg c]; exact h.sv d' hd'
/-- The append. -/
theorem StkOp.app (h : StkOp w W0 e s la lb sc sb sa sf n xs z simple val D σ W) {v' : Value} {W' : World} (hd : D sa = false) (hb : D sb = true) (h0 : sa ≠ la ∧ sa ≠ lb ∧ sa ≠ sc ∧ sa ≠ sb ∧ sa ≠ sf) (hs : sa ∉ simple)
    (hown : W'.ownsRow w.heap.size e s v' (n + 1) (xs ++ z)) (hB : Below w.heap.size w W') :
    StkOp w W0 e s la lb sc sb sa sf n xs z simple val (fun k => if k = sa then true else D k) (fun k => if k = sa then v' else σ k) W' := by
  obtain ⟨h1, h1', h2, h3, h4⟩ := h0
  refine ⟨?_, ?_, ?_, ?_, ?_, ?_, ?_, ?_⟩
  · intro c; simp at c
  · simp only [if_neg (Ne.symm h1), if_neg (Ne.symm h1'), if_neg (Ne.symm h2)]; exact h.c1
  · simp only [if_neg (Ne.symm h3), if_neg (Ne.symm h2)]; exact h.c2
  · intro _; simp only [if_neg (Ne.symm h3)]; exact hb
  · intro c; simp at c
  · intro _; simp only [if_pos]; exact ⟨hown, hB⟩
  · simp only [if_neg (Ne.symm h4), if_pos]
    intro c
    exact absurd (h.fin c).1 (by simp [hd])
  · intro d' hd'
    have c : d' ≠ sa := fun c => hs (c ▸ hd')
    simp only [if_neg c]; exact h.sv d' hd'
/-- What is assigned. -/
theorem StkOp.put (h : StkOp w W0 e s la lb sc sb sa sf n xs z simple val D σ W) (ha : D sa = true) (h0 : sf ≠ la ∧ sf ≠ lb ∧ sf ≠ sc ∧ sf ≠ sb ∧ sf ≠ sa) (hs : sf ∉ simple) :
    StkOp w W0 e s la lb sc sb sa sf n xs z simple val (fun k => if k = sf then true else D k) (fun k => if k = sf then σ sa else σ k) W := by
  obtain ⟨h1, h1', h2, h3, h4⟩ := h0
  refine ⟨?_, ?_, ?_, ?_, ?_, ?_, ?_, ?_⟩
  · simp only [if_neg (Ne.symm h4), ha]; intro c; cases c
  · simp only [if_neg (Ne.symm h1), if_neg (Ne.symm h1'), if_neg (Ne.symm h2)]; exact h.c1
  · simp only [if_neg (Ne.symm h3), if_neg (Ne.symm h2)]; exact h.c2
  · simp only [if_neg (Ne.symm h4), if_neg (Ne.symm h3)]; exact h.c3
  · simp only [if_neg (Ne.symm h4), ha]; intro c; cases c
  · simp only [if_neg (Ne.symm h4)]; exact h.post
  · intro _; simp only [if_neg (Ne.symm h4), if_pos]; exact ⟨ha, trivial⟩
  · intro d' hd'
    have c : d' ≠ sf := fun c => hs (c ▸ hd')
    simp only [if_neg c]; exact h.sv d' hd'
end
end Go.Proofs.Ytckipfcjgmiacaa
