/-
  What the document's Lift and Through of layer 5 come to: contracts for the walk.
-/
import Derived.Test.YtlgfnlkblehlbaaPolyRef
import Derived.Test.YtlgfnlkblehlbaaPolyAdd
import Derived.Test.YtlgfnlkblehlbaaPolyMul
import Derived.Test.YtlgfnlkblehlbaaGRef
import Derived.Test.YtlgfnlkblehlbaaGRow
namespace Go.Proofs.Ytlgfnlkblehlbaa
open Go.RowKit Go.Sort Go.BigFrame
set_option linter.unusedVariables false

def liftL (zs : List Int) : List F2 := zs.map fun z => lift (toF z)
theorem liftL_len (zs : List Int) : (liftL zs).length = zs.length := by simp [liftL]
theorem liftL_snoc (zs : List Int) (k : Nat) (h : k < zs.length) : encL ((liftL zs).take k) ++ [(enc (lift (toF (zs.getD k 0))).a, enc (lift (toF (zs.getD k 0))).b)] = encL ((liftL zs).take (k + 1)) := by
  rw [List.take_succ_eq_append_getElem (by rw [liftL_len]; exact h)]
  unfold encL
  rw [List.map_append]
  congr 1
  simp [liftL, List.getD, h]
def LiftUp (w : World) (zs : List Int) (i v : Value) (W : World) : Prop := ∃ k : Nat, k ≤ zs.length ∧ i = .int .i64 k ∧ MadeQ w W v (encL ((liftL zs).take k))

/-- Neg, and X less a pair as a slice. -/
theorem lin_poly (x : F2) (i : Nat) : cq [-x, 1] i = lin x i := by
  unfold cq lin
  match i with
  | 0 => rfl
  | 1 => rfl
  | i + 2 => rfl
theorem mul_lin {n : Nat} {c : Nat → F2} (h : Upto n c) (x : F2) {m : Nat} {d : Nat → F2} (hd : Upto m d) (he : ∀ i, cv c (lin x) i = d i) : mulP (pl n c) [-x, 1] = pl m d :=
  pl_same (mulP_upto _ _) hd (fun i => (cv_congr (cq_pl h) (lin_poly x) i).trans (he i))
theorem add_scale {n m : Nat} {c d e : Nat → F2} (hc : Upto n c) (hd : Upto m d) {k : Nat} (he : Upto k e) (x : F2) (h : ∀ i, c i + d i * x = e i) : addP (pl n c) (pl (pl m d).length (fun i => cq (pl m d) i * x)) = pl k e := by
  have hs : Upto (pl m d).length (fun i => cq (pl m d) i * x) := fun i hi => by dsimp only; rw [cq_upto (pl m d) i hi, F2.zero_mul]
  refine pl_same (addP_upto _ _ (Nat.le_max_left _ _) (Nat.le_max_right _ _)) he fun i => ?_
  rw [cq_pl hc, cq_pl hs, cq_pl hd]
  exact h i

def NotAt (g : Nat) (v : Value) : Prop := ∀ a n c, v = .slice (some a) n c → 0 < n → a.block ≠ g
theorem Fresh.notAt {B g : Nat} {v : Value} (h : Fresh B v) (hg : g < B) : NotAt g v := fun a n c e _ => by have := h a n c e; omega
theorem IsP.notAt {W : World} {v : Value} {l : List F2} {g : Nat} (h : IsP W v l) (hg : W.heap.size ≤ g) : NotAt g v := by
  intro a n c e hn
  rcases h with ⟨rfl, _⟩ | ⟨a', c', rfl, _⟩ | ⟨b, off, c', rfl, h1, h2, h3⟩
  · cases e
  · cases e; omega
  · cases e
    have := World.block_lt_of_cell? W _ (h3 0 hn).1
    simp at this ⊢; omega
theorem IsP.off {W : World} {v : Value} {l : List F2} {g : Nat} (h : IsP W v l) (hf : NotAt g v) (o : Nat) (u : Value) : IsP (W.setCell ⟨g, o, none⟩ u) v l := by
  rcases h with ⟨rfl, h⟩ | ⟨a, c, rfl, h⟩ | ⟨b, off, c, rfl, h1, h2, h3⟩
  · exact Or.inl ⟨rfl, h⟩
  · exact Or.inr (Or.inl ⟨a, c, rfl, h⟩)
  · exact Or.inr (Or.inr ⟨b, off, c, rfl, h1, h2, fun i hi => by
      have hb := hf _ _ _ rfl (by omega)
      exact ⟨(World.cell?_setCell_far _ _ _ _ (Ne.symm hb)).trans (h3 i hi).1, (World.cell?_setCell_far _ _ _ _ (Ne.symm hb)).trans (h3 i hi).2⟩⟩)
theorem isP_one {W : World} {g : Nat} {a : F2} (h0 : W.cell? ⟨g, 0, none⟩ = some (.int .u64 (enc a.a))) (h1 : W.cell? ⟨g, 1, none⟩ = some (.int .u64 (enc a.b))) : IsP W (.slice (some ⟨g, 0, none⟩) 1 1) [a] :=
  Or.inr (Or.inr ⟨g, 0, 1, rfl, by simp [encL], by unfold maxLen; omega, fun i hi => by
    have : i = 0 := by simp [encL] at hi; omega
    subst this
    exact ⟨h0, h1⟩⟩)
theorem isP_two {W : World} {g : Nat} {a b : F2} (h0 : W.cell? ⟨g, 0, none⟩ = some (.int .u64 (enc a.a))) (h1 : W.cell? ⟨g, 1, none⟩ = some (.int .u64 (enc a.b))) (h2 : W.cell? ⟨g, 2, none⟩ = some (.int .u64 (enc b.a))) (h3 : W.cell? ⟨g, 3, none⟩ = some (.int .u64 (enc b.b))) :
    IsP W (.slice (some ⟨g, 0, none⟩) 2 2) [a, b] :=
  Or.inr (Or.inr ⟨g, 0, 2, rfl, by simp [encL], by unfold maxLen; omega, fun i hi => by
    have : i = 0 ∨ i = 1 := by simp [encL] at hi; omega
    rcases this with rfl | rfl
    · exact ⟨h0, h1⟩
    · exact ⟨h2, h3⟩⟩)
theorem pl_one2 : pl 1 one2 = [1] := by
  have h : tn one2 1 = 1 := tn_is one2_upto one2_upto (by show one2 0 ≠ 0; exact F2.one_ne_zero)
  unfold pl
  rw [h]; rfl
theorem pp_skip (i : Nat) (x : Nat → F2) : pl (pn i (i + 1)) (pp i x (i + 1)) = pl (pn i i) (pp i x i) := pl_same (pp_upto _ _ _) (pp_upto _ _ _) (fun j => by show (if i = i then pp i x i else _) j = _; rw [if_pos rfl])
theorem ps_skip (i : Nat) (x : Nat → F2) (y : F2) : ps i x y (i + 1) = ps i x y i := by show (if i = i then _ else _) = _; rw [if_pos rfl]
theorem pp_mul (i k : Nat) (x : Nat → F2) (h : k ≠ i) : mulP (pl (pn i k) (pp i x k)) [-(x k), 1] = pl (pn i (k + 1)) (pp i x (k + 1)) := mul_lin (pp_upto _ _ _) (x k) (pp_upto _ _ _) (fun j => by show _ = (if k = i then _ else _ : Nat → F2) j; rw [if_neg h])
theorem ps_mul (i k : Nat) (x : Nat → F2) (y : F2) (h : k ≠ i) : ps i x y k * (y - x k) = ps i x y (k + 1) := by show _ = (if k = i then _ else _); rw [if_neg h]
theorem lgr_zero (n : Nat) (x y : Nat → F2) : pl n (lgr n x y 0) = [] := pl_nil fun _ => rfl
theorem lgr_step (n : Nat) (x y : Nat → F2) (i : Nat) (hi : i < n) (w : F2) (hw : qinv (ps i x (x i) n) * y i = w) :
    addP (pl n (lgr n x y i)) (pl (pl (pn i n) (pp i x n)).length (fun j => cq (pl (pn i n) (pp i x n)) j * w)) = pl n (lgr n x y (i + 1)) :=
  add_scale (lgr_upto n x y i (by omega)) (pp_upto _ _ _) (lgr_upto n x y (i + 1) (by omega)) w (fun j => by rw [← hw]; rfl)

/-- Whether there is one through points; and it. -/
def thrB (l m : List F2) : Bool := decide (l.length = m.length) && (List.range l.length).all fun i => decide (ps i (cq l) (cq l i) l.length ≠ 0)
def thrL (l m : List F2) : List F2 := if thrB l m = true then pl l.length (lgr l.length (cq l) (cq m) l.length) else []
def RetT (l m : List F2) (w : World) (e : Ending) (w' : World) : Prop := ∃ v, e = .returned (.tuple #[v, .bool (thrB l m)]) ∧ Below w.heap.size w w' ∧ IsP w' v (thrL l m)
theorem RetT.no {l m : List F2} {w w' : World} {e : Ending} (h : thrB l m = false) (he : e = .returned (.tuple #[.slice none 0 0, .bool false])) (hb : Below w.heap.size w w') : RetT l m w e w' :=
  ⟨.slice none 0 0, by rw [h]; exact he, hb, by unfold thrL; rw [h]; exact IsP.nil _⟩
theorem RetT.yes {l m r : List F2} {w w' : World} {e : Ending} {v : Value} (h : thrB l m = true) (h2 : thrL l m = r) (he : e = .returned (.tuple #[v, .bool true])) (hb : Below w.heap.size w w') (hp : IsP w' v r) : RetT l m w e w' := by
  subst h2
  exact ⟨v, by rw [h]; exact he, hb, hp⟩
theorem thrB_len {l m : List F2} (h : l.length ≠ m.length) : thrB l m = false := by unfold thrB; simp [h]
theorem thrB_two {l m : List F2} {i : Nat} (hi : i < l.length) (h : ps i (cq l) (cq l i) l.length = 0) : thrB l m = false := by
  unfold thrB
  rw [Bool.and_eq_false_iff]
  right
  rw [List.all_eq_false]
  exact ⟨i, List.mem_range.2 hi, by simp [h]⟩
theorem thrB_yes {l m : List F2} (h : l.length = m.length) (h2 : ∀ i, i < l.length → ps i (cq l) (cq l i) l.length ≠ 0) : thrB l m = true := by
  unfold thrB
  rw [Bool.and_eq_true, List.all_eq_true]
  exact ⟨by simpa using h, fun i hi => by simpa using h2 i (List.mem_range.1 hi)⟩
end Go.Proofs.Ytlgfnlkblehlbaa
