/-
  A region that draws its order, whatever its operations do: several stores, appends, copies, calls that write. Each operation is shown once, by what is known of the world and the slots for each set of operations that have come up so far; which have is told by the operations' own places in the region (a store has no slot).
  No Go text in sight.
-/
import Derived.Test.YtepfdhcdalkddaaDoorGRow
namespace Go.Proofs.YtepfdhcdalkddaaDoor
open Go Go.RowKit
set_option linter.unusedVariables false

abbrev PlanI := List (Option Nat × List Nat)
def updS (d : Option Nat) (v : Value) (σ : Nat → Value) : Nat → Value :=
  match d with
  | none => σ
  | some d => fun k => if k = d then v else σ k
def setD (i : Nat) (D : Nat → Bool) : Nat → Bool := fun k => if k = i then true else D k
/-- What the operation at place i is asked; needs: places. -/
def OpRunsI (P : Program) (ops : Array Oper) (Q : Exit → Act → World → Prop) (a : Act) (ds : List Nat) (Wd : (Nat → Bool) → (Nat → Value) → World → Prop) (o : Oper) (i : Nat) (d : Option Nat) (needs : List Nat) : Prop :=
  ∀ (D : Nat → Bool) (σ : Nat → Value) (W : World) (K : Act → World → Prop), Wd D σ W → D i = false → (∀ k ∈ needs, D k = true) →
    (∀ (v : Value) (W' : World), Wd (setD i D) (updS d v σ) W' → K ((fill a ds σ).put o.dst v) W') →
    if Region.wanted o (yielded ops (fill a ds σ).tmps) = true then Oper.wp P o (fill a ds σ) W K Q else K ((fill a ds σ).put o.dst undef) W
def planOkI (md : Region.Mode) (ops : Array Oper) (plan : PlanI) : Bool :=
  decide (plan.length ≤ ops.size) && decide (plan.filterMap (·.1)).Nodup && backB md ops &&
  (decide (plan.length = ops.size) || (Region.sinkB md ops plan.length && Region.chainB md ops plan.length)) &&
  Region.seqB md ops (ops.size - plan.length) plan.length (doneArr plan.length (ops.size - plan.length)) &&
  (List.range plan.length).all fun i => match plan[i]?, ops[i]? with
    | some (d, needs), some o => decide (o.dst = d) && needs.all fun k => o.after.any fun e => Region.binds md e && decide (e.on = k) && decide (k < i)
    | _, _ => false
theorem fill_upd {a : Act} {ds : List Nat} (hn : ds.Nodup) {d : Option Nat} (hd : ∀ k, d = some k → k ∈ ds) (σ : Nat → Value) (v : Value) : (fill a ds σ).put d v = fill a ds (updS d v σ) := by
  cases d with
  | none => rfl
  | some d => exact fill_put hn (hd d rfl)
theorem wp_region_ways {P : Program} {id : Nat} {Q : Exit → Act → World → Prop} {a : Act} {w : World} {l : List Oper} (plan : PlanI) (Wd : (Nat → Bool) → (Nat → Value) → World → Prop)
    (hm : P.follows .mixedOrders = true) (hB : planOkI .any l.toArray plan = true)
    (hw0 : ∀ σ, Wd (fun _ => false) σ { w with drawn := w.drawn + 1 })
    (hops : ∀ (i : Nat) (o : Oper) (d : Option Nat) (needs : List Nat), l[i]? = some o → plan[i]? = some (d, needs) → OpRunsI P l.toArray Q a (plan.filterMap (·.1)) Wd o i d needs)
    (hend : ∀ (D : Nat → Bool) (σ : Nat → Value) (W : World), Wd D σ W → (∀ i, i < plan.length → D i = true) → wpList P l.toArray Q (l.drop plan.length) (fill a (plan.filterMap (·.1)) σ) W) :
    (Code.region id l.toArray true).wp P Q a w := by
  simp only [planOkI, Bool.and_eq_true, decide_eq_true_eq] at hB
  obtain ⟨⟨⟨⟨⟨hlen, hnd⟩, hbk⟩, hT⟩, hseq⟩, hpl⟩ := hB
  have hT' : plan.length = l.toArray.size ∨ (Region.sinkB .any l.toArray plan.length = true ∧ Region.chainB .any l.toArray plan.length = true) := by
    simpa only [Bool.or_eq_true, decide_eq_true_eq, Bool.and_eq_true] using hT
  have plan_at : ∀ i, i < plan.length → ∃ d needs o, plan[i]? = some (d, needs) ∧ l[i]? = some o ∧ o.dst = d ∧
      ∀ k ∈ needs, ∃ e ∈ o.after, Region.binds .any e = true ∧ e.on = k ∧ k < i := by
    intro i hi
    have h1 := List.all_eq_true.1 hpl i (List.mem_range.2 hi)
    cases hp : plan[i]? with
    | none => rw [hp] at h1; simp at h1
    | some q =>
      obtain ⟨d, needs⟩ := q
      cases ho : l.toArray[i]? with
      | none => rw [hp, ho] at h1; simp at h1
      | some o =>
        rw [hp, ho] at h1
        simp only [Bool.and_eq_true, decide_eq_true_eq, List.all_eq_true] at h1
        refine ⟨d, needs, o, rfl, by simpa using ho, h1.1, fun k hk => ?_⟩
        obtain ⟨e, he, hb⟩ := Array.any_eq_true'.1 (h1.2 k hk)
        simp only [Bool.and_eq_true, decide_eq_true_eq] at hb
        exact ⟨e, he, hb.1.1, hb.1.2, hb.2⟩
  have mem_ds : ∀ i d needs, plan[i]? = some (d, needs) → ∀ k, d = some k → k ∈ plan.filterMap (·.1) := fun i d needs h k hk =>
    List.mem_filterMap.2 ⟨(d, needs), List.mem_of_getElem? h, hk⟩
  let J : Array Bool → Act → World → Prop := fun listed a' W => ∃ (D : Nat → Bool) (σ : Nat → Value), a' = fill a (plan.filterMap (·.1)) σ ∧ Wd D σ W ∧
    ∀ i, i < plan.length → D i = listed.getD i false
  have step : ∀ listed a' W i, HeadInv .any l.toArray plan.length listed → J listed a' W → i ∈ Region.ready .any l.toArray listed → i < plan.length → wpOp P l.toArray Q i (J (listed.setIfInBounds i true)) a' W := by
    rintro listed a' W i inv ⟨D, σ, rfl, hW, hD⟩ hi hin
    obtain ⟨d, needs, o, hp, ho, hd, hneeds⟩ := plan_at i hin
    obtain ⟨hun, o', ho', hall⟩ := mem_ready.1 hi
    have hoa : l.toArray[i]? = some o := by simpa using ho
    have : o' = o := Option.some.inj (ho'.symm.trans hoa)
    subst this
    have hui : listed.getD i false = false := getD_both hun
    have hop := hops i o' d needs ho hp D σ W (J (listed.setIfInBounds i true)) hW (by rw [hD i hin]; exact hui) ?_ ?_
    · unfold wpOp
      simp only [hoa]
      split
      · rename_i hw; rw [if_pos hw] at hop; exact Or.inl hop
      · rename_i hw; rw [if_neg hw] at hop; exact hop
    · intro k hk
      obtain ⟨e, he, hb, hon, hlt⟩ := hneeds k hk
      have hle := hall e he hb
      rw [hon] at hle
      rw [hD k (by omega)]; exact hle
    · intro v W' hv
      refine ⟨_, _, by rw [hd]; exact fill_upd hnd (mem_ds i d needs hp) σ v, hv, fun j hj => ?_⟩
      by_cases hji : j = i
      · subst hji
        unfold setD
        rw [if_pos rfl]
        have := inv.size
        simp; omega
      · unfold setD
        rw [if_neg hji, getD_set_ne false (Ne.symm hji)]
        exact hD j hj
  have hdone : ∀ i, i < plan.length → (doneArr plan.length (l.toArray.size - plan.length)).getD i false = true := by
    intro i hi
    have h1 : i < (doneArr plan.length (l.toArray.size - plan.length)).size := by simp [doneArr]; omega
    simp only [Array.getD, h1, dite_true]
    simp only [doneArr]
    show (List.replicate plan.length true ++ List.replicate (l.toArray.size - plan.length) false)[i]'(by simp; omega) = true
    rw [List.getElem_append_left (by simpa using hi), List.getElem_replicate]
  have fin : ∀ a' W, J (doneArr plan.length (l.toArray.size - plan.length)) a' W → wpAny P .any l.toArray Q (l.toArray.size - plan.length) (doneArr plan.length (l.toArray.size - plan.length)) a' W := by
    rintro a' W ⟨D, σ, rfl, hW, hD⟩
    have hl2 : (l.drop plan.length).length = l.toArray.size - plan.length := by simp
    have := wpAny_of_seq (md := .any) (Q' := Q) (P := P) (l.drop plan.length) plan.length (doneArr plan.length (l.toArray.size - plan.length)) (fill a (plan.filterMap (·.1)) σ) W (fun j => by simp [List.getElem?_drop]) (by rw [hl2]; exact hseq)
      (hend D σ W hW (fun i hi => by rw [hD i hi]; exact hdone i hi))
    rwa [hl2] at this
  refine wp_region_any hm ?_
  have inv0 : HeadInv .any l.toArray plan.length (Array.replicate l.toArray.size false) :=
    ⟨by simp, fun j oj _ hl => (by rw [getD_replicate_false] at hl; cases hl), fun t _ ht => getD_in (by simpa using ht) (getD_replicate_false _ _)⟩
  have hc0 : ∀ k, cnt (Array.replicate l.toArray.size false) k = k := by
    intro k
    induction k with
    | zero => rfl
    | succ k ih => rw [cnt, ih, getD_replicate_false]; simp
  have key := loose_go (P := P) (Q := Q) (md := .any) (J := J) hlen hT' hbk step fin plan.length (Array.replicate l.toArray.size false) a { w with drawn := w.drawn + 1 } (hc0 _) inv0
    ⟨fun _ => false, fun d => a.tmps.getD d undef, fill_self.symm, hw0 _, fun i _ => by rw [getD_replicate_false]⟩
  rw [show plan.length + (l.toArray.size - plan.length) = l.toArray.size by omega] at key
  exact key
/-- All operations of the head, one by one, from a place on. -/
def OpsRunI (P : Program) (ops : Array Oper) (Q : Exit → Act → World → Prop) (a : Act) (ds : List Nat) (Wd : (Nat → Bool) → (Nat → Value) → World → Prop) : Nat → List Oper → PlanI → Prop
  | _, _, [] => True
  | _, [], _ :: _ => True
  | n, o :: os, (d, needs) :: ps => OpRunsI P ops Q a ds Wd o n d needs ∧ OpsRunI P ops Q a ds Wd (n + 1) os ps
theorem OpsRunI.at {P : Program} {ops : Array Oper} {Q : Exit → Act → World → Prop} {a : Act} {ds : List Nat} {Wd : (Nat → Bool) → (Nat → Value) → World → Prop} : ∀ {n : Nat} {os : List Oper} {ps : PlanI}, OpsRunI P ops Q a ds Wd n os ps →
    ∀ (i : Nat) (o : Oper) (d : Option Nat) (needs : List Nat), os[i]? = some o → ps[i]? = some (d, needs) → OpRunsI P ops Q a ds Wd o (n + i) d needs
  | n, os, [], _, i, o, d, needs, _, h => by simp at h
  | n, [], _ :: _, _, i, o, d, needs, h, _ => by simp at h
  | n, o' :: os, (d', n') :: ps, h, 0, o, d, needs, h1, h2 => by
    simp at h1 h2
    obtain ⟨rfl, rfl⟩ := h2
    subst h1
    exact h.1
  | n, o' :: os, (d', n') :: ps, h, i + 1, o, d, needs, h1, h2 => by
    have := OpsRunI.at h.2 i o d needs (by simpa using h1) (by simpa using h2)
    rwa [show n + 1 + i = n + (i + 1) by omega] at this
section
variable {P : Program} {ops : Array Oper} {Q : Exit → Act → World → Prop} {a : Act} {ds : List Nat} {Wd : (Nat → Bool) → (Nat → Value) → World → Prop} {o : Oper} {os : List Oper} {n : Nat} {d : Option Nat} {needs : List Nat} {ps : PlanI}
theorem opsi_cons (h : OpRunsI P ops Q a ds Wd o n d needs) (hs : OpsRunI P ops Q a ds Wd (n + 1) os ps) : OpsRunI P ops Q a ds Wd n (o :: os) ((d, needs) :: ps) := ⟨h, hs⟩
theorem opsi_nil : OpsRunI P ops Q a ds Wd n os [] := by cases os <;> exact trivial
end
theorem OpRunsI.any {P : Program} {ops : Array Oper} {Q : Exit → Act → World → Prop} {a : Act} {ds : List Nat} {Wd : (Nat → Bool) → (Nat → Value) → World → Prop} {o : Oper} {i : Nat} {d : Option Nat} {needs : List Nat}
    (h : ∀ Q' : Exit → Act → World → Prop, OpRunsI P ops Q' a ds Wd o i d needs) : OpRunsI P ops Q a ds Wd o i d needs := h Q
/-- The law, its operations handed over one by one. -/
theorem wp_ways {P : Program} {id : Nat} {Q : Exit → Act → World → Prop} {a : Act} {w : World} {l : List Oper} (plan : PlanI) (Wd : (Nat → Bool) → (Nat → Value) → World → Prop)
    (hm : P.follows .mixedOrders = true) (hB : planOkI .any l.toArray plan = true)
    (hw0 : ∀ σ, Wd (fun _ => false) σ { w with drawn := w.drawn + 1 })
    (hops : OpsRunI P l.toArray Q a (plan.filterMap (·.1)) Wd 0 l plan)
    (hend : ∀ (D : Nat → Bool) (σ : Nat → Value) (W : World), Wd D σ W → (∀ i, i < plan.length → D i = true) → wpList P l.toArray Q (l.drop plan.length) (fill a (plan.filterMap (·.1)) σ) W) :
    (Code.region id l.toArray true).wp P Q a w :=
  wp_region_ways plan Wd hm hB hw0 (fun i o d needs h1 h2 => by have := hops.at i o d needs h1 h2; rwa [Nat.zero_add] at this) hend
end Go.Proofs.YtepfdhcdalkddaaDoor
