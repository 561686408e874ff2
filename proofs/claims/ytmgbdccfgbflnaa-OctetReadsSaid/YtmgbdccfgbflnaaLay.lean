/-
  A region that draws its order: each operation is shown once, by what is known of the world and the slots for each set of operations that have come up so far (a predicate Wd of: which slots are done, what they hold, the world). Operations may write memory as they like: appends, stores, copies.
  No Go text in sight.
-/
import Derived.Test.YtmgbdccfgbflnaaLoose
namespace Go.Proofs.Ytmgbdccfgbflnaa
open Go Go.RowKit
set_option linter.unusedVariables false

/-- What one operation is asked. -/
def OpRunsW (P : Program) (ops : Array Oper) (Q : Exit → Act → World → Prop) (a : Act) (ds : List Nat) (Wd : (Nat → Bool) → (Nat → Value) → World → Prop) (o : Oper) (d : Nat) (needs : List Nat) : Prop :=
  ∀ (D : Nat → Bool) (σ : Nat → Value) (W : World) (K : Act → World → Prop), Wd D σ W → D d = false → (∀ k ∈ needs, D k = true) →
    (∀ (v : Value) (W' : World), Wd (fun k => if k = d then true else D k) (fun k => if k = d then v else σ k) W' → K ((fill a ds σ).put o.dst v) W') →
    if Region.wanted o (yielded ops (fill a ds σ).tmps) = true then Oper.wp P o (fill a ds σ) W K Q else K ((fill a ds σ).put o.dst undef) W

theorem wp_region_lay {P : Program} {id : Nat} {Q : Exit → Act → World → Prop} {a : Act} {w : World} {l : List Oper} (plan : List (Nat × List Nat)) (Wd : (Nat → Bool) → (Nat → Value) → World → Prop)
    (hm : P.follows .mixedOrders = true) (hB : planOk .any l.toArray plan = true)
    (hw0 : ∀ σ, Wd (fun _ => false) σ { w with drawn := w.drawn + 1 })
    (hops : ∀ (i : Nat) (o : Oper) (d : Nat) (needs : List Nat), l[i]? = some o → plan[i]? = some (d, needs) → OpRunsW P l.toArray Q a (plan.map (·.1)) Wd o d needs)
    (hend : ∀ (D : Nat → Bool) (σ : Nat → Value) (W : World), Wd D σ W → (∀ d ∈ plan.map (·.1), D d = true) → wpList P l.toArray Q (l.drop plan.length) (fill a (plan.map (·.1)) σ) W) :
    (Code.region id l.toArray true).wp P Q a w := by
  simp only [planOk, Bool.and_eq_true, decide_eq_true_eq] at hB
  obtain ⟨⟨⟨⟨⟨hlen, hnd⟩, hbk⟩, hT⟩, hseq⟩, hpl⟩ := hB
  have hT' : plan.length = l.toArray.size ∨ (Region.sinkB .any l.toArray plan.length = true ∧ Region.chainB .any l.toArray plan.length = true) := by
    simpa only [Bool.or_eq_true, decide_eq_true_eq, Bool.and_eq_true] using hT
  have plan_at : ∀ i, i < plan.length → ∃ d needs o, plan[i]? = some (d, needs) ∧ l[i]? = some o ∧ o.dst = some d ∧
      ∀ k ∈ needs, ∃ e ∈ o.after, Region.binds .any e = true ∧ e.on < i ∧ ((l.toArray[e.on]?).bind (·.dst)) = some k := by
    intro i hi
    have h1 := List.all_eq_true.1 hpl i (List.mem_range.2 hi)
    cases hp : plan[i]? with
    | none => rw [hp] at h1; simp at h1
    | some q =>
      obtain ⟨d, needs⟩ := q
      cases ho : l.toArray[i]? with
      | none => rw [hp, ho] at h1; simp at h1
      | some o =>
        rw [hp, ho] at h1
        simp only [Bool.and_eq_true, decide_eq_true_eq, List.all_eq_true] at h1
        refine ⟨d, needs, o, rfl, by simpa using ho, h1.1, fun k hk => ?_⟩
        obtain ⟨e, he, hb⟩ := Array.any_eq_true'.1 (h1.2 k hk)
        simp only [Bool.and_eq_true, decide_eq_true_eq, beq_iff_eq] at hb
        exact ⟨e, he, hb.1.1, hb.1.2, hb.2⟩
  have plan_inj : ∀ (i j d : Nat) (ni nj : List Nat), plan[i]? = some (d, ni) → plan[j]? = some (d, nj) → i = j := by
    intro i j d ni nj hi hj
    have h1 : (plan.map (·.1))[i]? = some d := by simp [hi]
    have h2 : (plan.map (·.1))[j]? = some d := by simp [hj]
    have hil : i < (plan.map (·.1)).length := by
      rcases Nat.lt_or_ge i (plan.map (·.1)).length with h | h
      · exact h
      · rw [List.getElem?_eq_none h] at h1; cases h1
    exact (List.getElem?_inj hil hnd).1 (h1.trans h2.symm)
  have mem_ds : ∀ i d needs, plan[i]? = some (d, needs) → d ∈ plan.map (·.1) := fun i d needs h => List.mem_map.2 ⟨(d, needs), List.mem_of_getElem? h, rfl⟩
  let J : Array Bool → Act → World → Prop := fun listed a' W => ∃ (D : Nat → Bool) (σ : Nat → Value), a' = fill a (plan.map (·.1)) σ ∧ Wd D σ W ∧
    ∀ (i d : Nat) (needs : List Nat), plan[i]? = some (d, needs) → D d = listed.getD i false
  have step : ∀ listed a' W i, HeadInv .any l.toArray plan.length listed → J listed a' W → i ∈ Region.ready .any l.toArray listed → i < plan.length → wpOp P l.toArray Q i (J (listed.setIfInBounds i true)) a' W := by
    rintro listed a' W i inv ⟨D, σ, rfl, hW, hD⟩ hi hin
    obtain ⟨d, needs, o, hp, ho, hd, hneeds⟩ := plan_at i hin
    obtain ⟨hun, o', ho', hall⟩ := mem_ready.1 hi
    have hoa : l.toArray[i]? = some o := by simpa using ho
    have : o' = o := Option.some.inj (ho'.symm.trans hoa)
    subst this
    have hui : listed.getD i false = false := getD_both hun
    have hop := hops i o' d needs ho hp D σ W (J (listed.setIfInBounds i true)) hW (by rw [hD i d needs hp]; exact hui) ?_ ?_
    · unfold wpOp
      simp only [hoa]
      split
      · rename_i hw; rw [if_pos hw] at hop; exact Or.inl hop
      · rename_i hw; rw [if_neg hw] at hop; exact hop
    · intro k hk
      obtain ⟨e, he, hb, hlt, hdst⟩ := hneeds k hk
      have hle := hall e he hb
      obtain ⟨d2, n2, o2, hp2, ho2, hd2, _⟩ := plan_at e.on (by omega)
      have : d2 = k := by
        have h3 : l.toArray[e.on]? = some o2 := by simpa using ho2
        rw [h3] at hdst
        simp only [Option.bind_some] at hdst
        exact Option.some.inj (hd2.symm.trans hdst)
      subst this
      rw [hD e.on d2 n2 hp2]; exact hle
    · intro v W' hv
      refine ⟨_, _, by rw [hd, fill_put hnd (mem_ds i d needs hp)], hv, fun j e nj hj => ?_⟩
      by_cases hji : j = i
      · subst hji
        have : (e, nj) = (d, needs) := Option.some.inj (hj.symm.trans hp)
        cases this
        rw [if_pos rfl]
        have := inv.size
        simp; omega
      · have hne : e ≠ d := fun h => hji (by subst h; exact plan_inj _ _ _ _ _ hj hp)
        rw [if_neg hne, getD_set_ne false (Ne.symm hji)]
        exact hD j e nj hj
  have hdone : ∀ i, i < plan.length → (doneArr plan.length (l.toArray.size - plan.length)).getD i false = true := by
    intro i hi
    have h1 : i < (doneArr plan.length (l.toArray.size - plan.length)).size := by simp [doneArr]; omega
    simp only [Array.getD, h1, dite_true]
    simp only [doneArr]
    show (List.replicate plan.length true ++ List.replicate (l.toArray.size - plan.length) false)[i]'(by simp; omega) = true
    rw [List.getElem_append_left (by simpa using hi), List.getElem_replicate]
  have fin : ∀ a' W, J (doneArr plan.length (l.toArray.size - plan.length)) a' W → wpAny P .any l.toArray Q (l.toArray.size - plan.length) (doneArr plan.length (l.toArray.size - plan.length)) a' W := by
    rintro a' W ⟨D, σ, rfl, hW, hD⟩
    have hl2 : (l.drop plan.length).length = l.toArray.size - plan.length := by simp
    have := wpAny_of_seq (md := .any) (Q' := Q) (P := P) (l.drop plan.length) plan.length (doneArr plan.length (l.toArray.size - plan.length)) (fill a (plan.map (·.1)) σ) W (fun j => by simp [List.getElem?_drop]) (by rw [hl2]; exact hseq)
      (hend D σ W hW (fun d hd => by
        obtain ⟨q, hq, rfl⟩ := List.mem_map.1 hd
        obtain ⟨i, hi, hqi⟩ := List.getElem_of_mem hq
        rw [hD i q.1 q.2 (by rw [List.getElem?_eq_getElem hi, hqi])]
        exact hdone i hi))
    rwa [hl2] at this
  refine wp_region_any hm ?_
  have inv0 : HeadInv .any l.toArray plan.length (Array.replicate l.toArray.size false) :=
    ⟨by simp, fun j oj _ hl => (by rw [getD_replicate_false] at hl; cases hl), fun t _ ht => getD_in (by simpa using ht) (getD_replicate_false _ _)⟩
  have hc0 : ∀ k, cnt (Array.replicate l.toArray.size false) k = k := by
    intro k
    induction k with
    | zero => rfl
    | succ k ih => rw [cnt, ih, getD_replicate_false]; simp
  have key := loose_go (P := P) (Q := Q) (md := .any) (J := J) hlen hT' hbk step fin plan.length (Array.replicate l.toArray.size false) a { w with drawn := w.drawn + 1 } (hc0 _) inv0
    ⟨fun _ => false, fun d => a.tmps.getD d undef, fill_self.symm, hw0 _, fun i d needs _ => by rw [getD_replicate_false]⟩
  rw [show plan.length + (l.toArray.size - plan.length) = l.toArray.size by omega] at key
  exact key

/-- All operations of the head, one by one. -/
def OpsRunW (P : Program) (ops : Array Oper) (Q : Exit → Act → World → Prop) (a : Act) (ds : List Nat) (Wd : (Nat → Bool) → (Nat → Value) → World → Prop) : List Oper → List (Nat × List Nat) → Prop
  | _, [] => True
  | [], _ :: _ => True
  | o :: os, (d, needs) :: ps => OpRunsW P ops Q a ds Wd o d needs ∧ OpsRunW P ops Q a ds Wd os ps
theorem OpsRunW.at {P : Program} {ops : Array Oper} {Q : Exit → Act → World → Prop} {a : Act} {ds : List Nat} {Wd : (Nat → Bool) → (Nat → Value) → World → Prop} : ∀ {os : List Oper} {ps : List (Nat × List Nat)}, OpsRunW P ops Q a ds Wd os ps →
    ∀ (i : Nat) (o : Oper) (d : Nat) (needs : List Nat), os[i]? = some o → ps[i]? = some (d, needs) → OpRunsW P ops Q a ds Wd o d needs
  | os, [], _, i, o, d, needs, _, h => by simp at h
  | [], _ :: _, _, i, o, d, needs, h, _ => by simp at h
  | o' :: os, (d', n') :: ps, h, 0, o, d, needs, h1, h2 => by
    simp at h1 h2
    obtain ⟨rfl, rfl⟩ := h2
    subst h1
    exact h.1
  | o' :: os, (d', n') :: ps, h, i + 1, o, d, needs, h1, h2 => OpsRunW.at h.2 i o d needs (by simpa using h1) (by simpa using h2)
theorem opsw_cons {P : Program} {ops : Array Oper} {Q : Exit → Act → World → Prop} {a : Act} {ds : List Nat} {Wd : (Nat → Bool) → (Nat → Value) → World → Prop} {o : Oper} {os : List Oper} {d : Nat} {needs : List Nat} {ps : List (Nat × List Nat)}
    (h : OpRunsW P ops Q a ds Wd o d needs) (hs : OpsRunW P ops Q a ds Wd os ps) : OpsRunW P ops Q a ds Wd (o :: os) ((d, needs) :: ps) := ⟨h, hs⟩
theorem opsw_nil {P : Program} {ops : Array Oper} {Q : Exit → Act → World → Prop} {a : Act} {ds : List Nat} {Wd : (Nat → Bool) → (Nat → Value) → World → Prop} {os : List Oper} : OpsRunW P ops Q a ds Wd os [] := by
  cases os <;> exact trivial
theorem OpRunsW.any {P : Program} {ops : Array Oper} {Q : Exit → Act → World → Prop} {a : Act} {ds : List Nat} {Wd : (Nat → Bool) → (Nat → Value) → World → Prop} {o : Oper} {d : Nat} {needs : List Nat}
    (h : ∀ Q' : Exit → Act → World → Prop, OpRunsW P ops Q' a ds Wd o d needs) : OpRunsW P ops Q a ds Wd o d needs := h Q
/-- The law, its operations handed over one by one. -/
theorem wp_lay {P : Program} {id : Nat} {Q : Exit → Act → World → Prop} {a : Act} {w : World} {l : List Oper} (plan : List (Nat × List Nat)) (Wd : (Nat → Bool) → (Nat → Value) → World → Prop)
    (hm : P.follows .mixedOrders = true) (hB : planOk .any l.toArray plan = true)
    (hw0 : ∀ σ, Wd (fun _ => false) σ { w with drawn := w.drawn + 1 })
    (hops : OpsRunW P l.toArray Q a (plan.map (·.1)) Wd l plan)
    (hend : ∀ (D : Nat → Bool) (σ : Nat → Value) (W : World), Wd D σ W → (∀ d ∈ plan.map (·.1), D d = true) → wpList P l.toArray Q (l.drop plan.length) (fill a (plan.map (·.1)) σ) W) :
    (Code.region id l.toArray true).wp P Q a w :=
  wp_region_lay plan Wd hm hB hw0 hops.at hend
end Go.Proofs.Ytmgbdccfgbflnaa
