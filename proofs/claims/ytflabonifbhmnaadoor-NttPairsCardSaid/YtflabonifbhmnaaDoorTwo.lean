/-
  A region that draws its order and stores twice, its last operation a store, one store (or another operation that writes, a copy) under way: operations that need not wait for that one may come up ahead of it or behind it. Each is shown once, in whatever world has come; what is known of the world is said for before that store and for behind it.
  No Go text in sight.
-/
import Derived.Test.YtflabonifbhmnaaDoorLoose
namespace Go.Proofs.YtflabonifbhmnaaDoor
open Go Go.RowKit
set_option linter.unusedVariables false

/-- What one operation is asked that yields a value: ahead of the store (s: false) or behind it. first: the store waits for it. -/
def OpRuns1 (P : Program) (ops : Array Oper) (Q : Exit → Act → World → Prop) (a : Act) (ds : List Nat) (Wd : Bool → World → Prop) (R : Nat → Value → Prop) (o : Oper) (d : Nat) (needs : List Nat) (first : Bool) : Prop :=
  ∀ (σ : Nat → Value) (s : Bool) (W : World) (K : Act → World → Prop), (first = true → s = false) → Wd s W → (∀ k ∈ needs, R k (σ k)) →
    (∀ (v : Value) (W' : World), R d v → Wd s W' → K ((fill a ds σ).put o.dst v) W') →
    if Region.wanted o (yielded ops (fill a ds σ).tmps) = true then Oper.wp P o (fill a ds σ) W K Q else K ((fill a ds σ).put o.dst undef) W
/-- What the store is asked. -/
def StRuns (P : Program) (ops : Array Oper) (Q : Exit → Act → World → Prop) (a : Act) (ds : List Nat) (Wd : Bool → World → Prop) (R : Nat → Value → Prop) (o : Oper) (d : Option Nat) (needs : List Nat) : Prop :=
  ∀ (σ : Nat → Value) (W : World) (K : Act → World → Prop), Wd false W → (∀ k ∈ needs, R k (σ k)) →
    (∀ (v : Value) (W' : World), (∀ k, d = some k → R k v) → Wd true W' → K ((fill a ds σ).put o.dst v) W') →
    if Region.wanted o (yielded ops (fill a ds σ).tmps) = true then Oper.wp P o (fill a ds σ) W K Q else K ((fill a ds σ).put o.dst undef) W

abbrev Plan2 := List (Option Nat × List Nat × Bool)
def planOk2 (md : Region.Mode) (ops : Array Oper) (plan : Plan2) (iA : Nat) : Bool :=
  decide (plan.length ≤ ops.size) && decide (plan.filterMap (·.1)).Nodup && backB md ops &&
  (decide (plan.length = ops.size) || (Region.sinkB md ops plan.length && Region.chainB md ops plan.length)) &&
  Region.seqB md ops (ops.size - plan.length) plan.length (doneArr plan.length (ops.size - plan.length)) && decide (iA < plan.length) &&
  (List.range plan.length).all fun i => match plan[i]?, ops[i]? with
    | some (d, needs, f), some o => decide (o.dst = d) && (!d.isNone || decide (i = iA)) && (needs.all fun k => o.after.any fun e => Region.binds md e && decide (e.on < i) && (((ops[e.on]?).bind (·.dst)) == some k)) &&
        (!f || (match ops[iA]? with | some oA => oA.after.any fun e => Region.binds md e && decide (e.on = i) | none => false))
    | _, _ => false

theorem wp_region_two {P : Program} {id : Nat} {Q : Exit → Act → World → Prop} {a : Act} {w : World} {l : List Oper} (plan : Plan2) (iA : Nat) (R : Nat → Value → Prop) (Wd : Bool → World → Prop)
    (hm : P.follows .mixedOrders = true) (hB : planOk2 .any l.toArray plan iA = true) (hw0 : Wd false { w with drawn := w.drawn + 1 })
    (hops : ∀ (i : Nat) (o : Oper) (d : Nat) (needs : List Nat) (f : Bool), i ≠ iA → l[i]? = some o → plan[i]? = some (some d, needs, f) → OpRuns1 P l.toArray Q a (plan.filterMap (·.1)) Wd R o d needs f)
    (hstore : ∀ (o : Oper) (d : Option Nat) (needs : List Nat) (f : Bool), l[iA]? = some o → plan[iA]? = some (d, needs, f) → StRuns P l.toArray Q a (plan.filterMap (·.1)) Wd R o d needs)
    (hend : ∀ (σ : Nat → Value) (W : World), Wd true W → (∀ d ∈ plan.filterMap (·.1), R d (σ d)) → wpList P l.toArray Q (l.drop plan.length) (fill a (plan.filterMap (·.1)) σ) W) :
    (Code.region id l.toArray true).wp P Q a w := by
  simp only [planOk2, Bool.and_eq_true, decide_eq_true_eq] at hB
  obtain ⟨⟨⟨⟨⟨⟨hlen, hnd⟩, hbk⟩, hT⟩, hseq⟩, hiA⟩, hpl⟩ := hB
  have hT' : plan.length = l.toArray.size ∨ (Region.sinkB .any l.toArray plan.length = true ∧ Region.chainB .any l.toArray plan.length = true) := by
    simpa only [Bool.or_eq_true, decide_eq_true_eq, Bool.and_eq_true] using hT
  have plan_at : ∀ i, i < plan.length → ∃ d needs f o, plan[i]? = some (d, needs, f) ∧ l[i]? = some o ∧ o.dst = d ∧ (d = none → i = iA) ∧
      (∀ k ∈ needs, ∃ e ∈ o.after, Region.binds .any e = true ∧ e.on < i ∧ ((l.toArray[e.on]?).bind (·.dst)) = some k) ∧
      (f = true → ∃ oA, l.toArray[iA]? = some oA ∧ ∃ e ∈ oA.after, Region.binds .any e = true ∧ e.on = i) := by
    intro i hi
    have h1 := List.all_eq_true.1 hpl i (List.mem_range.2 hi)
    cases hp : plan[i]? with
    | none => rw [hp] at h1; simp at h1
    | some q =>
      obtain ⟨d, needs, f⟩ := q
      cases ho : l.toArray[i]? with
      | none => rw [hp, ho] at h1; simp at h1
      | some o =>
        rw [hp, ho] at h1
        simp only [Bool.and_eq_true, decide_eq_true_eq, List.all_eq_true] at h1
        obtain ⟨⟨⟨h1, h2⟩, h3⟩, h4⟩ := h1
        refine ⟨d, needs, f, o, rfl, by simpa using ho, h1, ?_, fun k hk => ?_, fun hf => ?_⟩
        · intro hd
          subst hd
          simpa using h2
        · obtain ⟨e, he, hb⟩ := Array.any_eq_true'.1 (h3 k hk)
          simp only [Bool.and_eq_true, decide_eq_true_eq, beq_iff_eq] at hb
          exact ⟨e, he, hb.1.1, hb.1.2, hb.2⟩
        · subst hf
          simp only [Bool.not_true, Bool.false_or] at h4
          cases hA : l.toArray[iA]? with
          | none => rw [hA] at h4; simp at h4
          | some oA =>
            rw [hA] at h4
            obtain ⟨e, he, hb⟩ := Array.any_eq_true'.1 h4
            simp only [Bool.and_eq_true, decide_eq_true_eq] at hb
            exact ⟨oA, rfl, e, he, hb.1, hb.2⟩
  have mem_ds : ∀ i d needs f, plan[i]? = some (some d, needs, f) → d ∈ plan.filterMap (·.1) := fun i d needs f h =>
    List.mem_filterMap.2 ⟨(some d, needs, f), List.mem_of_getElem? h, rfl⟩
  have plan_inj : ∀ (i j d : Nat) (ni nj : List Nat) (fi fj : Bool), plan[i]? = some (some d, ni, fi) → plan[j]? = some (some d, nj, fj) → i = j := by
    have key : ∀ (p : Plan2), (p.filterMap (·.1)).Nodup → ∀ (i j d : Nat) (ni nj : List Nat) (fi fj : Bool), p[i]? = some (some d, ni, fi) → p[j]? = some (some d, nj, fj) → i = j := by
      intro p
      induction p with
      | nil => intro _ i j d ni nj fi fj h; simp at h
      | cons q p ih =>
        intro hn i j d ni nj fi fj hi hj
        obtain ⟨qd, qn, qf⟩ := q
        have hn' : (p.filterMap (·.1)).Nodup := by
          cases qd with
          | none => simpa using hn
          | some x => simp at hn; exact hn.2
        have notin : ∀ (k : Nat) (nk : List Nat) (fk : Bool), p[k]? = some (some d, nk, fk) → qd ≠ some d := by
          rintro k nk fk hk rfl
          simp only [List.filterMap_cons] at hn
          exact (List.nodup_cons.1 hn).1 (List.mem_filterMap.2 ⟨(some d, nk, fk), List.mem_of_getElem? hk, rfl⟩)
        cases i with
        | zero =>
          cases j with
          | zero => rfl
          | succ j =>
            simp at hi hj
            exact absurd hi.1 (notin j _ _ hj)
        | succ i =>
          cases j with
          | zero =>
            simp at hi hj
            exact absurd hj.1 (notin i _ _ hi)
          | succ j =>
            simp at hi hj
            rw [ih hn' i j d ni nj fi fj hi hj]
    exact key plan hnd
  let J : Array Bool → Act → World → Prop := fun listed a' W => ∃ σ : Nat → Value, a' = fill a (plan.filterMap (·.1)) σ ∧ Wd (listed.getD iA false) W ∧
    (∀ (i d : Nat) (needs : List Nat) (f : Bool), plan[i]? = some (some d, needs, f) → listed.getD i false = true → R d (σ d))
  have step : ∀ listed a' W i, HeadInv .any l.toArray plan.length listed → J listed a' W → i ∈ Region.ready .any l.toArray listed → i < plan.length → wpOp P l.toArray Q i (J (listed.setIfInBounds i true)) a' W := by
    rintro listed a' W i inv ⟨σ, rfl, hW, hR⟩ hi hin
    obtain ⟨d, needs, f, o, hp, ho, hd, hnone, hneeds, hfirst⟩ := plan_at i hin
    obtain ⟨hun, o', ho', hall⟩ := mem_ready.1 hi
    have hoa : l.toArray[i]? = some o := by simpa using ho
    have : o' = o := Option.some.inj (ho'.symm.trans hoa)
    subst this
    have hui : listed.getD i false = false := getD_both hun
    have hneed : ∀ k ∈ needs, R k (σ k) := by
      intro k hk
      obtain ⟨e, he, hb, hlt, hdst⟩ := hneeds k hk
      have hle := hall e he hb
      obtain ⟨d2, n2, f2, o2, hp2, ho2, hd2, _⟩ := plan_at e.on (by omega)
      have : d2 = some k := by
        have h3 : l.toArray[e.on]? = some o2 := by simpa using ho2
        rw [h3] at hdst
        simp only [Option.bind_some] at hdst
        exact hd2.symm.trans hdst
      subst this
      exact hR e.on k n2 f2 hp2 hle
    unfold wpOp
    simp only [hoa]
    -- what the frame holds behind it
    have after : ∀ v, (∀ k, d = some k → R k v) → ∃ τ, (fill a (plan.filterMap (·.1)) σ).put o'.dst v = fill a (plan.filterMap (·.1)) τ ∧ ∀ (j e : Nat) (nj : List Nat) (fj : Bool), plan[j]? = some (some e, nj, fj) → (listed.setIfInBounds i true).getD j false = true → R e (τ e) := by
      intro v hv
      cases d with
      | none =>
        refine ⟨σ, by rw [hd]; rfl, fun j e nj fj hj hl => ?_⟩
        have hji : j ≠ i := fun h => by subst h; rw [hp] at hj; simp at hj
        rw [getD_set_ne false (Ne.symm hji)] at hl
        exact hR j e nj fj hj hl
      | some d =>
        refine ⟨fun k => if k = d then v else σ k, by rw [hd, fill_put hnd (mem_ds i d needs f hp)], fun j e nj fj hj hl => ?_⟩
        dsimp only
        by_cases hji : j = i
        · subst hji
          have : (some e, nj, fj) = (some d, needs, f) := Option.some.inj (hj.symm.trans hp)
          cases this
          rw [if_pos rfl]; exact hv _ rfl
        · have hne : e ≠ d := fun h => hji (by subst h; exact plan_inj _ _ _ _ _ _ _ hj hp)
          rw [getD_set_ne false (Ne.symm hji)] at hl
          rw [if_neg hne]
          exact hR j e nj fj hj hl
    by_cases hiA' : i = iA
    · subst hiA'
      rw [hui] at hW
      have hop := hstore o' d needs f ho hp σ W (J (listed.setIfInBounds i true)) hW hneed ?_
      · split
        · rename_i hw; rw [if_pos hw] at hop; exact Or.inl hop
        · rename_i hw; rw [if_neg hw] at hop; exact hop
      · intro v W' hv hW'
        obtain ⟨τ, e1, e2⟩ := after v hv
        refine ⟨τ, e1, ?_, e2⟩
        have : (listed.setIfInBounds i true).getD i false = true := by
          have := inv.size
          simp; omega
        rw [this]; exact hW'
    · obtain ⟨d', rfl⟩ : ∃ d', d = some d' := by
        cases d with
        | none => exact absurd (hnone rfl) hiA'
        | some d' => exact ⟨d', rfl⟩
      have hop := hops i o' d' needs f hiA' ho hp σ (listed.getD iA false) W (J (listed.setIfInBounds i true)) ?_ hW hneed ?_
      · split
        · rename_i hw; rw [if_pos hw] at hop; exact Or.inl hop
        · rename_i hw; rw [if_neg hw] at hop; exact hop
      · intro hf
        obtain ⟨oA, hoA, e, he, hb, hon⟩ := hfirst hf
        cases hh : listed.getD iA false with
        | false => rfl
        | true =>
          have := inv.closed iA oA hoA hh e he hb
          rw [hon, hui] at this
          cases this
      · intro v W' hv hW'
        obtain ⟨τ, e1, e2⟩ := after v (fun k hk => by cases hk; exact hv)
        exact ⟨τ, e1, by rw [getD_set_ne false hiA']; exact hW', e2⟩
  have hdone : ∀ i, i < plan.length → (doneArr plan.length (l.toArray.size - plan.length)).getD i false = true := by
    intro i hi
    have h1 : i < (doneArr plan.length (l.toArray.size - plan.length)).size := by simp [doneArr]; omega
    simp only [Array.getD, h1, dite_true]
    simp only [doneArr]
    show (List.replicate plan.length true ++ List.replicate (l.toArray.size - plan.length) false)[i]'(by simp; omega) = true
    rw [List.getElem_append_left (by simpa using hi), List.getElem_replicate]
  have fin : ∀ a' W, J (doneArr plan.length (l.toArray.size - plan.length)) a' W → wpAny P .any l.toArray Q (l.toArray.size - plan.length) (doneArr plan.length (l.toArray.size - plan.length)) a' W := by
    rintro a' W ⟨σ, rfl, hW, hR⟩
    rw [hdone iA hiA] at hW
    have hl2 : (l.drop plan.length).length = l.toArray.size - plan.length := by simp
    have := wpAny_of_seq (md := .any) (Q' := Q) (P := P) (l.drop plan.length) plan.length (doneArr plan.length (l.toArray.size - plan.length)) (fill a (plan.filterMap (·.1)) σ) W (fun j => by simp [List.getElem?_drop]) (by rw [hl2]; exact hseq)
      (hend σ W hW (fun d hd => by
        obtain ⟨q, hq, hq2⟩ := List.mem_filterMap.1 hd
        obtain ⟨i, hi, hqi⟩ := List.getElem_of_mem hq
        obtain ⟨qd, qn, qf⟩ := q
        dsimp only at hq2
        subst hq2
        exact hR i d qn qf (by rw [List.getElem?_eq_getElem hi, hqi]) (hdone i hi)))
    rwa [hl2] at this
  refine wp_region_any hm ?_
  have inv0 : HeadInv .any l.toArray plan.length (Array.replicate l.toArray.size false) :=
    ⟨by simp, fun j oj _ hl => (by rw [getD_replicate_false] at hl; cases hl), fun t _ ht => getD_in (by simpa using ht) (getD_replicate_false _ _)⟩
  have hc0 : ∀ k, cnt (Array.replicate l.toArray.size false) k = k := by
    intro k
    induction k with
    | zero => rfl
    | succ k ih => rw [cnt, ih, getD_replicate_false]; simp
  have key := loose_go (P := P) (Q := Q) (md := .any) (J := J) hlen hT' hbk step fin plan.length (Array.replicate l.toArray.size false) a { w with drawn := w.drawn + 1 } (hc0 _) inv0
    ⟨fun d => a.tmps.getD d undef, fill_self.symm, by rw [getD_replicate_false]; exact hw0, fun i d needs f _ h => (by rw [getD_replicate_false] at h; cases h)⟩
  rw [show plan.length + (l.toArray.size - plan.length) = l.toArray.size by omega] at key
  exact key

/-- All operations of the plan, one by one, from the n-th on. -/
def OpsRun2 (P : Program) (ops : Array Oper) (Q : Exit → Act → World → Prop) (a : Act) (ds : List Nat) (Wd : Bool → World → Prop) (R : Nat → Value → Prop) : List Oper → Plan2 → Nat → Prop
  | _, [], _ => True
  | [], _ :: _, _ => True
  | o :: os, (d, needs, f) :: ps, 0 => StRuns P ops Q a ds Wd R o d needs ∧ OpsRun2 P ops Q a ds Wd R os ps os.length
  | o :: os, (some d, needs, f) :: ps, n + 1 => OpRuns1 P ops Q a ds Wd R o d needs f ∧ OpsRun2 P ops Q a ds Wd R os ps n
  | _ :: _, (none, _, _) :: _, _ + 1 => False
theorem OpsRun2.at {P : Program} {ops : Array Oper} {Q : Exit → Act → World → Prop} {a : Act} {ds : List Nat} {Wd : Bool → World → Prop} {R : Nat → Value → Prop} : ∀ {os : List Oper} {ps : Plan2} {n : Nat}, OpsRun2 P ops Q a ds Wd R os ps n →
    (∀ (i : Nat) (o : Oper) (d : Nat) (needs : List Nat) (f : Bool), i ≠ n → os[i]? = some o → ps[i]? = some (some d, needs, f) → OpRuns1 P ops Q a ds Wd R o d needs f) ∧
    (∀ (o : Oper) (d : Option Nat) (needs : List Nat) (f : Bool), os[n]? = some o → ps[n]? = some (d, needs, f) → StRuns P ops Q a ds Wd R o d needs)
  | os, [], _, _ => ⟨fun i o d needs f _ _ h => by simp at h, fun o d needs f _ h => by simp at h⟩
  | [], _ :: _, _, _ => ⟨fun i o d needs f _ h => by simp at h, fun o d needs f h => by simp at h⟩
  | o' :: os, (d', n', f') :: ps, 0, h => by
    obtain ⟨h1, _⟩ := OpsRun2.at h.2
    refine ⟨fun i o d needs f hi ho hp => ?_, fun o d needs f ho hp => ?_⟩
    · cases i with
      | zero => exact absurd rfl hi
      | succ i =>
        have ho' : os[i]? = some o := by simpa using ho
        have : i < os.length := (List.getElem?_eq_some_iff.1 ho').1
        exact h1 i o d needs f (by omega) ho' (by simpa using hp)
    · simp at ho hp; obtain ⟨rfl, rfl, rfl⟩ := hp; subst ho; exact h.1
  | o' :: os, (some d', n', f') :: ps, n + 1, h => by
    obtain ⟨h1, h2⟩ := OpsRun2.at h.2
    refine ⟨fun i o d needs f hi ho hp => ?_, fun o d needs f ho hp => ?_⟩
    · cases i with
      | zero => simp at ho hp; obtain ⟨rfl, rfl, rfl⟩ := hp; subst ho; exact h.1
      | succ i => exact h1 i o d needs f (by omega) (by simpa using ho) (by simpa using hp)
    · exact h2 o d needs f (by simpa using ho) (by simpa using hp)
  | _ :: _, (none, _, _) :: _, _ + 1, h => h.elim
theorem ops2_one {P : Program} {ops : Array Oper} {Q : Exit → Act → World → Prop} {a : Act} {ds : List Nat} {Wd : Bool → World → Prop} {R : Nat → Value → Prop} {o : Oper} {os : List Oper} {d : Nat} {needs : List Nat} {f : Bool} {ps : Plan2} {n : Nat}
    (h : OpRuns1 P ops Q a ds Wd R o d needs f) (hs : OpsRun2 P ops Q a ds Wd R os ps n) : OpsRun2 P ops Q a ds Wd R (o :: os) ((some d, needs, f) :: ps) (n + 1) := ⟨h, hs⟩
theorem ops2_st {P : Program} {ops : Array Oper} {Q : Exit → Act → World → Prop} {a : Act} {ds : List Nat} {Wd : Bool → World → Prop} {R : Nat → Value → Prop} {o : Oper} {os : List Oper} {d : Option Nat} {needs : List Nat} {f : Bool} {ps : Plan2}
    (h : StRuns P ops Q a ds Wd R o d needs) (hs : OpsRun2 P ops Q a ds Wd R os ps os.length) : OpsRun2 P ops Q a ds Wd R (o :: os) ((d, needs, f) :: ps) 0 := ⟨h, hs⟩
theorem ops2_nil {P : Program} {ops : Array Oper} {Q : Exit → Act → World → Prop} {a : Act} {ds : List Nat} {Wd : Bool → World → Prop} {R : Nat → Value → Prop} {os : List Oper} {n : Nat} : OpsRun2 P ops Q a ds Wd R os [] n := by
  cases os <;> cases n <;> exact trivial
theorem OpRuns1.any {P : Program} {ops : Array Oper} {Q : Exit → Act → World → Prop} {a : Act} {ds : List Nat} {Wd : Bool → World → Prop} {R : Nat → Value → Prop} {o : Oper} {d : Nat} {needs : List Nat} {f : Bool}
    (h : ∀ Q' : Exit → Act → World → Prop, OpRuns1 P ops Q' a ds Wd R o d needs f) : OpRuns1 P ops Q a ds Wd R o d needs f := h Q
theorem StRuns.any {P : Program} {ops : Array Oper} {Q : Exit → Act → World → Prop} {a : Act} {ds : List Nat} {Wd : Bool → World → Prop} {R : Nat → Value → Prop} {o : Oper} {d : Option Nat} {needs : List Nat}
    (h : ∀ Q' : Exit → Act → World → Prop, StRuns P ops Q' a ds Wd R o d needs) : StRuns P ops Q a ds Wd R o d needs := h Q

/-- The law, its operations handed over one by one. -/
theorem wp_two {P : Program} {id : Nat} {Q : Exit → Act → World → Prop} {a : Act} {w : World} {l : List Oper} (plan : Plan2) (iA : Nat) (R : Nat → Value → Prop) (Wd : Bool → World → Prop)
    (hm : P.follows .mixedOrders = true) (hB : planOk2 .any l.toArray plan iA = true) (hw0 : Wd false { w with drawn := w.drawn + 1 })
    (hops : OpsRun2 P l.toArray Q a (plan.filterMap (·.1)) Wd R l plan iA)
    (hend : ∀ (σ : Nat → Value) (W : World), Wd true W → (∀ d ∈ plan.filterMap (·.1), R d (σ d)) → wpList P l.toArray Q (l.drop plan.length) (fill a (plan.filterMap (·.1)) σ) W) :
    (Code.region id l.toArray true).wp P Q a w :=
  wp_region_two plan iA R Wd hm hB hw0 hops.at.1 hops.at.2 hend
end Go.Proofs.YtflabonifbhmnaaDoor
