/-
  A region that draws its order, whose operations read, call and make memory, and whose last ones, in a forced order, store: each operation is shown ONCE, by what its own operands hold, in whatever world has come of the first one by new memory alone.
  No Go text in sight.
-/
import Derived.StillTail
import Derived.Below
import Derived.Tactics
import Derived.WalkKit
namespace Go.Proofs.Ytmgbdccfgbflnaa
open Go Go.RowKit
set_option linter.unusedVariables false

section
variable {P : Program} {ops : Array Oper} {md : Region.Mode} {Q : Exit → Act → World → Prop}

/-- How many of the first n have not come up yet. -/
def cnt (listed : Array Bool) : Nat → Nat
  | 0 => 0
  | n + 1 => cnt listed n + if listed.getD n false = true then 0 else 1
theorem cnt_far (listed : Array Bool) (i : Nat) : ∀ n, n ≤ i → cnt (listed.setIfInBounds i true) n = cnt listed n
  | 0, _ => rfl
  | n + 1, h => by rw [cnt, cnt, cnt_far listed i n (by omega), getD_set_ne false (by omega)]
theorem cnt_set (listed : Array Bool) (i : Nat) (hs : i < listed.size) (hu : listed.getD i false = false) : ∀ n, i < n → cnt (listed.setIfInBounds i true) n + 1 = cnt listed n
  | 0, h => by omega
  | n + 1, h => by
    rw [cnt, cnt]
    by_cases he : i = n
    · subst he
      rw [cnt_far listed i i (Nat.le_refl _)]
      have : (listed.setIfInBounds i true).getD i false = true := by simp [hs]
      rw [this, hu]; simp
    · rw [getD_set_ne false he]
      have := cnt_set listed i hs hu n (by omega)
      omega
theorem cnt_zero (listed : Array Bool) : ∀ n, cnt listed n = 0 → ∀ i, i < n → listed.getD i false = true
  | 0, _, i, h => by omega
  | n + 1, h0, i, h => by
    rw [cnt] at h0
    by_cases hi : listed.getD n false = true
    · by_cases he : i = n
      · rw [he]; exact hi
      · exact cnt_zero listed n (by omega) i (by omega)
    · rw [if_neg hi] at h0; omega

/-- Edges lead back. -/
def backB (md : Region.Mode) (ops : Array Oper) : Bool :=
  (List.range ops.size).all fun i => match ops[i]? with
    | some o => o.after.all fun e => !Region.binds md e || decide (e.on < i)
    | none => true
theorem backB_spec (h : backB md ops = true) {i : Nat} {o : Oper} (ho : ops[i]? = some o) {e : Edge} (he : e ∈ o.after) (hb : Region.binds md e = true) : e.on < i := by
  have h1 := List.all_eq_true.1 h i (List.mem_range.2 (Array.getElem?_eq_some_iff.1 ho).1)
  simp only [ho] at h1
  have h2 := Array.all_eq_true_iff_forall_mem.1 h1 e he
  simpa [hb] using h2
theorem ready_some (hb : backB md ops = true) {listed : Array Bool} (hsz : listed.size = ops.size) : ∀ i, i < ops.size → listed.getD i false = false → Region.ready md ops listed ≠ [] := by
  intro i
  induction i using Nat.strongRecOn with
  | _ i ih =>
    intro hi hu
    obtain ⟨o, ho⟩ : ∃ o, ops[i]? = some o := ⟨_, Array.getElem?_eq_getElem hi⟩
    by_cases hall : ∀ e ∈ o.after, Region.binds md e = true → listed.getD e.on false = true
    · intro h0
      have : i ∈ Region.ready md ops listed := mem_ready.2 ⟨getD_in (by omega) hu, o, ho, hall⟩
      rw [h0] at this; cases this
    · simp only [Classical.not_forall] at hall
      obtain ⟨e, he, hbe, hl⟩ := hall
      have hlt := backB_spec hb ho he hbe
      exact ih e.on hlt (by omega) (by simpa using hl)

/-- The first n have come up, and no other. -/
def doneArr (n m : Nat) : Array Bool := (List.replicate n true ++ List.replicate m false).toArray
theorem done_eq {listed : Array Bool} {n : Nat} (hn : n ≤ ops.size) (inv : HeadInv md ops n listed) (h : ∀ i, i < n → listed.getD i false = true) : listed = doneArr n (ops.size - n) := by
  have hsz := inv.size
  apply Array.ext
  · simp [doneArr, hsz]; omega
  · intro i h1 h2
    by_cases hin : i < n
    · have := h i hin
      simp only [Array.getD, h1, dite_true] at this
      simp only [doneArr, List.getElem_toArray]
      rw [List.getElem_append_left (by simpa using hin), List.getElem_replicate]
      exact this
    · have := inv.tail i (by omega) (by omega)
      simp only [Array.getD, h1, dite_true] at this
      simp only [doneArr, List.getElem_toArray]
      rw [List.getElem_append_right (by simpa using hin), List.getElem_replicate]
      exact this

theorem loose_go {n : Nat} {J : Array Bool → Act → World → Prop} (hn : n ≤ ops.size) (hT : n = ops.size ∨ (Region.sinkB md ops n = true ∧ Region.chainB md ops n = true)) (hbk : backB md ops = true)
    (step : ∀ listed a w i, HeadInv md ops n listed → J listed a w → i ∈ Region.ready md ops listed → i < n → wpOp P ops Q i (J (listed.setIfInBounds i true)) a w)
    (fin : ∀ a w, J (doneArr n (ops.size - n)) a w → wpAny P md ops Q (ops.size - n) (doneArr n (ops.size - n)) a w) :
    ∀ (f : Nat) (listed : Array Bool) (a : Act) (w : World), cnt listed n = f → HeadInv md ops n listed → J listed a w → wpAny P md ops Q (f + (ops.size - n)) listed a w
  | 0, listed, a, w, hc, inv, hJ => by
    have he := done_eq hn inv (cnt_zero listed n hc)
    subst he
    rw [Nat.zero_add]
    exact fin a w hJ
  | f + 1, listed, a, w, hc, inv, hJ => by
    rw [show f + 1 + (ops.size - n) = (f + (ops.size - n)) + 1 by omega]
    have hex : ∃ i, i < n ∧ listed.getD i false = false := by
      refine Classical.byContradiction fun hno => ?_
      have : ∀ k, k ≤ n → cnt listed k = 0 := by
        intro k
        induction k with
        | zero => intro _; rfl
        | succ k ih =>
          intro hk
          rw [cnt, ih (by omega)]
          have : listed.getD k false = true := by
            cases hh : listed.getD k false with
            | true => rfl
            | false => exact absurd ⟨k, by omega, hh⟩ hno
          rw [if_pos this]
      have := this n (Nat.le_refl _)
      omega
    obtain ⟨i0, hi0, hu0⟩ := hex
    refine ⟨fun h0 => absurd h0 (ready_some hbk inv.size i0 (by omega) hu0), fun i hi => ?_⟩
    have hilt : i < ops.size := by
      obtain ⟨_, o, ho, _⟩ := mem_ready.1 hi
      exact (Array.getElem?_eq_some_iff.1 ho).1
    have hin : i < n := by
      rcases hT with h | ⟨hs, hc'⟩
      · omega
      · rcases Nat.lt_or_ge i n with h | h
        · exact h
        · exact absurd hi (tail_waits hs hc' (by omega) inv _ i0 rfl hi0 (getD_in (by rw [inv.size]; omega) hu0) i h)
    have hui : listed.getD i false = false := getD_both (mem_ready.1 hi).1
    have hcn := cnt_set listed i (by rw [inv.size]; omega) hui n hin
    exact wpOp_mono (fun a' w' hJ' => loose_go hn hT hbk step fin f _ a' w' (by omega) (inv.set hi hin) hJ') (step listed a w i inv hJ hi hin)
end

/-! ### The frame while the region runs: its own slots hold σ. -/
def fill (a : Act) : List Nat → (Nat → Value) → Act
  | [], _ => a
  | d :: ds, σ => (fill a ds σ).put (some d) (σ d)
theorem fill_congr {a : Act} {σ τ : Nat → Value} : ∀ {ds : List Nat}, (∀ d ∈ ds, σ d = τ d) → fill a ds σ = fill a ds τ
  | [], _ => rfl
  | d :: ds, h => by rw [fill, fill, fill_congr (fun e he => h e (List.mem_cons_of_mem _ he)), h d List.mem_cons_self]
theorem put_put (a : Act) (d : Nat) (v u : Value) : (a.put (some d) v).put (some d) u = a.put (some d) u := by
  simp [Act.put]
theorem fill_put {a : Act} {σ : Nat → Value} {d : Nat} {v : Value} : ∀ {ds : List Nat}, ds.Nodup → d ∈ ds → (fill a ds σ).put (some d) v = fill a ds (fun k => if k = d then v else σ k)
  | [], _, h => by cases h
  | e :: ds, hn, h => by
    obtain ⟨h1, h2⟩ := List.nodup_cons.1 hn
    rw [fill, fill]
    by_cases hd : d = e
    · subst hd
      rw [put_put, if_pos rfl, fill_congr (σ := σ) (τ := fun k => if k = d then v else σ k)]
      intro k hk
      rw [if_neg (by intro hkd; subst hkd; exact h1 hk)]
    · have hm : d ∈ ds := by
        rcases List.mem_cons.1 h with h' | h'
        · exact absurd h' hd
        · exact h'
      rw [Act.put_comm _ _ _ (by intro x hx hy; cases hx; cases hy; exact hd rfl), fill_put h2 hm, if_neg (fun he => hd he.symm)]
theorem fill_self {a : Act} : ∀ {ds : List Nat}, fill a ds (fun d => a.tmps.getD d undef) = a
  | [] => rfl
  | d :: ds => by
    rw [fill, fill_self]
    cases a with
    | mk t df =>
      simp only [Act.put]
      congr 1
      apply Array.ext_getElem?
      intro i
      by_cases hi : d = i
      · subst hi
        rw [Array.getElem?_setIfInBounds]
        by_cases hl : d < t.size
        · simp [hl]
        · simp [hl]
      · rw [Array.getElem?_setIfInBounds_ne hi]

/-- A pointer to a block that was there. -/
def OldPtr (w : World) (v : Value) : Prop := ∃ g : Nat, v = .pointer (some ⟨g, 0, none⟩) ∧ g < w.heap.size
/-- A pointer to a block that was made between these worlds. -/
def NewPtr (w w' : World) (v : Value) : Prop := ∃ g : Nat, v = .pointer (some ⟨g, 0, none⟩) ∧ w.heap.size ≤ g ∧ g < w'.heap.size

/-- What one operation is asked: from the slots that it waits for, it yields a value of its kind, by new memory alone. -/
def OpRuns (P : Program) (ops : Array Oper) (Q : Exit → Act → World → Prop) (a : Act) (ds : List Nat) (w : World) (R : Nat → Value → World → Prop) (fresh : Nat → Bool) (o : Oper) (d : Nat) (needs : List Nat) : Prop :=
  ∀ (σ : Nat → Value) (W : World) (K : Act → World → Prop), Below w.heap.size w W → (∀ k ∈ needs, R k (σ k) W) →
    (∀ (v : Value) (W' : World), R d v W' → Below W.heap.size W W' → (fresh d = true → NewPtr W W' v) → K ((fill a ds σ).put o.dst v) W') →
    if Region.wanted o (yielded ops (fill a ds σ).tmps) = true then Oper.wp P o (fill a ds σ) W K Q else K ((fill a ds σ).put o.dst undef) W

/-- The plan: of each operation of the head its slot and the slots that it waits for. -/
def planOk (md : Region.Mode) (ops : Array Oper) (plan : List (Nat × List Nat)) : Bool :=
  decide (plan.length ≤ ops.size) && decide (plan.map (·.1)).Nodup && backB md ops &&
  (decide (plan.length = ops.size) || (Region.sinkB md ops plan.length && Region.chainB md ops plan.length)) &&
  Region.seqB md ops (ops.size - plan.length) plan.length (doneArr plan.length (ops.size - plan.length)) &&
  (List.range plan.length).all fun i => match plan[i]?, ops[i]? with
    | some (d, needs), some o => decide (o.dst = some d) && needs.all fun k => o.after.any fun e => Region.binds md e && decide (e.on < i) && (((ops[e.on]?).bind (·.dst)) == some k)
    | _, _ => false

theorem wp_region_loose {P : Program} {id : Nat} {Q : Exit → Act → World → Prop} {a : Act} {w : World} {l : List Oper} (plan : List (Nat × List Nat)) (R : Nat → Value → World → Prop) (fresh : Nat → Bool)
    (hm : P.follows .mixedOrders = true) (hB : planOk .any l.toArray plan = true)
    (hst : ∀ d v W W', R d v W → Below W.heap.size W W' → R d v W')
    (hops : ∀ (i : Nat) (o : Oper) (d : Nat) (needs : List Nat), l[i]? = some o → plan[i]? = some (d, needs) → OpRuns P l.toArray Q a (plan.map (·.1)) w R fresh o d needs)
    (hend : ∀ (σ : Nat → Value) (W : World), Below w.heap.size w W → (∀ d ∈ plan.map (·.1), R d (σ d) W) →
      (∀ d ∈ plan.map (·.1), ∀ e ∈ plan.map (·.1), fresh d = true → fresh e = true → d ≠ e → σ d ≠ σ e) → wpList P l.toArray Q (l.drop plan.length) (fill a (plan.map (·.1)) σ) W) :
    (Code.region id l.toArray true).wp P Q a w := by
  simp only [planOk, Bool.and_eq_true, decide_eq_true_eq] at hB
  obtain ⟨⟨⟨⟨⟨hlen, hnd⟩, hbk⟩, hT⟩, hseq⟩, hpl⟩ := hB
  have hT' : plan.length = l.toArray.size ∨ (Region.sinkB .any l.toArray plan.length = true ∧ Region.chainB .any l.toArray plan.length = true) := by
    simpa only [Bool.or_eq_true, decide_eq_true_eq, Bool.and_eq_true] using hT
  have plan_at : ∀ i, i < plan.length → ∃ d needs o, plan[i]? = some (d, needs) ∧ l[i]? = some o ∧ o.dst = some d ∧
      ∀ k ∈ needs, ∃ e ∈ o.after, Region.binds .any e = true ∧ e.on < i ∧ ((l.toArray[e.on]?).bind (·.dst)) = some k := by
    intro i hi
    have h1 := List.all_eq_true.1 hpl i (List.mem_range.2 hi)
    cases hp : plan[i]? with
    | none => rw [hp] at h1; simp at h1
    | some q =>
      obtain ⟨d, needs⟩ := q
      cases ho : l.toArray[i]? with
      | none => rw [hp, ho] at h1; simp at h1
      | some o =>
        rw [hp, ho] at h1
        simp only [Bool.and_eq_true, decide_eq_true_eq, List.all_eq_true] at h1
        refine ⟨d, needs, o, rfl, by simpa using ho, h1.1, fun k hk => ?_⟩
        obtain ⟨e, he, hb⟩ := Array.any_eq_true'.1 (h1.2 k hk)
        simp only [Bool.and_eq_true, decide_eq_true_eq, beq_iff_eq] at hb
        exact ⟨e, he, hb.1.1, hb.1.2, hb.2⟩
  have plan_inj : ∀ (i j d : Nat) (ni nj : List Nat), plan[i]? = some (d, ni) → plan[j]? = some (d, nj) → i = j := by
    intro i j d ni nj hi hj
    have h1 : (plan.map (·.1))[i]? = some d := by simp [hi]
    have h2 : (plan.map (·.1))[j]? = some d := by simp [hj]
    have hil : i < (plan.map (·.1)).length := by
      rcases Nat.lt_or_ge i (plan.map (·.1)).length with h | h
      · exact h
      · rw [List.getElem?_eq_none h] at h1; cases h1
    exact (List.getElem?_inj hil hnd).1 (h1.trans h2.symm)
  -- what holds while the head runs
  let J : Array Bool → Act → World → Prop := fun listed a' W => ∃ σ : Nat → Value, a' = fill a (plan.map (·.1)) σ ∧ Below w.heap.size w W ∧
    (∀ (i d : Nat) (needs : List Nat), plan[i]? = some (d, needs) → listed.getD i false = true → R d (σ d) W ∧ (fresh d = true → OldPtr W (σ d))) ∧
    (∀ (i j d e : Nat) (ni nj : List Nat), plan[i]? = some (d, ni) → plan[j]? = some (e, nj) → listed.getD i false = true → listed.getD j false = true → fresh d = true → fresh e = true → d ≠ e → σ d ≠ σ e)
  have step : ∀ listed a' W i, HeadInv .any l.toArray plan.length listed → J listed a' W → i ∈ Region.ready .any l.toArray listed → i < plan.length → wpOp P l.toArray Q i (J (listed.setIfInBounds i true)) a' W := by
    rintro listed a' W i inv ⟨σ, rfl, hbel, hR, hF⟩ hi hin
    obtain ⟨d, needs, o, hp, ho, hd, hneeds⟩ := plan_at i hin
    obtain ⟨hun, o', ho', hall⟩ := mem_ready.1 hi
    have hoa : l.toArray[i]? = some o := by simpa using ho
    have : o' = o := Option.some.inj (ho'.symm.trans hoa)
    subst this
    have hop := hops i o' d needs ho hp σ W (J (listed.setIfInBounds i true)) hbel ?_ ?_
    · unfold wpOp
      simp only [hoa]
      split
      · rename_i hw; rw [if_pos hw] at hop; exact Or.inl hop
      · rename_i hw; rw [if_neg hw] at hop; exact hop
    · intro k hk
      obtain ⟨e, he, hb, hlt, hdst⟩ := hneeds k hk
      have hle := hall e he hb
      obtain ⟨d2, n2, o2, hp2, ho2, hd2, _⟩ := plan_at e.on (by omega)
      have : d2 = k := by
        have h3 : l.toArray[e.on]? = some o2 := by simpa using ho2
        rw [h3] at hdst
        simp only [Option.bind_some] at hdst
        exact Option.some.inj (hd2.symm.trans hdst)
      subst this
      exact (hR e.on d2 n2 hp2 hle).1
    · intro v W' hv hbl hfr
      have hdm : d ∈ plan.map (·.1) := List.mem_map.2 ⟨(d, needs), List.mem_of_getElem? hp, rfl⟩
      refine ⟨fun k => if k = d then v else σ k, by rw [hd, fill_put hnd hdm], hbel.trans (hbl.mono hbel.size), ?_, ?_⟩
      · intro j e nj hj hl
        dsimp only
        by_cases hji : j = i
        · subst hji
          have : (e, nj) = (d, needs) := Option.some.inj (hj.symm.trans hp)
          cases this
          rw [if_pos rfl]
          exact ⟨hv, fun hf => by obtain ⟨g, h1, _, h3⟩ := hfr hf; exact ⟨g, h1, h3⟩⟩
        · have hne : e ≠ d := fun h => hji (by subst h; exact plan_inj _ _ _ _ _ hj hp)
          rw [getD_set_ne false (Ne.symm hji)] at hl
          rw [if_neg hne]
          obtain ⟨h1, h2⟩ := hR j e nj hj hl
          exact ⟨hst _ _ _ _ h1 hbl, fun hf => by obtain ⟨g, h3, h4⟩ := h2 hf; exact ⟨g, h3, Nat.lt_of_lt_of_le h4 hbl.size⟩⟩
      · intro j j' e e' nj nj' hj hj' hl hl' hf hf' hne
        dsimp only
        have old : ∀ (j e : Nat) (nj : List Nat), plan[j]? = some (e, nj) → (listed.setIfInBounds i true).getD j false = true → e ≠ d → fresh e = true → OldPtr W (σ e) := by
          intro j e nj hj hl hed hf
          have hji : j ≠ i := fun h => hed (by subst h; exact (Prod.mk.inj (Option.some.inj (hj.symm.trans hp))).1)
          rw [getD_set_ne false (Ne.symm hji)] at hl
          exact (hR j e nj hj hl).2 hf
        by_cases he : e = d
        · have he' : e' ≠ d := fun h => hne (he.trans h.symm)
          rw [if_pos he, if_neg he']
          obtain ⟨g, h1, h2, _⟩ := hfr (he ▸ hf)
          obtain ⟨g', h3, h4⟩ := old j' e' nj' hj' hl' he' hf'
          rw [h1, h3]
          intro hh; have hg : _ = _ := congrArg (fun v : Value => match v with | .pointer (some a) => a.block | _ => 0) hh; simp only at hg; omega
        · by_cases he' : e' = d
          · rw [if_neg he, if_pos he']
            obtain ⟨g, h1, h2, _⟩ := hfr (he' ▸ hf')
            obtain ⟨g', h3, h4⟩ := old j e nj hj hl he hf
            rw [h1, h3]
            intro hh; have hg : _ = _ := congrArg (fun v : Value => match v with | .pointer (some a) => a.block | _ => 0) hh; simp only at hg; omega
          · rw [if_neg he, if_neg he']
            have hji : j ≠ i := fun h => he (by subst h; exact (Prod.mk.inj (Option.some.inj (hj.symm.trans hp))).1)
            have hji' : j' ≠ i := fun h => he' (by subst h; exact (Prod.mk.inj (Option.some.inj (hj'.symm.trans hp))).1)
            rw [getD_set_ne false (Ne.symm hji)] at hl
            rw [getD_set_ne false (Ne.symm hji')] at hl'
            exact hF j j' e e' nj nj' hj hj' hl hl' hf hf' hne
  have fin : ∀ a' W, J (doneArr plan.length (l.toArray.size - plan.length)) a' W → wpAny P .any l.toArray Q (l.toArray.size - plan.length) (doneArr plan.length (l.toArray.size - plan.length)) a' W := by
    rintro a' W ⟨σ, rfl, hbel, hR, hF⟩
    have hdone : ∀ i, i < plan.length → (doneArr plan.length (l.toArray.size - plan.length)).getD i false = true := by
      intro i hi
      have h1 : i < (doneArr plan.length (l.toArray.size - plan.length)).size := by simp [doneArr]; omega
      simp only [Array.getD, h1, dite_true]
      simp only [doneArr]
      show (List.replicate plan.length true ++ List.replicate (l.toArray.size - plan.length) false)[i]'(by simp; omega) = true
      rw [List.getElem_append_left (by simpa using hi), List.getElem_replicate]
    have hat : ∀ d ∈ plan.map (·.1), ∃ i needs, i < plan.length ∧ plan[i]? = some (d, needs) := by
      intro d hd
      obtain ⟨q, hq, rfl⟩ := List.mem_map.1 hd
      obtain ⟨i, hi, hqi⟩ := List.getElem_of_mem hq
      exact ⟨i, q.2, hi, by rw [List.getElem?_eq_getElem hi, hqi]⟩
    have hl2 : (l.drop plan.length).length = l.toArray.size - plan.length := by simp
    have := wpAny_of_seq (md := .any) (Q' := Q) (P := P) (l.drop plan.length) plan.length (doneArr plan.length (l.toArray.size - plan.length)) (fill a (plan.map (·.1)) σ) W (fun j => by simp [List.getElem?_drop]) (by rw [hl2]; exact hseq)
      (hend σ W hbel (fun d hd => by obtain ⟨i, needs, hi, hp⟩ := hat d hd; exact (hR i d needs hp (hdone i hi)).1)
        (fun d hd e he hf hf' hne => by
          obtain ⟨i, ni, hi, hp⟩ := hat d hd
          obtain ⟨j, nj, hj, hp'⟩ := hat e he
          exact hF i j d e ni nj hp hp' (hdone i hi) (hdone j hj) hf hf' hne))
    rwa [hl2] at this
  refine wp_region_any hm ?_
  have inv0 : HeadInv .any l.toArray plan.length (Array.replicate l.toArray.size false) :=
    ⟨by simp, fun j oj _ hl => (by rw [getD_replicate_false] at hl; cases hl), fun t _ ht => getD_in (by simpa using ht) (getD_replicate_false _ _)⟩
  have hc0 : ∀ k, cnt (Array.replicate l.toArray.size false) k = k := by
    intro k
    induction k with
    | zero => rfl
    | succ k ih => rw [cnt, ih, getD_replicate_false]; simp
  have key := loose_go (P := P) (Q := Q) (md := .any) (J := J) hlen hT' hbk step fin plan.length (Array.replicate l.toArray.size false) a { w with drawn := w.drawn + 1 } (hc0 _) inv0
    ⟨fun d => a.tmps.getD d undef, fill_self.symm, (Below.refl w.heap.size w).drew, fun i d needs _ h => (by rw [getD_replicate_false] at h; cases h), fun i j d e ni nj _ _ h => (by rw [getD_replicate_false] at h; cases h)⟩
  rw [show plan.length + (l.toArray.size - plan.length) = l.toArray.size by omega] at key
  exact key

/-- All operations of the head, one by one. -/
def OpsRun (P : Program) (ops : Array Oper) (Q : Exit → Act → World → Prop) (a : Act) (ds : List Nat) (w : World) (R : Nat → Value → World → Prop) (fresh : Nat → Bool) : List Oper → List (Nat × List Nat) → Prop
  | _, [] => True
  | [], _ :: _ => True
  | o :: os, (d, needs) :: ps => OpRuns P ops Q a ds w R fresh o d needs ∧ OpsRun P ops Q a ds w R fresh os ps
theorem OpsRun.at {P : Program} {ops : Array Oper} {Q : Exit → Act → World → Prop} {a : Act} {ds : List Nat} {w : World} {R : Nat → Value → World → Prop} {fresh : Nat → Bool} : ∀ {os : List Oper} {ps : List (Nat × List Nat)}, OpsRun P ops Q a ds w R fresh os ps →
    ∀ (i : Nat) (o : Oper) (d : Nat) (needs : List Nat), os[i]? = some o → ps[i]? = some (d, needs) → OpRuns P ops Q a ds w R fresh o d needs
  | os, [], _, i, o, d, needs, _, h => by simp at h
  | [], _ :: _, _, i, o, d, needs, h, _ => by simp at h
  | o' :: os, (d', n') :: ps, h, 0, o, d, needs, h1, h2 => by
    simp at h1 h2
    obtain ⟨rfl, rfl⟩ := h2
    subst h1
    exact h.1
  | o' :: os, (d', n') :: ps, h, i + 1, o, d, needs, h1, h2 => OpsRun.at h.2 i o d needs (by simpa using h1) (by simpa using h2)
theorem opsrun_cons {P : Program} {ops : Array Oper} {Q : Exit → Act → World → Prop} {a : Act} {ds : List Nat} {w : World} {R : Nat → Value → World → Prop} {fresh : Nat → Bool} {o : Oper} {os : List Oper} {d : Nat} {needs : List Nat} {ps : List (Nat × List Nat)}
    (h : OpRuns P ops Q a ds w R fresh o d needs) (hs : OpsRun P ops Q a ds w R fresh os ps) : OpsRun P ops Q a ds w R fresh (o :: os) ((d, needs) :: ps) := ⟨h, hs⟩
theorem opsrun_nil {P : Program} {ops : Array Oper} {Q : Exit → Act → World → Prop} {a : Act} {ds : List Nat} {w : World} {R : Nat → Value → World → Prop} {fresh : Nat → Bool} {os : List Oper} : OpsRun P ops Q a ds w R fresh os [] := by
  cases os <;> exact trivial

theorem OpRuns.any {P : Program} {ops : Array Oper} {Q : Exit → Act → World → Prop} {a : Act} {ds : List Nat} {w : World} {R : Nat → Value → World → Prop} {fresh : Nat → Bool} {o : Oper} {d : Nat} {needs : List Nat}
    (h : ∀ Q' : Exit → Act → World → Prop, OpRuns P ops Q' a ds w R fresh o d needs) : OpRuns P ops Q a ds w R fresh o d needs := h Q

/-- The law, its operations handed over one by one. -/
theorem wp_loose {P : Program} {id : Nat} {Q : Exit → Act → World → Prop} {a : Act} {w : World} {l : List Oper} (plan : List (Nat × List Nat)) (R : Nat → Value → World → Prop) (fresh : Nat → Bool)
    (hm : P.follows .mixedOrders = true) (hB : planOk .any l.toArray plan = true)
    (hst : ∀ d v W W', R d v W → Below W.heap.size W W' → R d v W')
    (hops : OpsRun P l.toArray Q a (plan.map (·.1)) w R fresh l plan)
    (hend : ∀ (σ : Nat → Value) (W : World), Below w.heap.size w W → (∀ d ∈ plan.map (·.1), R d (σ d) W) →
      (∀ d ∈ plan.map (·.1), ∀ e ∈ plan.map (·.1), fresh d = true → fresh e = true → d ≠ e → σ d ≠ σ e) → wpList P l.toArray Q (l.drop plan.length) (fill a (plan.map (·.1)) σ) W) :
    (Code.region id l.toArray true).wp P Q a w :=
  wp_region_loose plan R fresh hm hB hst hops.at hend
end Go.Proofs.Ytmgbdccfgbflnaa
