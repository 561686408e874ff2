/-
  What rows must keep, and its bytes: there and back.
-/
import Derived.Test.YtckipfcjgmiacaaAirM
namespace Go.Proofs.Ytckipfcjgmiacaa
open Go Go.RowKit
set_option linter.unusedVariables false

theorem extract_right (a b : ByteArray) : (a ++ b).extract a.size (a ++ b).size = b := by
  refine byt_ext _ _ (by rw [ByteArray.size_extract, ByteArray.size_append]; omega) fun j hj => ?_
  rw [ByteArray.size_extract, ByteArray.size_append] at hj
  rw [byt_extract _ _ _ _ (Nat.le_refl _) (by rw [ByteArray.size_append]; omega), byt_append, if_neg (by omega)]
  congr 1
  omega
theorem extract_left (a b : ByteArray) : (a ++ b).extract 0 a.size = a := by
  refine byt_ext _ _ (by rw [ByteArray.size_extract, ByteArray.size_append]; omega) fun j hj => ?_
  rw [ByteArray.size_extract, ByteArray.size_append] at hj
  rw [byt_extract _ _ _ _ (by rw [ByteArray.size_append]; omega) (by omega), byt_append, if_pos (by omega), Nat.zero_add]
theorem extract_both (s : ByteArray) (k : Nat) (h : k ≤ s.size) : s.extract 0 k ++ s.extract k s.size = s := by
  refine byt_ext _ _ (by rw [ByteArray.size_append, ByteArray.size_extract, ByteArray.size_extract]; omega) fun j hj => ?_
  rw [ByteArray.size_append, ByteArray.size_extract, ByteArray.size_extract] at hj
  rw [byt_append, ByteArray.size_extract]
  by_cases c : j < k
  · rw [if_pos (by omega), byt_extract _ _ _ _ (by omega) (by omega), Nat.zero_add]
  · rw [if_neg (by omega), byt_extract _ _ _ _ (Nat.le_refl _) (by omega)]
    congr 1
    omega
theorem no_append (s : ByteArray) : noText ++ s = s := by
  refine byt_ext _ _ (by rw [ByteArray.size_append]; show 0 + s.size = s.size; omega) fun j hj => ?_
  rw [byt_append, if_neg (by show ¬ j < 0; omega)]
  rfl
theorem append_no (s : ByteArray) : s ++ noText = s := by
  refine byt_ext _ _ (by rw [ByteArray.size_append]; show s.size + 0 = s.size; omega) fun j hj => ?_
  rw [ByteArray.size_append] at hj
  rw [byt_append, if_pos (by have : noText.size = 0 := rfl; omega)]
theorem app3 (a b c : ByteArray) : a ++ b ++ c = a ++ (b ++ c) := by
  refine byt_ext _ _ (by simp only [ByteArray.size_append]; omega) fun j hj => ?_
  simp only [byt_append, ByteArray.size_append]
  by_cases c1 : j < a.size
  · rw [if_pos (by omega), if_pos c1, if_pos c1]
  · by_cases c2 : j < a.size + b.size
    · rw [if_pos c2, if_neg c1, if_neg c1, if_pos (by omega)]
    · rw [if_neg c2, if_neg c1, if_neg (by omega), Nat.sub_sub]
theorem rowB_one (n : Int) : rowB [n] = eightB n := by
  show noText ++ eightB n = _
  exact no_append _
theorem rowB_cons (n : Int) (l : List Int) : rowB (n :: l) = eightB n ++ rowB l := by rw [← rowB_one, rowB_append]; rfl
theorem num_head (n : Int) (s : ByteArray) (hn : U n) : numB (eightB n ++ s) 0 = n := by
  have h := numP_oct n hn
  rw [← h]
  unfold numB
  refine numP_ext fun j hj => ?_
  show byt _ (0 + j) = _
  rw [Nat.zero_add, byt_append, if_pos (by rw [eightB_size]; exact hj), byt_eight _ _ hj]
  rw [h]
theorem num_eight (s : ByteArray) (h : 8 ≤ s.size) : eightB (numB s 0) = s.extract 0 8 := by
  refine byt_ext _ _ (by rw [eightB_size, ByteArray.size_extract]; omega) fun j hj => ?_
  rw [eightB_size] at hj
  rw [byt_eight _ _ hj, byt_extract _ _ _ _ h (by omega)]
  unfold numB
  exact oct_numP (fun j => byt_bd s (0 + j)) j hj
/-! ### There -/
theorem numR_yes {n m : Int} (s : ByteArray) (h0 : 0 ≤ n) (h1 : n ≤ m) (hm : m < 18446744073709551616) : numR m (eightB n ++ s, false) = (n, (s, false)) := by
  have hu : U n := by unfold U; omega
  have e := num_head n s hu
  unfold numR
  simp only [e]
  rw [if_neg (by
    rintro (h | h | h)
    · cases h
    · rw [ByteArray.size_append, eightB_size] at h; omega
    · omega)]
  have := extract_right (eightB n) s
  rw [eightB_size] at this
  rw [this]
theorem textR_yes {t : ByteArray} {m : Int} (s : ByteArray) (h : (t.size : Int) ≤ m) (hm : m < 18446744073709551616) : textR m (textB t ++ s, false) = (t, (s, false)) := by
  unfold textR textB
  rw [app3, numR_yes (t ++ s) (by omega) h hm]
  simp only
  rw [if_neg (by
    rintro (h | h)
    · cases h
    · rw [ByteArray.size_append] at h; omega)]
  rw [Int.toNat_natCast, extract_left, extract_right]
theorem placeR_yes {b : Int × Int} (s : ByteArray) (h1 : 0 ≤ b.1 ∧ b.1 ≤ 8) (h2 : 0 ≤ b.2 ∧ b.2 ≤ 1024) : placeR (placeB b ++ s, false) = (b, (s, false)) := by
  unfold placeR placeB
  rw [rowB_cons, rowB_one, app3, numR_yes _ h1.1 h1.2 (by decide)]
  simp only
  rw [numR_yes _ h2.1 h2.2 (by decide)]
section
variable {α : Type}
def joinB (f : α → ByteArray) (l : List α) : ByteArray := addB f noText l
theorem addB_snoc (f : α → ByteArray) (s : ByteArray) (l : List α) (x : α) : addB f s (l ++ [x]) = addB f s l ++ f x := by unfold addB; rw [List.foldl_append]; rfl
theorem joinB_snoc (f : α → ByteArray) (l : List α) (x : α) : joinB f (l ++ [x]) = joinB f l ++ f x := addB_snoc f noText l x
theorem snoc_ind {p : List α → Prop} (h0 : p []) (h1 : ∀ l x, p l → p (l ++ [x])) : ∀ l, p l := by
  intro l
  have : ∀ n (l : List α), l.length = n → p l := by
    intro n
    induction n with
    | zero => intro l hl; rw [List.length_eq_zero_iff.mp hl]; exact h0
    | succ n ih =>
      intro l hl
      rcases List.eq_nil_or_concat l with rfl | ⟨l', x, rfl⟩
      · exact h0
      · rw [List.concat_eq_append] at hl ⊢
        refine h1 l' x (ih l' ?_)
        simpa using hl
  exact this _ l rfl
theorem addB_join (f : α → ByteArray) (s : ByteArray) : ∀ l : List α, addB f s l = s ++ joinB f l := by
  refine snoc_ind ?_ ?_
  · show s = s ++ noText
    rw [append_no]
  · intro l x ih
    rw [addB_snoc, joinB_snoc, ih, app3]
theorem manyR_yes {f : Rest → α × Rest} {g : α → ByteArray} : ∀ (l : List α), (∀ x ∈ l, ∀ s, f (g x ++ s, false) = (x, (s, false))) → ∀ s, manyR f (joinB g l ++ s, false) l.length = (l, (s, false)) := by
  refine snoc_ind ?_ ?_
  · intro _ s
    show (([] : List α), (noText ++ s, false)) = _
    rw [no_append]
  · intro l x ih h s
    rw [List.length_append, show l.length + [x].length = l.length + 1 from rfl, manyR, joinB_snoc, app3, ih (fun y hy => h y (by simp [hy]))]
    simp only
    rw [h x (by simp)]
end
theorem opN_most (o : Opn) : (opN o).length ≤ 9 := by
  rw [opN_len]
  split
  · omega
  · split <;> omega
theorem codeN_most (l : List Opn) : (codeN l).length ≤ 9 * l.length := by
  induction l with
  | nil => simp [codeN]
  | cons o l ih =>
    have := opN_most o
    simp only [codeN, List.flatMap_cons, List.length_append, List.length_cons] at *
    omega
theorem parse_size {s : ByteArray} {l : List Opn} (h : parseB s = (l, 0)) : s.size ≤ 2304 := by
  obtain ⟨h1, _, h2⟩ := parse_back h
  rw [← h1, codeB_size]
  have := codeN_most l
  omega
theorem AirP.text_size {A : AirP} (h : A.all.2 = 0) : (∀ t ∈ A.steps, t.size ≤ 2304) ∧ (∀ t ∈ A.rules, t.size ≤ 2304) := by
  refine ⟨fun t ht => ?_, fun t ht => ?_⟩
  · obtain ⟨i, hi, rfl⟩ := List.getElem_of_mem ht
    obtain ⟨l, d, h1, _⟩ := AirP.rule_ok h (i := i) (by unfold AirP.count; omega)
    unfold AirP.text at h1
    rw [if_pos hi] at h1
    have := parse_size h1
    simpa [List.getD, hi] using this
  · obtain ⟨i, hi, rfl⟩ := List.getElem_of_mem ht
    obtain ⟨l, d, h1, _⟩ := AirP.rule_ok h (i := A.steps.length + i) (by unfold AirP.count; omega)
    unfold AirP.text at h1
    rw [if_neg (by omega), show A.steps.length + i - A.steps.length = i by omega] at h1
    have := parse_size h1
    simpa [List.getD, hi] using this
theorem AirP.place_bd {A : AirP} (h : A.check = 0) : ∀ b ∈ A.bounds, (0 ≤ b.1 ∧ b.1 ≤ 8) ∧ 0 ≤ b.2 ∧ b.2 ≤ 1024 := by
  obtain ⟨h1, h2, _, _, h3⟩ := AirP.check_ok h
  intro b hb
  obtain ⟨i, hi, rfl⟩ := List.getElem_of_mem hb
  obtain ⟨⟨g1, g2, g3, g4⟩, _⟩ := h3 i hi
  have e : A.bound i = A.bounds[i] := by unfold AirP.bound; simp [List.getD, hi]
  rw [e] at g1 g2 g3 g4
  have := AirP.size_bd h1
  have := h2.2.1
  omega
theorem AirP.print_join (A : AirP) : A.print = eightB A.cols ++ (eightB A.log ++ (eightB A.steps.length ++ (eightB A.rules.length ++ (eightB A.bounds.length ++ (joinB textB A.steps ++ (joinB textB A.rules ++ (joinB placeB A.bounds ++ noText))))))) := by
  unfold AirP.print AirP.head
  rw [addB_join, addB_join, addB_join, rowB_cons, rowB_cons, rowB_cons, rowB_cons, rowB_one, append_no]
  simp only [app3]
theorem readA_print {A : AirP} (h : A.check = 0) : readA A.print = (A, (noText, false)) := by
  obtain ⟨h1, h2, h3, h4, _⟩ := AirP.check_ok h
  have h5 : A.all.2 = 0 := by rw [h3]; exact h4
  obtain ⟨t1, t2⟩ := AirP.text_size h5
  have hp := AirP.place_bd h
  obtain ⟨c0, c1, c2, c3⟩ := h2
  obtain ⟨l0, l1, l2⟩ := h1
  have hs : (A.steps.length : Int) ≤ 8 := by omega
  have e : headR (A.print, false) = (⟨A.cols, A.log, A.steps.length, A.rules.length, A.bounds.length⟩, (joinB textB A.steps ++ (joinB textB A.rules ++ (joinB placeB A.bounds ++ noText)), false)) := by
    rw [AirP.print_join]
    unfold headR
    rw [numR_yes _ (by omega) c1 (by decide)]
    simp only
    rw [numR_yes _ l0 l1 (by decide)]
    simp only
    rw [numR_yes _ (by omega) hs (by decide)]
    simp only
    rw [numR_yes _ (by omega) (by omega) (by decide)]
    simp only
    rw [numR_yes _ (by omega) (by omega) (by decide)]
  unfold readA
  rw [e]
  simp only [Int.toNat_natCast]
  rw [manyR_yes A.steps (fun t ht s => textR_yes s (by have := t1 t ht; omega) (by decide))]
  simp only
  rw [manyR_yes A.rules (fun t ht s => textR_yes s (by have := t2 t ht; omega) (by decide))]
  simp only
  rw [manyR_yes A.bounds (fun b hb s => placeR_yes s (hp b hb).1 (hp b hb).2)]
theorem parse_of_print {A : AirP} (h : A.check = 0) : parseA A.print = (A, 0) := by
  unfold parseA
  rw [readA_print h]
  simp only
  rw [if_neg (by
    rintro (h | h)
    · cases h
    · exact h rfl), if_neg (by simp [h])]
/-! ### Back -/
theorem numR_back {m : Int} {r : Rest} (h : (numR m r).2.2 = false) : r.2 = false ∧ r.1 = eightB (numR m r).1 ++ (numR m r).2.1 ∧ 0 ≤ (numR m r).1 ∧ (numR m r).1 ≤ m := by
  unfold numR at h ⊢
  by_cases c : r.2 = true ∨ r.1.size < 8 ∨ m < numB r.1 0
  · rw [if_pos c] at h; cases h
  · rw [if_neg c]
    simp only [not_or] at c
    obtain ⟨c1, c2, c3⟩ := c
    refine ⟨by simpa using c1, ?_, (numB_U _ _).1, by show numB r.1 0 ≤ m; omega⟩
    show r.1 = eightB (numB r.1 0) ++ r.1.extract 8 r.1.size
    rw [num_eight _ (by omega), extract_both _ _ (by omega)]
theorem textR_back {m : Int} {r : Rest} (h : (textR m r).2.2 = false) : r.2 = false ∧ r.1 = textB (textR m r).1 ++ (textR m r).2.1 ∧ ((textR m r).1.size : Int) ≤ m := by
  unfold textR at h ⊢
  by_cases c : (numR m r).2.2 = true ∨ ((numR m r).2.1.size : Int) < (numR m r).1
  · rw [if_pos c] at h; cases h
  · rw [if_neg c]
    simp only [not_or] at c
    obtain ⟨c1, c2⟩ := c
    obtain ⟨h1, h2, h3, h4⟩ := numR_back (m := m) (r := r) (by simpa using c1)
    generalize numR m r = q at *
    obtain ⟨n, s, b⟩ := q
    simp only at *
    have hz : (s.extract 0 n.toNat).size = n.toNat := by rw [ByteArray.size_extract]; omega
    refine ⟨h1, ?_, by rw [hz]; omega⟩
    unfold textB
    rw [app3, extract_both _ _ (by omega), hz, Int.toNat_of_nonneg h3]
    exact h2
theorem placeR_back {r : Rest} (h : (placeR r).2.2 = false) : r.2 = false ∧ r.1 = placeB (placeR r).1 ++ (placeR r).2.1 ∧ True := by
  unfold placeR at h ⊢
  obtain ⟨h1, h2, _, _⟩ := numR_back h
  obtain ⟨g1, g2, _, _⟩ := numR_back h1
  refine ⟨g1, ?_, trivial⟩
  unfold placeB
  rw [rowB_cons, rowB_one, app3]
  simp only
  rw [← h2]
  exact g2
section
variable {α : Type}
theorem manyR_back {f : Rest → α × Rest} {g : α → ByteArray} {p : α → Prop} (hf : ∀ r, (f r).2.2 = false → r.2 = false ∧ r.1 = g (f r).1 ++ (f r).2.1 ∧ p (f r).1) (r : Rest) : ∀ k, (manyR f r k).2.2 = false → r.2 = false ∧ r.1 = joinB g (manyR f r k).1 ++ (manyR f r k).2.1 ∧ ∀ x ∈ (manyR f r k).1, p x
  | 0, h => ⟨h, by show r.1 = noText ++ r.1; rw [no_append], fun x hx => by cases hx⟩
  | k + 1, h => by
    rw [manyR] at h ⊢
    obtain ⟨h1, h2, h3⟩ := hf _ h
    obtain ⟨g1, g2, g3⟩ := manyR_back hf r k h1
    refine ⟨g1, ?_, fun x hx => ?_⟩
    · rw [joinB_snoc, app3]
      simp only
      rw [← h2]
      exact g2
    · rcases List.mem_append.1 hx with hx | hx
      · exact g3 x hx
      · obtain rfl : x = _ := by simpa using hx
        exact h3
end
theorem headR_back {r : Rest} (h : (headR r).2.2 = false) : r.2 = false ∧ r.1 = eightB (headR r).1.c ++ (eightB (headR r).1.l ++ (eightB (headR r).1.s ++ (eightB (headR r).1.r ++ (eightB (headR r).1.b ++ (headR r).2.1)))) ∧ (0 ≤ (headR r).1.c ∧ (headR r).1.c ≤ 8) ∧ (0 ≤ (headR r).1.l ∧ (headR r).1.l ≤ 10) ∧ (0 ≤ (headR r).1.s ∧ (headR r).1.s ≤ 8) ∧ (0 ≤ (headR r).1.r ∧ (headR r).1.r ≤ 16) ∧ (0 ≤ (headR r).1.b ∧ (headR r).1.b ≤ 16) := by
  unfold headR at h ⊢
  obtain ⟨a1, a2, a3⟩ := numR_back h
  obtain ⟨b1, b2, b3⟩ := numR_back a1
  obtain ⟨c1, c2, c3⟩ := numR_back b1
  obtain ⟨d1, d2, d3⟩ := numR_back c1
  obtain ⟨e1, e2, e3⟩ := numR_back d1
  refine ⟨e1, ?_, e3, d3, c3, b3, a3⟩
  simp only
  rw [← a2, ← b2, ← c2, ← d2]
  exact e2
theorem readA_back {s : ByteArray} (h1 : (readA s).2.2 = false) (h2 : (readA s).2.1.size = 0) : (readA s).1.print = s := by
  unfold readA at h1 h2 ⊢
  simp only at h1 h2 ⊢
  obtain ⟨a1, a2, _⟩ := manyR_back (p := fun _ => True) (fun r h => placeR_back h) _ _ h1
  obtain ⟨b1, b2, _⟩ := manyR_back (p := fun t => (t.size : Int) ≤ 4096) (fun r h => textR_back h) _ _ a1
  obtain ⟨c1, c2, _⟩ := manyR_back (p := fun t => (t.size : Int) ≤ 4096) (fun r h => textR_back h) _ _ b1
  obtain ⟨d1, d2, d3, d4, d5, d6, d7⟩ := headR_back c1
  have hz : ∀ q : ByteArray, q.size = 0 → q = noText := fun q hq => byt_ext _ _ hq fun j hj => by omega
  rw [AirP.print_join]
  simp only [manyR_len, Int.toNat_of_nonneg d5.1, Int.toNat_of_nonneg d6.1, Int.toNat_of_nonneg d7.1]
  rw [← hz _ h2, ← a2, ← b2, ← c2]
  exact d2.symm
theorem print_of_parse {s : ByteArray} {A : AirP} (h : parseA s = (A, 0)) : A.print = s ∧ A.check = 0 := by
  unfold parseA at h
  by_cases c : (readA s).2.2 = true ∨ (readA s).2.1.size ≠ 0
  · rw [if_pos c] at h; cases h
  · rw [if_neg c] at h
    by_cases d : (readA s).1.check ≠ 0
    · rw [if_pos d] at h; exact absurd (Prod.mk.inj h).2 d
    · rw [if_neg d] at h
      have e : (readA s).1 = A := (Prod.mk.inj h).1
      simp only [not_or] at c
      rw [← e]
      exact ⟨readA_back (by simpa using c.1) (by simpa using c.2), by simpa using d⟩
end Go.Proofs.Ytckipfcjgmiacaa
