/-
  What layer 23's examples come to: no walk.
-/
import Derived.Test.YthfkfgjhgicfeaaGreatDoorCountE
namespace Go.Proofs.YthfkfgjhgicfeaaGreatDoor
open Go Go.RowKit
set_option linter.unusedVariables false
set_option linter.unusedSimpArgs false

/-- The word of 1 + 2 X, and the one with another value at its first place. -/
def wordP : QL := forthQ [(1, 0), (2, 0)] (shiftF 0) 3
def wordX : QL := wordP.set 0 (0, 5)
theorem wordP_len : wordP.length = 8 := forthQ_len _ _ _
theorem wordX_len : wordX.length = 8 := by unfold wordX; rw [List.length_set]; exact wordP_len
theorem wordX_U : ∀ n ∈ wordX, U n.1 ∧ U n.2 := fun n hn => by
  rcases List.mem_or_eq_of_mem_set hn with h | h
  · exact joinL_U _ _ n h
  · rw [h]; unfold U; decide
def two12 : Nat → F2 := cq [1, ⟨2, 0⟩]
theorem two12_upto : Upto 2 two12 := cq_upto [1, ⟨2, 0⟩]
abbrev ptX (i : Nat) : F2 := ptV ((3 : Nat) : Int) 0 i
theorem wordP_at {i : Nat} (hi : i < 8) : qe 2 two12 (ptX i) = qAt wordP i := honest_at [(1, 0), (2, 0)] 3 (by decide) hi
theorem two12_eval (z : F2) : qe 2 two12 z = 1 + z * ⟨2, 0⟩ := by
  rw [show (2 : Nat) = 1 + 1 from rfl, qe_first, qe_first, qe_none _ (fun i hi => absurd hi (Nat.not_lt_zero i)), F2.mul_zero, F2.add_zero]
  rfl
theorem wordX_at {i : Nat} (h0 : i ≠ 0) : qAt wordX i = qAt wordP i := by
  unfold qAt wordX
  simp only [List.getD, List.getElem?_set_ne (Ne.symm h0)]
theorem wordX_0 : qAt wordX 0 = ⟨0, 5⟩ := by
  unfold qAt wordX
  rw [show (wordP.set 0 (0, 5)).getD 0 (0, 0) = (0, 5) by simp [List.getD, wordP_len]]
  decide +kernel
theorem ptX_b (i : Nat) : (ptX i).b = 0 := rfl
theorem wordP_b {i : Nat} (hi : i < 8) : (qAt wordP i).b = 0 := by
  rw [← wordP_at hi, two12_eval]
  simp only [F2.add_b, F2.mul_b, ptX_b, F2.one_b]
  grind
theorem five_ne : ∀ {i : Nat}, i < 8 → ¬ qAt wordP i = ⟨0, 5⟩ := fun hi h => by
  have := congrArg F2.b h
  rw [wordP_b hi] at this
  revert this
  decide +kernel
/-! ### Halves -/
theorem P_halves {i : Nat} (hi : i < 4) : evenV wordP 0 i = 1 ∧ oddV wordP 0 i = ⟨2, 0⟩ := by
  obtain ⟨w1, w2⟩ := word_back (word := wordP) (m := 2) wordP_len (by decide) 0 hi
  have e1 := wordP_at (i := i) (by omega)
  have e2 := wordP_at (i := i + 2 ^ 2) (by omega)
  rw [two12_eval, ← w1] at e1
  rw [show ptX (i + 2 ^ 2) = -ptX i from ptV_half (m := 2) (by decide) 0 i, two12_eval, ← w2] at e2
  obtain ⟨h1, h2⟩ := two_alg _ _ _ _ _ e1 e2 (ptV_ne (by decide) 0 i)
  exact ⟨h1.symm, h2.symm⟩
theorem X_fold {i : Nat} (hi : i < 4) (h0 : i ≠ 0) (y : F2) : evenV wordX 0 i + y * oddV wordX 0 i = 1 + y * ⟨2, 0⟩ := by
  obtain ⟨h1, h2⟩ := P_halves hi
  rw [← h1, ← h2, ← word_lin (word := wordX) (m := 2) wordX_len (by decide) y 0 hi, ← word_lin (word := wordP) (m := 2) wordP_len (by decide) y 0 hi,
    word_at (word := wordX) (m := 2) wordX_len (by decide) y 0 hi, word_at (word := wordP) (m := 2) wordP_len (by decide) y 0 hi, wordX_at h0, wordX_at (by omega)]
/-- At the first place it does but by one pair. -/
theorem X_first (y : F2) : evenV wordX 0 0 + y * oddV wordX 0 0 = 1 + y * ⟨2, 0⟩ ↔ y = -ptX 0 := by
  obtain ⟨h1, h2⟩ := P_halves (i := 0) (by decide)
  have hx : pointF ((2 + 1 : Nat) : Int) 0 ((0 : Nat) : Int) ≠ 0 := by rw [pointF_pt 3 (by decide)]; exact pt_ne (shiftF_ne 0) 3 (by decide) 0
  rw [← h1, ← h2, ← word_lin (word := wordX) (m := 2) wordX_len (by decide) y 0 (by decide), ← word_lin (word := wordP) (m := 2) wordP_len (by decide) y 0 (by decide),
    word_at (word := wordX) (m := 2) wordX_len (by decide) y 0 (by decide), word_at (word := wordP) (m := 2) wordP_len (by decide) y 0 (by decide), wordX_0, wordX_at (i := 0 + 2 ^ 2) (by decide)]
  constructor
  · intro h
    rcases foldV_first hx h with e | e
    · exact absurd e (five_ne (by decide))
    · have : y = -lift (pointF ((2 + 1 : Nat) : Int) 0 ((0 : Nat) : Int)) := by
        have := congrArg (fun t => t + -lift (pointF ((2 + 1 : Nat) : Int) 0 ((0 : Nat) : Int))) e
        simp only [F2.add_assoc, F2.add_neg, F2.add_zero, F2.zero_add] at this
        exact this
      exact this
  · rintro rfl
    have key : ∀ a b : F2, foldV a b (-ptX 0) (pointF ((2 + 1 : Nat) : Int) 0 ((0 : Nat) : Int)) = b := fun a b => by
      rw [foldV_lin]
      have := (half_sum a b _ hx).2
      rw [F2.sub_eq, ← F2.neg_mul] at this
      exact this
    rw [key, key]
/-! ### What they come to -/
theorem many_but {p : Nat → Bool} (h0 : p 0 = false) : ∀ n, (∀ i, i < n + 1 → i ≠ 0 → p i = true) → many p (n + 1) = n
  | 0, _ => by rw [many_no (by rw [h0]; decide)]; rfl
  | n + 1, h => by rw [many_yes (h (n + 1) (by omega) (by omega)), many_but h0 n fun i hi h0' => h i (by omega) h0']
theorem many_full {p : Nat → Bool} : ∀ {n : Nat}, n ≤ many p n → ∀ i, i < n → p i = true
  | 0, _, i, hi => by omega
  | n + 1, h, i, hi => by
    have h1 := many_le p n
    by_cases c : p n = true
    · rw [many_yes c] at h
      by_cases d : i = n
      · rw [d]; exact c
      · exact many_full (n := n) (by omega) i (by omega)
    · rw [many_no c] at h; omega
theorem lgX : lg (wordX.length : Int) = ((3 : Nat) : Int) := lg_len (m := 3) wordX_len
theorem c_first (c : F2 → F2) (hc : c (ptX 0) = qAt wordP 0) : decide (c (ptX 0) = qAt wordX 0) = false := by
  rw [hc, wordX_0]
  exact decide_eq_false (five_ne (by decide))
theorem agreeN_X (c : F2 → F2) (hc : ∀ i, i < 8 → c (ptX i) = qAt wordP i) : agreeN ptX (qAt wordX) c 8 = 7 :=
  many_but (p := fun i => decide (c (ptX i) = qAt wordX i)) (c_first c (hc 0 (by decide))) 7 fun i hi h0 => decide_eq_true (by rw [wordX_at h0]; exact hc i hi)
theorem agreeT_X (c : F2 → F2) (hc : ∀ i, i < 8 → c (ptX i) = qAt wordP i) : agreeT ptX (qAt wordX) c 4 = 3 :=
  many_but (p := fun i => decide (c (ptX i) = qAt wordX i) && decide (c (ptX (i + 4)) = qAt wordX (i + 4))) (by rw [c_first c (hc 0 (by decide))]; rfl) 3 fun i hi h0 => by
    rw [Bool.and_eq_true]
    exact ⟨decide_eq_true (by rw [wordX_at h0]; exact hc i (by omega)), decide_eq_true (by rw [wordX_at (by omega)]; exact hc (i + 4) (by omega))⟩
theorem agreeC_X (c : F2 → F2) : agreeC wordX 0 c false = agreeN ptX (qAt wordX) c 8 ∧ agreeC wordX 0 c true = agreeT ptX (qAt wordX) c 4 := by
  constructor
  · unfold agreeC
    rw [lgX, if_pos (by decide), if_neg (by decide), wordX_len]
  · unfold agreeC
    rw [lgX, if_pos (by decide), if_pos rfl, wordX_len]
theorem x_agree : agreeV wordX 0 [1, ⟨2, 0⟩] false = 7 := by
  unfold agreeV
  rw [(agreeC_X _).1]
  exact agreeN_X _ fun i hi => wordP_at hi
theorem apartX : ApartTo' 8 ptX := ptV_apart (m := 3) (by decide) 0
theorem bokX : bestOk wordX.length 2 := by
  unfold bestOk
  rw [lgX, wordX_len]
  decide
/-- One that has both of two places is it. -/
theorem c_two {c : Nat → F2} (uc : Upto 2 c) (h1 : qe 2 c (ptX 1) = qAt wordX 1) (h2 : qe 2 c (ptX 2) = qAt wordX 2) (i : Nat) : c i = two12 i := by
  refine through_one uc two12_upto (fun k => ptX (k + 1)) (fun i j hi hj => apartX _ _ (by omega) (by omega)) (fun k hk => ?_) i
  rw [wordP_at (by omega)]
  match k, hk with
  | 0, _ => rw [h1, wordX_at (by decide)]
  | 1, _ => rw [h2, wordX_at (by decide)]
theorem c_not {c : Nat → F2} (uc : Upto 2 c) (h0 : qe 2 c (ptX 0) = qAt wordX 0) (h1 : qe 2 c (ptX 1) = qAt wordX 1) (h2 : qe 2 c (ptX 2) = qAt wordX 2) : False := by
  rw [qe_congr fun i _ => c_two uc h1 h2 i, wordP_at (by decide), wordX_0] at h0
  exact five_ne (by decide) h0
theorem x_best : bestV wordX 0 2 false = 7 := by
  have hx : ApartTo' wordX.length (ptV (lg (wordX.length : Int)) 0) := by rw [lgX, wordX_len]; exact apartX
  have h1 := best_ge (two := false) bokX hx (c := two12) two12_upto (by
    rw [lgX, wordX_len]
    exact Nat.le_trans (by decide) (Nat.le_of_eq (agreeN_X _ fun i hi => wordP_at hi).symm))
  rw [(agreeC_X _).1] at h1
  have h7 := agreeN_X (qe 2 two12) fun i hi => wordP_at hi
  rw [show (2 : Int).toNat = 2 from rfl, h7] at h1
  refine Nat.le_antisymm (Nat.le_of_not_lt fun hgt => ?_) h1
  obtain ⟨c, uc, e⟩ := best_is (word := wordX) (f := 0) (dim := 2) (two := false) (fun _ => hx) (by omega)
  rw [(agreeC_X _).1] at e
  have hall := many_full (p := fun i => decide (qe 2 c (ptX i) = qAt wordX i)) (n := 8) (by
    have : agreeN ptX (qAt wordX) (qe 2 c) 8 = bestV wordX 0 2 false := e.symm
    unfold agreeN at this
    omega)
  exact c_not uc (of_decide_eq_true (hall 0 (by decide))) (of_decide_eq_true (hall 1 (by decide))) (of_decide_eq_true (hall 2 (by decide)))
theorem x_best2 : bestV wordX 0 2 true = 3 := by
  have hx : ApartTo' wordX.length (ptV (lg (wordX.length : Int)) 0) := by rw [lgX, wordX_len]; exact apartX
  have h1 := best_ge (two := true) bokX hx (c := two12) two12_upto (by
    rw [lgX, wordX_len]
    exact Nat.le_trans (by decide) (Nat.le_of_eq (agreeN_X _ fun i hi => wordP_at hi).symm))
  rw [(agreeC_X _).2] at h1
  have h7 := agreeT_X (qe 2 two12) fun i hi => wordP_at hi
  rw [show (2 : Int).toNat = 2 from rfl, h7] at h1
  refine Nat.le_antisymm (Nat.le_of_not_lt fun hgt => ?_) h1
  obtain ⟨c, uc, e⟩ := best_is (word := wordX) (f := 0) (dim := 2) (two := true) (fun _ => hx) (by omega)
  rw [(agreeC_X _).2] at e
  have hall := many_full (p := fun i => decide (qe 2 c (ptX i) = qAt wordX i) && decide (qe 2 c (ptX (i + 4)) = qAt wordX (i + 4))) (n := 4) (by
    have : agreeT ptX (qAt wordX) (qe 2 c) 4 = bestV wordX 0 2 true := e.symm
    unfold agreeT at this
    omega)
  have hb : ∀ i, i < 4 → qe 2 c (ptX i) = qAt wordX i := fun i hi => by
    have := hall i hi
    rw [Bool.and_eq_true] at this
    exact of_decide_eq_true this.1
  exact c_not uc (hb 0 (by decide)) (hb 1 (by decide)) (hb 2 (by decide))
theorem badX (s : Nat) (h1 : 1 < s) (h2 : s ≤ 4) : BadW wordX 2 1 s (badV wordX 0 1 (s : Int)).1 (badV wordX 0 1 (s : Int)).2 := ⟨wordX_len, by decide, by decide, h1, h2, rfl⟩
theorem x_bad3 : badV wordX 0 1 3 = ([], true) := by
  have h := badX 3 (by decide) (by decide)
  have hb := h.best (by decide)
  rw [show ((2 * 1 : Nat) : Int) = 2 from rfl, x_best2] at hb
  have ht : (badV wordX 0 1 3).2 = true := hb
  exact Prod.ext (h.nil ht) ht
theorem nodup_one {l : List F2} {a : F2} (hn : l.Nodup) (ha : a ∈ l) (h : ∀ x ∈ l, x = a) : l.length = 1 := by
  match l, hn, ha, h with
  | [_], _, _, _ => rfl
  | x :: y :: r, hn, _, h =>
    have h1 := h x (List.mem_cons_self ..)
    have h2 := h y (List.mem_cons_of_mem _ (List.mem_cons_self ..))
    exact absurd (by rw [h1, h2]; exact List.mem_cons_self ..) (List.nodup_cons.1 hn).1
theorem qe_one (c : Nat → F2) (x : F2) : qe 1 c x = c 0 := by
  rw [show (1 : Nat) = 0 + 1 from rfl, qe_first, qe_none _ (fun i hi => absurd hi (Nat.not_lt_zero i)), F2.mul_zero, F2.add_zero]
theorem x_bad4 : (badV wordX 0 1 4).1.length = 1 ∧ (badV wordX 0 1 4).2 = false := by
  have h := badX 4 (by decide) (by decide)
  have hb := h.best (by decide)
  rw [show ((2 * 1 : Nat) : Int) = 2 from rfl, x_best2] at hb
  have ht : (badV wordX 0 1 4).2 = false := hb
  refine ⟨nodup_one h.nodup (a := -ptX 0) ?_ fun y hy => ?_, ht⟩
  · have := h.of_near (y := -ptX 0) ⟨fun i => if i = 0 then 1 + -ptX 0 * ⟨2, 0⟩ else 0, fun i hi => if_neg (by omega), by
      rw [many_all (n := 2 ^ 2) fun i hi => decide_eq_true (by
        rw [qe_one, if_pos rfl]
        by_cases h0 : i = 0
        · rw [h0]; exact ((X_first _).2 rfl).symm
        · exact (X_fold hi h0 _).symm)]
      decide⟩
    rcases this with e | e
    · exact absurd (ht.symm.trans e) (by decide)
    · exact e
  · obtain ⟨c, uc, hk⟩ := h.near hy
    have hall := many_full hk
    have a0 := of_decide_eq_true (hall 0 (by decide))
    have a1 := of_decide_eq_true (hall 1 (by decide))
    rw [qe_one] at a0 a1
    rw [X_fold (by decide) (by decide)] at a1
    exact (X_first y).1 (a0.symm.trans a1)
set_option maxRecDepth 100000 in
theorem x_accepts : acceptsV 1 2 1 [(3, 0)] [wordX] [(7, 0)] = 3 := by
  have hR : ∀ i, i < 4 → judgeB 1 2 1 [(3, 0)] ((i : Nat) : Int) (opnF [wordX] (i : Int)) (opnR [wordX] (i : Int)) [(7, 0)] = decide (evenV wordX 0 i + ⟨3, 0⟩ * oddV wordX 0 i = 1 + ⟨3, 0⟩ * ⟨2, 0⟩) := fun i hi => by
    have hop : opnV [wordX] (i : Int) = [twoAt wordX i 4] := by
      unfold opnV
      rw [if_neg (by omega), Int.toNat_natCast, opnL, wordX_len, if_neg (by decide), Nat.mod_eq_of_lt (show i < 8 / 2 by omega)]
      rfl
    have hF : opnF [wordX] (i : Int) = twoAt wordX i 4 := by unfold opnF; rw [hop]; rfl
    have hL : opnR [wordX] (i : Int) = [] := by unfold opnR; rw [hop]; rfl
    rw [hF, hL]
    unfold judgeB
    rw [if_pos (show rightJ 1 2 1 [((3 : Int), (0 : Int))].length (i : Int) ([] : List Quad).length [((7 : Int), (0 : Int))].length by
      refine ⟨by decide, by decide, by omega, ?_, by decide, by decide⟩
      show (i : Int) < ((2 ^ 2 : Nat) : Int)
      omega), if_neg (by decide), Int.toNat_natCast, show ((1 : Int) + 2).toNat = 3 from rfl, show (1 : Int).toNat = 1 from rfl, jAll, jAll, Bool.true_and]
    unfold jOk jV jWant
    rw [if_pos (by rfl), jAt_zero (m := 3) (by show i < 4; exact hi)]
    have e1 := word_at (word := wordX) (m := 2) wordX_len (by decide) ⟨3, 0⟩ 0 hi
    have e2 := word_lin (word := wordX) (m := 2) wordX_len (by decide) ⟨3, 0⟩ 0 hi
    have e3 : foldV (toQ (jTwo (twoAt wordX i 4) [] 0).1) (toQ (jTwo (twoAt wordX i 4) [] 0).2) (qAt [(3, 0)] 0) (pointF ((3 - 0 : Nat) : Int) ((0 : Nat) : Int) (i : Int)) = evenV wordX 0 i + ⟨3, 0⟩ * oddV wordX 0 i := by
      have hy : qAt [(3, 0)] 0 = (⟨3, 0⟩ : F2) := by decide +kernel
      have hm : ((3 - 0 : Nat) : Int) = ((2 + 1 : Nat) : Int) := by decide
      have hT : jTwo (twoAt wordX i 4) [] 0 = twoAt wordX i 4 := if_pos rfl
      have h4 : i + 2 ^ 2 = i + 4 := by rw [show (2 : Nat) ^ 2 = 4 by decide]
      have h00 : ((0 : Nat) : Int) = 0 := by decide
      rw [h4] at e1
      rw [hy, hm, hT, h00, ← e2, e1]
      unfold twoAt qAt
      rfl
    rw [e3]
    have e4 : finAt [(7, 0)] (pointF ((3 - 0 - 1 : Nat) : Int) ((0 + 1 : Nat) : Int) (i : Int)) = 1 + ⟨3, 0⟩ * ⟨2, 0⟩ := by
      unfold finAt
      show qe 1 _ _ = _
      rw [qe_one]
      decide +kernel
    rw [e4]
  unfold acceptsV
  show many _ 4 = 3
  refine many_but ?_ 3 fun i hi h0 => ?_
  · rw [hR 0 (by decide)]
    refine decide_eq_false fun e => ?_
    have := (X_first ⟨3, 0⟩).1 e
    have h2 : ptX 0 = ⟨7, 0⟩ := by
      unfold ptX
      rw [ptV_pt (by decide)]
      unfold pt
      rw [fpow_zero]
      decide +kernel
    rw [h2] at this
    revert this
    decide +kernel
  · rw [hR i hi]
    exact decide_eq_true (X_fold hi h0 _)
theorem x_words : (wordsV wordX [(3, 0)]).length = 1 := by
  have hok : chOk wordX [(3, 0)] 1 = true := by
    rw [chOk, chOk, Bool.true_and]
    unfold chB
    rw [wordV_yes (by show 1 ≤ lg (wordX.length : Int) ∧ _; rw [show chW wordX [(3, 0)] 0 = wordX from rfl, lgX]; decide)]
  rw [wordsV_yes hok, List.length_take, chRows_len]
  rfl
end Go.Proofs.YthfkfgjhgicfeaaGreatDoor
