/-
  Few pairs are bad; by others a word is taken at few places. Plain.
-/
import Derived.Test.YthfkfgjhgicfeaaGreatDoorCountM
namespace Go.Proofs.YthfkfgjhgicfeaaGreatDoor
open Go Go.RowKit
set_option linter.unusedVariables false
set_option linter.unusedSimpArgs false

/-! ### A set, and what it tells -/
theorem take_drop_mem {d k : Nat} {I : List Nat} : k ∈ I ↔ k ∈ I.take d ∨ k ∈ I.drop d := by
  rw [← List.mem_append, List.take_append_drop]
def restV (x E O : Nat → F2) (d : Nat) (I : List Nat) : List (F2 × F2) :=
  (I.drop d).map (missV x E O (thrL (picks x (I.take d)) (picks E (I.take d))) (thrL (picks x (I.take d)) (picks O (I.take d))))
theorem setV_inv (x E O : Nat → F2) (d : Nat) (I : List Nat) : SetInv (setV x E O d I) (restV x E O d I) := setInv_all _
theorem rest_all {x E O : Nat → F2} {d : Nat} {I : List Nat} {Q : F2 × F2 → Prop} (h : ∀ p ∈ restV x E O d I, Q p) : ∀ k ∈ I.drop d, Q (missV x E O (thrL (picks x (I.take d)) (picks E (I.take d))) (thrL (picks x (I.take d)) (picks O (I.take d))) k) :=
  fun k hk => h _ (List.mem_map.2 ⟨k, hk, rfl⟩)
theorem rest_of {x E O : Nat → F2} {d : Nat} {I : List Nat} {Q : F2 × F2 → Prop} (h : ∀ k ∈ I.drop d, Q (missV x E O (thrL (picks x (I.take d)) (picks E (I.take d))) (thrL (picks x (I.take d)) (picks O (I.take d))) k)) : ∀ p ∈ restV x E O d I, Q p := by
  intro p hp
  obtain ⟨k, hk, rfl⟩ := List.mem_map.1 hp
  exact h k hk
/-- Both halves are polynomials' at so many places. -/
def BothAt (N s d : Nat) (x E O : Nat → F2) : Prop := ∃ a b, Upto d a ∧ Upto d b ∧ s ≤ many (fun i => decide (qe d a (x i) = E i ∧ qe d b (x i) = O i)) N
/-- The word folded by y is a polynomial's at so many places. -/
def NearAt (N s d : Nat) (x E O : Nat → F2) (y : F2) : Prop := ∃ c, Upto d c ∧ s ≤ many (fun i => decide (qe d c (x i) = E i + y * O i)) N
variable {N s d : Nat} {x E O : Nat → F2}
theorem set_base (hx : ApartTo' N x) (hd : d ≤ s) {I : List Nat} (hI : I ∈ subs s N) : I.take d ∈ subs d N := subs_take d hI hd
theorem set_both (hx : ApartTo' N x) (hd : d ≤ s) {I : List Nat} (hI : I ∈ subs s N) (h : (setV x E O d I).2.2 = false ∧ (setV x E O d I).2.1 = false) : BothAt N s d x E O := by
  have hz := ((setV_inv x E O d I).2.1 h.1).1 h.2
  have hB := set_base hx hd hI
  obtain ⟨_, hu, hE, hEk⟩ := through_is (v := E) hx hB
  obtain ⟨_, hv, hO, hOk⟩ := through_is (v := O) hx hB
  refine ⟨_, _, hu, hv, subs_many hI fun k hk => decide_eq_true ?_⟩
  rw [← hE, ← hO]
  rcases take_drop_mem.1 hk with hk | hk
  · exact ⟨hEk k hk, hOk k hk⟩
  · obtain ⟨h1, h2⟩ := rest_all hz k hk
    exact ⟨(sub_eq_zero' h1).symm, (sub_eq_zero' h2).symm⟩
theorem set_of_both (hx : ApartTo' N x) (hd : d ≤ s) (h : BothAt N s d x E O) : ∃ I ∈ subs s N, (setV x E O d I).2.2 = false ∧ (setV x E O d I).2.1 = false := by
  obtain ⟨a, b, ua, ub, hk⟩ := h
  obtain ⟨I, hI, h2⟩ := subs_of hk
  have hB := set_base hx hd hI
  have hE : ∀ z, atP (thrL (picks x (I.take d)) (picks E (I.take d))) z = qe d a z := through_only hx hB ua fun k hk => (of_decide_eq_true (h2 k (take_drop_mem.2 (Or.inl hk)))).1
  have hO : ∀ z, atP (thrL (picks x (I.take d)) (picks O (I.take d))) z = qe d b z := through_only hx hB ub fun k hk => (of_decide_eq_true (h2 k (take_drop_mem.2 (Or.inl hk)))).2
  have hz : ∀ p ∈ restV x E O d I, p.1 = 0 ∧ p.2 = 0 := rest_of fun k hk => by
    obtain ⟨e1, e2⟩ := of_decide_eq_true (h2 k (take_drop_mem.2 (Or.inr hk)))
    unfold missV
    rw [hE, hO, e1, e2, sub_self', sub_self']
    exact ⟨rfl, rfl⟩
  have hi := setV_inv x E O d I
  refine ⟨I, hI, ?_⟩
  cases hn : (setV x E O d I).2.2
  · cases hk : (setV x E O d I).2.1
    · exact ⟨rfl, rfl⟩
    · obtain ⟨p, hp, h3⟩ := ((hi.2.1 hn).2 hk).2
      exact absurd (hz p hp).2 h3
  · exact absurd ⟨0, fun p hp => by rw [(hz p hp).1, (hz p hp).2, F2.zero_mul, F2.add_zero]⟩ (hi.1 hn)
theorem miss_alg (E O e o y : F2) : (E - e) + y * (O - o) = (E + y * O) - (e + y * o) := F2.eq (by simp only [F2.sub_a, F2.sub_b, F2.add_a, F2.add_b, F2.mul_a, F2.mul_b]; grind) (by simp only [F2.sub_a, F2.sub_b, F2.add_a, F2.add_b, F2.mul_a, F2.mul_b]; grind)
theorem set_near (hx : ApartTo' N x) (hd : d ≤ s) {I : List Nat} (hI : I ∈ subs s N) {y : F2} (h : setV x E O d I = (y, true, false)) : NearAt N s d x E O y := by
  have hi := setV_inv x E O d I
  rw [h] at hi
  have hz := ((hi.2.1 rfl).2 rfl).1
  simp only at hz
  have hB := set_base hx hd hI
  obtain ⟨_, hu, hE, hEk⟩ := through_is (v := E) hx hB
  obtain ⟨_, hv, hO, hOk⟩ := through_is (v := O) hx hB
  refine ⟨_, upto_lin hu hv y, subs_many hI fun k hk => decide_eq_true ?_⟩
  rw [qe_lin, ← hE, ← hO]
  rcases take_drop_mem.1 hk with hk | hk
  · rw [hEk k hk, hOk k hk]
  · have h1 := rest_all hz k hk
    unfold missV at h1
    rw [miss_alg] at h1
    exact (sub_eq_zero' h1).symm
theorem near_set (hx : ApartTo' N x) (hd : d ≤ s) {y : F2} (h : NearAt N s d x E O y) : ∃ I ∈ subs s N, ((setV x E O d I).2.2 = false ∧ (setV x E O d I).2.1 = false) ∨ setV x E O d I = (y, true, false) := by
  obtain ⟨c, uc, hk⟩ := h
  obtain ⟨I, hI, h2⟩ := subs_of hk
  have hB := set_base hx hd hI
  obtain ⟨_, hu, hE, hEk⟩ := through_is (v := E) hx hB
  obtain ⟨_, hv, hO, hOk⟩ := through_is (v := O) hx hB
  have hl := subs_len hB
  have hc : ∀ j, c j = cq (thrL (picks x (I.take d)) (picks E (I.take d))) j + y * cq (thrL (picks x (I.take d)) (picks O (I.take d))) j :=
    through_one uc (upto_lin hu hv y) (fun i => x ((I.take d).getD i 0)) (apart_sub hx hB) fun i hi => by
      have hm : (I.take d).getD i 0 ∈ I.take d := getD_mem (by omega)
      rw [of_decide_eq_true (h2 _ (take_drop_mem.2 (Or.inl hm))), qe_lin, ← hE, ← hO, hEk _ hm, hOk _ hm]
  have hz : ∀ p ∈ restV x E O d I, p.1 + y * p.2 = 0 := rest_of fun k hk => by
    have h1 := of_decide_eq_true (h2 k (take_drop_mem.2 (Or.inr hk)))
    rw [qe_congr fun j _ => hc j, qe_lin, ← hE, ← hO] at h1
    unfold missV
    rw [miss_alg, h1, sub_self']
  have hi := setV_inv x E O d I
  refine ⟨I, hI, ?_⟩
  cases hn : (setV x E O d I).2.2
  · cases hk : (setV x E O d I).2.1
    · exact Or.inl ⟨rfl, rfl⟩
    · obtain ⟨h3, p, hp, h4⟩ := (hi.2.1 hn).2 hk
      refine Or.inr (Prod.ext ?_ (Prod.ext hk hn))
      rw [want_one h4 (h3 p hp), ← want_one h4 (hz p hp)]
  · exact absurd ⟨y, hz⟩ (hi.1 hn)
/-! ### A word's halves -/
theorem lg_len {word : QL} {m : Nat} (h : word.length = 2 ^ m) : lg (word.length : Int) = (m : Int) := by rw [h]; exact lg_pow m
theorem half_len {word : QL} {m : Nat} (h : word.length = 2 ^ (m + 1)) : word.length / 2 = 2 ^ m := by rw [h, Nat.pow_succ, Nat.mul_div_cancel _ (by decide)]
theorem ptV_pt {m : Nat} (hm : m ≤ 32) (f : Int) (i : Nat) : ptV (m : Int) f i = lift (pt (shiftF f) m i) := by unfold ptV; rw [pointF_pt m hm]
theorem ptV_apart {m : Nat} (hm : m ≤ 32) (f : Int) : ApartTo' (2 ^ m) (ptV (m : Int) f) := fun i j hi hj h => by
  rw [ptV_pt hm, ptV_pt hm] at h
  have h1 : pt (shiftF f) m i = pt (shiftF f) m j := congrArg F2.a h
  have h2 : fpow (rootOf m) i = fpow (rootOf m) j := by
    unfold pt at h1
    exact mul_cancel (shiftF_ne f) h1
  have := root_inj m hm i j hi (by omega) h2
  omega
theorem word_at {word : QL} {m : Nat} (hw : word.length = 2 ^ (m + 1)) (hm : m + 1 ≤ 20) (y : F2) (f : Int) {i : Nat} (hi : i < 2 ^ m) :
    qAt (wordV word y f).1 i = foldV (qAt word i) (qAt word (i + 2 ^ m)) y (pointF ((m + 1 : Nat) : Int) f (i : Int)) := by
  have hl := lg_len hw
  rw [wordV_yes (by rw [hl]; omega), hl, half_len hw]
  unfold qAt
  rw [wordN_at _ _ _ _ hi, toQ_encP]
  rfl
theorem word_len {word : QL} {m : Nat} (hw : word.length = 2 ^ (m + 1)) (hm : m + 1 ≤ 20) (y : F2) (f : Int) : (wordV word y f).1.length = 2 ^ m := by
  have hl := lg_len hw
  rw [wordV_yes (by rw [hl]; omega), hl, half_len hw]
  exact wordN_len _ _ _ _ _
theorem foldV_lin (a b y : F2) (x : F) : foldV a b y x = foldV a b 0 x + y * (foldV a b 1 x - foldV a b 0 x) := by
  unfold foldV
  rw [F2.zero_mul, F2.add_zero, F2.one_mul, F2.add_comm (scale (a + b) halfF) (scale (a - b) _), F2.add_sub, F2.add_comm]
theorem word_lin {word : QL} {m : Nat} (hw : word.length = 2 ^ (m + 1)) (hm : m + 1 ≤ 20) (y : F2) (f : Int) {i : Nat} (hi : i < 2 ^ m) :
    qAt (wordV word y f).1 i = evenV word f i + y * oddV word f i := by
  unfold evenV oddV
  rw [word_at hw hm y f hi, word_at hw hm 0 f hi, word_at hw hm 1 f hi]
  exact foldV_lin _ _ _ _
theorem half_sum (a b : F2) (x : F) (hx : x ≠ 0) : foldV a b 0 x + lift x * (foldV a b 1 x - foldV a b 0 x) = a ∧ foldV a b 0 x - lift x * (foldV a b 1 x - foldV a b 0 x) = b := by
  have h1 : x * finv x = 1 := mul_finv x hx
  have h2 := half_two
  unfold foldV
  rw [F2.zero_mul, F2.add_zero, F2.one_mul, F2.add_comm (scale (a + b) halfF) (scale (a - b) _), F2.add_sub]
  refine ⟨F2.eq ?_ ?_, F2.eq ?_ ?_⟩ <;> simp only [scale, lift, F2.add_a, F2.add_b, F2.sub_a, F2.sub_b, F2.mul_a, F2.mul_b] <;> grind
theorem word_back {word : QL} {m : Nat} (hw : word.length = 2 ^ (m + 1)) (hm : m + 1 ≤ 20) (f : Int) {i : Nat} (hi : i < 2 ^ m) :
    evenV word f i + ptV ((m + 1 : Nat) : Int) f i * oddV word f i = qAt word i ∧ evenV word f i - ptV ((m + 1 : Nat) : Int) f i * oddV word f i = qAt word (i + 2 ^ m) := by
  unfold evenV oddV
  rw [word_at hw hm 0 f hi, word_at hw hm 1 f hi]
  unfold ptV
  have hx : pointF ((m + 1 : Nat) : Int) f (i : Int) ≠ 0 := by rw [pointF_pt (m + 1) (by omega)]; exact pt_ne (shiftF_ne f) (m + 1) (by omega) i
  exact half_sum _ _ _ hx
theorem ptV_half {m : Nat} (hm : m < 32) (f : Int) (i : Nat) : ptV ((m + 1 : Nat) : Int) f (i + 2 ^ m) = -ptV ((m + 1 : Nat) : Int) f i := by
  rw [ptV_pt (by omega), ptV_pt (by omega), pt_minus _ m i hm]
  exact F2.eq rfl (by show (0 : F) = -0; grind)
theorem ptV_sq {m : Nat} (hm : m < 32) {f : Int} (hf : 0 ≤ f ∧ f < 63) (i : Nat) : ptV ((m + 1 : Nat) : Int) f i * ptV ((m + 1 : Nat) : Int) f i = ptV (m : Int) (f + 1) i := by
  have hs : shiftF f * shiftF f = shiftF (f + 1) := by
    unfold shiftF foldN
    rw [show min (f + 1).toNat 64 = min f.toNat 64 + 1 by omega]
    rfl
  rw [ptV_pt (by omega), ptV_pt (by omega), ← lift_mul, pt_sq _ m i hm, hs]
theorem ptV_ne {m : Nat} (hm : m ≤ 32) (f : Int) (i : Nat) : ptV (m : Int) f i ≠ 0 := fun h => by
  rw [ptV_pt hm] at h
  exact pt_ne (shiftF_ne f) m hm i (congrArg F2.a h)
/-! ### Even and odd coefficients -/
theorem qe_two (c : Nat → F2) (z : F2) : ∀ d, qe (2 * d) c z = qe d (fun j => c (2 * j)) (z * z) + z * qe d (fun j => c (2 * j + 1)) (z * z)
  | 0 => by show (0 : F2) = 0 + z * 0; rw [F2.mul_zero, F2.add_zero]
  | d + 1 => by
    have h := qe_two c z d
    unfold qe at h ⊢
    rw [show 2 * (d + 1) = 2 * d + 1 + 1 by omega, sq_succ, sq_succ, h, sq_succ, sq_succ, qpow_two, qpow_succ]
    generalize qpow z (2 * d) = p
    generalize sq d (fun i => c (2 * i) * qpow (z * z) i) = s1
    generalize sq d (fun i => c (2 * i + 1) * qpow (z * z) i) = s2
    exact F2.eq (by simp only [F2.add_a, F2.add_b, F2.mul_a, F2.mul_b]; grind) (by simp only [F2.add_a, F2.add_b, F2.mul_a, F2.mul_b]; grind)
def twoC (a b : Nat → F2) (j : Nat) : F2 := if j % 2 = 0 then a (j / 2) else b (j / 2)
theorem twoC_even (a b : Nat → F2) (j : Nat) : twoC a b (2 * j) = a j := by unfold twoC; rw [if_pos (by omega), show 2 * j / 2 = j by omega]
theorem twoC_odd (a b : Nat → F2) (j : Nat) : twoC a b (2 * j + 1) = b j := by unfold twoC; rw [if_neg (by omega), show (2 * j + 1) / 2 = j by omega]
theorem twoC_upto {d : Nat} {a b : Nat → F2} (ha : Upto d a) (hb : Upto d b) : Upto (2 * d) (twoC a b) := fun i hi => by
  unfold twoC
  split
  · exact ha _ (by omega)
  · exact hb _ (by omega)
theorem qe_twoC (a b : Nat → F2) (d : Nat) (z : F2) : qe (2 * d) (twoC a b) z = qe d a (z * z) + z * qe d b (z * z) := by
  rw [qe_two, qe_congr (fun j _ => twoC_even a b j), qe_congr (fun j _ => twoC_odd a b j)]
theorem neg_sq2 (z : F2) : -z * -z = z * z := by rw [F2.neg_mul, mul_neg']; exact F2.eq (by simp only [F2.neg_a]; grind) (by simp only [F2.neg_b]; grind)
theorem two_alg (a b e o z : F2) (h1 : a + z * b = e + z * o) (h2 : a + -z * b = e - z * o) (hz : z ≠ 0) : a = e ∧ b = o := by
  have h3 : (a - e) + (a - e) = 0 := by
    have : (a - e) + (a - e) = ((a + z * b) - (e + z * o)) + ((a + -z * b) - (e - z * o)) := F2.eq (by simp only [F2.sub_a, F2.sub_b, F2.neg_a, F2.neg_b, F2.add_a, F2.add_b, F2.mul_a, F2.mul_b]; grind) (by simp only [F2.sub_a, F2.sub_b, F2.neg_a, F2.neg_b, F2.add_a, F2.add_b, F2.mul_a, F2.mul_b]; grind)
    rw [this, h1, h2, sub_self', sub_self', F2.add_zero]
  have h4 : a - e = 0 := by
    have hd : ((1 : F2) + 1) * (a - e) = 0 := by rw [F2.add_mul, F2.one_mul]; exact h3
    rcases F2.mul_eq_zero hd with h | h
    · exact absurd h (by decide +kernel)
    · exact h
  have h5 := sub_eq_zero' h4
  refine ⟨h5, ?_⟩
  subst h5
  have h6 : z * b = z * o := by
    have := congrArg (fun t => -a + t) h1
    simpa only [neg_add_cancel'] using this
  exact F2.cancel hz h6
/-- How many places of a word are so: those of its first half, and those half way round. -/
theorem many_two (p : Nat → Bool) (h : Nat) : ∀ k, many p (h + k) = many p h + many (fun i => p (h + i)) k
  | 0 => rfl
  | k + 1 => by rw [← Nat.add_assoc, many, many_two p h k, many]; omega
/-! ### Few are bad -/
structure BadW (word : QL) (m d s : Nat) (l : List F2) (all : Bool) : Prop where
  len : word.length = 2 ^ (m + 1)
  m1 : 1 ≤ m
  m3 : m ≤ 3
  ds : d < s
  sN : s ≤ 2 ^ m
  res : badV word 0 (d : Int) (s : Int) = (l, all)
variable {word : QL} {m : Nat} {l : List F2} {all : Bool}
theorem BadW.go (h : BadW word m d s l all) : badGo (setV (ptV (m : Int) 1) (evenV word 0) (oddV word 0) d) (subs s (2 ^ m)) [] = (l, all) := by
  have h0 := h.res
  unfold badV at h0
  have hg := lg_len h.len
  have hh := half_len h.len
  have a1 := h.m1; have a2 := h.m3; have a3 := h.ds; have a4 := h.sN
  rw [if_pos (show badOk word.length (d : Int) (s : Int) by
    unfold badOk
    rw [hg, hh]
    exact ⟨by omega, by omega, by omega, by omega, Int.ofNat_le.2 a4⟩), hg, hh, show ((m + 1 : Nat) : Int) - 1 = (m : Int) by omega] at h0
  exact h0
theorem BadW.all_iff (h : BadW word m d s l all) : all = true ↔ BothAt (2 ^ m) s d (ptV (m : Int) 1) (evenV word 0) (oddV word 0) := by
  have hg := h.go
  have hx := ptV_apart (show m ≤ 32 by have := h.m3; omega) 1
  have hd : d ≤ s := Nat.le_of_lt h.ds
  have e : all = (badGo (setV (ptV (m : Int) 1) (evenV word 0) (oddV word 0) d) (subs s (2 ^ m)) []).2 := by rw [hg]
  rw [e, badGo_all]
  exact ⟨fun ⟨I, hI, h⟩ => set_both hx hd hI h, fun h => set_of_both hx hd h⟩
theorem BadW.mem (h : BadW word m d s l all) (ha : all = false) (y : F2) : y ∈ l ↔ ∃ I ∈ subs s (2 ^ m), setV (ptV (m : Int) 1) (evenV word 0) (oddV word 0) d I = (y, true, false) := by
  have hg := h.go
  have e1 : l = (badGo (setV (ptV (m : Int) 1) (evenV word 0) (oddV word 0) d) (subs s (2 ^ m)) []).1 := by rw [hg]
  rw [e1, badGo_mem _ _ _ (by rw [hg]; exact ha)]
  exact ⟨fun h => h.elim (fun h => by cases h) id, Or.inr⟩
theorem BadW.nodup (h : BadW word m d s l all) : l.Nodup := by
  have := badGo_nodup (setV (ptV (m : Int) 1) (evenV word 0) (oddV word 0) d) (subs s (2 ^ m)) [] List.nodup_nil
  rwa [h.go] at this
theorem BadW.nil (h : BadW word m d s l all) (ha : all = true) : l = [] := by
  have hg := h.go
  have := badGo_nil (setV (ptV (m : Int) 1) (evenV word 0) (oddV word 0) d) (subs s (2 ^ m)) [] (by rw [hg]; exact ha)
  rwa [hg] at this
theorem BadW.near (h : BadW word m d s l all) {y : F2} (hy : y ∈ l) : NearAt (2 ^ m) s d (ptV (m : Int) 1) (evenV word 0) (oddV word 0) y := by
  have hx := ptV_apart (show m ≤ 32 by have := h.m3; omega) 1
  cases ha : all
  · obtain ⟨I, hI, h2⟩ := (h.mem ha y).1 hy
    exact set_near hx (Nat.le_of_lt h.ds) hI h2
  · rw [h.nil ha] at hy; cases hy
theorem BadW.of_near (h : BadW word m d s l all) {y : F2} (hy : NearAt (2 ^ m) s d (ptV (m : Int) 1) (evenV word 0) (oddV word 0) y) : all = true ∨ y ∈ l := by
  have hx := ptV_apart (show m ≤ 32 by have := h.m3; omega) 1
  cases ha : all
  · obtain ⟨I, hI, h2 | h2⟩ := near_set hx (Nat.le_of_lt h.ds) hy
    · have := (h.all_iff).2 (set_both hx (Nat.le_of_lt h.ds) hI h2)
      rw [ha] at this; cases this
    · exact Or.inr ((h.mem ha y).2 ⟨I, hI, h2⟩)
  · exact Or.inl rfl
/-- All pairs, just where a polynomial of twice as many coefficients has so many pairs of places. -/
theorem BadW.best (h : BadW word m d s l all) (hd : 2 * d ≤ 2 ^ (m + 1)) : all = decide (s ≤ bestV word 0 ((2 * d : Nat) : Int) true) := by
  have a1 := h.m1; have a2 := h.m3; have a3 := h.ds; have a4 := h.sN
  have hg := lg_len h.len
  have hh := half_len h.len
  have hx := ptV_apart (show m + 1 ≤ 32 by omega) 0
  have hB : bestOk word.length ((2 * d : Nat) : Int) := by
    unfold bestOk
    rw [hg, h.len]
    exact ⟨by omega, by omega, by omega, Int.ofNat_le.2 hd⟩
  have hp : 2 ^ (m + 1) = 2 ^ m + 2 ^ m := by rw [Nat.pow_succ]; omega
  have hlen : word.length = 2 ^ m + 2 ^ m := h.len.trans hp
  have sq : ∀ i, ptV ((m + 1 : Nat) : Int) 0 i * ptV ((m + 1 : Nat) : Int) 0 i = ptV (m : Int) 1 i := fun i => ptV_sq (by omega) ⟨by omega, by omega⟩ i
  have ng : ∀ i, ptV ((m + 1 : Nat) : Int) 0 (i + 2 ^ m) = -ptV ((m + 1 : Nat) : Int) 0 i := fun i => ptV_half (by omega) 0 i
  have hT : ∀ c, agreeC word 0 c true = agreeT (ptV ((m + 1 : Nat) : Int) 0) (qAt word) c (2 ^ m) := fun c => by
    unfold agreeC
    rw [hg, if_pos (by omega), if_pos rfl, hh]
  have key : all = true ↔ s ≤ bestV word 0 ((2 * d : Nat) : Int) true := by
    rw [h.all_iff]
    constructor
    · rintro ⟨a, b, ua, ub, hk⟩
      have hat : ∀ i, i < 2 ^ m → qe d a (ptV (m : Int) 1 i) = evenV word 0 i → qe d b (ptV (m : Int) 1 i) = oddV word 0 i →
          qe (2 * d) (twoC a b) (ptV ((m + 1 : Nat) : Int) 0 i) = qAt word i ∧ qe (2 * d) (twoC a b) (ptV ((m + 1 : Nat) : Int) 0 (i + 2 ^ m)) = qAt word (i + 2 ^ m) := fun i hi e1 e2 => by
        obtain ⟨w1, w2⟩ := word_back h.len (by omega) 0 hi
        rw [ng, qe_twoC, qe_twoC, neg_sq2, sq, e1, e2]
        refine ⟨w1, ?_⟩
        rw [← w2, F2.sub_eq, F2.neg_mul]
      have hTm : s ≤ agreeT (ptV ((m + 1 : Nat) : Int) 0) (qAt word) (qe (2 * d) (twoC a b)) (2 ^ m) := Nat.le_trans hk (many_mono fun i hi hp => by
        obtain ⟨e1, e2⟩ := of_decide_eq_true hp
        obtain ⟨f1, f2⟩ := hat i hi e1 e2
        rw [Bool.and_eq_true]
        exact ⟨decide_eq_true f1, decide_eq_true f2⟩)
      have hNm : 2 * d ≤ agreeN (ptV ((m + 1 : Nat) : Int) 0) (qAt word) (qe (2 * d) (twoC a b)) word.length := by
        unfold agreeN
        rw [hlen, many_two]
        have m1 : s ≤ many (fun i => decide (qe (2 * d) (twoC a b) (ptV ((m + 1 : Nat) : Int) 0 i) = qAt word i)) (2 ^ m) := Nat.le_trans hTm (many_mono fun i hi hp => by
          rw [Bool.and_eq_true] at hp; exact hp.1)
        have m2 : s ≤ many (fun i => decide (qe (2 * d) (twoC a b) (ptV ((m + 1 : Nat) : Int) 0 (2 ^ m + i)) = qAt word (2 ^ m + i))) (2 ^ m) := Nat.le_trans hTm (many_mono fun i hi hp => by
          rw [Bool.and_eq_true, Nat.add_comm i] at hp; exact hp.2)
        omega
      have := best_ge (word := word) (f := 0) (two := true) hB (by rw [hg, h.len]; exact hx) (c := twoC a b) (by rw [Int.toNat_natCast]; exact twoC_upto ua ub) (by rw [Int.toNat_natCast, hg]; exact hNm)
      rw [hT, Int.toNat_natCast] at this
      omega
    · intro hs
      obtain ⟨c, uc, e⟩ := best_is (word := word) (f := 0) (two := true) (dim := ((2 * d : Nat) : Int)) (fun _ => by rw [hg, h.len]; exact hx) (by omega)
      rw [Int.toNat_natCast] at uc e
      rw [e, hT] at hs
      refine ⟨fun j => c (2 * j), fun j => c (2 * j + 1), fun j hj => uc _ (by omega), fun j hj => uc _ (by omega), Nat.le_trans hs (many_mono fun i hi hp => ?_)⟩
      rw [Bool.and_eq_true] at hp
      have e1 := of_decide_eq_true hp.1
      have e2 := of_decide_eq_true hp.2
      obtain ⟨w1, w2⟩ := word_back h.len (by omega) 0 hi
      rw [qe_two, sq, ← w1] at e1
      rw [ng, qe_two, neg_sq2, sq, ← w2] at e2
      exact decide_eq_true (two_alg _ _ _ _ _ e1 e2 (ptV_ne (by omega) 0 i))
  cases hs : decide (s ≤ bestV word 0 ((2 * d : Nat) : Int) true)
  · cases all
    · rfl
    · exact absurd (key.1 rfl) (of_decide_eq_false hs)
  · exact key.2 (of_decide_eq_true hs)
/-- Few pairs are bad. -/
theorem BadW.few (h : BadW word m d s l all) (hm : 3 * (2 ^ m - s) < 2 ^ m - d) : all = true ∨ l.length ≤ word.length := by
  cases ha : all
  · refine Or.inr ?_
    have hx := ptV_apart (show m ≤ 32 by have := h.m3; omega) 1
    have := few_bad hx hm h.sN (Nat.one_le_two_pow) l h.nodup (fun y hy => h.near hy) (fun hb => by
      have := h.all_iff.2 hb
      rw [ha] at this; cases this)
    rw [h.len, Nat.pow_succ]
    omega
  · exact Or.inl rfl
/-- By each bad pair a word does fold to such a one. -/
theorem BadW.each (h : BadW word m d s l all) {y : F2} (hy : y ∈ l) : s ≤ bestV (wordV word y 0).1 1 (d : Int) false := by
  obtain ⟨c, uc, hk⟩ := h.near hy
  have a1 := h.m1; have a2 := h.m3; have a3 := h.ds; have a4 := h.sN
  have hl := word_len h.len (by omega) y 0
  have hg := lg_len hl
  have hx := ptV_apart (show m ≤ 32 by omega) 1
  have hA : s ≤ agreeN (ptV (m : Int) 1) (qAt (wordV word y 0).1) (qe d c) (2 ^ m) := Nat.le_trans hk (many_mono fun i hi hp => by
    rw [word_lin h.len (by omega) y 0 hi]; exact hp)
  have hB : bestOk (wordV word y 0).1.length (d : Int) := by
    unfold bestOk
    rw [hg, hl]
    exact ⟨by omega, by omega, by omega, Int.ofNat_le.2 (by omega)⟩
  have := best_ge (word := (wordV word y 0).1) (f := 1) (two := false) hB (by rw [hg, hl]; exact hx) (c := c) (by rw [Int.toNat_natCast]; exact uc) (by rw [Int.toNat_natCast, hg, hl]; omega)
  unfold agreeC at this
  rw [hg, hl, if_pos (by omega), if_neg (by decide), Int.toNat_natCast] at this
  omega
end Go.Proofs.YthfkfgjhgicfeaaGreatDoor
