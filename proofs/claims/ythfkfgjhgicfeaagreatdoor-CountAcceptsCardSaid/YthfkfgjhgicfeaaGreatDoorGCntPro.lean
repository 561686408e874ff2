/-
  CSets: Sets of places as numbers: each place a bit. Plain.
  CDrop: By what a set's even half, and so many times its odd one, has few coefficients: the same as the document's first places tell. Plain.
  CntPro1: What the program's calls of layer 23 come to: bits that are set, sets of places, some of a list, the one through them.
  CntPro2: What the program's calls of layer 23 come to: the places of a word, two pairs alike, whether a polynomial has a place.
  CntPro3: What the program's Best of layer 23 comes to.
  CntPro4: What the program's parts and drop of layer 23 come to. (Written by gen_cntp4.py.)
  CntPro5: What the program's Bad of layer 23 comes to.
  AppOp: One row of a call's own appended to in a region that draws its order ('xs = append(xs, f(..))'), another row beside. No function of the program is named.
  CntPro6: What the program's Seen of layer 23 comes to. (Written by gen_cntp6.py.)
  CntPro7: What the program's Accepts and Words of layer 23 come to; all that is asked of the program there.
-/
import Derived.Test.YthfkfgjhgicfeaaGreatDoorCountP
import Derived.Test.YthfkfgjhgicfeaaGreatDoorCountH
import Derived.Test.YthfkfgjhgicfeaaGreatDoorGCntRef
import Derived.Test.YthfkfgjhgicfeaaGreatDoorGPolyPro
import Derived.Test.YthfkfgjhgicfeaaGreatDoorFoldProg
import Derived.Test.YthfkfgjhgicfeaaGreatDoorEqB
import Derived.BigQuiet
import Derived.Test.YthfkfgjhgicfeaaGreatDoorCNEx
import Derived.Test.YthfkfgjhgicfeaaGreatDoorGRows
import Derived.Test.YthfkfgjhgicfeaaGreatDoorJudgeProg
import Derived.Test.YthfkfgjhgicfeaaGreatDoorChainProg
namespace Go.Proofs.YthfkfgjhgicfeaaGreatDoor
set_option linter.unusedVariables false
set_option linter.unusedSimpArgs false

/-- How many of the lowest n bits are set. -/
def popN (n x : Nat) : Nat := many (fun i => x.testBit i) n
theorem popN_more {n m x : Nat} (hx : x < 2 ^ n) (h : n ≤ m) : popN m x = popN n x := by
  induction m with
  | zero => rw [show n = 0 by omega]
  | succ m ih =>
    by_cases c : n = m + 1
    · subst c; rfl
    · rw [← ih (by omega)]
      unfold popN
      exact many_no (by rw [Nat.testBit_lt_two_pow (Nat.lt_of_lt_of_le hx (Nat.pow_le_pow_right (by decide) (by omega)))]; decide)
theorem popN_low {n x : Nat} (hx : x < 2 ^ n) : popN (n + 1) x = popN n x := popN_more hx (by omega)
theorem popN_high {n y : Nat} (hy : y < 2 ^ n) : popN (n + 1) (2 ^ n + y) = popN n y + 1 := by
  unfold popN
  rw [many_yes (by rw [Nat.testBit_two_pow_add_eq, Nat.testBit_lt_two_pow hy]; rfl)]
  exact congrArg (· + 1) (many_congr fun i hi => Nat.testBit_two_pow_add_gt hi y)
/-- A set's number. -/
def maskV : List Nat → Nat
  | [] => 0
  | i :: I => 2 ^ i + maskV I
theorem maskV_snoc : ∀ (I : List Nat) (l : Nat), maskV (I ++ [l]) = 2 ^ l + maskV I
  | [], l => rfl
  | i :: I, l => by
    show 2 ^ i + maskV (I ++ [l]) = 2 ^ l + (2 ^ i + maskV I)
    rw [maskV_snoc I l]; omega
theorem mask_lt : ∀ {s n : Nat} {I : List Nat}, I ∈ subs s n → maskV I < 2 ^ n
  | 0, n, I, h => by rw [subs_zero] at h; rw [List.mem_singleton.1 h]; exact Nat.two_pow_pos n
  | s + 1, n, I, h => by
    obtain ⟨J, last, rfl, _, hl, hJ⟩ := mem_subs_succ.1 h
    have h1 := mask_lt hJ
    have h2 : 2 ^ (last + 1) ≤ 2 ^ n := Nat.pow_le_pow_right (by decide) hl
    rw [maskV_snoc]
    rw [Nat.pow_succ] at h2
    omega
/-- All sets of so many of n places, as numbers that count up. -/
def setsL (s n : Nat) : List Nat := (List.range (2 ^ n)).filter fun x => decide (popN n x = s)
theorem subs_void {s n : Nat} (h : n < s) : subs s n = [] := by
  refine List.eq_nil_iff_forall_not_mem.2 fun I hI => ?_
  have h1 := subs_many (p := fun _ => true) hI (fun _ _ => rfl)
  have h2 := many_le (fun _ => true) n
  omega
theorem subs_next (s n : Nat) : subs (s + 1) (n + 1) = subs (s + 1) n ++ (subs s n).map fun J => J ++ [n] := by
  by_cases h : s ≤ n
  · rw [subs, subs, show n + 1 - s = (n - s) + 1 by omega, List.range_succ, List.map_append, List.flatten_append]
    simp only [List.map_cons, List.map_nil, List.flatten_cons, List.flatten_nil, List.append_nil]
    rw [show s + (n - s) = n by omega]
  · rw [subs_void (show n + 1 < s + 1 by omega), subs_void (show n < s + 1 by omega), subs_void (show n < s by omega)]
    rfl
theorem sets_is : ∀ (n s : Nat), setsL s n = (subs s n).map maskV
  | 0, 0 => by decide
  | 0, s + 1 => by
    rw [subs_void (by omega)]
    unfold setsL
    rw [show List.range (2 ^ 0) = [0] from rfl, List.filter_cons, if_neg (by simp [popN, many])]
    rfl
  | n + 1, s => by
    have hlow : (List.range (2 ^ n)).filter (fun x => decide (popN (n + 1) x = s)) = setsL s n := by
      unfold setsL
      refine List.filter_congr fun x hx => ?_
      rw [popN_low (List.mem_range.1 hx)]
    unfold setsL
    rw [Nat.pow_succ, Nat.mul_two, List.range_add, List.filter_append, hlow, sets_is n s, List.filter_map]
    cases s with
    | zero =>
      rw [subs_zero, subs_zero]
      rw [show ((List.range (2 ^ n)).filter ((fun x => decide (popN (n + 1) x = 0)) ∘ fun x => 2 ^ n + x)) = [] from List.filter_eq_nil_iff.2 fun y hy => by
        show ¬ decide (popN (n + 1) (2 ^ n + y) = 0) = true
        rw [popN_high (List.mem_range.1 hy)]
        simp]
      rfl
    | succ s =>
      rw [show ((List.range (2 ^ n)).filter ((fun x => decide (popN (n + 1) x = s + 1)) ∘ fun x => 2 ^ n + x)) = setsL s n from by
        unfold setsL
        refine List.filter_congr fun y hy => ?_
        show decide (popN (n + 1) (2 ^ n + y) = s + 1) = decide (popN n y = s)
        rw [popN_high (List.mem_range.1 hy)]
        simp]
      rw [sets_is n s, subs_next, List.map_append, List.map_map, List.map_map]
      congr 1
      refine List.map_congr_left fun J _ => ?_
      show 2 ^ n + maskV J = maskV (J ++ [n])
      rw [maskV_snoc]
/-- What a set's bits tell. -/
theorem bits_are : ∀ {s n : Nat} {I : List Nat}, I ∈ subs s n → (List.range n).filter (fun i => (maskV I).testBit i) = I
  | 0, n, I, h => by
    rw [subs_zero] at h
    rw [List.mem_singleton.1 h]
    exact List.filter_eq_nil_iff.2 fun i _ => by simp [maskV]
  | s + 1, n, I, h => by
    obtain ⟨J, last, rfl, _, hl, hJ⟩ := mem_subs_succ.1 h
    have ih := bits_are hJ
    have hm := mask_lt hJ
    obtain ⟨d, rfl⟩ : ∃ d, n = last + 1 + d := ⟨n - last - 1, by omega⟩
    rw [maskV_snoc, List.range_add, List.filter_append, List.range_succ, List.filter_append]
    have e1 : (List.range last).filter (fun i => (2 ^ last + maskV J).testBit i) = J := by
      rw [← ih]
      refine (List.filter_congr fun i hi => ?_)
      rw [ih]
      exact Nat.testBit_two_pow_add_gt (List.mem_range.1 hi) _
    have e2 : [last].filter (fun i => (2 ^ last + maskV J).testBit i) = [last] := by
      rw [List.filter_cons, if_pos (by rw [Nat.testBit_two_pow_add_eq, Nat.testBit_lt_two_pow hm]; rfl)]
      rfl
    have e3 : ((List.range d).map (last + 1 + ·)).filter (fun i => (2 ^ last + maskV J).testBit i) = [] := List.filter_eq_nil_iff.2 fun i hi => by
      obtain ⟨k, _, rfl⟩ := List.mem_map.1 hi
      have h1 : 2 ^ (last + 1) ≤ 2 ^ (last + 1 + k) := Nat.pow_le_pow_right (by decide) (by omega)
      rw [Nat.pow_succ] at h1
      rw [Nat.testBit_lt_two_pow (by omega)]
      decide
    rw [e1, e2, e3, List.append_nil]
/-! ### How many bits are set, as they are counted in pairs, nibbles and bytes -/
def popC (x : Nat) : Nat :=
  let y := (x / 2 &&& 6148914691236517205) + (x &&& 6148914691236517205)
  let z := (y / 4 &&& 3689348814741910323) + (y &&& 3689348814741910323)
  let t := (z / 16 + z) &&& 1085102592571150095
  let t1 := t + t / 256
  let t2 := t1 + t1 / 65536
  let t3 := t2 + t2 / 4294967296
  t3 &&& 127
/-- Each number of so many more bits, from the highest one on. -/
def popGo : Nat → Nat → Nat → Bool
  | 0, x, c => Nat.beq (popC x) c
  | n + 1, x, c => popGo n (2 * x) c && popGo n (2 * x + 1) (c + 1)
theorem popGo_is : ∀ {n x c : Nat}, popGo n x c = true → ∀ y, y < 2 ^ n → popC (x * 2 ^ n + y) = c + popN n y
  | 0, x, c, h, y, hy => by
    obtain rfl : y = 0 := by simpa using hy
    have := Nat.eq_of_beq_eq_true h
    simpa [popN, many] using this
  | n + 1, x, c, h, y, hy => by
    rw [popGo, Bool.and_eq_true] at h
    have e : 2 ^ (n + 1) = 2 ^ n + 2 ^ n := by rw [Nat.pow_succ]; omega
    by_cases hlt : y < 2 ^ n
    · have := popGo_is h.1 y hlt
      rw [popN_low hlt, ← this, e]
      congr 1
      rw [Nat.mul_comm 2 x, Nat.mul_assoc, ← e, Nat.pow_succ, Nat.mul_comm (2 ^ n) 2]
    · obtain ⟨z, rfl⟩ : ∃ z, y = 2 ^ n + z := ⟨y - 2 ^ n, by omega⟩
      have hz : z < 2 ^ n := by omega
      have := popGo_is h.2 z hz
      rw [popN_high hz, show c + (popN n z + 1) = c + 1 + popN n z by omega, ← this]
      congr 1
      rw [Nat.add_mul, Nat.mul_comm 2 x, Nat.mul_assoc, Nat.one_mul, Nat.pow_succ, Nat.mul_comm (2 ^ n) 2, Nat.add_assoc]
theorem popC_16 : popGo 16 0 0 = true := by decide +kernel
theorem popC_is {n x : Nat} (hn : n ≤ 16) (hx : x < 2 ^ n) : popC x = popN n x := by
  have h16 : 2 ^ n ≤ 2 ^ 16 := Nat.pow_le_pow_right (by decide) hn
  have := popGo_is popC_16 x (by omega)
  rw [Nat.zero_mul, Nat.zero_add, Nat.zero_add] at this
  rw [this, popN_more hx hn]
end Go.Proofs.YthfkfgjhgicfeaaGreatDoor
namespace Go.Proofs.YthfkfgjhgicfeaaGreatDoor
open Go Go.RowKit
set_option linter.unusedVariables false
set_option linter.unusedSimpArgs false

theorem tn_le_upto {n d : Nat} {c : Nat → F2} (h : Upto n c) : tn c n ≤ d ↔ Upto d c :=
  ⟨fun h1 => fun i hi => tn_upto h i (by omega), fun h1 => Nat.le_of_not_lt fun hlt => by
    obtain ⟨k, hk⟩ : ∃ k, tn c n = k + 1 := ⟨tn c n - 1, by omega⟩
    exact tn_top hk (h1 k (by omega))⟩
/-- As the program tells it, of two lists of which none ends with 0. -/
def dropV (e o : List F2) (d : Nat) : List F2 × Bool :=
  if o.length ≤ d then ([], decide (e.length ≤ d))
  else if ((d : Nat) : Int) ≤ degP (addP e (scaP o (if o.length - 1 < e.length then -(cq e (o.length - 1) * qinv (cq o (o.length - 1))) else 0))) then ([], false)
  else ([if o.length - 1 < e.length then -(cq e (o.length - 1) * qinv (cq o (o.length - 1))) else 0], false)
def Std (l : List F2) : Prop := tn (cq l) l.length = l.length
theorem std_pl {n : Nat} {c : Nat → F2} (h : Upto n c) : Std (pl n c) := by
  unfold Std
  rw [tn_pl h, pl_len]
theorem Std.le {l : List F2} (h : Std l) (d : Nat) : l.length ≤ d ↔ Upto d (cq l) := by
  rw [← tn_le_upto (cq_upto l), h]
theorem deg_le (e o : List F2) (y : F2) (d : Nat) : ((d : Nat) : Int) ≤ degP (addP e (scaP o y)) ↔ ¬ Upto d fun i => cq e i + y * cq o i := by
  have hs : ∀ i, cq (scaP o y) i = cq o i * y := fun i => cq_pl (n := o.length) (c := fun i => cq o i * y) (fun i hi => by show cq o i * y = 0; rw [cq_upto o i hi, F2.zero_mul]) i
  have hl : (scaP o y).length ≤ o.length := by unfold scaP; rw [pl_len]; exact tn_le _ _
  have hu : Upto (max e.length (scaP o y).length) fun i => cq e i + cq (scaP o y) i := addP_upto e _ (Nat.le_max_left _ _) (Nat.le_max_right _ _)
  have hf : (fun i => cq e i + cq (scaP o y) i) = fun i => cq e i + y * cq o i := funext fun i => by rw [hs, F2.mul_comm]
  unfold degP addP
  rw [tn_pl hu]
  rw [← hf, ← tn_le_upto hu]
  omega
theorem std_thr {N s : Nat} {x v : Nat → F2} (hx : ApartTo' N x) {I : List Nat} (hI : I ∈ subs s N) : Std (thrL (picks x I) (picks v I)) := by
  unfold thrL
  split
  · refine std_pl ?_
    exact lgr_upto _ _ _ _ (Nat.le_refl _)
  · rfl
/-- A function's values at a set are those of few coefficients just where the first places tell the others. -/
theorem fit_iff {N s d : Nat} {x v : Nat → F2} (hx : ApartTo' N x) (hd : d ≤ s) {I : List Nat} (hI : I ∈ subs s N) :
    (∀ k ∈ I.drop d, v k - atP (thrL (picks x (I.take d)) (picks v (I.take d))) (x k) = 0) ↔ Upto d (cq (thrL (picks x I) (picks v I))) := by
  have hB := set_base hx hd hI
  obtain ⟨_, hu, hE, hEk⟩ := through_is (v := v) hx hB
  obtain ⟨_, gu, gE, gEk⟩ := through_is (v := v) hx hI
  have hl := subs_len hI
  constructor
  · intro h
    have hone : ∀ i, cq (thrL (picks x I) (picks v I)) i = cq (thrL (picks x (I.take d)) (picks v (I.take d))) i :=
      through_one gu (hu.more hd) (fun i => x (I.getD i 0)) (apart_sub hx hI) fun i hi => by
        have hm : I.getD i 0 ∈ I := getD_mem (by omega)
        rw [← gE, gEk _ hm, qe_more _ hd hu, ← hE]
        rcases take_drop_mem.1 hm with hm | hm
        · exact (hEk _ hm).symm
        · exact sub_eq_zero' (h _ hm)
    exact fun i hi => by rw [hone]; exact hu i hi
  · intro h k hk
    have hone : ∀ z, atP (thrL (picks x (I.take d)) (picks v (I.take d))) z = qe d (cq (thrL (picks x I) (picks v I))) z :=
      through_only hx hB h fun k hk => by
        have hm := take_drop_mem.2 (Or.inl hk)
        rw [← qe_more (x k) hd h, ← gE]
        exact gEk _ hm
    rw [hone, ← qe_more (x k) hd h, ← gE, gEk _ (take_drop_mem.2 (Or.inr hk)), sub_self']
theorem through_lin {N s : Nat} {x E O : Nat → F2} (hx : ApartTo' N x) {I : List Nat} (hI : I ∈ subs s N) (y : F2) :
    (∀ i, cq (thrL (picks x I) (picks (fun k => E k + y * O k) I)) i = cq (thrL (picks x I) (picks E I)) i + y * cq (thrL (picks x I) (picks O I)) i) ∧
    ∀ z, atP (thrL (picks x I) (picks (fun k => E k + y * O k) I)) z = atP (thrL (picks x I) (picks E I)) z + y * atP (thrL (picks x I) (picks O I)) z := by
  obtain ⟨_, u1, z1, k1⟩ := through_is (v := E) hx hI
  obtain ⟨_, u2, z2, k2⟩ := through_is (v := O) hx hI
  obtain ⟨_, u3, z3, k3⟩ := through_is (v := fun k => E k + y * O k) hx hI
  have hl := subs_len hI
  have h1 : ∀ i, cq (thrL (picks x I) (picks (fun k => E k + y * O k) I)) i = cq (thrL (picks x I) (picks E I)) i + y * cq (thrL (picks x I) (picks O I)) i :=
    through_one u3 (upto_lin u1 u2 y) (fun i => x (I.getD i 0)) (apart_sub hx hI) fun i hi => by
      have hm : I.getD i 0 ∈ I := getD_mem (by omega)
      rw [← z3, k3 _ hm, qe_lin, ← z1, ← z2, k1 _ hm, k2 _ hm]
  refine ⟨h1, fun z => ?_⟩
  rw [z3, qe_congr (fun i _ => h1 i), qe_lin, ← z1, ← z2]
/-- What a set tells, as an answer. -/
def resV (st : F2 × Bool × Bool) : List F2 × Bool := if st.2.2 = true then ([], false) else if st.2.1 = false then ([], true) else ([st.1], false)
theorem drop_is {N s d : Nat} {x E O : Nat → F2} (hx : ApartTo' N x) (hd : d ≤ s) {I : List Nat} (hI : I ∈ subs s N) :
    dropV (thrL (picks x I) (picks E I)) (thrL (picks x I) (picks O I)) d = resV (setV x E O d I) := by
  have se := std_thr (v := E) hx hI
  have so := std_thr (v := O) hx hI
  have hi := setV_inv x E O d I
  have hB := set_base hx hd hI
  -- what a pair must do
  have hP : ∀ y : F2, (∀ p ∈ restV x E O d I, p.1 + y * p.2 = 0) ↔ Upto d fun i => cq (thrL (picks x I) (picks E I)) i + y * cq (thrL (picks x I) (picks O I)) i := fun y => by
    have h1 := fit_iff (v := fun k => E k + y * O k) hx hd hI
    rw [show (cq (thrL (picks x I) (picks (fun k => E k + y * O k) I))) = fun i => cq (thrL (picks x I) (picks E I)) i + y * cq (thrL (picks x I) (picks O I)) i from funext fun i => (through_lin hx hI y).1 i] at h1
    rw [← h1]
    have h2 := (through_lin (E := E) (O := O) hx hB y).2
    constructor
    · intro h k hk
      have h3 := rest_all h k hk
      unfold missV at h3
      rw [miss_alg] at h3
      show E k + y * O k - _ = 0
      rw [h2]; exact h3
    · intro h
      refine rest_of fun k hk => ?_
      have h3 := h k hk
      unfold missV
      rw [miss_alg, ← h2]
      exact h3
  have hO : (∀ p ∈ restV x E O d I, p.2 = 0) ↔ Upto d (cq (thrL (picks x I) (picks O I))) := by
    rw [← fit_iff (v := O) hx hd hI]
    exact ⟨fun h k hk => rest_all (Q := fun p => p.2 = 0) h k hk, fun h => rest_of (Q := fun p => p.2 = 0) fun k hk => h k hk⟩
  have hE : (∀ p ∈ restV x E O d I, p.1 = 0) ↔ Upto d (cq (thrL (picks x I) (picks E I))) := by
    rw [← fit_iff (v := E) hx hd hI]
    exact ⟨fun h k hk => rest_all (Q := fun p => p.1 = 0) h k hk, fun h => rest_of (Q := fun p => p.1 = 0) fun k hk => h k hk⟩
  obtain ⟨i1, i2, i3, i4⟩ := hi
  generalize setV x E O d I = st at *
  generalize restV x E O d I = rs at *
  generalize thrL (picks x I) (picks E I) = e at *
  generalize thrL (picks x I) (picks O I) = o at *
  obtain ⟨y0, known, none'⟩ := st
  simp only at i1 i2 i3 i4
  unfold dropV resV
  simp only
  by_cases c1 : o.length ≤ d
  · rw [if_pos c1]
    have ho := (so.le d).1 c1
    have hz := hO.2 ho
    have hk : known = false := by
      cases known
      · rfl
      · obtain ⟨p, hp, h1, _⟩ := i3 rfl
        exact absurd (hz p hp) h1
    subst hk
    by_cases c2 : e.length ≤ d
    · have he := hE.2 ((se.le d).1 c2)
      have hn : none' = false := by
        cases none'
        · rfl
        · exact absurd ⟨0, fun p hp => by rw [he p hp, hz p hp, F2.zero_mul, F2.add_zero]⟩ (i1 rfl)
      subst hn
      rw [if_neg (by decide), if_pos rfl, decide_eq_true c2]
    · have hn : none' = true := by
        cases none'
        · exact absurd ((se.le d).2 (hE.1 fun p hp => ((i2 rfl).1 rfl p hp).1)) c2
        · rfl
      subst hn
      rw [if_pos rfl, decide_eq_false c2]
  · rw [if_neg c1]
    obtain ⟨last, hlast⟩ : ∃ l, o.length = l + 1 := ⟨o.length - 1, by omega⟩
    have hld : d ≤ last := by omega
    have htop : cq o last ≠ 0 := tn_top (n := o.length) (by rw [show tn (cq o) o.length = o.length from so]; exact hlast)
    have hno : ¬ Upto d (cq o) := fun h => c1 ((so.le d).2 h)
    have hk : known = true := by
      cases known
      · exact absurd (hO.1 (i4 rfl)) hno
      · rfl
    subst hk
    have e1 : o.length - 1 = last := by omega
    rw [e1]
    obtain ⟨by', hby⟩ : ∃ y, (if last < e.length then -(cq e last * qinv (cq o last)) else 0) = y := ⟨_, rfl⟩
    rw [hby]
    have hby2 : by' = -cq e last * qinv (cq o last) := by
      rw [← hby]
      split
      · rw [F2.neg_mul]
      · next h => rw [cq_upto e last (by omega), show (-(0 : F2)) = 0 from F2.eq (by show -(0 : F) = 0; grind) (by show -(0 : F) = 0; grind), F2.zero_mul]
    have hone : ∀ y, (∀ p ∈ rs, p.1 + y * p.2 = 0) → y = by' := fun y hy => by
      rw [hby2]
      exact want_one htop ((hP y).1 hy last hld)
    cases none'
    · obtain ⟨h1, _⟩ := (i2 rfl).2 rfl
      have h2 := hone y0 h1
      subst h2
      rw [if_neg (fun h => (deg_le e o y0 d).1 h ((hP y0).1 h1))]
      rfl
    · rw [if_pos ((deg_le e o by' d).2 fun h => i1 rfl ⟨by', (hP by').2 h⟩)]
      rfl
end Go.Proofs.YthfkfgjhgicfeaaGreatDoor
namespace Go.Proofs.YthfkfgjhgicfeaaGreatDoor
open Go Go.RowKit
set_option linter.unusedVariables false

theorem pc64_core (x a1 b1 y a2 b2 z s t t1 t2 t3 r : Int) (hx : 0 ≤ x) (hy : 0 ≤ y) (hz : 0 ≤ z) (ht : 0 ≤ t) (ht1 : 0 ≤ t1) (ht2 : 0 ≤ t2)
    (f1 : bits .and .u64 (x / 2) 6148914691236517205 = a1) (f2 : bits .and .u64 x 6148914691236517205 = b1) (f3 : IntKind.u64.wrap (a1 + b1) = y)
    (g1 : bits .and .u64 (y / 4) 3689348814741910323 = a2) (g2 : bits .and .u64 y 3689348814741910323 = b2) (g3 : IntKind.u64.wrap (a2 + b2) = z)
    (h1 : IntKind.u64.wrap (z / 16 + z) = s) (h2 : bits .and .u64 s 1085102592571150095 = t)
    (k1 : IntKind.u64.wrap (t + t / 256) = t1) (k2 : IntKind.u64.wrap (t1 + t1 / 65536) = t2) (k3 : IntKind.u64.wrap (t2 + t2 / 4294967296) = t3)
    (k4 : IntKind.i64.wrap t3 = t3) (k5 : bits .and .i64 t3 127 = r) (w : World) :
    Calls Tryz.prog 104 #[.int .u64 x] w fun e w' => e = .returned (.int .i64 r) ∧ w = w' := by
  go_enter Tryz.func104, Tryz.ntmps104
  go_wp2
  go_ret
  exact ⟨rfl, rfl⟩
theorem wrap_nat {a : Nat} (h : a < 18446744073709551616) : IntKind.u64.wrap (a : Int) = (a : Int) := by rw [IntKind.wrap_u64]; omega
theorem pc64_is (x : Nat) (hx : x < 65536) (w : World) :
    Calls Tryz.prog 104 #[.int .u64 (x : Int)] w fun e w' => e = .returned (.int .i64 (popC x : Nat)) ∧ w = w' := by
  have la : ∀ a b : Nat, a &&& b ≤ a := fun a b => Nat.and_le_left
  unfold popC
  obtain ⟨a1, h1⟩ : ∃ a, x / 2 &&& 6148914691236517205 = a := ⟨_, rfl⟩
  obtain ⟨b1, h2⟩ : ∃ a, x &&& 6148914691236517205 = a := ⟨_, rfl⟩
  have l1 := la (x / 2) 6148914691236517205
  have l2 := la x 6148914691236517205
  rw [h1] at l1; rw [h2] at l2
  simp only [h1, h2]
  obtain ⟨y, hy⟩ : ∃ y, a1 + b1 = y := ⟨_, rfl⟩
  simp only [hy]
  have ly : y < 131072 := by omega
  obtain ⟨a2, h3⟩ : ∃ a, y / 4 &&& 3689348814741910323 = a := ⟨_, rfl⟩
  obtain ⟨b2, h4⟩ : ∃ a, y &&& 3689348814741910323 = a := ⟨_, rfl⟩
  have l3 := la (y / 4) 3689348814741910323
  have l4 := la y 3689348814741910323
  rw [h3] at l3; rw [h4] at l4
  simp only [h3, h4]
  obtain ⟨z, hz⟩ : ∃ z, a2 + b2 = z := ⟨_, rfl⟩
  simp only [hz]
  have lz : z < 262144 := by omega
  obtain ⟨s, hs⟩ : ∃ s, z / 16 + z = s := ⟨_, rfl⟩
  simp only [hs]
  have ls : s < 524288 := by omega
  obtain ⟨t, ht⟩ : ∃ t, s &&& 1085102592571150095 = t := ⟨_, rfl⟩
  have lt' := la s 1085102592571150095
  rw [ht] at lt'
  simp only [ht]
  obtain ⟨t1, ht1⟩ : ∃ q, t + t / 256 = q := ⟨_, rfl⟩
  simp only [ht1]
  obtain ⟨t2, ht2⟩ : ∃ q, t1 + t1 / 65536 = q := ⟨_, rfl⟩
  simp only [ht2]
  obtain ⟨t3, ht3⟩ : ∃ q, t2 + t2 / 4294967296 = q := ⟨_, rfl⟩
  simp only [ht3]
  have l5 : t1 < 1048576 := by omega
  have l6 : t2 < 2097152 := by omega
  have l7 : t3 < 4194304 := by omega
  refine pc64_core (x : Int) (a1 : Int) (b1 : Int) (y : Int) (a2 : Int) (b2 : Int) (z : Int) (s : Int) (t : Int) (t1 : Int) (t2 : Int) (t3 : Int) _ (by omega) (by omega) (by omega) (by omega) (by omega) (by omega)
    ?_ ?_ ?_ ?_ ?_ ?_ ?_ ?_ ?_ ?_ ?_ ?_ ?_ w
  · rw [← h1]; exact step_a x _ 2 (by omega) (by decide)
  · rw [← h2]; exact bits_and_u64_nat x _ (by omega) (by decide)
  · rw [← hy, ← Int.natCast_add]; exact wrap_nat (by omega)
  · rw [← h3]; exact step_a y _ 4 (by omega) (by decide)
  · rw [← h4]; exact bits_and_u64_nat y _ (by omega) (by decide)
  · rw [← hz, ← Int.natCast_add]; exact wrap_nat (by omega)
  · rw [show (z : Int) / 16 + (z : Int) = ((z / 16 + z : Nat) : Int) by omega, hs]; exact wrap_nat (by omega)
  · rw [← ht]; exact bits_and_u64_nat s _ (by omega) (by decide)
  · rw [show (t : Int) + (t : Int) / 256 = ((t + t / 256 : Nat) : Int) by omega, ht1]; exact wrap_nat (by omega)
  · rw [show (t1 : Int) + (t1 : Int) / 65536 = ((t1 + t1 / 65536 : Nat) : Int) by omega, ht2]; exact wrap_nat (by omega)
  · rw [show (t2 : Int) + (t2 : Int) / 4294967296 = ((t2 + t2 / 4294967296 : Nat) : Int) by omega, ht3]; exact wrap_nat (by omega)
  · rw [IntWalk.i64_in _ (by omega)]
  · exact bits_and_i64_nat t3 127 (by omega) (by decide)
theorem pc_is (x : Nat) (r : Nat) (hx : x < 65536) (hr : popC x = r) (w : World) :
    Calls Tryz.prog 70 #[.int .u64 (x : Int)] w fun e w' => e = .returned (.int .i64 (r : Int)) ∧ w = w' := by
  have k := fun W => pc64_is x hx W
  rw [hr] at k
  clear hr
  go_enter Tryz.func70, Tryz.ntmps70
  go_wp2_with (go_at_call 104; ((with_reducible refine (k _).mono ?_); rintro e w' ⟨rfl, rfl⟩))
  go_ret
  exact ⟨rfl, rfl⟩
/-! ### All sets -/
def uintsV (I : List Nat) : List Value := I.map fun (i : Nat) => Value.int .u64 (i : Int)
theorem uintsV_len (I : List Nat) : (uintsV I).length = I.length := by simp [uintsV]
theorem uintsV_app (I : List Nat) (k : Nat) : uintsV I ++ [.int .u64 (k : Int)] = uintsV (I ++ [k]) := by simp [uintsV]
/-- A slice of sets. -/
def URowA (w : World) (a : Option Addr) (len : Nat) (I : List Nat) : Prop :=
  I.length = len ∧ len ≤ maxLen ∧ ∀ k, k < len → ∃ b off : Nat, a = some ⟨b, off, none⟩ ∧ w.cell? ⟨b, off + k, none⟩ = some (.int .u64 (I.getD k 0 : Nat))
theorem URowA.keep {w w' : World} {a : Option Addr} {len : Nat} {I : List Nat} (h : URowA w a len I) (hb : Below w.heap.size w w') : URowA w' a len I :=
  ⟨h.1, h.2.1, fun k hk => by obtain ⟨b, off, e, c⟩ := h.2.2 k hk; exact ⟨b, off, e, bkeep hb c⟩⟩
theorem made_urow {e : TypeId} {W w : World} {v : Value} {I : List Nat} (h : MadeG e W w v (uintsV I)) : ∃ a c, v = .slice a I.length c ∧ URowA w a I.length I := by
  obtain ⟨a, c, hv, hl, hm, _, hc⟩ := h.row
  rw [uintsV_len] at hv hl hc
  refine ⟨a, c, hv, rfl, by omega, fun k hk => ?_⟩
  obtain ⟨b, off, e1, e2⟩ := hc k hk
  exact ⟨b, off, e1, by rw [e2]; simp [uintsV, List.getD, hk]⟩
def SetsPost (W : World) (L : List Nat) (e : Ending) (w' : World) : Prop := Below W.heap.size W w' ∧ ∃ (a : Option Addr) (c : Nat), e = .returned (.slice a L.length c) ∧ URowA w' a L.length L
theorem infoUint23 : (Tryz.prog.info? 55).map (fun i => (i.zero, i.size, i.bytes)) = some (some (.int .u64 0), 1, 8) := by kernel_rfl
def setsUp (s n k : Nat) : List Nat := (List.range k).filter fun x => decide (popN n x = s)
theorem setsUp_yes {s n k : Nat} (h : popN n k = s) : setsUp s n k ++ [k] = setsUp s n (k + 1) := by
  unfold setsUp
  rw [List.range_succ, List.filter_append, List.filter_cons, if_pos (decide_eq_true h)]
  rfl
theorem setsUp_no {s n k : Nat} (h : ¬ popN n k = s) : setsUp s n k = setsUp s n (k + 1) := by
  unfold setsUp
  rw [List.range_succ, List.filter_append, List.filter_cons, if_neg (by simpa using h)]
  simp
theorem setsUp_len (s n k : Nat) : (setsUp s n k).length ≤ k := by
  unfold setsUp
  exact Nat.le_trans (List.length_filter_le _ _) (by simp)
def SetsUp (w : World) (s n M : Nat) (v i : Value) (W : World) : Prop := ∃ k : Nat, k ≤ M ∧ i = .int .u64 (k : Int) ∧ MadeG 55 w W v (uintsV (setsUp s n k))
theorem popN_le16 {n x : Nat} (hn : n ≤ 16) : popN n x ≤ 16 := Nat.le_trans (many_le _ _) hn
set_option maxRecDepth 100000 in
set_option maxHeartbeats 8000000 in
theorem gsets_is (n s : Nat) (w : World) (hn : n ≤ 16) (hs : s ≤ 1000) : Calls Tryz.prog 34 #[.int .i64 (n : Int), .int .i64 (s : Int)] w (SetsPost w ((subs s n).map maskV)) := by
  obtain ⟨i0, hi, hz0, hz1, hz2⟩ := info_parts infoUint23
  have HE := Lib.hid (sets_is n s)
  have HM16 : 2 ^ n ≤ 65536 := Nat.le_trans (Nat.pow_le_pow_right (by decide) hn) (by decide)
  have HPC : Hid (∀ k, k < 2 ^ n → popC k = popN n k) := Lib.hid fun k hk => popC_is hn hk
  have n3 : IntKind.u64.wrap ((2 : Int) ^ n) = ((2 ^ n : Nat) : Int) := by rw [← wrap_nat (show 2 ^ n < 18446744073709551616 by omega), Int.natCast_pow]; rfl
  rw [← HE.out]
  have hend : setsL s n = setsUp s n (2 ^ n) := rfl
  rw [hend]
  obtain ⟨M, hM⟩ : ∃ M, 2 ^ n = M := ⟨_, rfl⟩
  rw [hM] at HPC n3 HM16 ⊢
  clear hend HE hM
  go_enter Tryz.func34, Tryz.ntmps34
  go_upto_region 3 with fail
  go_loopw [5, 9] (SetsUp w s n M) (fun _ i _ => M - (intOf i).toNat)
  case atStart => exact ⟨0, Nat.zero_le _, rfl, by simpa [setsUp, uintsV] using MadeG.start 55 w⟩
  case round =>
    obtain ⟨k, hk, rfl, hM2⟩ := hrel
    by_cases hlt : k < M
    · have hltI : (k : Int) < (M : Int) := Int.ofNat_lt.2 hlt
      have k1 : IntKind.u64.wrap ((k : Int) + 1) = ((k + 1 : Nat) : Int) := by rw [← Int.natCast_one, ← Int.natCast_add]; exact wrap_nat (by omega)
      have hp16 := popN_le16 (x := k) hn
      have P1 := fun W => pc_is k (popN n k) (by omega) (HPC.out k hlt) W
      have hl0 := setsUp_len s n k
      have HK1 := Lib.hid k1
      obtain ⟨P, hP⟩ : ∃ P, popN n k = P := ⟨_, rfl⟩
      rw [hP] at P1 hp16
      by_cases hs2 : P = s
      · have HSS := Lib.hid (setsUp_yes (hP.trans hs2))
        subst hs2
        obtain ⟨I, hI⟩ : ∃ I, setsUp P n k = I := ⟨_, rfl⟩
        rw [hI] at hM2 hl0 HSS
        have HM0 := Lib.hid hM2
        have hown := hM2.1; have hsz := hM2.2.size
        have HT := Lib.hid (fun (o : Obj) w2 v' z => @MadeG.grow 55 w _ w2 _ v' (uintsV I) z (hM2.keep ((Below.refl _ _).alloc (Nat.le_refl _) o)))
        have hlen : (uintsV I).length ≤ 65536 := by rw [uintsV_len]; omega
        clear hM2 hI hP k1 n3
        generalize hnn : (uintsV I).length = nn at *
        have HNN := Lib.hid hnn
        clear hnn
        go_wp2_with (first
          | (go_at_call 70; ((with_reducible refine (P1 _).mono ?_); rintro e w1 ⟨rfl, rfl⟩))
          | (at_builtin; refine wpList_append_own _ rfl _ _ 61 rfl w.heap.size 55 i0 (.int .u64 0) 1 8 Tryz.underlying61 hi hz0 hz1 hz2 rfl (by decide) _ _ _ rfl (hown.alloc _) ⟨wr.heap.size, 0, none⟩ 1 1 [.int .u64 (k : Int)] rfl rfl ?c1 ?c2 ?c3 ?c4 ?c5 ?_))
        case c1 => exact one_src (by simp [go_sem])
        case c2 => intro u hu; simp at hu; subst hu; rfl
        case c3 => unfold maxLen; omega
        case c4 => omega
        case c5 => first | omega | (simp; omega)
        · intro v' w2 hown' hgrow _
          have R := Lib.hid (HT.out _ w2 v' _ hown' hgrow)
          rw [uintsV_app] at R
          clear hown' hgrow hown HT
          go_wp2_with fail
          go_roundw
          case rel => exact ⟨k + 1, by omega, by go_num, by rw [← HSS.out]; exact R.out⟩
          case measure => simp [intOf]; omega
      · have HSS := Lib.hid (setsUp_no (s := s) (n := n) (k := k) (by rw [hP]; exact hs2))
        have hs3 : ¬ (P : Int) = (s : Int) := fun e => hs2 (Int.ofNat.inj e)
        have HM0 := Lib.hid hM2
        clear hM2 hP hs2 k1 n3
        go_wp2_with (go_at_call 70; ((with_reducible refine (P1 _).mono ?_); rintro e w1 ⟨rfl, rfl⟩))
        go_roundw
        case rel => exact ⟨k + 1, by omega, by go_num, by rw [← HSS.out]; exact HM0.out⟩
        case measure => simp [intOf]; omega
    · obtain rfl : k = M := by omega
      have hltI : ¬ (k : Int) < (k : Int) := by omega
      obtain ⟨am, cm, hv, hrow⟩ := made_urow hM2
      have HB := Lib.hid hM2.2
      subst hv
      have HROW := Lib.hid hrow
      clear hM2 hrow n3
      go_wp2
      go_ret
      exact ⟨HB.out, am, cm, rfl, HROW.out⟩
/-! ### Some of a list -/
theorem bit_one (x i : Nat) : (if x.testBit i = true then 1 else 0) = x / 2 ^ i % 2 := by
  rw [Nat.testBit_eq_decide_div_mod_eq]
  have h2 : x / 2 ^ i % 2 < 2 := Nat.mod_lt _ (by decide)
  generalize x / 2 ^ i % 2 = q at *
  by_cases h : q = 1
  · rw [if_pos (decide_eq_true h), h]
  · rw [if_neg (fun e => h (of_decide_eq_true e))]; omega
def pickUp (zs : QL) (x k : Nat) : QL := ((List.range k).filter fun i => x.testBit i).map fun i => zs.getD i (0, 0)
theorem pickUp_yes {zs : QL} {x k : Nat} (h : x.testBit k = true) : pickUp zs x k ++ [zs.getD k (0, 0)] = pickUp zs x (k + 1) := by
  unfold pickUp
  rw [List.range_succ, List.filter_append, List.filter_cons, if_pos h, List.map_append]
  rfl
theorem pickUp_no {zs : QL} {x k : Nat} (h : x.testBit k = false) : pickUp zs x k = pickUp zs x (k + 1) := by
  unfold pickUp
  rw [List.range_succ, List.filter_append, List.filter_cons, if_neg (by rw [h]; decide)]
  simp
theorem pickUp_len (zs : QL) (x k : Nat) : (pickUp zs x k).length ≤ k := by
  unfold pickUp
  rw [List.length_map]
  exact Nat.le_trans (List.length_filter_le _ _) (by simp)
theorem pickUp_is {s n : Nat} {I : List Nat} (hI : I ∈ subs s n) (zs : QL) : pickUp zs (maskV I) n = pickL zs I := by
  unfold pickUp pickL
  rw [bits_are hI]
def GPickUp (w : World) (zs : QL) (x n : Nat) (v i : Value) (W : World) : Prop := ∃ k : Nat, k ≤ n ∧ i = .int .i64 (k : Int) ∧ MadeQ w W v (pickUp zs x k)
set_option maxRecDepth 100000 in
set_option maxHeartbeats 8000000 in
theorem gpick_up (a : Option Addr) (n c : Nat) (zs : QL) (x : Nat) (w : World) (hz : QRowA w a n zs) (hn : n ≤ 16) (hx : x < 18446744073709551616) :
    Calls Tryz.prog 36 #[.slice a n c, .int .u64 (x : Int)] w (RowQPost w (pickUp zs x n)) := by
  obtain ⟨i0, hi, hz0, hz1, hz2⟩ := info_parts infoQ5
  have HZ := Lib.hid hz
  clear hz
  go_enter Tryz.func36, Tryz.ntmps36
  go_upto_region 3 with fail
  go_loopw [5, 10] (GPickUp w zs x n) (fun _ i _ => n - (intOf i).toNat)
  case atStart => exact ⟨0, Nat.zero_le _, rfl, by simpa [pickUp] using MadeQ.start w⟩
  case round =>
    obtain ⟨k, hk, rfl, hM2⟩ := hrel
    by_cases hlt : k < n
    · have hltI : (k : Int) < (n : Int) := Int.ofNat_lt.2 hlt
      have hk0 : (0 : Int) ≤ (k : Int) := Int.natCast_nonneg k
      obtain ⟨zb, zo, rfl, z0, z1⟩ := HZ.out.2.2 k hlt
      replace z0 := bkeep hM2.2 z0
      replace z1 := bkeep hM2.2 z1
      have hlen := pickUp_len zs x k
      have hx0 : (0 : Int) ≤ (x : Int) := Int.natCast_nonneg x
      obtain ⟨y, y', hy⟩ : ∃ y y', zs.getD k (0, 0) = (y, y') := ⟨_, _, rfl⟩
      rw [hy] at z0 z1
      have HY := Lib.hid hy
      have hxb : bits .and .u64 ((x : Int) / (2 : Int) ^ k) 1 = ((x / 2 ^ k % 2 : Nat) : Int) := by
        have := step_a x 1 (2 ^ k) hx (by decide)
        rw [Nat.and_one_is_mod, Int.natCast_pow] at this
        exact this
      have hbit := bit_one x k
      have HM0 := Lib.hid hM2
      clear hM2 hy
      go_upto_region 5 with fail
      obtain ⟨gx, hgx⟩ : ∃ g, wr.heap.size = g := ⟨_, rfl⟩
      refine wp_gen (fun W => Below wr.heap.size wr W ∧ Duo W gx (.int .u64 y) (.int .u64 y')) ⟨(Below.refl _ _).alloc (Nat.le_refl _) _, by rw [← hgx]; simp [Duo, go_sem]⟩ ?_
      rintro w5 ⟨hb5, d0, d1, _, _⟩
      simp only [hgx]
      replace HM0 := Lib.hid (HM0.out.keep hb5)
      clear hb5 hgx z0 z1
      cases hbt : x.testBit k
      · rw [hbt, if_neg (by decide)] at hbit
        rw [← hbit] at hxb
        have HSS := Lib.hid (pickUp_no (zs := zs) hbt)
        clear hbt hbit
        simp only [Int.natCast_zero] at hxb
        go_wp2_with fail
        go_roundw
        case rel => exact ⟨k + 1, by omega, by go_num, by rw [← HSS.out]; exact HM0.out⟩
        case measure => simp [intOf]; omega
      · rw [hbt, if_pos rfl] at hbit
        rw [← hbit] at hxb
        have HSS := Lib.hid (pickUp_yes (zs := zs) hbt)
        clear hbt hbit
        simp only [Int.natCast_one] at hxb
        generalize pickUp zs x k = xs at *
        have hown := HM0.out.1; have hsz := HM0.out.2.size
        have HT := Lib.hid (fun w2 v' => @MadeQ.step w _ w2 _ v' xs y y' HM0.out)
        generalize xs.length = nn at *
        go_wp2_with (at_builtin; refine wpList_append_own _ rfl _ _ 24 rfl w.heap.size 31 i0 (.agg #[.int .u64 0, .int .u64 0]) 2 16 Tryz.underlying24 hi hz0 hz1 hz2 rfl (by decide) _ _ _ rfl (hown.alloc _) ⟨w5.heap.size, 0, none⟩ 1 1 [.int .u64 y, .int .u64 y'] rfl rfl ?c1 ?c2 ?c3 ?c4 ?c5 ?_)
        case c1 => exact two_src (by simp [go_sem]) (by simp [go_sem])
        case c2 => first | rfl | (intro u hu; simp at hu; rcases hu with rfl | rfl <;> rfl)
        case c3 => unfold maxLen; omega
        case c4 => omega
        case c5 => first | omega | (simp; omega)
        · intro v' w2 hown' hgrow _
          have R := Lib.hid (HT.out w2 v' _ hown' hgrow)
          clear hown' hgrow hown HT d0 d1
          go_wp2_with fail
          go_roundw
          case rel => exact ⟨k + 1, by omega, by go_num, by rw [← HSS.out, HY.out]; exact R.out⟩
          case measure => simp [intOf]; omega
    · obtain rfl : k = n := by omega
      have hltI : ¬ (k : Int) < (k : Int) := by omega
      obtain ⟨am, cm, hv, hrow⟩ := hM2.row
      have HB := Lib.hid hM2.2
      subst hv
      have HROW := Lib.hid hrow
      clear hM2 hrow
      go_wp2
      go_ret
      exact ⟨HB.out, am, cm, rfl, HROW.out⟩
theorem gpick_is {s : Nat} {I : List Nat} (a : Option Addr) (n c : Nat) (zs : QL) (w : World) (hz : QRowA w a n zs) (hn : n ≤ 16) (hI : I ∈ subs s n) :
    Calls Tryz.prog 36 #[.slice a n c, .int .u64 (maskV I : Nat)] w (RowQPost w (pickL zs I)) := by
  have h := mask_lt hI
  have : 2 ^ n ≤ 2 ^ 16 := Nat.pow_le_pow_right (by decide) hn
  rw [← pickUp_is hI zs]
  exact gpick_up a n c zs (maskV I) w hz hn (by omega)
set_option maxHeartbeats 4000000 in
theorem gthrough_is (v u : Value) (l m : List F2) (w : World) (h1 : Poly w v l) (h2 : Poly w u m) (hl : l.length ≤ 65536) (hm : m.length ≤ 65536) :
    Calls Tryz.prog 35 #[v, u] w (RetP (thrL l m) w) := by
  have k := pthr_is v u l m w h1 h2 (by omega) (by omega)
  unfold RetT at k
  clear h1 h2 hl hm
  generalize thrL l m = r at *
  generalize thrB l m = ok at *
  go_enter Tryz.func35, Tryz.ntmps35
  go_wp2_with (go_at_call 71; (with_reducible refine k.mono ?_); rintro e w1 ⟨v1, rfl, hb, hP⟩; have HB := Lib.hid hb; have HP := Lib.hid hP; clear hb hP)
  go_ret
  exact ⟨_, rfl, HB.out, HP.out⟩
end Go.Proofs.YthfkfgjhgicfeaaGreatDoor
namespace Go.Proofs.YthfkfgjhgicfeaaGreatDoor
open Go Go.RowKit Go.Sort Go.BigFrame
set_option linter.unusedVariables false

theorem ptV_next (m f : Int) (k : Nat) : scale (ptV m f k) (toF (enc (ofv m))) = ptV m f (k + 1) := by
  unfold ptV
  rw [toF_enc, pointF_at (by omega), pointF_at (by omega), Int.toNat_natCast, Int.toNat_natCast, fpow_succ]
  exact F2.eq (by simp only [scale, lift]; grind) (by simp only [scale, lift]; grind)
def PtsRel (w : World) (m f : Int) (M go gx : Nat) (i : Value) (W : World) : Prop :=
  ∃ k : Nat, k ≤ M ∧ i = .int .i64 (k : Int) ∧ Below w.heap.size w W ∧ Duo W go (.int .u64 (enc (ptV m f k).a)) (.int .u64 (enc (ptV m f k).b)) ∧ Arr W gx (M * 2) (pc fun j => if j < k then encP (ptV m f j) else (0, 0))
set_option maxRecDepth 100000 in
set_option maxHeartbeats 8000000 in
theorem gpoints_is (m : Nat) (f : Int) (w : World) (hm : m ≤ 6) : Calls Tryz.prog 29 #[.int .i64 (m : Int), .int .i64 f] w (RowQPost w (xsL (m : Int) f (2 ^ m))) := by
  have hM : 2 ^ m ≤ 64 := Nat.le_trans (Nat.pow_le_pow_right (by decide) hm) (by decide)
  have n2 := pw_wrap m (by omega)
  have p1 := fun W => fpoint_is (m : Int) f 0 (enc (pointF m f 0)) (by decide) rfl W
  have l1 := fun W => lift_q (enc (pointF m f 0)) (ptV m f 0) (enc_U _) (by rw [toF_enc]; rfl) W
  have o1 := fun W => of_is (m : Int) _ rfl W
  have hmk := fun W => run_make_pairs (P := Tryz.prog) 24 31 (.agg #[.int .u64 0, .int .u64 0]) Tryz.underlying24 infoQ5 rfl (2 ^ m) (by omega) W
  obtain ⟨st, hst⟩ : ∃ st, enc (ofv (m : Int)) = st := ⟨_, rfl⟩
  have hnx := ptV_next (m : Int) f
  rw [hst] at hnx o1
  have hstU : U st := by rw [← hst]; exact enc_U _
  have HNX := Lib.hid hnx
  obtain ⟨M, hMe⟩ : ∃ M, 2 ^ m = M := ⟨_, rfl⟩
  rw [hMe] at n2 hM hmk ⊢
  have hm40 : m ≤ 40 := by omega
  generalize enc (pointF m f 0) = pz at *
  generalize hz1 : enc (ptV m f 0).a = z1 at *
  generalize hz2 : enc (ptV m f 0).b = z2 at *
  have HZ := Lib.hid (And.intro hz1 hz2)
  have HU := Lib.hid hstU
  clear hMe hm hst hnx hz1 hz2 hstU
  go_enter Tryz.func29, Tryz.ntmps29
  go_upto_region 2 with fail
  obtain ⟨gx, hgx⟩ : ∃ g, w.heap.size = g := ⟨_, rfl⟩
  have HGX : Hid (w.heap.size ≤ gx) := Lib.hid (by omega)
  refine wp_gen (fun W => Below w.heap.size w W ∧ Arr W gx (M * 2) (pc fun _ => (0, 0)) ∧ gx < W.heap.size) ⟨(Below.refl _ _).alloc (Nat.le_refl _) _, by rw [← hgx]; exact Arr.newq w M 31, by rw [← hgx]; simp⟩ ?_
  rintro w0 ⟨hB0, hA0, hlt0⟩
  simp only [hgx]
  have HB := Lib.hid hB0; have HA := Lib.hid hA0
  have HLT := Lib.hid hlt0
  clear hB0 hA0 hlt0 hgx hmk
  go_upto_region 3 with (first
    | (go_at_call 66; (with_reducible refine (p1 _).mono ?_); rintro e w1 ⟨rfl, hb⟩; replace HB := Lib.hid (bthen HB.out hb); replace HA := Lib.hid (HA.out.keep hb); replace HLT := Lib.hid (Nat.lt_of_lt_of_le HLT.out hb.size); clear hb)
    | (go_at_call 65; (with_reducible refine (l1 _).mono ?_); rintro e w2 ⟨rfl, hb⟩; replace HB := Lib.hid (bthen HB.out hb); replace HA := Lib.hid (HA.out.keep hb); replace HLT := Lib.hid (Nat.lt_of_lt_of_le HLT.out hb.size); clear hb)
    | (go_at_call 67; (with_reducible refine (o1 _).mono ?_); rintro e w3 ⟨rfl, rfl⟩))
  clear p1 l1 o1
  obtain ⟨go, hgo⟩ : ∃ g, w2.heap.size = g := ⟨_, rfl⟩
  have HGO : Hid (w.heap.size ≤ go) := Lib.hid (by rw [← hgo]; exact HB.out.size)
  have HNE : Hid (go ≠ gx) := Lib.hid (by have := HLT.out; omega)
  refine wp_gen (fun W => Below w.heap.size w W ∧ Duo W go (.int .u64 z1) (.int .u64 z2) ∧ Arr W gx (M * 2) (pc fun _ => (0, 0))) ⟨HB.out.alloc HB.out.size _, by rw [← hgo]; simp [Duo, go_sem], HA.out.alloc _⟩ ?_
  clear HB HA HLT
  rintro w4 ⟨hB, hO, hA⟩
  simp only [hgo]
  have HB := Lib.hid hB; have HO := Lib.hid hO; have HA := Lib.hid hA
  clear hB hO hA hgo
  go_upto_region 4 with fail
  go_loopw [20] (PtsRel w (m : Int) f M go gx) (fun i _ => M - (intOf i).toNat)
  case atStart => exact ⟨0, Nat.zero_le _, rfl, HB.out, by rw [HZ.out.1, HZ.out.2]; exact HO.out, HA.out.same (pc_same fun j _ => by rw [if_neg (by omega)])⟩
  case round =>
    clear HB HO HA HZ
    obtain ⟨k, hk, rfl, hB, hO, hA⟩ := hrel
    by_cases hlt : k < M
    · have hltI : (k : Int) < (M : Int) := Int.ofNat_lt.2 hlt
      have hk0 : (0 : Int) ≤ (k : Int) := Int.natCast_nonneg k
      have s1 := fun W => pscale_q (enc (ptV m f k).a) (enc (ptV m f k).b) st (ptV m f k) (ptV m f (k + 1)) (rep_enc _) HU.out (HNX.out k) W
      have hset := fun W (h : Arr W gx (M * 2) (pc fun j => if j < k then encP (ptV m f j) else (0, 0))) => Arr.setq h k (enc (ptV m f k).a) (enc (ptV m f k).b) hlt
      have HST : Hid (∀ j, (if j = k then (enc (ptV m f k).a, enc (ptV m f k).b) else if j < k then encP (ptV m f j) else (0, 0)) = if j < k + 1 then encP (ptV m f j) else (0, 0)) := Lib.hid fun j => by
        by_cases e : j = k
        · subst e; rw [if_pos rfl, if_pos (by omega)]; rfl
        · rw [if_neg e]
          by_cases h : j < k
          · rw [if_pos h, if_pos (by omega)]
          · rw [if_neg h, if_neg (by omega)]
      obtain ⟨x0, x1, xf0, xf1⟩ := hA.cells k hlt
      have HOO := Lib.hid hO
      obtain ⟨o0, o1, of0, of1⟩ := hO
      have hne := HNE.out
      have hne' : gx ≠ go := fun e => hne e.symm
      have HSET := Lib.hid hset
      have HBB := Lib.hid hB; have HAA := Lib.hid hA
      generalize hv0 : enc (ptV (↑m) f (k + 1)).a = n0 at *
      generalize hv1 : enc (ptV (↑m) f (k + 1)).b = n1 at *
      have HV := Lib.hid (And.intro hv0 hv1)
      generalize enc (ptV (↑m) f k).a = y0 at *
      generalize enc (ptV (↑m) f k).b = y1 at *
      clear hset hB hA hv0 hv1
      go_upto_region 7 with fail
      refine wp_gen (fun W => Below w.heap.size w W ∧ Duo W go (.int .u64 y0) (.int .u64 y1) ∧ Arr W gx (M * 2) (pc fun j => if j < k + 1 then encP (ptV m f j) else (0, 0)))
        ⟨(HBB.out.setCell HGX.out _).setCell HGX.out _, (HOO.out.far hne' _ _).far hne' _ _, (HSET.out _ HAA.out).same (pc_same fun j _ => HST.out j)⟩ ?_
      clear HBB HOO HAA x0 x1 xf0 xf1 o0 o1 of0 of1 HSET HST
      rintro W3 ⟨hB, hO, hA⟩
      have HB := Lib.hid hB; have HA := Lib.hid hA; have HO := Lib.hid hO
      obtain ⟨o0c, o1c, _, _⟩ := hO
      clear hB hA
      go_wp2_with (go_at_call 68; (with_reducible refine (s1 _).mono ?_); rintro E v5 ⟨rfl, hb⟩; replace HB := Lib.hid (bthen HB.out hb); replace HA := Lib.hid (HA.out.keep hb); replace HO := Lib.hid (HO.out.keep hb); obtain ⟨p0, p1, pf0, pf1⟩ := HO.out; clear hb o0c o1c)
      go_roundw
      case rel => exact ⟨k + 1, by omega, by go_num, (HB.out.setCell HGO.out _).setCell HGO.out _, by rw [HV.out.1, HV.out.2]; exact HO.out.set _ _, (HA.out.far hne _ _).far hne _ _⟩
      case measure => simp [intOf]; omega
    · obtain rfl : k = M := by omega
      have hA2 : Arr wr gx (k * 2) (pc fun j => (xsL m f k).getD j (0, 0)) := hA.same (pc_same fun j hj => by rw [if_pos hj, xsL_at _ _ hj])
      have hR : QRow wr (.slice (some ⟨gx, 0, none⟩) k k) (xsL m f k) := Arr.qrow hA2 (xsL_len _ _ _) (by unfold maxLen; omega)
      have HB := Lib.hid hB; have HR := Lib.hid hR
      have hnl : ¬ (k : Int) < (k : Int) := by omega
      clear hB hO hA hA2 hR
      go_wp2_with fail
      go_ret
      have hl : (xsL (m : Int) f k).length = k := xsL_len _ _ _
      exact ⟨HB.out, some ⟨gx, 0, none⟩, k, by rw [hl]; rfl, by rw [hl]; exact HR.out⟩
/-! ### Whether a polynomial has a place -/
set_option maxRecDepth 100000 in
set_option maxHeartbeats 4000000 in
theorem gsame_is (a b c d : Int) (x y : F2) (r : Bool) (w : World) (hx : Rep a b x) (hy : Rep c d y) (hr : decide (x = y) = r) :
    Calls Tryz.prog 63 #[.agg #[.int .u64 a, .int .u64 b], .agg #[.int .u64 c, .int .u64 d]] w fun e w' => e = .returned (.bool r) ∧ Below w.heap.size w w' := by
  obtain ⟨z, hz⟩ : ∃ z, x - y = z := ⟨_, rfl⟩
  have k1 := fun W => psub_q a b c d x y z hx hy hz W
  have hr2 : decide (z = 0) = r := by
    rw [← hr, ← hz]
    exact decide_eq_decide.2 ⟨fun h => sub_eq_zero' h, fun h => by rw [h]; exact sub_self' y⟩
  have e2 := eqB_enc z 0 r hr2
  rw [show enc (0 : F2).a = 0 from rfl, show enc (0 : F2).b = 0 from rfl] at e2
  clear hx hy hr hz hr2
  generalize enc z.a = za at *
  generalize enc z.b = zb at *
  go_enter Tryz.func63, Tryz.ntmps63
  go_upto_region 1 with fail
  refine wp_gen (fun W => Below w.heap.size w W ∧ Duo W w.heap.size (.int .u64 a) (.int .u64 b) ∧ Duo W (w.heap.size + 1) (.int .u64 c) (.int .u64 d)) ⟨((Below.refl _ _).alloc (Nat.le_refl _) _).alloc (by simp) _, by simp [Duo, go_sem], by simp [Duo, go_sem]⟩ ?_
  rintro w0 ⟨hB0, ⟨c0, c1, _, _⟩, d0, d1, _, _⟩
  have HB := Lib.hid hB0
  clear hB0
  rcases e2 with ⟨rfl, rfl, rfl⟩ | ⟨rfl, h1⟩ | ⟨rfl, rfl, h1⟩
  all_goals
    go_wp2_with (go_at_call 75; (with_reducible refine (k1 _).mono ?_); rintro e w1 ⟨rfl, hb1⟩; replace HB := Lib.hid (bthen HB.out hb1); clear hb1)
    go_ret
    exact ⟨rfl, HB.out⟩
def hasV (xs word : QL) (line : List F2) (i : Nat) : Bool := decide (atP line (qAt xs i) = qAt word i)
set_option maxRecDepth 100000 in
set_option maxHeartbeats 8000000 in
theorem ghas_is (gl gx gw : Nat) (la xa a : Option Addr) (ln lc xc n c : Nat) (line xs word : QL) (i : Nat) (r : Bool) (w : World)
    (cl : w.cell? ⟨gl, 0, none⟩ = some (.slice la ln lc)) (cx : w.cell? ⟨gx, 0, none⟩ = some (.slice xa n xc)) (cw : w.cell? ⟨gw, 0, none⟩ = some (.slice a n c))
    (hl : QRowA w la ln line) (hlu : UsR line) (hx : QRowA w xa n xs) (hxu : UsR xs) (hw : QRowA w a n word) (hwu : UsR word) (hln : ln ≤ 4294967296) (hi : i < n) (hr : hasV xs word (line.map toQ) i = r) :
    Calls Tryz.prog 62 #[.int .i64 (i : Int), .pointer (some ⟨gl, 0, none⟩), .pointer (some ⟨gx, 0, none⟩), .pointer (some ⟨gw, 0, none⟩)] w fun e w' => e = .returned (.bool r) ∧ Below w.heap.size w w' := by
  have hiI : (i : Int) < (n : Int) := Int.ofNat_lt.2 hi
  have hi0 : (0 : Int) ≤ (i : Int) := Int.natCast_nonneg i
  obtain ⟨xb, xo, rfl, x0c, x1c⟩ := hx.2.2 i hi
  obtain ⟨wb, wo, rfl, w0c, w1c⟩ := hw.2.2 i hi
  have rx := qAt_rep hxu (show i < xs.length by rw [hx.1]; exact hi)
  have rw' := qAt_rep hwu (show i < word.length by rw [hw.1]; exact hi)
  obtain ⟨x0, x1, hxe⟩ : ∃ p q, xs.getD i (0, 0) = (p, q) := ⟨_, _, rfl⟩
  obtain ⟨y0, y1, hye⟩ : ∃ p q, word.getD i (0, 0) = (p, q) := ⟨_, _, rfl⟩
  rw [hxe] at x0c x1c rx
  rw [hye] at w0c w1c rw'
  unfold hasV at hr
  obtain ⟨v, hv⟩ : ∃ v, atP (line.map toQ) (qAt xs i) = v := ⟨_, rfl⟩
  rw [hv] at hr
  have a1 := fun W (hb : Below w.heap.size w W) => pat_any la ln lc (line.map toQ) x0 x1 (qAt xs i) v W (polyA_q (hl.keep hb) hlu) rx hln hv
  have s1 := fun W (hb : Below w.heap.size w W) => gsame_is (enc v.a) (enc v.b) y0 y1 v (qAt word i) r W (rep_enc _) rw' hr
  simp only at x0c x1c w0c w1c
  clear hl hlu hx hxu hw hwu hln hi hr hv rx rw' hxe hye
  go_enter Tryz.func62, Tryz.ntmps62
  go_upto_region 1 with fail
  replace cl := fun q : Regrown => cell_regrown cl q.d q.os
  replace cx := fun q : Regrown => cell_regrown cx q.d q.os
  replace cw := fun q : Regrown => cell_regrown cw q.d q.os
  replace x0c := fun q : Regrown => cell_regrown x0c q.d q.os
  replace x1c := fun q : Regrown => cell_regrown x1c q.d q.os
  replace w0c := fun q : Regrown => cell_regrown w0c q.d q.os
  replace w1c := fun q : Regrown => cell_regrown w1c q.d q.os
  refine wp_region_quiet_below (by kernel_rfl) (by kernel_rfl) ?_
  repeat (first | go_big_quiet_step (first
    | (go_at_call 64; with_reducible exact Calls.regrown_of (a1 _ (below_regrown w _ _)))
    | (go_at_call 63; with_reducible exact Calls.regrown_of (s1 _ (below_regrown w _ _)))) | quiet_step (fail))
  refine wpQuiet_nil ?_
  rintro _ ⟨pq, rfl⟩
  have HB := Lib.hid (below_regrown w pq.d pq.os)
  clear cl cx cw x0c x1c w0c w1c a1 s1
  go_wp2_with fail
  go_ret
  exact ⟨rfl, HB.out⟩
/-! ### How many places -/
def AgRelG (w wb : World) (p : Nat → Bool) (M : Nat) (v i : Value) (W : World) : Prop :=
  ∃ j : Nat, j ≤ M ∧ i = .int .i64 (j : Int) ∧ Below w.heap.size w W ∧ Below wb.heap.size wb W ∧ v = .int .i64 (many p j : Nat)
def agreeG (xs word : QL) (line : List F2) (two : Bool) : Nat :=
  if two = true then many (fun i => hasV xs word line i && hasV xs word line (i + word.length / 2)) (word.length / 2) else many (hasV xs word line) word.length
set_option maxRecDepth 100000 in
set_option maxHeartbeats 8000000 in
theorem gagree_is (a : Option Addr) (n c : Nat) (word : QL) (xa : Option Addr) (xc : Nat) (xs : QL) (la : Option Addr) (ln lc : Nat) (line : QL) (two : Bool) (w : World)
    (hw : QRowA w a n word) (hwu : UsR word) (hx : QRowA w xa n xs) (hxu : UsR xs) (hl : QRowA w la ln line) (hlu : UsR line) (hn : n ≤ 64) (hln : ln ≤ 4294967296) :
    Calls Tryz.prog 28 #[.slice a n c, .slice xa n xc, .slice la ln lc, .bool two] w (IntPost w (agreeG xs word (line.map toQ) two)) := by
  have hlen := hw.1
  have HW := Lib.hid hw; have HWU := Lib.hid hwu; have HX := Lib.hid hx; have HXU := Lib.hid hxu; have HL := Lib.hid hl; have HLU := Lib.hid hlu; have HLN := Lib.hid hln
  unfold agreeG
  rw [hlen]
  obtain ⟨h, hh⟩ : ∃ h, n / 2 = h := ⟨_, rfl⟩
  have hhI : (n : Int).tdiv 2 = (h : Int) := by rw [Int.tdiv_eq_ediv_of_nonneg (by omega)]; omega
  have h2 : 2 * h ≤ n := by omega
  rw [hh]
  obtain ⟨R, hR⟩ : ∃ R, (if two = true then many (fun i => hasV xs word (line.map toQ) i && hasV xs word (line.map toQ) (i + h)) h else many (hasV xs word (line.map toQ)) n) = R := ⟨_, rfl⟩
  have HR0 : Hid (two = false → many (hasV xs word (line.map toQ)) n = R) := Lib.hid fun e => by rw [← hR, e, if_neg (by decide)]
  have HR1 : Hid (two = true → many (fun i => hasV xs word (line.map toQ) i && hasV xs word (line.map toQ) (i + h)) h = R) := Lib.hid fun e => by rw [← hR, e, if_pos rfl]
  rw [hR]
  clear hw hwu hx hxu hl hlu hln hlen hh hR
  go_enter Tryz.func28, Tryz.ntmps28
  go_upto_region 1 with fail
  obtain ⟨gw, hgw⟩ : ∃ g, w.heap.size = g := ⟨_, rfl⟩
  obtain ⟨gx, hgx⟩ : ∃ g, gw + 1 = g := ⟨_, rfl⟩
  obtain ⟨gl, hgl⟩ : ∃ g, gx + 1 = g := ⟨_, rfl⟩
  refine wp_gen (fun W => Below w.heap.size w W ∧ W.cell? ⟨gw, 0, none⟩ = some (.slice a n c) ∧ W.cell? ⟨gx, 0, none⟩ = some (.slice xa n xc) ∧ W.cell? ⟨gl, 0, none⟩ = some (.slice la ln lc))
    ⟨(((Below.refl _ _).alloc (Nat.le_refl _) _).alloc (by simp) _).alloc (by simp; omega) _, by subst hgl hgx hgw; simp [go_sem], by subst hgl hgx hgw; simp [go_sem], by subst hgl hgx hgw; simp [go_sem]⟩ ?_
  rintro w0 ⟨hB0, cw, cx, cl⟩
  simp only [hgw, hgx, hgl]
  have HB0 := Lib.hid hB0
  clear hB0 hgw hgx hgl
  go_upto_region 3 with fail
  cases two
  · replace HR0 := Lib.hid (HR0.out rfl)
    clear HR1
    go_upto_region 13 with fail
    go_loopw [11, 39] (AgRelG w w0 (hasV xs word (line.map toQ)) n) (fun _ i _ => n - (intOf i).toNat)
    case atStart => exact ⟨0, Nat.zero_le _, rfl, HB0.out, Below.refl _ _, rfl⟩
    case round =>
      clear HB0
      obtain ⟨j, hj, rfl, hB, hBw, rfl⟩ := hrel
      have hle := many_le (hasV xs word (line.map toQ)) j
      by_cases hlt : j < n
      · have hltI : (j : Int) < (n : Int) := Int.ofNat_lt.2 hlt
        have hj0 : (0 : Int) ≤ (j : Int) := Int.natCast_nonneg j
        obtain ⟨r1, hr1⟩ : ∃ r, hasV xs word (line.map toQ) j = r := ⟨_, rfl⟩
        have g1 := fun W (h : Below wr.heap.size wr W) => ghas_is gl gx gw la xa a ln lc xc n c line xs word j r1 W (bkeep (bthen hBw h) cl) (bkeep (bthen hBw h) cx) (bkeep (bthen hBw h) cw) (HL.out.keep (bthen hB h)) HLU.out (HX.out.keep (bthen hB h)) HXU.out (HW.out.keep (bthen hB h)) HWU.out HLN.out hlt hr1
        have HST : Hid (many (hasV xs word (line.map toQ)) (j + 1) = many (hasV xs word (line.map toQ)) j + (if r1 = true then 1 else 0)) := Lib.hid (by rw [many, hr1])
        have HB := Lib.hid hB; have HBW := Lib.hid hBw
        obtain ⟨cn, hcn⟩ : ∃ q, many (hasV xs word (line.map toQ)) j = q := ⟨_, rfl⟩
        rw [hcn] at hle HST ⊢
        clear hB hBw hr1 hcn cl cx cw
        cases r1
        all_goals
          go_wp2_with (go_at_call 62; (with_reducible refine (g1 _ (Below.refl _ _)).mono ?_); rintro e w1 ⟨rfl, hb⟩; replace HB := Lib.hid (bthen HB.out hb); replace HBW := Lib.hid (bthen HBW.out hb); clear hb)
          go_roundw
          case rel => exact ⟨j + 1, by omega, by go_num, HB.out, HBW.out, by rw [HST.out]; first | rfl | go_num⟩
          case measure => simp [intOf]; omega
      · obtain rfl : j = n := by omega
        have hltI : ¬ (j : Int) < (j : Int) := by omega
        have HB := Lib.hid hB
        clear hB hBw hj hlt
        go_wp2_with fail
        go_ret
        exact ⟨by rw [← HR0.out]; rfl, HB.out⟩
  · replace HR1 := Lib.hid (HR1.out rfl)
    clear HR0
    go_upto_region 6 with fail
    go_loopw [11, 20] (AgRelG w w0 (fun i => hasV xs word (line.map toQ) i && hasV xs word (line.map toQ) (i + h)) h) (fun _ i _ => h - (intOf i).toNat)
    case atStart => exact ⟨0, Nat.zero_le _, rfl, HB0.out, Below.refl _ _, rfl⟩
    case round =>
      clear HB0
      obtain ⟨j, hj, rfl, hB, hBw, rfl⟩ := hrel
      have hle := many_le (fun i => hasV xs word (line.map toQ) i && hasV xs word (line.map toQ) (i + h)) j
      by_cases hlt : j < h
      · have hltI : (j : Int) < (h : Int) := Int.ofNat_lt.2 hlt
        have hj0 : (0 : Int) ≤ (j : Int) := Int.natCast_nonneg j
        obtain ⟨r1, hr1⟩ : ∃ r, hasV xs word (line.map toQ) j = r := ⟨_, rfl⟩
        obtain ⟨r2, hr2⟩ : ∃ r, hasV xs word (line.map toQ) (j + h) = r := ⟨_, rfl⟩
        have g1 := fun W (h : Below wr.heap.size wr W) => ghas_is gl gx gw la xa a ln lc xc n c line xs word j r1 W (bkeep (bthen hBw h) cl) (bkeep (bthen hBw h) cx) (bkeep (bthen hBw h) cw) (HL.out.keep (bthen hB h)) HLU.out (HX.out.keep (bthen hB h)) HXU.out (HW.out.keep (bthen hB h)) HWU.out HLN.out (by omega) hr1
        have g2 := fun W (h' : Below wr.heap.size wr W) => ghas_is gl gx gw la xa a ln lc xc n c line xs word (j + h) r2 W (bkeep (bthen hBw h') cl) (bkeep (bthen hBw h') cx) (bkeep (bthen hBw h') cw) (HL.out.keep (bthen hB h')) HLU.out (HX.out.keep (bthen hB h')) HXU.out (HW.out.keep (bthen hB h')) HWU.out HLN.out (by omega) hr2
        rw [Int.natCast_add] at g2
        have HST : Hid (many (fun i => hasV xs word (line.map toQ) i && hasV xs word (line.map toQ) (i + h)) (j + 1) = many (fun i => hasV xs word (line.map toQ) i && hasV xs word (line.map toQ) (i + h)) j + (if (r1 && r2) = true then 1 else 0)) := Lib.hid (by rw [many, hr1, hr2])
        have HB := Lib.hid hB; have HBW := Lib.hid hBw; have HBR := Lib.hid (Below.refl wr.heap.size wr)
        obtain ⟨cn, hcn⟩ : ∃ q, many (fun i => hasV xs word (line.map toQ) i && hasV xs word (line.map toQ) (i + h)) j = q := ⟨_, rfl⟩
        rw [hcn] at hle HST ⊢
        clear hB hBw hr1 hr2 hcn cl cx cw
        cases r1 <;> cases r2
        all_goals
          go_wp2_with (go_at_call 62; (with_reducible first | refine (g1 _ HBR.out).mono ?_ | refine (g2 _ HBR.out).mono ?_); rintro e w1 ⟨rfl, hb⟩; replace HB := Lib.hid (bthen HB.out hb); replace HBW := Lib.hid (bthen HBW.out hb); replace HBR := Lib.hid (bthen HBR.out hb); clear hb)
          go_roundw
          case rel => exact ⟨j + 1, by omega, by go_num, HB.out, HBW.out, by rw [HST.out]; first | rfl | go_num⟩
          case measure => simp [intOf]; omega
      · obtain rfl : j = h := by omega
        have hltI : ¬ (j : Int) < (j : Int) := by omega
        have HB := Lib.hid hB
        clear hB hBw hj hlt
        go_wp2_with fail
        go_ret
        exact ⟨by rw [← HR1.out]; rfl, HB.out⟩
theorem hasV_pts {m f : Int} {n i : Nat} {word : QL} {line : List F2} (hi : i < n) : hasV (xsL m f n) word line i = decide (atP line (ptV m f i) = qAt word i) := by
  unfold hasV; rw [xsL_qAt m f hi]
theorem agreeG_is (word : QL) (f : Int) (line : List F2) (two : Bool) (h : 0 ≤ lg word.length) : agreeG (xsL (lg word.length) f word.length) word line two = agreeV word f line two := by
  unfold agreeG agreeV agreeC
  rw [if_pos h]
  cases two
  · rw [if_neg (by decide), if_neg (by decide)]
    exact many_congr fun i hi => hasV_pts hi
  · rw [if_pos rfl, if_pos rfl]
    exact many_congr fun i hi => by rw [hasV_pts (by omega), hasV_pts (by omega)]
set_option maxRecDepth 100000 in
set_option maxHeartbeats 8000000 in
theorem gAgree_is (a : Option Addr) (n c : Nat) (word : QL) (f : Int) (la : Option Addr) (ln lc : Nat) (line : QL) (two : Bool) (w : World) (hT : Tab w)
    (hw : QRowA w a n word) (hwu : UsR word) (hl : QRowA w la ln line) (hlu : UsR line) (hn : n ≤ 64) (hln : ln ≤ 4294967296) :
    Calls Tryz.prog 15 #[.slice a n c, .int .i64 f, .slice la ln lc, .bool two] w (IntPost w (agreeV word f (line.map toQ) two)) := by
  have hlen := hw.1
  have L1 := log_is (n : Int) (lg (n : Int)) (by constructor <;> omega) rfl w hT
  rcases lg_small hn with h1 | ⟨k, hk, hnk, h1⟩
  · rw [h1] at L1
    have he : agreeV word f (line.map toQ) two = 0 := by unfold agreeV agreeC; rw [hlen, h1, if_neg (by decide)]
    rw [he]
    clear hT hw hwu hl hlu hlen h1 he
    go_enter Tryz.func15, Tryz.ntmps15
    go_wp2_with (go_at_call 27; (with_reducible refine L1.mono ?_); rintro e w1 ⟨rfl, rfl⟩)
    go_ret
    exact ⟨rfl, Below.refl _ _⟩
  · rw [h1] at L1
    have hk0 : ¬ (k : Int) < 0 := by omega
    have X1 := gpoints_is k f w hk
    unfold RowQPost at X1
    rw [xsL_len, ← hnk] at X1
    have HE : Hid (agreeG (xsL (k : Int) f n) word (line.map toQ) two = agreeV word f (line.map toQ) two) := Lib.hid (by
      have := agreeG_is word f (line.map toQ) two (by rw [hlen, h1]; omega)
      rwa [hlen, h1] at this)
    rw [← HE.out]
    have G1 := fun xa xc W (hb : Below w.heap.size w W) (hx : QRowA W xa n (xsL (k : Int) f n)) => gagree_is a n c word xa xc _ la ln lc line two W (hw.keep hb) hwu hx (xsL_U _ _ _) (hl.keep hb) hlu hn hln
    unfold IntPost at G1 ⊢
    generalize agreeG (xsL (k : Int) f n) word (line.map toQ) two = r at *
    have HB := Lib.hid (Below.refl w.heap.size w)
    clear hT hw hwu hl hlu hlen h1 hnk HE
    go_enter Tryz.func15, Tryz.ntmps15
    go_wp2_with (first
      | (go_at_call 27; (with_reducible refine L1.mono ?_); rintro e w1 ⟨rfl, rfl⟩)
      | (go_at_call 29; (with_reducible refine X1.mono ?_); rintro e w2 ⟨hb, xa, xc, rfl, hx⟩; have HX := Lib.hid hx.at; replace HB := Lib.hid (bthen HB.out hb); clear hb hx)
      | (go_at_call 28; (with_reducible refine (G1 _ _ _ HB.out HX.out).mono ?_); rintro e w3 ⟨rfl, hb⟩; replace HB := Lib.hid (bthen HB.out hb); clear hb))
    go_ret
    exact ⟨rfl, HB.out⟩
end Go.Proofs.YthfkfgjhgicfeaaGreatDoor
namespace Go.Proofs.YthfkfgjhgicfeaaGreatDoor
open Go Go.RowKit Go.Sort Go.BigFrame
set_option linter.unusedVariables false

theorem map_getD {f : List Nat → Nat} {L : List (List Nat)} {j : Nat} (h : j < L.length) : (L.map f).getD j 0 = f (L.getD j []) := by simp [List.getD, h]
def GBestRel (w wb : World) (g : List Nat → Nat) (L : List (List Nat)) (v i : Value) (W : World) : Prop :=
  ∃ j : Nat, j ≤ L.length ∧ i = .int .i64 (j : Int) ∧ Below w.heap.size w W ∧ Below wb.heap.size wb W ∧ v = .int .i64 (bestUp g L j : Nat)
set_option maxRecDepth 100000 in
set_option maxHeartbeats 8000000 in
theorem gbest_is (a : Option Addr) (n c : Nat) (word : QL) (f dim : Int) (two : Bool) (w : World) (hT : Tab w) (hw : QRowA w a n word) (hwu : UsR word) (hn : n ≤ 16) :
    Calls Tryz.prog 17 #[.slice a n c, .int .i64 f, .int .i64 dim, .bool two] w (IntPost w (bestV word f dim two)) := by
  have hlen := hw.1
  have L1 := log_is (n : Int) (lg (n : Int)) (by constructor <;> omega) rfl w hT
  have HB : Hid (Below w.heap.size w w) := Lib.hid (Below.refl _ _)
  clear hT
  by_cases c1 : lg (n : Int) < 1
  · rw [bestOk_no (fun h => by have := h.1; omega) hlen]
    clear hw hwu hlen
    obtain ⟨m, hm⟩ : ∃ m, lg (n : Int) = m := ⟨_, rfl⟩
    rw [hm] at L1 c1
    clear hm
    go_enter Tryz.func17, Tryz.ntmps17
    go_wp2_with (go_at_call 27; (with_reducible refine L1.mono ?_); rintro e w1 ⟨rfl, rfl⟩)
    go_ret
    exact ⟨rfl, HB.out⟩
  obtain ⟨k, hk, hnk, h1⟩ := (lg_small (show n ≤ 64 by omega)).resolve_left (by omega)
  have hk1 : 1 ≤ k := by omega
  have hk4 : k ≤ 4 := by
    refine Nat.le_of_not_lt fun hc => ?_
    have : 2 ^ 5 ≤ 2 ^ k := Nat.pow_le_pow_right (by decide) hc
    omega
  rw [h1] at L1
  have c1' : ¬ (k : Int) < 1 := by omega
  have c2' : ¬ 4 < (k : Int) := by omega
  by_cases c3 : dim < 0
  · rw [bestOk_no (fun h => by have := h.2.2.1; omega) hlen]
    clear hw hwu hlen c1 hk hnk h1
    go_enter Tryz.func17, Tryz.ntmps17
    go_wp2_with (go_at_call 27; (with_reducible refine L1.mono ?_); rintro e w1 ⟨rfl, rfl⟩)
    go_ret
    exact ⟨rfl, HB.out⟩
  by_cases c4 : (n : Int) < dim
  · rw [bestOk_no (fun h => by have := h.2.2.2; omega) hlen]
    clear hw hwu hlen c1 hk hnk h1
    go_enter Tryz.func17, Tryz.ntmps17
    go_wp2_with (go_at_call 27; (with_reducible refine L1.mono ?_); rintro e w1 ⟨rfl, rfl⟩)
    go_ret
    exact ⟨rfl, HB.out⟩
  obtain ⟨D, rfl⟩ := Int.eq_ofNat_of_zero_le (show 0 ≤ dim by omega)
  have hD : D ≤ n := by omega
  have hBok : bestOk n (D : Int) := by unfold bestOk; rw [h1]; exact ⟨by omega, by omega, by omega, by omega⟩
  have X1 := fun W => gpoints_is k f W hk
  unfold RowQPost at X1
  rw [xsL_len, ← hnk] at X1
  have T1 := fun W => gsets_is n D W hn (by omega)
  unfold SetsPost at T1
  rw [List.length_map] at T1
  have hend : bestV word f (D : Int) two = bestUp (oneB word f two) (subs D n) (subs D n).length := by
    unfold bestV bestUp
    rw [hlen, if_pos hBok, Int.toNat_natCast, List.take_length]
  rw [hend]
  have hap : ApartTo' n (ptV (k : Int) f) := by rw [hnk]; exact ptV_apart (by omega) f
  have hsl : ∀ I ∈ subs D n, I ∈ subs D n ∧ I.length = D ∧ (∀ i ∈ I, i < n) ∧ thrB (picks (ptV (k : Int) f) I) (picks (qAt word) I) = true := fun I hI => ⟨hI, subs_len hI, subs_lt hI, (through_is (v := qAt word) hap hI).1⟩
  have hLc := subs_le D n hn
  obtain ⟨L, hL⟩ : ∃ L, subs D n = L := ⟨_, rfl⟩
  rw [hL] at T1 hLc ⊢
  have hsl2 : ∀ I ∈ L, I ∈ subs D n ∧ I.length = D ∧ (∀ i ∈ I, i < n) ∧ thrB (picks (ptV (k : Int) f) I) (picks (qAt word) I) = true := fun I hI => hsl I (by rw [hL]; exact hI)
  have hGA : agreeG (xsL (k : Int) f n) word = fun l two => agreeV word f l two := funext fun l => funext fun two => by
    have := agreeG_is word f l two (by rw [hlen, h1]; omega)
    rwa [hlen, h1] at this
  have HW := Lib.hid hw; have HWU := Lib.hid hwu; have HLEN := Lib.hid hlen; have HSL := Lib.hid hsl2; have HN := Lib.hid hn; have HG := Lib.hid h1; have HD := Lib.hid hD; have HGA := Lib.hid hGA
  clear hw hwu hlen hsl hsl2 hL hend hBok hD hnk h1 c1 hk hk1 hk4 hap hGA
  obtain ⟨LN, hLN⟩ : ∃ q, L.length = q := ⟨_, rfl⟩
  rw [hLN] at T1 hLc ⊢
  have HLQ := Lib.hid hLN
  clear hLN
  go_enter Tryz.func17, Tryz.ntmps17
  go_upto_region 7 with (first
    | (go_at_call 27; (with_reducible refine L1.mono ?_); rintro e w1 ⟨rfl, rfl⟩)
    | (go_at_call 29; (with_reducible refine (X1 _).mono ?_); rintro e w2 ⟨hb, xa, xc, rfl, hx⟩; have HX := Lib.hid hx; replace HB := Lib.hid (bthen HB.out hb); clear hb hx)
    | (go_at_call 34; (with_reducible refine (T1 _).mono ?_); rintro e w3 ⟨hb, ta, tc, rfl, hTT⟩; have HT := Lib.hid hTT; replace HX := Lib.hid (HX.out.keep hb); replace HB := Lib.hid (bthen HB.out hb); clear hb hTT))
  clear L1 X1 T1 c1' c2' c3 c4
  go_loopw [10, 42] (GBestRel w w3 (oneB word f two) L) (fun _ i _ => LN - (intOf i).toNat)
  case atStart => exact ⟨0, Nat.zero_le _, rfl, HB.out, Below.refl _ _, rfl⟩
  case round =>
    clear HB
    obtain ⟨j, hj, rfl, hB, hB3, rfl⟩ := hrel
    rw [HLQ.out] at hj
    by_cases hlt : j < LN
    · have hltI : (j : Int) < (LN : Int) := Int.ofNat_lt.2 hlt
      have hj0 : (0 : Int) ≤ (j : Int) := Int.natCast_nonneg j
      have hjL : j < L.length := by rw [HLQ.out]; exact hlt
      obtain ⟨tb, tO, rfl, t0c⟩ := (HT.out.keep hB3).2.2 j hlt
      rw [map_getD hjL] at t0c
      have hstep := bestUp_step (oneB word f two) L hjL
      have hin : L.getD j [] ∈ L := by rw [show L.getD j [] = L[j] by simp [List.getD, hjL]]; exact List.getElem_mem hjL
      obtain ⟨I, hI⟩ : ∃ I, L.getD j [] = I := ⟨_, rfl⟩
      rw [hI] at t0c hin hstep
      obtain ⟨hIs, hIl, hIn, hthr⟩ := HSL.out I hin
      have hI16 : I.length ≤ 1000 := by have := HD.out; have := HN.out; omega
      have kp1 := fun W (h : Below wr.heap.size wr W) => gpick_is xa n xc (xsL (k : Int) f n) W ((HX.out.keep (bthen hB3 h)).at) HN.out hIs
      have kp2 := fun W (h : Below wr.heap.size wr W) => gpick_is a n c word W (HW.out.keep (bthen hB h)) HN.out hIs
      have q1 : (pickL (xsL (k : Int) f n) I).map toQ = picks (ptV (k : Int) f) I := (pickL_map _ _).trans (picks_congr fun i hi => xsL_qAt _ _ (hIn i hi))
      have q2 : (pickL word I).map toQ = picks (qAt word) I := pickL_map _ _
      have kt := fun W v u (h1 : QRow W v (pickL (xsL (k : Int) f n) I)) (h2 : QRow W u (pickL word I)) => gthrough_is v u (picks (ptV (k : Int) f) I) (picks (qAt word) I) W ⟨_, h1, pickL_U (xsL_U _ _ _) (fun i hi => by rw [xsL_len]; exact hIn i hi), q1⟩ ⟨_, h2, pickL_U HWU.out (fun i hi => by rw [HLEN.out]; exact hIn i hi), q2⟩ (by rw [picks_len]; omega) (by rw [picks_len]; omega)
      unfold RetP at kt
      have hone : oneB word f two I = agreeV word f (thrL (picks (ptV (k : Int) f) I) (picks (qAt word) I)) two := by
        unfold oneB; rw [HLEN.out, HG.out, if_pos hthr]
      have hll : (thrL (picks (ptV (k : Int) f) I) (picks (qAt word) I)).length ≤ 1000 := Nat.le_trans thrL_len (by rw [picks_len]; exact hI16)
      generalize thrL (picks (ptV (k : Int) f) I) (picks (qAt word) I) = LL at *
      have ka := fun W al cl (hb : Below wr.heap.size wr W) (hq : QRow W (.slice al LL.length cl) (encL LL)) => gagree_is a n c word xa xc (xsL (k : Int) f n) al LL.length cl (encL LL) two W (HW.out.keep (bthen hB hb)) HWU.out ((HX.out.keep (bthen hB3 hb)).at) (xsL_U _ _ _) hq.at (encL_U LL) (by have := HN.out; omega) (by omega)
      rw [HGA.out] at ka
      simp only [encL_toQ] at ka
      unfold IntPost at ka
      obtain ⟨ag, hag⟩ : ∃ q, agreeV word f LL two = q := ⟨_, rfl⟩
      rw [hag] at hone ka
      obtain ⟨b0, hb0⟩ : ∃ b, bestUp (oneB word f two) L j = b := ⟨_, rfl⟩
      rw [hb0]
      have hmx : max (b0 : Int) (ag : Int) = ((max b0 ag : Nat) : Int) := by omega
      have HUP : Hid (bestUp (oneB word f two) L (j + 1) = max b0 ag) := Lib.hid (by rw [hstep, hone, hb0])
      have HBR := Lib.hid (Below.refl wr.heap.size wr); have HB := Lib.hid hB; have HB3 := Lib.hid hB3
      obtain ⟨XI1, hX1⟩ : ∃ q, pickL (xsL (k : Int) f n) I = q := ⟨_, rfl⟩
      obtain ⟨XI2, hX2⟩ : ∃ q, pickL word I = q := ⟨_, rfl⟩
      rw [hX1] at kp1 kt
      rw [hX2] at kp2 kt
      unfold RowQPost at kp1 kp2
      obtain ⟨MK, hMK⟩ : ∃ q, maskV I = q := ⟨_, rfl⟩
      rw [hMK] at t0c kp1 kp2
      clear hstep hone hB hB3 hb0 hag hI hin hIl hIn hIs hthr q1 q2 hX1 hX2 hI16 hjL hMK hll
      go_wp2_with (first
        | (go_at_call 36; (first
            | ((with_reducible refine (kp1 _ HBR.out).mono ?_); rintro e w4 ⟨hb, pa1, pc1, rfl, hq1⟩; have HQ1 := Lib.hid hq1; replace HBR := Lib.hid (bthen HBR.out hb); clear hb hq1)
            | ((with_reducible refine (kp2 _ HBR.out).mono ?_); rintro e w5 ⟨hb, pa2, pc2, rfl, hq2⟩; have HQ2 := Lib.hid hq2; replace HQ1 := Lib.hid (HQ1.out.keep hb); replace HBR := Lib.hid (bthen HBR.out hb); clear hb hq2)))
        | (go_at_call 35; (with_reducible refine (kt _ _ _ HQ1.out HQ2.out).mono ?_); rintro e w6 ⟨v6, rfl, hb, hq⟩; obtain ⟨al, cl, rfl⟩ := hq.slice; have HQ3 : Hid (QRow w6 (.slice al LL.length cl) (encL LL)) := Lib.hid hq; replace HBR := Lib.hid (bthen HBR.out hb); clear hb hq)
        | (go_at_call 28; (with_reducible refine (ka _ _ _ HBR.out HQ3.out).mono ?_); rintro e w9 ⟨rfl, hb⟩; replace HBR := Lib.hid (bthen HBR.out hb); clear hb))
      go_roundw
      case rel => exact ⟨j + 1, by rw [HLQ.out]; exact hlt, by go_num, bthen HB.out HBR.out, bthen HB3.out HBR.out, by rw [HUP.out]⟩
      case measure =>
        simp [intOf]
        omega
    · obtain rfl : j = LN := by omega
      have hlt0 : ¬ (j : Int) < (j : Int) := by omega
      have HBE := Lib.hid hB
      clear hB hB3 hj hlt
      go_wp2_with fail
      go_ret
      exact ⟨rfl, HBE.out⟩
end Go.Proofs.YthfkfgjhgicfeaaGreatDoor
namespace Go.Proofs.YthfkfgjhgicfeaaGreatDoor
open Go Go.RowKit Go.Sort Go.BigFrame
set_option linter.unusedVariables false

def PrtUp (w w1 : World) (g h : Nat) (od bo : Nat → F2) (i : Value) (W : World) : Prop :=
  ∃ m : Nat, m ≤ h ∧ i = .int .i64 (m : Int) ∧ Below w.heap.size w W ∧ Below w1.heap.size w1 W ∧ Arr W g (h * 2) (pc fun j => if j < m then encP (od j) else encP (bo j))
def PrtR (g H j : Nat) (b0 b1 e0 e1 : Int) (m : F2) (sl : Nat) (v : Value) (W : World) : Prop :=
  match sl with
  | 33 => v = .slice (some ⟨g, 0, none⟩) H H
  | 34 => v = .int .i64 (j : Int)
  | 35 => v = .slice (some ⟨g, 0, none⟩) H H
  | 36 => v = .int .i64 (j : Int)
  | 37 => v = .pointer (some ⟨g, j * 2, none⟩)
  | 38 => v = .agg #[.int .u64 b0, .int .u64 b1]
  | 39 => v = .agg #[.int .u64 e0, .int .u64 e1]
  | 40 => v = .agg #[.int .u64 (enc m.a), .int .u64 (enc m.b)]
  | _ => v = .pointer (some ⟨g, j * 2, none⟩)
theorem PrtR.keep {g H j : Nat} {b0 b1 e0 e1 : Int} {m : F2} {sl : Nat} {v : Value} {W W' : World} (h : PrtR g H j b0 b1 e0 e1 m sl v W) (hb : Below W.heap.size W W') : PrtR g H j b0 b1 e0 e1 m sl v W' := h
set_option maxRecDepth 100000 in
set_option maxHeartbeats 8000000 in
theorem gparts_is (a : Option Addr) (n c k : Nat) (word : QL) (f : Int) (w : World) (hT : Tab w) (hw : QRowA w a n word) (hc : n ≤ c) (hwu : UsR word) (hn : word.length = 2 ^ (k + 1)) (hk : k ≤ 10) (hf : I64 f) :
    Calls Tryz.prog 40 #[.slice a n c, .int .i64 f] w (SplitPost w (wordV word 0 f).1 (oddL word f (2 ^ k))) := by
  obtain rfl := hw.1
  have hEl := word_len hn (by omega) 0 f
  have hBl := word_len hn (by omega) 1 f
  have hok : ∀ y, wordV word y f = ((wordV word y f).1, true) := fun y => by
    rw [wordV_yes (by rw [lg_len hn]; omega)]
  have hlg := lg_len hn
  have h2k : 2 ^ (k + 1) = 2 * 2 ^ k := by rw [Nat.pow_succ]; omega
  have hkp := Nat.two_pow_pos k
  have hH : 2 ^ k ≤ 1024 := Nat.le_trans (Nat.pow_le_pow_right (by decide) hk) (by decide)
  have W1 := fword_new a word.length c word 0 0 f 0 (wordV word 0 f).1 true w hT hw hc hwu (by omega) rep_zero hf (hok 0)
  unfold WordNew at W1
  obtain ⟨b, off, rfl, _, _⟩ := hw.2.2 0 (by omega)
  have hcell : ∀ k, k < word.length → w.cell? ⟨b, off + k * 2, none⟩ = some (.int .u64 (word.getD k (0, 0)).1) ∧ w.cell? ⟨b, off + k * 2 + 1, none⟩ = some (.int .u64 (word.getD k (0, 0)).2) := fun k hk => by
    obtain ⟨b', off', e, c1, c2⟩ := hw.2.2 k hk
    cases e
    exact ⟨c1, c2⟩
  have W2 := fun W (h : Below w.heap.size w W) => fword_yes b off word.length c word (enc (1 : F2).a) (enc (1 : F2).b) f 1 (2 ^ k) (k + 1) W (hT.keep h) (fun k hk => ⟨bkeep h (hcell k hk).1, bkeep h (hcell k hk).2⟩) rfl hc hwu (by omega) (by omega) (by omega) (by omega) (by omega) hlg (rep_enc 1) hf
  have l1 := fun W => lift_q 1 1 (by unfold U; decide) (by decide +kernel) W
  have HBO : Hid (∀ i, i < 2 ^ k → foldV (qAt word i) (qAt word (i + 2 ^ k)) 1 (pt (shiftF f) (k + 1) i) = qAt (wordV word 1 f).1 i) := Lib.hid fun i hi => by
    rw [word_at hn (by omega) 1 f hi, pointF_pt (k + 1) (by omega)]
  have hUE := wordV_U (hok 0)
  have hodd : ∀ i, qAt (wordV word 1 f).1 i - qAt (wordV word 0 f).1 i = oddV word f i := fun i => rfl
  have hol : (oddL word f (2 ^ k)).length = 2 ^ k := oddL_len _ _ _
  unfold SplitPost
  rw [hol]
  have HOL : Hid (∀ i, i < 2 ^ k → (oddL word f (2 ^ k)).getD i (0, 0) = encP (oddV word f i)) := Lib.hid fun i hi => oddL_at word f hi
  obtain ⟨OL, hOL⟩ : ∃ q, oddL word f (2 ^ k) = q := ⟨_, rfl⟩
  rw [hOL] at HOL hol ⊢
  obtain ⟨EV, hEV⟩ : ∃ q, (wordV word 0 f).1 = q := ⟨_, rfl⟩
  rw [hEV] at W1 hEl hUE hodd ⊢
  generalize (wordV word 1 f).1 = BO at *
  obtain ⟨H, hHe⟩ : ∃ H, 2 ^ k = H := ⟨_, rfl⟩
  rw [hHe] at hEl hBl hH W2 HBO HOL hol ⊢
  rw [hEl] at W1 ⊢
  generalize oddV word f = od at *
  generalize word.length = n at *
  have HB : Hid (Below w.heap.size w w) := Lib.hid (Below.refl _ _)
  have HOD := Lib.hid hodd; have HUE := Lib.hid hUE; have HEL := Lib.hid hEl; have HOLL := Lib.hid hol
  clear hT hw hwu hn hok hEl hBl hUE hodd hol hEV hOL hHe hlg hcell h2k hkp hc hf
  go_enter Tryz.func40, Tryz.ntmps40
  go_upto_region 2 with (go_at_call 52; (with_reducible refine W1.mono ?_); rintro e w1 ⟨hb, ea, ec, rfl, hE, hnew⟩; have HE := Lib.hid hE; replace HB := Lib.hid (bthen HB.out hb); clear hb hE hnew)
  have HSZ1 := Lib.hid HB.out.size
  have HB1 := Lib.hid (Below.refl w1.heap.size w1)
  go_upto_region 3 with (first
    | (go_at_call 65; (with_reducible refine (l1 _).mono ?_); rintro e wl ⟨rfl, hb⟩; replace HB := Lib.hid (bthen HB.out hb); replace HB1 := Lib.hid (bthen HB1.out hb); clear hb)
    | (go_at_call 52; (with_reducible refine (W2 _ HB.out).mono ?_); rintro e w2 ⟨hb, g, hg, rfl, hA⟩; have HA := Lib.hid hA; have HG0 := Lib.hid (Nat.le_trans HB1.out.size hg); replace HB1 := Lib.hid (bthen HB1.out hb); replace HB := Lib.hid (bthen HB.out hb); clear hb hA hg))
  clear W1 W2 l1
  have HG : Hid (w.heap.size ≤ g ∧ w1.heap.size ≤ g) := Lib.hid ⟨by have := HSZ1.out; have := HG0.out; omega, HG0.out⟩
  go_upto_region 4 with fail
  go_loopw [28] (PrtUp w w1 g H od (qAt BO)) (fun i _ => H - (intOf i).toNat)
  case atStart =>
    exact ⟨0, Nat.zero_le _, rfl, HB.out, HB1.out, HA.out.same (pc_same fun i hi => by rw [if_neg (by omega), HBO.out i hi])⟩
  case round =>
    clear HB HB1 HA HBO
    obtain ⟨j, hj, rfl, hB, hB1, hA⟩ := hrel
    by_cases hlt : j < H
    · have hltI : (j : Int) < (H : Int) := Int.ofNat_lt.2 hlt
      have hj0 : (0 : Int) ≤ (j : Int) := Int.natCast_nonneg j
      obtain ⟨eb, eo, rfl, e0c, e1c⟩ := (HE.out.keep hB1).2.2 j hlt
      have re := qAt_rep HUE.out (show j < EV.length by rw [HEL.out]; exact hlt)
      obtain ⟨e0, e1, he⟩ : ∃ x y, EV.getD j (0, 0) = (x, y) := ⟨_, _, rfl⟩
      rw [he] at e0c e1c re
      obtain ⟨m, hmm⟩ : ∃ m, od j = m := ⟨_, rfl⟩
      have s1 := fun W => psub_q (enc (qAt BO j).a) (enc (qAt BO j).b) e0 e1 (qAt BO j) (qAt EV j) m (rep_enc _) re ((HOD.out j).trans hmm) W
      have HST : Hid (∀ i, (if i = j then (enc m.a, enc m.b) else if i < j then encP (od i) else encP (qAt BO i)) = if i < j + 1 then encP (od i) else encP (qAt BO i)) := Lib.hid fun i => by
        by_cases e : i = j
        · subst e; rw [if_pos rfl, if_pos (by omega), hmm]; rfl
        · rw [if_neg e]
          by_cases h : i < j
          · rw [if_pos h, if_pos (by omega)]
          · rw [if_neg h, if_neg (by omega)]
      have hb01 : (if j < j then encP (od j) else encP (qAt BO j)) = (enc (qAt BO j).a, enc (qAt BO j).b) := by
        rw [if_neg (by omega)]; rfl
      have HJ := Lib.hid hlt; have HB01 := Lib.hid hb01
      generalize enc (qAt BO j).a = b0 at *
      generalize enc (qAt BO j).b = b1 at *
      clear hmm re he hb01
      go_upto_region 6 with fail
      obtain ⟨gx, hgx⟩ : ∃ g, wr.heap.size = g := ⟨_, rfl⟩
      refine wp_gen (fun W => Below w.heap.size w W ∧ Below w1.heap.size w1 W ∧ Duo W gx (.int .u64 e0) (.int .u64 e1) ∧ Arr W g (H * 2) (pc fun i => if i < j then encP (od i) else encP (qAt BO i)))
        ⟨hB.alloc hB.size _, hB1.alloc hB1.size _, by rw [← hgx]; simp [Duo, go_sem], hA.alloc _⟩ ?_
      rw [hgx]
      clear hB hB1 hA hgx e0c e1c hlt hj
      rintro W1 ⟨hB, hB1, hD, hA⟩
      obtain ⟨d0, d1, _, _⟩ := hD
      obtain ⟨b0c, b1c, _, _⟩ := hA.cells j HJ.out
      rw [HB01.out] at b0c b1c
      simp only at b0c b1c
      have HB := Lib.hid hB; have HB1 := Lib.hid hB1; have HA := Lib.hid hA
      clear hB hB1 hA
      refine wp_loose [(33, []), (34, []), (35, []), (36, []), (37, [35, 36]), (38, [37]), (39, []), (40, [38, 39]), (41, [33, 34])]
        (PrtR g H j b0 b1 e0 e1 m) (fun d => false) (by kernel_rfl) (by kernel_rfl) (fun _ _ _ _ h hb => h.keep hb) ?_ ?_
      · refine opsrun_cons ?_ (opsrun_cons ?_ (opsrun_cons ?_ (opsrun_cons ?_ (opsrun_cons ?_ (opsrun_cons ?_ (opsrun_cons ?_ (opsrun_cons ?_ (opsrun_cons ?_ opsrun_nil))))))))
        all_goals
          refine OpRuns.any ?_
          intro Q0 σ W' K hb hn hK
          simp only [fill, List.map, Act.put, List.setIfInBounds_toArray, List.set_cons_zero, List.set_cons_succ] at hK ⊢
        · clear hn
          go_simp
          exact hK _ _ rfl (Below.refl _ _) (fun h => absurd h (by decide))
        · clear hn
          go_simp
          exact hK _ _ rfl (Below.refl _ _) (fun h => absurd h (by decide))
        · clear hn
          go_simp
          exact hK _ _ rfl (Below.refl _ _) (fun h => absurd h (by decide))
        · clear hn
          go_simp
          exact hK _ _ rfl (Below.refl _ _) (fun h => absurd h (by decide))
        · have h35 : σ 35 = _ := hn 35 (by decide)
          have h36 : σ 36 = _ := hn 36 (by decide)
          clear hn
          simp only [h35, h36] at hK
          go_simp
          exact hK _ _ rfl (Below.refl _ _) (fun h => absurd h (by decide))
        · have h37 : σ 37 = _ := hn 37 (by decide)
          clear hn
          simp only [h37] at hK
          have b0c' := bkeep hb b0c
          have b1c' := bkeep hb b1c
          clear b0c b1c
          go_simp
          exact hK _ _ rfl (Below.refl _ _) (fun h => absurd h (by decide))
        · clear hn
          have d0' := bkeep hb d0
          have d1' := bkeep hb d1
          clear d0 d1
          go_simp
          exact hK _ _ rfl (Below.refl _ _) (fun h => absurd h (by decide))
        · have h38 : σ 38 = _ := hn 38 (by decide)
          have h39 : σ 39 = _ := hn 39 (by decide)
          clear hn
          simp only [h38, h39] at hK
          go_simp
          go_at_call 75
          refine (s1 _).mono ?_
          rintro e w1 ⟨rfl, hb1⟩
          exact hK _ _ rfl hb1 (fun h => absurd h (by decide))
        · have h33 : σ 33 = _ := hn 33 (by decide)
          have h34 : σ 34 = _ := hn 34 (by decide)
          clear hn
          simp only [h33, h34] at hK
          go_simp
          exact hK _ _ rfl (Below.refl _ _) (fun h => absurd h (by decide))
      · intro σ W' hb hR' hF
        have h40 : σ 40 = _ := hR' 40 (by decide)
        have h41 : σ 41 = _ := hR' 41 (by decide)
        have HBE := Lib.hid (bthen HB.out hb); have HBF := Lib.hid (bthen HB1.out hb)
        have hA := HA.out.keep hb
        obtain ⟨c0, c1, f0, f1⟩ := hA.cells j HJ.out
        have HA2 := Lib.hid ((hA.setq j (enc m.a) (enc m.b) HJ.out).same (pc_same fun i _ => HST.out i))
        have hw0 := HG.out.1; have hw1 := HG.out.2
        clear hR' hF hb hA b0c b1c d0 d1 s1
        simp only [fill, List.map, Act.put, List.setIfInBounds_toArray, List.set_cons_zero, List.set_cons_succ, List.length_cons, List.length_nil, List.drop_succ_cons, List.drop_zero, Nat.reduceAdd, h40, h41]
        clear h40 h41
        go_wp2_with fail
        go_roundw
        case rel => exact ⟨j + 1, HJ.out, by go_num, (HBE.out.setCell hw0 _).setCell hw0 _, (HBF.out.setCell hw1 _).setCell hw1 _, HA2.out⟩
        case measure =>
          have := HJ.out
          simp [intOf]
          omega
    · obtain rfl : j = H := by omega
      have hlt0 : ¬ (j : Int) < (j : Int) := by omega
      have hA2 : Arr wr g (j * 2) (pc fun i => OL.getD i (0, 0)) := hA.same (pc_same fun i hi => by rw [if_pos hi, HOL.out i hi])
      have hO : QRow wr (.slice (some ⟨g, 0, none⟩) j j) OL := Arr.qrow hA2 HOLL.out (by unfold maxLen; omega)
      have HO := Lib.hid hO
      have HE2 := Lib.hid (HE.out.keep hB1)
      have HBE := Lib.hid hB
      clear hA hA2 hB hB1 hlt hj hO
      go_wp2_with fail
      exact bodyPost_ret (v := .tuple #[.slice ea j ec, .slice (some ⟨g, 0, none⟩) j j]) (by simp [results, Tryz.results40, go_sem]) rfl ⟨HBE.out, ea, ec, some ⟨g, 0, none⟩, ⟨j, rfl⟩, HE2.out, QRow.at HO.out⟩
def DrpR (eb eo el ca l : Nat) (e0 e1 p0 p1 : Int) (m y : F2) (sl : Nat) (v : Value) (W : World) : Prop :=
  match sl with
  | 36 => v = .slice (some ⟨eb, eo, none⟩) el ca
  | 37 => v = .int .i64 (l : Int)
  | 38 => v = .pointer (some ⟨eb, eo + l * 2, none⟩)
  | 39 => v = .agg #[.int .u64 e0, .int .u64 e1]
  | 40 => v = .agg #[.int .u64 p0, .int .u64 p1]
  | 41 => v = .agg #[.int .u64 (enc m.a), .int .u64 (enc m.b)]
  | _ => v = .agg #[.int .u64 (enc y.a), .int .u64 (enc y.b)]
theorem DrpR.keep {eb eo el ca l : Nat} {e0 e1 p0 p1 : Int} {m y : F2} {sl : Nat} {v : Value} {W W' : World} (h : DrpR eb eo el ca l e0 e1 p0 p1 m y sl v W) (hb : Below W.heap.size W W') : DrpR eb eo el ca l e0 e1 p0 p1 m y sl v W' := h
set_option maxRecDepth 100000 in
set_option maxHeartbeats 8000000 in
theorem gdrop_is (a ua : Option Addr) (c uc : Nat) (e o : List F2) (d : Nat) (w : World) (he : IsP w (.slice a e.length c) e) (ho : IsP w (.slice ua o.length uc) o) (hle : e.length ≤ 1000) (hlo : o.length ≤ 1000) (hso : Std o) :
    Calls Tryz.prog 41 #[.slice a e.length c, .slice ua o.length uc, .int .i64 (d : Int)] w (BadPost w (dropV e o d)) := by
  by_cases c1 : o.length ≤ d
  · have c1I : (o.length : Int) ≤ (d : Int) := Int.ofNat_le.2 c1
    have hV : dropV e o d = ([], decide (e.length ≤ d)) := by unfold dropV; rw [if_pos c1]
    rw [hV]
    clear he ho hle hlo hso hV
    generalize o.length = ol at *
    generalize e.length = el at *
    by_cases c2 : el ≤ d
    · have c2I : (el : Int) ≤ (d : Int) := Int.ofNat_le.2 c2
      rw [decide_eq_true c2]
      clear c1 c2
      go_enter Tryz.func41, Tryz.ntmps41
      go_wp2_with fail
      exact bodyPost_ret (v := .tuple #[.slice none 0 0, .bool true]) (by simp [results, Tryz.results41, go_sem]) rfl ⟨Below.refl _ _, none, 0, rfl, qrowA_nil _⟩
    · have c2I : ¬ (el : Int) ≤ (d : Int) := fun h => c2 (Int.ofNat_le.1 h)
      rw [decide_eq_false c2]
      clear c1 c2
      go_enter Tryz.func41, Tryz.ntmps41
      go_wp2_with fail
      exact bodyPost_ret (v := .tuple #[.slice none 0 0, .bool false]) (by simp [results, Tryz.results41, go_sem]) rfl ⟨Below.refl _ _, none, 0, rfl, qrowA_nil _⟩
  have c1I : ¬ (o.length : Int) ≤ (d : Int) := fun h => c1 (Int.ofNat_le.1 h)
  obtain ⟨l, hl⟩ : ∃ l, o.length = l + 1 := ⟨o.length - 1, by omega⟩
  have htop : cq o l ≠ 0 := tn_top (n := o.length) (by rw [show tn (cq o) o.length = o.length from hso]; exact hl)
  obtain ⟨ob, oo, hua, o0c, o1c⟩ := (QRow.at ho).2.2 l (by omega)
  rw [encL_at] at o0c o1c
  simp only at o0c o1c
  have v1 := fun W => pinv_yes (enc (cq o l).a) (enc (cq o l).b) (cq o l) (qinv (cq o l)) (rep_enc _) htop rfl W
  have g1 : IntKind.i64.wrap ((o.length : Int) - 1) = (l : Int) := by rw [IntWalk.i64_in _ (by omega)]; omega
  have g2 : wrap64 ((o.length : Int) - 1) = (l : Int) := by rw [IntWalk.wrap64_in _ (by omega)]; omega
  have hlI : (l : Int) < (o.length : Int) := by omega
  have hl0 : (0 : Int) ≤ (l : Int) := Int.natCast_nonneg _
  have HE := Lib.hid he; have HO := Lib.hid ho; have HLE := Lib.hid hle; have HLO := Lib.hid hlo; have HSO := Lib.hid hso; have HL := Lib.hid hl; have HC1 := Lib.hid c1
  generalize hp0 : enc (qinv (cq o l)).a = p0 at *
  generalize hp1 : enc (qinv (cq o l)).b = p1 at *
  have HP := Lib.hid (And.intro hp0 hp1)
  generalize hq0 : enc (cq o l).a = q0 at *
  generalize hq1 : enc (cq o l).b = q1 at *
  have hlo2 : o.length ≤ 1000 := hlo
  clear he ho hle hlo hso hl c1 htop hp0 hp1 hq0 hq1
  subst hua
  go_enter Tryz.func41, Tryz.ntmps41
  go_upto_region 4 with fail
  go_upto_region 5 with (go_at_call 76; (with_reducible refine (v1 _).mono ?_); rintro E w1 ⟨rfl, hb⟩; have HB1 := Lib.hid hb; clear hb)
  obtain ⟨gp, hgp⟩ : ∃ g, w1.heap.size = g := ⟨_, rfl⟩
  refine wp_gen (fun W => Below w.heap.size w W ∧ Duo W gp (.int .u64 p0) (.int .u64 p1)) ⟨HB1.out.alloc HB1.out.size _, by rw [← hgp]; simp [Duo, go_sem]⟩ ?_
  rintro w2 ⟨hB2, hP2⟩
  simp only [hgp]
  have HB := Lib.hid hB2; have HPD := Lib.hid hP2
  clear hB2 hP2 hgp HB1 v1 o0c o1c
  go_upto_region 6 with fail
  obtain ⟨gy, hgy⟩ : ∃ g, w2.heap.size = g := ⟨_, rfl⟩
  have HGY : Hid (w.heap.size ≤ gy) := Lib.hid (by rw [← hgy]; exact HB.out.size)
  refine wp_gen (fun W => Below w.heap.size w W ∧ Duo W gp (.int .u64 p0) (.int .u64 p1) ∧ Duo W gy (.int .u64 0) (.int .u64 0)) ⟨HB.out.alloc HB.out.size _, HPD.out.keep ((Below.refl _ _).alloc (Nat.le_refl _) _), by rw [← hgy]; simp [Duo, go_sem]⟩ ?_
  rintro w3 ⟨hB3, hP3, hD3⟩
  simp only [hgy]
  replace HB := Lib.hid hB3; replace HPD := Lib.hid hP3
  have HD := Lib.hid hD3
  clear hB3 hP3 hD3 hgy
  by_cases hle2 : l < e.length
  · have hle2I : (l : Int) < (e.length : Int) := Int.ofNat_lt.2 hle2
    obtain ⟨eb, eo, hea, e0c, e1c⟩ := (QRow.at (HE.out.keep HB.out)).2.2 l hle2
    rw [encL_at] at e0c e1c
    simp only at e0c e1c
    subst hea
    obtain ⟨m, hm⟩ : ∃ m, cq e l * qinv (cq o l) = m := ⟨_, rfl⟩
    obtain ⟨y, hy0⟩ : ∃ y, -m = y := ⟨_, rfl⟩
    have hy : (if o.length - 1 < e.length then -(cq e (o.length - 1) * qinv (cq o (o.length - 1))) else 0) = y := by
      rw [show o.length - 1 = l by have := HL.out; omega, if_pos hle2, hm, hy0]
    have hrp : Rep p0 p1 (qinv (cq o l)) := by rw [← HP.out.1, ← HP.out.2]; exact rep_enc _
    have m1 := fun W => pmul_q (enc (cq e l).a) (enc (cq e l).b) p0 p1 (cq e l) (qinv (cq o l)) m (rep_enc _) hrp hm W
    have n1 := fun W => pneg_q (enc m.a) (enc m.b) m y (rep_enc _) hy0 W
    generalize enc (cq e l).a = e0 at *
    generalize enc (cq e l).b = e1 at *
    obtain ⟨p0c, p1c, _, _⟩ := HPD.out
    clear hm hy0 hrp HP HL hle2
    obtain ⟨el, hel⟩ : ∃ q, e.length = q := ⟨_, rfl⟩
    have HEL := Lib.hid hel
    simp only [hel]
    rw [hel] at hle2I
    obtain ⟨ol, hol⟩ : ∃ q, o.length = q := ⟨_, rfl⟩
    have HOL := Lib.hid hol
    simp only [hol]
    rw [hol] at hlI c1I hlo2 g1 g2
    have ca := c
    have hy2 := Lib.hid hy
    clear hel hol hy
    go_upto_region 7 with fail
    refine wp_loose [(36, []), (37, []), (38, [36, 37]), (39, [38]), (40, []), (41, [39, 40]), (42, [41])]
      (DrpR eb eo el c l e0 e1 p0 p1 m y) (fun d => false) (by kernel_rfl) (by kernel_rfl) (fun _ _ _ _ h hb => h.keep hb) ?_ ?_
    · refine opsrun_cons ?_ (opsrun_cons ?_ (opsrun_cons ?_ (opsrun_cons ?_ (opsrun_cons ?_ (opsrun_cons ?_ (opsrun_cons ?_ opsrun_nil))))))
      all_goals
        refine OpRuns.any ?_
        intro Q0 σ W' K hb hn hK
        simp only [fill, List.map, Act.put, List.setIfInBounds_toArray, List.set_cons_zero, List.set_cons_succ] at hK ⊢
      · clear hn
        go_simp
        exact hK _ _ rfl (Below.refl _ _) (fun h => absurd h (by decide))
      · clear hn
        go_simp
        exact hK _ _ rfl (Below.refl _ _) (fun h => absurd h (by decide))
      · have h36 : σ 36 = _ := hn 36 (by decide)
        have h37 : σ 37 = _ := hn 37 (by decide)
        clear hn
        simp only [h36, h37] at hK
        go_simp
        exact hK _ _ rfl (Below.refl _ _) (fun h => absurd h (by decide))
      · have h38 : σ 38 = _ := hn 38 (by decide)
        clear hn
        simp only [h38] at hK
        have e0c' := bkeep hb e0c
        have e1c' := bkeep hb e1c
        clear e0c e1c
        go_simp
        exact hK _ _ rfl (Below.refl _ _) (fun h => absurd h (by decide))
      · clear hn
        have p0c' := bkeep hb p0c
        have p1c' := bkeep hb p1c
        clear p0c p1c
        go_simp
        exact hK _ _ rfl (Below.refl _ _) (fun h => absurd h (by decide))
      · have h39 : σ 39 = _ := hn 39 (by decide)
        have h40 : σ 40 = _ := hn 40 (by decide)
        clear hn
        simp only [h39, h40] at hK
        go_simp
        go_at_call 78
        refine (m1 _).mono ?_
        rintro e w1 ⟨rfl, hb1⟩
        exact hK _ _ rfl hb1 (fun h => absurd h (by decide))
      · have h41 : σ 41 = _ := hn 41 (by decide)
        clear hn
        simp only [h41] at hK
        go_simp
        go_at_call 77
        refine (n1 _).mono ?_
        rintro e w1 ⟨rfl, hb1⟩
        exact hK _ _ rfl hb1 (fun h => absurd h (by decide))
    · intro σ W' hb hR' hF
      have h42 : σ 42 = _ := hR' 42 (by decide)
      have HBE := Lib.hid (bthen HB.out hb)
      have hD4 := HD.out.keep hb
      obtain ⟨d0, d1, f0, f1⟩ := hD4
      have hD5 := Duo.set (W := W') (g := gy) (u := .int .u64 0) (v := .int .u64 0) ⟨d0, d1, f0, f1⟩ (.int .u64 (enc y.a)) (.int .u64 (enc y.b))
      have HD5 := Lib.hid hD5
      clear hR' hF hb hD5 e0c e1c p0c p1c m1 n1 HD HPD HB
      simp only [fill, List.map, Act.put, List.setIfInBounds_toArray, List.set_cons_zero, List.set_cons_succ, List.length_cons, List.length_nil, List.drop_succ_cons, List.drop_zero, Nat.reduceAdd, h42]
      clear h42
      go_upto_region 8 with fail
      refine wp_gen (fun W => Below w.heap.size w W ∧ Duo W gy (.int .u64 (enc y.a)) (.int .u64 (enc y.b))) ⟨(HBE.out.setCell HGY.out _).setCell HGY.out _, HD5.out⟩ ?_
      clear HBE HD5 d0 d1 f0 f1
      rintro w5 ⟨hB5, hD5⟩
      have HB := Lib.hid hB5; have HD := Lib.hid hD5
      have hy := hy2.out
      clear hB5 hD5 hy2 HGY
      have e1 := HEL.out; have e2 := HOL.out
      subst e1 e2
      clear HEL HOL
      have sc := fun W (h : Below w.heap.size w W) => pscale_is _ o (enc y.a) (enc y.b) y W (HO.out.keep h).poly (rep_enc _) (by have := HLO.out; omega)
      have ad := fun W u2 (h : Below w.heap.size w W) (hq : IsP W u2 (scaP o y)) => padd_is _ u2 e (scaP o y) W (HE.out.keep h).poly hq.poly (by have := HLE.out; omega) (by have := scaP_len o y; have := HLO.out; omega)
      have dg := fun W u2 (hq : IsP W u2 (addP e (scaP o y))) => pdegree u2 (addP e (scaP o y)) W hq.poly (by have := addP_len e (scaP o y); have := scaP_len o y; have := HLO.out; have := HLE.out; omega)
      unfold RetP at sc ad
      unfold RetI at dg
      have HY := Lib.hid hy
      obtain ⟨D, hD⟩ : ∃ D, degP (addP e (scaP o y)) = D := ⟨_, rfl⟩
      rw [hD] at dg
      have HDV : Hid (dropV e o d = if (d : Int) ≤ D then ([], false) else ([y], false)) := Lib.hid (by unfold dropV; rw [if_neg HC1.out, HY.out, hD])
      obtain ⟨y0c, y1c, _, _⟩ := HD.out
      generalize e.length = el at *
      generalize o.length = ol at *
      generalize addP e (scaP o y) = AA at *
      generalize scaP o y = SS at *
      clear hy hD HY HE HO HLE HLO HSO HC1
      by_cases hge : (d : Int) ≤ D
      · have HDW := Lib.hid (HDV.out.trans (if_pos hge))
        clear HDV
        go_wp2_with (first
          | (go_at_call 81; (with_reducible refine (sc _ HB.out).mono ?_); rintro E w6 ⟨v6, rfl, hb, hq⟩; have HS := Lib.hid hq; replace HB := Lib.hid (bthen HB.out hb); clear hb hq)
          | (go_at_call 80; (with_reducible refine (ad _ _ HB.out HS.out).mono ?_); rintro E w7 ⟨v7, rfl, hb, hq⟩; have HA := Lib.hid hq; replace HB := Lib.hid (bthen HB.out hb); clear hb hq)
          | (go_at_call 79; (with_reducible refine (dg _ _ HA.out).mono ?_); rintro E w8 ⟨rfl, hb⟩; replace HB := Lib.hid (bthen HB.out hb); clear hb))
        exact bodyPost_ret (v := .tuple #[.slice none 0 0, .bool false]) (by simp [results, Tryz.results41, go_sem]) rfl (by rw [HDW.out]; exact ⟨HB.out, none, 0, rfl, qrowA_nil _⟩)
      · have HDW := Lib.hid (HDV.out.trans (if_neg hge))
        clear HDV
        go_wp2_with (first
          | (go_at_call 81; (with_reducible refine (sc _ HB.out).mono ?_); rintro E w6 ⟨v6, rfl, hb, hq⟩; have HS := Lib.hid hq; replace HB := Lib.hid (bthen HB.out hb); replace y0c := bkeep hb y0c; replace y1c := bkeep hb y1c; clear hb hq)
          | (go_at_call 80; (with_reducible refine (ad _ _ HB.out HS.out).mono ?_); rintro E w7 ⟨v7, rfl, hb, hq⟩; have HA := Lib.hid hq; replace HB := Lib.hid (bthen HB.out hb); replace y0c := bkeep hb y0c; replace y1c := bkeep hb y1c; clear hb hq)
          | (go_at_call 79; (with_reducible refine (dg _ _ HA.out).mono ?_); rintro E w8 ⟨rfl, hb⟩; replace HB := Lib.hid (bthen HB.out hb); replace y0c := bkeep hb y0c; replace y1c := bkeep hb y1c; clear hb))
        exact bodyPost_ret (v := .tuple #[.slice (some ⟨w8.heap.size, 0, none⟩) 1 1, .bool false]) (by simp [results, Tryz.results41, go_sem]) rfl (by rw [HDW.out]; exact ⟨HB.out.alloc HB.out.size _, some ⟨w8.heap.size, 0, none⟩, 1, rfl, cq_one _ _ _ _⟩)
  · have hle2I : ¬ (l : Int) < (e.length : Int) := fun h => hle2 (Int.ofNat_lt.1 h)
    obtain ⟨y, hy0⟩ : ∃ y : F2, 0 = y := ⟨_, rfl⟩
    have hy : (if o.length - 1 < e.length then -(cq e (o.length - 1) * qinv (cq o (o.length - 1))) else 0) = y := by
      rw [show o.length - 1 = l by have := HL.out; omega, if_neg hle2, hy0]
    have e0 : (0 : Int) = enc y.a := by rw [← hy0]; rfl
    have e1 : (0 : Int) = enc y.b := by rw [← hy0]; rfl
    replace HD : Hid (Duo w3 gy (.int .u64 (enc y.a)) (.int .u64 (enc y.b))) := Lib.hid (by have := HD.out; rw [← e0, ← e1]; exact this)
    clear hy0 e0 e1 HP HL hle2 HPD HGY
    go_upto_region 8 with fail
    have sc := fun W (h : Below w.heap.size w W) => pscale_is _ o (enc y.a) (enc y.b) y W (HO.out.keep h).poly (rep_enc _) (by have := HLO.out; omega)
    have ad := fun W u2 (h : Below w.heap.size w W) (hq : IsP W u2 (scaP o y)) => padd_is _ u2 e (scaP o y) W (HE.out.keep h).poly hq.poly (by have := HLE.out; omega) (by have := scaP_len o y; have := HLO.out; omega)
    have dg := fun W u2 (hq : IsP W u2 (addP e (scaP o y))) => pdegree u2 (addP e (scaP o y)) W hq.poly (by have := addP_len e (scaP o y); have := scaP_len o y; have := HLO.out; have := HLE.out; omega)
    unfold RetP at sc ad
    unfold RetI at dg
    have HY := Lib.hid hy
    obtain ⟨D, hD⟩ : ∃ D, degP (addP e (scaP o y)) = D := ⟨_, rfl⟩
    rw [hD] at dg
    have HDV : Hid (dropV e o d = if (d : Int) ≤ D then ([], false) else ([y], false)) := Lib.hid (by unfold dropV; rw [if_neg HC1.out, HY.out, hD])
    obtain ⟨y0c, y1c, _, _⟩ := HD.out
    generalize e.length = el at *
    generalize o.length = ol at *
    generalize addP e (scaP o y) = AA at *
    generalize scaP o y = SS at *
    clear hy hD HY HE HO HLE HLO HSO HC1
    by_cases hge : (d : Int) ≤ D
    · have HDW := Lib.hid (HDV.out.trans (if_pos hge))
      clear HDV
      go_wp2_with (first
        | (go_at_call 81; (with_reducible refine (sc _ HB.out).mono ?_); rintro E w6 ⟨v6, rfl, hb, hq⟩; have HS := Lib.hid hq; replace HB := Lib.hid (bthen HB.out hb); clear hb hq)
        | (go_at_call 80; (with_reducible refine (ad _ _ HB.out HS.out).mono ?_); rintro E w7 ⟨v7, rfl, hb, hq⟩; have HA := Lib.hid hq; replace HB := Lib.hid (bthen HB.out hb); clear hb hq)
        | (go_at_call 79; (with_reducible refine (dg _ _ HA.out).mono ?_); rintro E w8 ⟨rfl, hb⟩; replace HB := Lib.hid (bthen HB.out hb); clear hb))
      exact bodyPost_ret (v := .tuple #[.slice none 0 0, .bool false]) (by simp [results, Tryz.results41, go_sem]) rfl (by rw [HDW.out]; exact ⟨HB.out, none, 0, rfl, qrowA_nil _⟩)
    · have HDW := Lib.hid (HDV.out.trans (if_neg hge))
      clear HDV
      go_wp2_with (first
        | (go_at_call 81; (with_reducible refine (sc _ HB.out).mono ?_); rintro E w6 ⟨v6, rfl, hb, hq⟩; have HS := Lib.hid hq; replace HB := Lib.hid (bthen HB.out hb); replace y0c := bkeep hb y0c; replace y1c := bkeep hb y1c; clear hb hq)
        | (go_at_call 80; (with_reducible refine (ad _ _ HB.out HS.out).mono ?_); rintro E w7 ⟨v7, rfl, hb, hq⟩; have HA := Lib.hid hq; replace HB := Lib.hid (bthen HB.out hb); replace y0c := bkeep hb y0c; replace y1c := bkeep hb y1c; clear hb hq)
        | (go_at_call 79; (with_reducible refine (dg _ _ HA.out).mono ?_); rintro E w8 ⟨rfl, hb⟩; replace HB := Lib.hid (bthen HB.out hb); replace y0c := bkeep hb y0c; replace y1c := bkeep hb y1c; clear hb))
      exact bodyPost_ret (v := .tuple #[.slice (some ⟨w8.heap.size, 0, none⟩) 1 1, .bool false]) (by simp [results, Tryz.results41, go_sem]) rfl (by rw [HDW.out]; exact ⟨HB.out.alloc HB.out.size _, some ⟨w8.heap.size, 0, none⟩, 1, rfl, cq_one _ _ _ _⟩)
end Go.Proofs.YthfkfgjhgicfeaaGreatDoor
namespace Go.Proofs.YthfkfgjhgicfeaaGreatDoor
open Go Go.RowKit Go.Sort Go.BigFrame
set_option linter.unusedVariables false

/-! ### Does a list hold a pair? -/
def GIdx (w1 : World) (zs : List F2) (y : F2) (i : Value) (W : World) : Prop := ∃ j : Nat, j ≤ zs.length ∧ i = .int .i64 j ∧ Below w1.heap.size w1 W ∧ ∀ i, i < j → cq zs i ≠ y
set_option maxRecDepth 100000 in
set_option maxHeartbeats 4000000 in
theorem gidx_is (a : Option Addr) (cap : Nat) (zs : List F2) (y : F2) (f : Bool) (w : World) (hB : QRowA w a zs.length (encL zs)) (hyes : ∀ j, j < zs.length → cq zs j = y → f = true) (hno : (∀ j, j < zs.length → cq zs j ≠ y) → f = false) :
    Calls Tryz.prog 82 #[.slice a zs.length cap, .agg #[.int .u64 (enc y.a), .int .u64 (enc y.b)]] w fun e w' => ∃ z : Int, e = .returned (.int .i64 z) ∧ decide (0 ≤ z) = f ∧ Below w.heap.size w w' := by
  have HBA := Lib.hid hB; have HY := Lib.hid hyes; have HN := Lib.hid hno
  have hm := hB.2.1
  unfold maxLen at hm
  clear hB hyes hno
  go_enter Tryz.func82, Tryz.ntmps82
  go_upto_region 1 with fail
  obtain ⟨gb, hgb⟩ : ∃ g, w.heap.size = g := ⟨_, rfl⟩
  refine wp_gen (fun W => Below w.heap.size w W ∧ Duo W gb (.int .u64 (enc y.a)) (.int .u64 (enc y.b))) ⟨(Below.refl _ _).alloc (Nat.le_refl _) _, by rw [← hgb]; simp [Duo, go_sem]⟩ ?_
  rintro w3 ⟨hb3, hD⟩
  simp only [hgb]
  have HB3 := Lib.hid hb3
  have HBA3 := Lib.hid (HBA.out.keep hb3)
  have HD := Lib.hid hD
  clear hb3 hD HBA hgb
  obtain ⟨S, hS⟩ : ∃ S, zs.length = S := ⟨_, rfl⟩
  have HS := Lib.hid hS
  rw [hS] at hm HBA3
  simp only [hS]
  clear hS
  go_upto_region 2 with fail
  go_loopw [8] (GIdx w3 zs y) (fun i _ => S - (intOf i).toNat)
  case atStart => exact ⟨0, Nat.zero_le _, rfl, Below.refl _ _, fun j hj => by omega⟩
  case round =>
    obtain ⟨j, hj, rfl, hB, hne⟩ := hrel
    rw [HS.out] at hj
    have HNE := Lib.hid hne; have HBI := Lib.hid hB
    clear hne
    by_cases hlt2 : j < S
    · have hlt2I : (j : Int) < (S : Int) := by omega
      have hj0 : (0 : Int) ≤ (j : Int) := by omega
      obtain ⟨d0, d1, _, _⟩ := HD.out.keep hB
      obtain ⟨b', off', rfl, cj0, cj1⟩ := (HBA3.out.keep hB).2.2 j hlt2
      rw [encL_at] at cj0 cj1
      simp only at cj0 cj1
      obtain ⟨x, hx⟩ : ∃ x, cq zs j = x := ⟨_, rfl⟩
      rw [hx] at cj0 cj1
      have HX := Lib.hid hx
      have e3 := eqB_enc y x (decide (y = x)) rfl
      obtain ⟨r3, hr3⟩ : ∃ b, decide (y = x) = b := ⟨_, rfl⟩
      rw [hr3] at e3
      have HR3 := Lib.hid hr3; have HL := Lib.hid hlt2
      clear hB hx hr3 hlt2 hj
      generalize enc x.a = x0 at *
      generalize enc x.b = x1 at *
      generalize enc y.a = y0 at *
      generalize enc y.b = y1 at *
      rcases e3 with ⟨rfl, rfl, rfl⟩ | ⟨rfl, h1⟩ | ⟨rfl, rfl, h1⟩
      · obtain rfl := HY.out j (by rw [HS.out]; exact HL.out) (HX.out.trans (of_decide_eq_true HR3.out).symm)
        have HBE := Lib.hid (bthen HB3.out HBI.out)
        clear HY HN HNE HBA3
        go_upto_region 4 with fail
        go_quiet (fail)
        go_wp2_with fail
        go_ret
        exact ⟨(j : Int), rfl, decide_eq_true hj0, by first | exact HBE.out | exact HBE.out.drew | exact below_drewN HBE.out _⟩
      all_goals
        have HNE2 := Lib.hid (show ∀ i, i < j + 1 → cq zs i ≠ y from fun i hi => by
          by_cases e : i = j
          · subst e; rw [HX.out]; exact fun h => of_decide_eq_false HR3.out h.symm
          · exact HNE.out i (by omega))
        clear HNE
        go_upto_region 4 with fail
        go_quiet (fail)
        go_wp2_with fail
        go_roundw
        case rel => exact ⟨j + 1, by rw [HS.out]; exact HL.out, by go_num, below_drewN HBI.out _, HNE2.out⟩
        case measure =>
          have := HL.out
          simp [intOf]
          omega
    · obtain rfl : j = S := by omega
      obtain rfl := HN.out (fun i hi => HNE.out i (by rw [HS.out] at hi; exact hi))
      have HBE := Lib.hid (bthen HB3.out HBI.out)
      clear HY HN HNE HBA3 hB
      go_wp2_with fail
      go_ret
      exact ⟨-1, rfl, by decide, HBE.out⟩
theorem mem_iff_cq {zs : List F2} {y : F2} : y ∈ zs ↔ ∃ j, j < zs.length ∧ cq zs j = y := by
  rw [List.mem_iff_getElem]
  constructor
  · rintro ⟨j, hj, e⟩
    exact ⟨j, hj, by rw [← e]; simp [cq, List.getD, hj]⟩
  · rintro ⟨j, hj, e⟩
    exact ⟨j, hj, by rw [← e]; simp [cq, List.getD, hj]⟩
set_option maxHeartbeats 4000000 in
theorem gcont_is (a : Option Addr) (cap n : Nat) (zs : List F2) (y : F2) (w : World) (hB : QRowA w a n (encL zs)) (hn : zs.length = n) :
    Calls Tryz.prog 42 #[.slice a n cap, .agg #[.int .u64 (enc y.a), .int .u64 (enc y.b)]] w fun e w' => e = .returned (.bool (decide (y ∈ zs))) ∧ Below w.heap.size w w' := by
  subst hn
  obtain ⟨f, hf⟩ : ∃ f, decide (y ∈ zs) = f := ⟨_, rfl⟩
  have hyes : ∀ j, j < zs.length → cq zs j = y → f = true := fun j hj e => by rw [← hf]; exact decide_eq_true (mem_iff_cq.2 ⟨j, hj, e⟩)
  have hno : (∀ j, j < zs.length → cq zs j ≠ y) → f = false := fun h => by
    rw [← hf]
    refine decide_eq_false fun hm => ?_
    obtain ⟨j, hj, e⟩ := mem_iff_cq.1 hm
    exact h j hj e
  rw [hf]
  have ki := fun W (h : QRowA W a zs.length (encL zs)) => gidx_is a cap zs y f W h hyes hno
  have HBA := Lib.hid (hB.keep (w1 := w.alloc (.cells #[.int .u64 (enc y.a), .int .u64 (enc y.b)] 31)) ((Below.refl _ _).alloc (Nat.le_refl _) _))
  have HB0 := Lib.hid ((Below.refl w.heap.size w).alloc (Nat.le_refl _) (.cells #[.int .u64 (enc y.a), .int .u64 (enc y.b)] 31))
  clear hB hyes hno hf
  go_enter Tryz.func42, Tryz.ntmps42
  go_wp2_with (go_at_call 82; (with_reducible refine (ki _ HBA.out).mono ?_); rintro E w1 ⟨z, rfl, hz, hb⟩; have HB1 := Lib.hid (bthen HB0.out hb); have HZ := Lib.hid hz; clear hb hz)
  go_ret
  exact ⟨by rw [← HZ.out]; rfl, HB1.out⟩
theorem gbadOk_no {n : Nat} {dim places : Int} (h : ¬ badOk n dim places) {word : QL} (hl : word.length = n) (f : Int) : badV word f dim places = ([], false) := by
  unfold badV; rw [hl, if_neg h]
/-- One more pair, where it isn't there. -/
def addOne (out : List F2) (y : F2) : List F2 := if y ∈ out then out else out ++ [y]
theorem badGo_res (g : List Nat → F2 × Bool × Bool) (I : List Nat) (r : List (List Nat)) (out : List F2) :
    badGo g (I :: r) out = if (resV (g I)).2 = true then ([], true) else badGo g r ((resV (g I)).1.foldl addOne out) := by
  rw [badGo]
  unfold resV
  by_cases h1 : (g I).2.2 = true
  · rw [if_pos h1, if_pos h1, if_neg (by decide)]; rfl
  · rw [if_neg h1, if_neg h1]
    by_cases h2 : (g I).2.1 = false
    · rw [if_pos h2, if_pos h2, if_pos rfl]
    · rw [if_neg h2, if_neg h2]
      exact (if_neg Bool.false_ne_true).symm
theorem resV_cases (st : F2 × Bool × Bool) : resV st = ([], false) ∨ resV st = ([], true) ∨ ∃ y, resV st = ([y], false) := by
  unfold resV
  split
  · exact Or.inl rfl
  · split
    · exact Or.inr (Or.inl rfl)
    · exact Or.inr (Or.inr ⟨_, rfl⟩)
def GBadRel (wb : World) (g : List Nat → F2 × Bool × Bool) (L : List (List Nat)) (v i : Value) (W : World) : Prop :=
  ∃ (j : Nat) (out : List F2), j ≤ L.length ∧ i = .int .i64 (j : Int) ∧ badGo g L [] = badGo g (L.drop j) out ∧ out.length ≤ j ∧ MadeQ wb W v (encL out)
theorem snocL (l : List F2) (x : F2) : encL l ++ [(enc x.a, enc x.b)] = encL (l ++ [x]) := by simp [encL]
def GInRel (wb wd : World) (out : List F2) (y : F2) (v k : Value) (W : World) : Prop :=
  (k = .int .i64 0 ∧ MadeQ wb W v (encL out) ∧ Below wd.heap.size wd W) ∨ (k = .int .i64 1 ∧ MadeQ wb W v (encL (addOne out y)))
set_option maxRecDepth 100000 in
set_option maxHeartbeats 20000000 in
theorem gbad_is (a : Option Addr) (n c : Nat) (word : QL) (f dim places : Int) (w : World) (hT : Tab w) (hw : QRowA w a n word) (hc : n ≤ c) (hwu : UsR word) (hn : n ≤ 16) (hf : 0 ≤ f ∧ f ≤ 64) (hd64 : I64 dim) (hp64 : I64 places) :
    Calls Tryz.prog 19 #[.slice a n c, .int .i64 f, .int .i64 dim, .int .i64 places] w (BadPost w (badV word f dim places)) := by
  have hlen := hw.1
  have L1 := log_is (n : Int) (lg (n : Int)) (by constructor <;> omega) rfl w hT
  have HB : Hid (Below w.heap.size w w) := Lib.hid (Below.refl _ _)
  obtain ⟨m, hm⟩ : ∃ m, lg (n : Int) = m := ⟨_, rfl⟩
  rw [hm] at L1
  by_cases c1 : m < 2
  · rw [gbadOk_no (fun h => by have := h; unfold badOk at this; rw [hm] at this; omega) hlen]
    clear hm
    clear hw hwu hlen
    go_enter Tryz.func19, Tryz.ntmps19
    go_wp2_with (go_at_call 27; (with_reducible refine L1.mono ?_); rintro e w1 ⟨rfl, rfl⟩)
    exact bodyPost_ret (v := .tuple #[.slice none 0 0, .bool false]) (by simp [results, Tryz.results19, go_sem]) rfl ⟨HB.out, none, 0, rfl, qrowA_nil _⟩

  obtain ⟨k, hk, hnk, h1⟩ := (lg_small (show n ≤ 64 by omega)).resolve_left (by rw [hm]; omega)
  have hmk : m = (k : Int) := by rw [← hm]; exact h1
  subst hmk
  have hk2 : 2 ≤ k := by omega
  have hk4 : k ≤ 4 := by
    refine Nat.le_of_not_lt fun hc => ?_
    have : 2 ^ 5 ≤ 2 ^ k := Nat.pow_le_pow_right (by decide) hc
    omega
  have c2 : ¬ 4 < (k : Int) := by omega
  obtain ⟨h, hh⟩ : ∃ h, n / 2 = h := ⟨_, rfl⟩
  have hq : (n : Int).tdiv 2 = (h : Int) := by rw [Int.tdiv_eq_ediv_of_nonneg (by omega)]; omega
  have hqw : wrap64 (h : Int) = (h : Int) := IntWalk.wrap64_in _ (by omega)
  have HNK := Lib.hid hnk; have HK := Lib.hid (And.intro hk2 hk4)
  by_cases c3 : dim < 0
  · rw [gbadOk_no (fun h => by have := h; unfold badOk at this; omega) hlen]
    clear hm hnk h1 hk hh
    clear hw hwu hlen
    go_enter Tryz.func19, Tryz.ntmps19
    go_wp2_with (go_at_call 27; (with_reducible refine L1.mono ?_); rintro e w1 ⟨rfl, rfl⟩)
    exact bodyPost_ret (v := .tuple #[.slice none 0 0, .bool false]) (by simp [results, Tryz.results19, go_sem]) rfl ⟨HB.out, none, 0, rfl, qrowA_nil _⟩

  by_cases c4 : places ≤ dim
  · rw [gbadOk_no (fun h => by have := h; unfold badOk at this; omega) hlen]
    clear hm hnk h1 hk hh
    clear hw hwu hlen
    go_enter Tryz.func19, Tryz.ntmps19
    go_wp2_with (go_at_call 27; (with_reducible refine L1.mono ?_); rintro e w1 ⟨rfl, rfl⟩)
    exact bodyPost_ret (v := .tuple #[.slice none 0 0, .bool false]) (by simp [results, Tryz.results19, go_sem]) rfl ⟨HB.out, none, 0, rfl, qrowA_nil _⟩

  by_cases c5 : (h : Int) < places
  · rw [gbadOk_no (fun hb => absurd hb.2.2.2.2 (by rw [hh]; exact Int.not_le.2 c5)) hlen]
    clear hm hnk h1 hk hh
    clear hw hwu hlen
    go_enter Tryz.func19, Tryz.ntmps19
    go_wp2_with (go_at_call 27; (with_reducible refine L1.mono ?_); rintro e w1 ⟨rfl, rfl⟩)
    exact bodyPost_ret (v := .tuple #[.slice none 0 0, .bool false]) (by simp [results, Tryz.results19, go_sem]) rfl ⟨HB.out, none, 0, rfl, qrowA_nil _⟩

  obtain ⟨i0, hi, hz0, hz1, hz2⟩ := info_parts infoQ5
  obtain ⟨D, rfl⟩ := Int.eq_ofNat_of_zero_le (show 0 ≤ dim by omega)
  obtain ⟨PL, rfl⟩ := Int.eq_ofNat_of_zero_le (show 0 ≤ places by omega)
  have hDP : D < PL := Int.ofNat_lt.1 (Int.not_le.1 c4)
  have hPh : PL ≤ h := Int.ofNat_le.1 (Int.not_lt.1 c5)
  obtain ⟨k1, rfl⟩ : ∃ k1, k = k1 + 1 := ⟨k - 1, by omega⟩
  have hlw : word.length = 2 ^ (k1 + 1) := hlen.trans hnk
  have hhe : h = 2 ^ k1 := by rw [← hh, ← hlen]; exact half_len hlw
  have hend : badV word f (D : Int) (PL : Int) = badGo (setV (ptV (k1 : Int) (f + 1)) (evenV word f) (oddV word f) D) (subs PL h) [] := by
    unfold badV
    rw [hlen, hm, hh, Int.toNat_natCast, Int.toNat_natCast, show ((k1 + 1 : Nat) : Int) - 1 = (k1 : Int) by omega, if_pos]
    unfold badOk
    rw [hm, hh]
    exact ⟨by omega, by omega, by omega, by omega, by omega⟩
  rw [hend]
  have S1 := fun W (h : Below w.heap.size w W) => gparts_is a n c k1 word f W (hT.keep h) (hw.keep h) hc hwu hlw (by omega) (by constructor <;> omega)
  have hEl : (wordV word 0 f).1.length = h := by rw [hhe]; exact word_len hlw (by omega) 0 f
  have hOl : (oddL word f (2 ^ k1)).length = h := by rw [hhe]; exact oddL_len _ _ _
  have hUE : UsR (wordV word 0 f).1 := wordV_U (show wordV word 0 f = ((wordV word 0 f).1, true) by rw [wordV_yes (by rw [lg_len hlw]; omega)])
  have hUO : UsR (oddL word f (2 ^ k1)) := encL_U _
  have hqE : ∀ i, qAt (wordV word 0 f).1 i = evenV word f i := fun i => rfl
  have hqO : ∀ i, i < h → qAt (oddL word f (2 ^ k1)) i = oddV word f i := fun i hi => oddL_qAt word f (by rw [← hhe]; exact hi)
  unfold SplitPost at S1
  rw [hEl, hOl] at S1
  obtain ⟨EV, hEV⟩ : ∃ q, (wordV word 0 f).1 = q := ⟨_, rfl⟩
  obtain ⟨OD, hOD⟩ : ∃ q, oddL word f (2 ^ k1) = q := ⟨_, rfl⟩
  rw [hEV] at S1 hEl hUE hqE
  rw [hOD] at S1 hOl hUO hqO
  have X1 := fun W => gpoints_is k1 (f + 1) W (by omega)
  unfold RowQPost at X1
  rw [xsL_len, ← hhe] at X1
  have T1 := fun W => gsets_is h PL W (by omega) (by omega)
  unfold SetsPost at T1
  rw [List.length_map] at T1
  have hap : ApartTo' h (ptV (k1 : Int) (f + 1)) := by rw [hhe]; exact ptV_apart (by omega) (f + 1)
  have hsl : ∀ I ∈ subs PL h, I ∈ subs PL h ∧ I.length = PL ∧ (∀ i ∈ I, i < h) := fun I hI => ⟨hI, subs_len hI, subs_lt hI⟩
  have hLc := subs_le PL h (by omega)
  generalize evenV word f = EF at *
  generalize oddV word f = OF at *
  obtain ⟨XF, hXF⟩ : ∃ q, ptV (k1 : Int) (f + 1) = q := ⟨_, rfl⟩
  have hqX : ∀ i, i < h → (xsL (k1 : Int) (f + 1) h).getD i (0, 0) = encP (XF i) := fun i hi => by rw [xsL_at _ _ hi, hXF]
  have hqX2 : ∀ i, i < h → qAt (xsL (k1 : Int) (f + 1) h) i = XF i := fun i hi => by rw [xsL_qAt _ _ hi, hXF]
  have hXl : (xsL (k1 : Int) (f + 1) h).length = h := xsL_len _ _ _
  have hXU := xsL_U (k1 : Int) (f + 1) h
  rw [hXF]
  rw [hXF] at hap
  obtain ⟨XS, hXS⟩ : ∃ q, xsL (k1 : Int) (f + 1) h = q := ⟨_, rfl⟩
  rw [hXS] at X1 hqX hqX2 hXl hXU
  obtain ⟨L, hL⟩ : ∃ L, subs PL h = L := ⟨_, rfl⟩
  rw [hL] at T1 hLc ⊢
  have hsl2 : ∀ I ∈ L, I ∈ subs PL h ∧ I.length = PL ∧ (∀ i ∈ I, i < h) := fun I hI => hsl I (by rw [hL]; exact hI)
  have hG : ∀ I, I ∈ subs PL h → dropV (thrL (picks XF I) (picks EF I)) (thrL (picks XF I) (picks OF I)) D = resV (setV XF EF OF D I) ∧ Std (thrL (picks XF I) (picks OF I)) := fun I hI => ⟨drop_is hap (by omega) hI, std_thr hap hI⟩
  obtain ⟨G, hGG⟩ : ∃ G, setV XF EF OF D = G := ⟨_, rfl⟩
  rw [hGG] at hG ⊢
  have HGE := Lib.hid hG
  have HSL := Lib.hid hsl2; have HEL := Lib.hid hEl; have HOL := Lib.hid hOl; have HUE := Lib.hid hUE; have HUO := Lib.hid hUO; have HQE := Lib.hid hqE; have HQO := Lib.hid hqO; have HQX := Lib.hid hqX; have HQX2 := Lib.hid hqX2; have HXL := Lib.hid hXl; have HXU := Lib.hid hXU
  have HDP := Lib.hid hDP; have HPH := Lib.hid hPh; have HW0 := Lib.hid hw
  have hh8 : h ≤ 8 := by omega
  have hP8 : PL ≤ 8 := by omega
  have m1 : IntKind.i64.wrap (((k1 + 1 : Nat) : Int) - 1) = (k1 : Int) := by rw [IntWalk.i64_in _ (by omega)]; omega
  have m2 : wrap64 (((k1 + 1 : Nat) : Int) - 1) = (k1 : Int) := by rw [IntWalk.wrap64_in _ (by omega)]; omega
  have hDI : (0 : Int) ≤ (D : Int) := Int.natCast_nonneg D
  have hDPI : (D : Int) < (PL : Int) := Int.ofNat_lt.2 hDP
  have c4' : ¬ (PL : Int) ≤ (D : Int) := by omega
  have c5' : ¬ (h : Int) < (PL : Int) := by omega
  obtain ⟨K1, hK1⟩ : ∃ q : Int, ((k1 + 1 : Nat) : Int) = q := ⟨_, rfl⟩
  rw [hK1] at L1 c1 c2 m1 m2
  obtain ⟨F1, hF1⟩ : ∃ q : Int, f + 1 = q := ⟨_, rfl⟩
  have f1 : IntKind.i64.wrap (f + 1) = F1 := by rw [← hF1]; exact IntWalk.i64_in _ (by omega)
  have f2 : wrap64 (f + 1) = F1 := by rw [← hF1]; exact IntWalk.wrap64_in _ (by omega)
  rw [hF1] at X1
  clear hw hwu hlen hm hk hnk h1 hk2 hk4 hh HNK HK hlw hhe hend hEl hOl hUE hUO hqE hqO hqX hqX2 hXl hXU hEV hOD hXF hXS hL hsl hsl2 hG hGG hap hT hc hDP hPh hK1 hF1 hf hd64 hp64 hn c3 c4 c5
  obtain ⟨LN, hLN⟩ : ∃ q, L.length = q := ⟨_, rfl⟩
  rw [hLN] at T1 hLc
  have HLQ := Lib.hid hLN
  clear hLN
  go_enter Tryz.func19, Tryz.ntmps19
  go_upto_region 8 with (first
    | (go_at_call 27; (with_reducible refine L1.mono ?_); rintro e w1 ⟨rfl, rfl⟩)
    | (go_at_call 40; (with_reducible refine (S1 _ HB.out).mono ?_); rintro e w2 ⟨hb, ea, ec, oa, oc, rfl, hE, hO⟩; have HE := Lib.hid hE; have HO := Lib.hid hO; replace HB := Lib.hid (bthen HB.out hb); clear hb hE hO)
    | (go_at_call 29; (with_reducible refine (X1 _).mono ?_); rintro e w3 ⟨hb, xa, xc, rfl, hX⟩; have HX := Lib.hid hX; replace HE := Lib.hid (HE.out.keep hb); replace HO := Lib.hid (HO.out.keep hb); replace HB := Lib.hid (bthen HB.out hb); clear hb hX)
    | (go_at_call 34; (with_reducible refine (T1 _).mono ?_); rintro e wb ⟨hb, ta, tc, rfl, hTT⟩; have HT := Lib.hid hTT; replace HX := Lib.hid (HX.out.keep hb); replace HE := Lib.hid (HE.out.keep hb); replace HO := Lib.hid (HO.out.keep hb); replace HB := Lib.hid (bthen HB.out hb); clear hb hTT))
  clear L1 S1 X1 T1 c1 c2 f1 f2 m1 m2 hq hqw c4' c5'
  go_loopw [14, 63] (GBadRel wb G L) (fun _ i _ => LN - (intOf i).toNat)
  case atStart => exact ⟨0, [], Nat.zero_le _, rfl, by rw [List.drop_zero], Nat.le_refl _, ⟨World.ownsRow_nil _ _ _ _, Below.refl _ _⟩⟩
  case round =>
    obtain ⟨j, out, hj, rfl, hgo, hol, hM⟩ := hrel
    rw [HLQ.out] at hj
    have hBb := hM.2
    by_cases hlt : j < LN
    case neg =>
      obtain rfl : j = LN := by omega
      have hltI : ¬ (j : Int) < (j : Int) := by omega
      rw [← HLQ.out, List.drop_length, badGo] at hgo
      obtain ⟨ao, co, hv, hr⟩ := hM.rowA
      rw [encL_len] at hv hr
      subst hv
      have HM := Lib.hid hM.2; have HR := Lib.hid hr; have HGO := Lib.hid hgo
      clear hM hr hgo hBb hlt hj hol
      go_wp2_with fail
      exact bodyPost_ret (v := .tuple #[.slice ao out.length co, .bool false]) (by simp [results, Tryz.results19, go_sem]) rfl ⟨bthen HB.out HM.out, ao, co, by rw [HGO.out], by rw [HGO.out]; exact HR.out⟩
    have hltI : (j : Int) < (LN : Int) := Int.ofNat_lt.2 hlt
    have hj0 : (0 : Int) ≤ (j : Int) := Int.natCast_nonneg j
    have hjL : j < L.length := by rw [HLQ.out]; exact hlt
    obtain ⟨tb, tO, rfl, t0c⟩ := (HT.out.keep hBb).2.2 j hlt
    rw [map_getD hjL] at t0c
    have hin : L.getD j [] ∈ L := by rw [show L.getD j [] = L[j] by simp [List.getD, hjL]]; exact List.getElem_mem hjL
    obtain ⟨I, hI⟩ : ∃ I, L.getD j [] = I := ⟨_, rfl⟩
    have hdr : L.drop j = I :: L.drop (j + 1) := by
      rw [← hI, show L.getD j [] = L[j] by simp [List.getD, hjL]]
      exact List.drop_eq_getElem_cons hjL
    rw [hI] at t0c hin
    obtain ⟨hIs, hIl, hIn⟩ := HSL.out I hin
    rw [hdr, badGo_res] at hgo
    have kx := fun W (hb : Below wr.heap.size wr W) => gpick_is xa h xc XS W ((HX.out.keep (bthen hBb hb)).at) (by omega) hIs
    have ke := fun W (hb : Below wr.heap.size wr W) => gpick_is ea h ec EV W (HE.out.keep (bthen hBb hb)) (by omega) hIs
    have ko := fun W (hb : Below wr.heap.size wr W) => gpick_is oa h oc OD W (HO.out.keep (bthen hBb hb)) (by omega) hIs
    have qx : (pickL XS I).map toQ = picks XF I := (pickL_map _ _).trans (picks_congr fun i hi => HQX2.out i (hIn i hi))
    have qe' : (pickL EV I).map toQ = picks EF I := (pickL_map _ _).trans (picks_congr fun i hi => HQE.out i)
    have qo : (pickL OD I).map toQ = picks OF I := (pickL_map _ _).trans (picks_congr fun i hi => HQO.out i (hIn i hi))
    have hUX := pickL_U HXU.out (I := I) (fun i hi => by rw [HXL.out]; exact hIn i hi)
    have hUEE := pickL_U HUE.out (I := I) (fun i hi => by rw [HEL.out]; exact hIn i hi)
    have hUOO := pickL_U HUO.out (I := I) (fun i hi => by rw [HOL.out]; exact hIn i hi)
    have htl : I.length ≤ 8 := by omega
    have kt1 := fun W v u (h1 : QRow W v (pickL XS I)) (h2 : QRow W u (pickL EV I)) => gthrough_is v u (picks XF I) (picks EF I) W ⟨_, h1, hUX, qx⟩ ⟨_, h2, hUEE, qe'⟩ (by rw [picks_len]; omega) (by rw [picks_len]; omega)
    have kt2 := fun W v u (h1 : QRow W v (pickL XS I)) (h2 : QRow W u (pickL OD I)) => gthrough_is v u (picks XF I) (picks OF I) W ⟨_, h1, hUX, qx⟩ ⟨_, h2, hUOO, qo⟩ (by rw [picks_len]; omega) (by rw [picks_len]; omega)
    unfold RetP at kt1 kt2
    unfold RowQPost at kx ke ko
    have hl1 : (thrL (picks XF I) (picks EF I)).length ≤ 8 := Nat.le_trans thrL_len (by rw [picks_len]; exact htl)
    have hl2 : (thrL (picks XF I) (picks OF I)).length ≤ 8 := Nat.le_trans thrL_len (by rw [picks_len]; exact htl)
    obtain ⟨hdv, hso⟩ := HGE.out I hIs
    generalize thrL (picks XF I) (picks EF I) = LE at *
    generalize thrL (picks XF I) (picks OF I) = LO at *
    have kd := fun W la lc oa oc (h1 : QRow W (.slice la LE.length lc) (encL LE)) (h2 : QRow W (.slice oa LO.length oc) (encL LO)) => gdrop_is la oa lc oc LE LO D W h1 h2 (by omega) (by omega) hso
    rw [hdv] at kd
    unfold BadPost at kd
    generalize pickL XS I = PX at *
    generalize pickL EV I = PE at *
    generalize pickL OD I = PO at *
    generalize maskV I = MK at *
    have HJ := Lib.hid hlt; have HOLN := Lib.hid hol; have HMO := Lib.hid hM; have HBB := Lib.hid hBb
    have HBW : Hid (Below wr.heap.size wr wr) := Lib.hid (Below.refl _ _)
    have hol2 : out.length ≤ 65536 := by omega
    clear hj hol hM hBb hlt hjL hin hI hdr hIs hIl hIn qx qe' qo hUX hUEE hUOO htl hl1 hl2 hdv hso
    rcases resV_cases (G I) with hres | hres | ⟨y, hres⟩
    · rw [hres] at kd hgo
      simp only [List.length_nil] at kd
      rw [if_neg (by decide)] at hgo
      have HGO : Hid (badGo G L [] = badGo G (L.drop (j + 1)) out) := Lib.hid hgo
      clear hgo hres
      go_upto_region 12 with (first
        | (go_at_call 36; (first
              | ((with_reducible refine (kx _ HBW.out).mono ?_); rintro e w1 ⟨hb, pa, pc, rfl, hq⟩; have HPX := Lib.hid hq; replace HBW := Lib.hid (bthen HBW.out hb); clear hb hq)
              | ((with_reducible refine (ke _ HBW.out).mono ?_); rintro e w2 ⟨hb, pa, pc, rfl, hq⟩; have HQ2 := Lib.hid hq; replace HPX := Lib.hid (HPX.out.keep hb); replace HBW := Lib.hid (bthen HBW.out hb); clear hb hq)
              | ((with_reducible refine (ko _ HBW.out).mono ?_); rintro e w4 ⟨hb, pa, pc, rfl, hq⟩; have HQ3 := Lib.hid hq; replace HPX := Lib.hid (HPX.out.keep hb); replace HBW := Lib.hid (bthen HBW.out hb); replace HPE := Lib.hid (HPE.out.keep hb); clear hb hq)))
        | (go_at_call 35; (first
              | ((with_reducible refine (kt1 _ _ _ HPX.out HQ2.out).mono ?_); rintro e w3 ⟨v, rfl, hb, hp⟩; obtain ⟨le, lec, rfl⟩ := hp.slice; have HPE : Hid (QRow w3 (.slice le LE.length lec) (encL LE)) := Lib.hid hp; replace HPX := Lib.hid (HPX.out.keep hb); replace HBW := Lib.hid (bthen HBW.out hb); clear hb hp HQ2)
              | ((with_reducible refine (kt2 _ _ _ HPX.out HQ3.out).mono ?_); rintro e w5 ⟨v, rfl, hb, hp⟩; obtain ⟨lo, loc, rfl⟩ := hp.slice; have HPO : Hid (QRow w5 (.slice lo LO.length loc) (encL LO)) := Lib.hid hp; replace HPE := Lib.hid (HPE.out.keep hb); replace HBW := Lib.hid (bthen HBW.out hb); clear hb hp HQ3)))
        | (go_at_call 41; (with_reducible refine (kd _ _ _ _ _ HPE.out HPO.out).mono ?_); rintro e w6 ⟨hb, sa, sc, rfl, hs⟩; have HS := Lib.hid hs; replace HBW := Lib.hid (bthen HBW.out hb); clear hb hs))
      clear kx ke ko kt1 kt2 kd t0c
      have hM6 := HMO.out.keep HBW.out
      have HM6 := Lib.hid hM6
      clear hM6
      go_upto_region 15 with fail
      go_loopw [14, 88] (fun v k W => k = .int .i64 0 ∧ MadeQ wb W v (encL out)) (fun _ _ _ => 0)
      case atStart => exact ⟨rfl, HM6.out⟩
      case round =>
        obtain ⟨rfl, hM7⟩ := hrel
        have HM7 := Lib.hid hM7
        clear hM7
        go_wp2_with fail
        go_roundw
        case rel => exact ⟨j + 1, out, by rw [HLQ.out]; exact HJ.out, by go_num, HGO.out, by have := HOLN.out; omega, HM7.out⟩
        case measure =>
          have := HJ.out
          simp [intOf]
          omega
    · rw [hres] at kd hgo
      simp only [List.length_nil] at kd
      rw [if_pos rfl] at hgo
      have HGO : Hid (badGo G L [] = ([], true)) := Lib.hid hgo
      clear hgo hres
      go_upto_region 12 with (first
        | (go_at_call 36; (first
              | ((with_reducible refine (kx _ HBW.out).mono ?_); rintro e w1 ⟨hb, pa, pc, rfl, hq⟩; have HPX := Lib.hid hq; replace HBW := Lib.hid (bthen HBW.out hb); clear hb hq)
              | ((with_reducible refine (ke _ HBW.out).mono ?_); rintro e w2 ⟨hb, pa, pc, rfl, hq⟩; have HQ2 := Lib.hid hq; replace HPX := Lib.hid (HPX.out.keep hb); replace HBW := Lib.hid (bthen HBW.out hb); clear hb hq)
              | ((with_reducible refine (ko _ HBW.out).mono ?_); rintro e w4 ⟨hb, pa, pc, rfl, hq⟩; have HQ3 := Lib.hid hq; replace HPX := Lib.hid (HPX.out.keep hb); replace HBW := Lib.hid (bthen HBW.out hb); replace HPE := Lib.hid (HPE.out.keep hb); clear hb hq)))
        | (go_at_call 35; (first
              | ((with_reducible refine (kt1 _ _ _ HPX.out HQ2.out).mono ?_); rintro e w3 ⟨v, rfl, hb, hp⟩; obtain ⟨le, lec, rfl⟩ := hp.slice; have HPE : Hid (QRow w3 (.slice le LE.length lec) (encL LE)) := Lib.hid hp; replace HPX := Lib.hid (HPX.out.keep hb); replace HBW := Lib.hid (bthen HBW.out hb); clear hb hp HQ2)
              | ((with_reducible refine (kt2 _ _ _ HPX.out HQ3.out).mono ?_); rintro e w5 ⟨v, rfl, hb, hp⟩; obtain ⟨lo, loc, rfl⟩ := hp.slice; have HPO : Hid (QRow w5 (.slice lo LO.length loc) (encL LO)) := Lib.hid hp; replace HPE := Lib.hid (HPE.out.keep hb); replace HBW := Lib.hid (bthen HBW.out hb); clear hb hp HQ3)))
        | (go_at_call 41; (with_reducible refine (kd _ _ _ _ _ HPE.out HPO.out).mono ?_); rintro e w6 ⟨hb, sa, sc, rfl, hs⟩; have HS := Lib.hid hs; replace HBW := Lib.hid (bthen HBW.out hb); clear hb hs))
      clear kx ke ko kt1 kt2 kd t0c
      go_wp2_with fail
      exact bodyPost_ret (v := .tuple #[.slice none 0 0, .bool true]) (by simp [results, Tryz.results19, go_sem]) rfl ⟨bthen HB.out (bthen HBB.out HBW.out), none, 0, by rw [HGO.out]; rfl, by rw [HGO.out]; exact qrowA_nil _⟩
    · rw [hres] at kd hgo
      simp only [List.length_cons, List.length_nil, Nat.zero_add] at kd
      rw [if_neg (show ¬ (([y], false) : List F2 × Bool).2 = true from Bool.false_ne_true)] at hgo
      have HGO : Hid (badGo G L [] = badGo G (L.drop (j + 1)) (addOne out y)) := Lib.hid hgo
      clear hgo hres
      go_upto_region 12 with (first
        | (go_at_call 36; (first
              | ((with_reducible refine (kx _ HBW.out).mono ?_); rintro e w1 ⟨hb, pa, pc, rfl, hq⟩; have HPX := Lib.hid hq; replace HBW := Lib.hid (bthen HBW.out hb); clear hb hq)
              | ((with_reducible refine (ke _ HBW.out).mono ?_); rintro e w2 ⟨hb, pa, pc, rfl, hq⟩; have HQ2 := Lib.hid hq; replace HPX := Lib.hid (HPX.out.keep hb); replace HBW := Lib.hid (bthen HBW.out hb); clear hb hq)
              | ((with_reducible refine (ko _ HBW.out).mono ?_); rintro e w4 ⟨hb, pa, pc, rfl, hq⟩; have HQ3 := Lib.hid hq; replace HPX := Lib.hid (HPX.out.keep hb); replace HBW := Lib.hid (bthen HBW.out hb); replace HPE := Lib.hid (HPE.out.keep hb); clear hb hq)))
        | (go_at_call 35; (first
              | ((with_reducible refine (kt1 _ _ _ HPX.out HQ2.out).mono ?_); rintro e w3 ⟨v, rfl, hb, hp⟩; obtain ⟨le, lec, rfl⟩ := hp.slice; have HPE : Hid (QRow w3 (.slice le LE.length lec) (encL LE)) := Lib.hid hp; replace HPX := Lib.hid (HPX.out.keep hb); replace HBW := Lib.hid (bthen HBW.out hb); clear hb hp HQ2)
              | ((with_reducible refine (kt2 _ _ _ HPX.out HQ3.out).mono ?_); rintro e w5 ⟨v, rfl, hb, hp⟩; obtain ⟨lo, loc, rfl⟩ := hp.slice; have HPO : Hid (QRow w5 (.slice lo LO.length loc) (encL LO)) := Lib.hid hp; replace HPE := Lib.hid (HPE.out.keep hb); replace HBW := Lib.hid (bthen HBW.out hb); clear hb hp HQ3)))
        | (go_at_call 41; (with_reducible refine (kd _ _ _ _ _ HPE.out HPO.out).mono ?_); rintro e w6 ⟨hb, sa, sc, rfl, hs⟩; have HS := Lib.hid hs; replace HBW := Lib.hid (bthen HBW.out hb); clear hb hs))
      clear kx ke ko kt1 kt2 kd t0c
      have hM6 := HMO.out.keep HBW.out
      have HM6 := Lib.hid hM6
      clear hM6
      go_upto_region 15 with fail
      go_loopw [14, 88] (GInRel wb w6 out y) (fun _ k _ => 1 - (intOf k).toNat)
      case atStart => exact Or.inl ⟨rfl, HM6.out, Below.refl _ _⟩
      case round =>
        rcases hrel with ⟨rfl, hM7, hB7⟩ | ⟨rfl, hM7⟩
        case inr =>
          have HM7 := Lib.hid hM7
          clear hM7
          go_wp2_with fail
          go_roundw
          case rel => exact ⟨j + 1, addOne out y, by rw [HLQ.out]; exact HJ.out, by go_num, HGO.out, by have := HOLN.out; unfold addOne; split <;> (try rw [List.length_append]) <;> (try rw [List.length_singleton]) <;> omega, HM7.out⟩
          case measure =>
            have := HJ.out
            simp [intOf]
            omega
        case inl =>
          obtain ⟨sb, so, hsa, s0c, s1c⟩ := (HS.out.keep hB7).2.2 0 (Nat.succ_pos _)
          subst hsa
          rw [encL_at] at s0c s1c
          simp only [Nat.zero_mul, Nat.add_zero] at s0c s1c
          rw [show cq [y] 0 = y from rfl] at s0c s1c
          obtain ⟨ao, co, hv, hro⟩ := hM7.rowA
          rw [encL_len] at hv hro
          subst hv
          have HRO := Lib.hid hro; have HM7 := Lib.hid hM7
          clear hM7 hB7 hro
          go_upto_region 17 with fail
          obtain ⟨gx, hgx⟩ : ∃ g, wr.heap.size = g := ⟨_, rfl⟩
          refine wp_gen (fun W => Below wr.heap.size wr W ∧ Duo W gx (.int .u64 (enc y.a)) (.int .u64 (enc y.b))) ⟨(Below.refl _ _).alloc (Nat.le_refl _) _, by rw [← hgx]; simp [Duo, go_sem]⟩ ?_
          rintro w7 ⟨hb7, d0, d1, _, _⟩
          simp only [hgx]
          replace HM7 := Lib.hid (HM7.out.keep hb7)
          have kc := gcont_is ao co out.length out y w7 (HRO.out.keep hb7) rfl
          clear hb7 hgx s0c s1c HRO
          obtain ⟨OLN, hOLN⟩ : ∃ q, out.length = q := ⟨_, rfl⟩
          have HOQ := Lib.hid hOLN
          rw [hOLN] at kc hol2 HM7
          simp only [hOLN]
          clear hOLN
          obtain ⟨th, hth⟩ : ∃ b, decide (y ∈ out) = b := ⟨_, rfl⟩
          rw [hth] at kc
          cases th
          · have HAD : Hid (addOne out y = out ++ [y]) := Lib.hid (if_neg (of_decide_eq_false hth))
            clear hth
            go_upto_region 18 with (go_at_call 42; (with_reducible refine kc.mono ?_); rintro e w8 ⟨rfl, hb⟩; replace HM7 := Lib.hid (HM7.out.keep hb); replace d0 := bkeep hb d0; replace d1 := bkeep hb d1; clear hb)
            have hown := HM7.out.1; have hsz := HM7.out.2.size
            have HTT := Lib.hid (fun w2 v' => @MadeQ.step wb _ w2 _ v' (encL out) (enc y.a) (enc y.b) HM7.out)
            rw [encL_len, HOQ.out] at hown HTT
            clear kc
            go_wp2_with (at_builtin; refine wpList_append_own _ rfl _ _ 24 rfl wb.heap.size 31 i0 (.agg #[.int .u64 0, .int .u64 0]) 2 16 Tryz.underlying24 hi hz0 hz1 hz2 rfl (by decide) _ _ _ rfl (hown.alloc _) ⟨w8.heap.size, 0, none⟩ 1 1 [.int .u64 (enc y.a), .int .u64 (enc y.b)] rfl rfl ?c1 ?c2 ?c3 ?c4 ?c5 ?_)
            (try case c1 => exact two_src (by simp [go_sem]) (by simp [go_sem]))
            (try case c2 => first | exact ⟨rfl, rfl⟩ | rfl | (intro u hu; simp at hu; rcases hu with rfl | rfl <;> rfl))
            case c3 => unfold maxLen; omega
            case c4 => omega
            case c5 => first | omega | (simp; omega)
            intro v' w2 hown' hgrow _
            have R := Lib.hid (HTT.out w2 v' _ hown' hgrow)
            clear hown' hgrow hown HTT d0 d1
            go_wp2_with fail
            go_roundw
            case rel => exact Or.inr ⟨rfl, by rw [HAD.out, ← snocL]; exact R.out⟩
            case measure => simp [intOf]
          · have HAD : Hid (addOne out y = out) := Lib.hid (if_pos (of_decide_eq_true hth))
            clear hth
            go_wp2_with (go_at_call 42; (with_reducible refine kc.mono ?_); rintro e w8 ⟨rfl, hb⟩; replace HM7 := Lib.hid (HM7.out.keep hb); clear hb)
            go_roundw
            case rel => exact Or.inr ⟨rfl, by rw [HAD.out]; exact HM7.out⟩
            case measure => simp [intOf]
end Go.Proofs.YthfkfgjhgicfeaaGreatDoor
namespace Go.Proofs.YthfkfgjhgicfeaaGreatDoor
open Go Go.RowKit
set_option linter.unusedVariables false

/-- sb: the new element's array; sa: the append; W0: the world where the region begins. -/
structure AppOp (w W0 : World) (e : TypeId) (s sb sa : Nat) (v9 : Value) (n n2 : Nat) (xs ys z : List Value) (simple : List Nat) (val : Nat → Value) (D : Nat → Bool) (σ : Nat → Value) (W : World) : Prop where
  bel : Below w.heap.size w W
  pre : D sa = false → Below W0.heap.size W0 W
  c3 : D sa = true → D sb = true
  li : D sa = false → D sb = true → ∃ g, σ sb = .slice (some ⟨g, 0, none⟩) 1 1 ∧ ∀ j u, z[j]? = some u → W.cell? ((⟨g, 0, none⟩ : Addr).add j) = some u
  post : D sa = true → W.ownsRow w.heap.size e s (σ sa) (n + 1) (xs ++ z) ∧ W.ownsRow w.heap.size e s v9 n2 ys ∧ ∀ k, (σ sa).ownBlock = some k → v9.ownBlock ≠ some k
  sv : ∀ d, d ∈ simple → D d = true → σ d = val d
section
variable {w W0 : World} {e : TypeId} {s sb sa : Nat} {v9 : Value} {n n2 : Nat} {xs ys z : List Value} {simple : List Nat} {val : Nat → Value} {D : Nat → Bool} {σ : Nat → Value} {W : World}
theorem AppOp.start (hw : Below w.heap.size w W) (hb : Below W0.heap.size W0 W) (σ : Nat → Value) : AppOp w W0 e s sb sa v9 n n2 xs ys z simple val (fun _ => false) σ W :=
  ⟨hw, fun _ => hb, fun h => absurd h Bool.false_ne_true, fun _ h => absurd h Bool.false_ne_true, fun h => absurd h Bool.false_ne_true, fun _ _ h => absurd h Bool.false_ne_true⟩
/-- An operation whose value is known, by new memory alone. -/
theorem AppOp.next (h : AppOp w W0 e s sb sa v9 n n2 xs ys z simple val D σ W) {d : Nat} {v : Value} {W' : World} (hb : Below W.heap.size W W') (h0 : d ≠ sb ∧ d ≠ sa) (hv : v = val d) :
    AppOp w W0 e s sb sa v9 n n2 xs ys z simple val (fun k => if k = d then true else D k) (fun k => if k = d then v else σ k) W' := by
  obtain ⟨h1, h2⟩ := h0
  refine ⟨bthen h.bel hb, ?_, ?_, ?_, ?_, ?_⟩
  · simp only [if_neg (Ne.symm h2)]; exact fun c => bthen (h.pre c) hb
  · simp only [if_neg (Ne.symm h2), if_neg (Ne.symm h1)]; exact h.c3
  · simp only [if_neg (Ne.symm h2), if_neg (Ne.symm h1)]
    intro c c'
    obtain ⟨g, q1, q2⟩ := h.li c c'
    exact ⟨g, q1, fun j u hu => bkeep hb (q2 j u hu)⟩
  · simp only [if_neg (Ne.symm h2)]
    intro c
    obtain ⟨q1, q2, q3⟩ := h.post c
    exact ⟨own_keep q1 hb, own_keep q2 hb, q3⟩
  · intro d' hd
    by_cases c : d' = d
    · subst c; intro _; simp only [if_pos]; exact hv
    · simp only [if_neg c]; exact h.sv d' hd
/-- The new element's array. -/
theorem AppOp.build (h : AppOp w W0 e s sb sa v9 n n2 xs ys z simple val D σ W) {W' : World} {g : Nat} (hd : D sb = false) (hb : Below W.heap.size W W') (h0 : sb ≠ sa) (hs : sb ∉ simple)
    (hz : ∀ j u, z[j]? = some u → W'.cell? ((⟨g, 0, none⟩ : Addr).add j) = some u) :
    AppOp w W0 e s sb sa v9 n n2 xs ys z simple val (fun k => if k = sb then true else D k) (fun k => if k = sb then .slice (some ⟨g, 0, none⟩) 1 1 else σ k) W' := by
  have da : D sa = false := by
    cases c : D sa with
    | false => rfl
    | true => exact absurd (h.c3 c) (by simp [hd])
  refine ⟨bthen h.bel hb, ?_, ?_, ?_, ?_, ?_⟩
  · intro _; exact bthen (h.pre da) hb
  · intro _; simp
  · intro _ _; exact ⟨g, by simp, hz⟩
  · simp only [if_neg (Ne.symm h0), da]; intro c; cases c
  · intro d' hd'
    have c : d' ≠ sb := fun c => hs (c ▸ hd')
    simp only [if_neg c]; exact h.sv d' hd'
/-- The append. -/
theorem AppOp.app (h : AppOp w W0 e s sb sa v9 n n2 xs ys z simple val D σ W) {v8 v' : Value} {W' : World} (hd : D sa = false) (hb : D sb = true) (h0 : sb ≠ sa) (hs : sa ∉ simple)
    (h8 : W0.ownsRow w.heap.size e s v8 n xs) (h9 : W0.ownsRow w.heap.size e s v9 n2 ys) (ap : ∀ k, v8.ownBlock = some k → v9.ownBlock ≠ some k)
    (hown : W'.ownsRow w.heap.size e s v' (n + 1) (xs ++ z)) (hg : W.grownBy W' v8.ownBlock) (hat : v'.ownBlock = v8.ownBlock ∨ v'.ownBlock = some W.heap.size) :
    AppOp w W0 e s sb sa v9 n n2 xs ys z simple val (fun k => if k = sa then true else D k) (fun k => if k = sa then v' else σ k) W' := by
  have k8 := own_keep h8 (h.pre hd)
  have k9 := own_keep h9 (h.pre hd)
  have hge : ∀ k, v8.ownBlock = some k → w.heap.size ≤ k := own_ge k8
  have hlt9 : ∀ k, v9.ownBlock = some k → k < W.heap.size := fun k hk => (k9.lt k hk).2
  refine ⟨h.bel.grown hg h.bel.size hge, ?_, ?_, ?_, ?_, ?_⟩
  · intro c; simp at c
  · intro _; simp only [if_neg h0]; exact hb
  · intro c; simp at c
  · intro _
    simp only [if_pos]
    refine ⟨hown, k9.kept hg (own_apart ap), fun k hk => ?_⟩
    rcases hat with he | he
    · exact ap k (he ▸ hk)
    · intro c9
      have := hlt9 k c9
      rw [hk] at he
      cases he
      omega
  · intro d' hd'
    have c : d' ≠ sa := fun c => hs (c ▸ hd')
    simp only [if_neg c]; exact h.sv d' hd'
end
end Go.Proofs.YthfkfgjhgicfeaaGreatDoor
namespace Go.Proofs.YthfkfgjhgicfeaaGreatDoor
open Go Go.RowKit Go.Sort Go.BigFrame
set_option linter.unusedVariables false

theorem preL_len (rows : List QL) (pl k : Nat) : (preL rows pl k).length = k := by simp [preL]
theorem preL_snoc (rows : List QL) (pl k : Nat) : preL rows pl k ++ [twoAt (rows.getD k []) (atK rows pl (k + 1)) (halfA rows k)] = preL rows pl (k + 1) := by simp [preL, List.range_succ]
theorem seen_sm1 {j : Nat} (h : j + 1 ≤ 1000) : j + 1 ≤ maxLen := by unfold maxLen; omega
theorem seen_sm2 {j : Nat} (h : j + 1 ≤ 1000) : (j + 1) * 32 ≤ 140737488355328 := by omega
theorem quads_drop {W : World} {g o n : Nat} {qs : List Quad} (h : QuadsA W (some ⟨g, o, none⟩) (n + 1) qs) : QuadsA W (some ⟨g, o + 4, none⟩) n (qs.drop 1) := by
  obtain ⟨h1, h2, h3⟩ := h
  refine ⟨by rw [List.length_drop, h1]; rfl, Nat.le_trans (Nat.le_succ _) h2, fun k hk => ?_⟩
  obtain ⟨b, off, e, q⟩ := h3 (k + 1) (Nat.succ_lt_succ hk)
  cases e
  have e2 : (qs.drop 1).getD k zeroQ = qs.getD (k + 1) zeroQ := by simp [List.getD]
  rw [e2]
  refine ⟨g, o + 4, rfl, ?_⟩
  rw [show o + 4 + k * 4 = o + (k + 1) * 4 by omega]
  exact q
theorem seen_half0 {N : Nat} (h : N / 2 = 0) : (N : Int).tdiv 2 = 0 := by rw [Int.tdiv_eq_ediv_of_nonneg (by omega)]; omega
theorem seen_ne {a b g : Nat} (h : a ≤ b) (hg : g < a) : ¬ b = g := by omega
theorem seen_one (j : Nat) : (1 : Int) ≤ ((j + 1 : Nat) : Int) := by omega
theorem seen_pos (j : Nat) : (0 : Int) < ((j + 1 : Nat) : Int) := by omega
theorem quads_zero (W : World) (a : Option Addr) : QuadsA W a 0 [] := ⟨rfl, Nat.zero_le _, fun k hk => absurd hk (Nat.not_lt_zero k)⟩
def SnV (aO : Option Addr) (j : Nat) (cO : Nat) (b1 : Nat) (o1 : Nat) (N : Nat) (ck : Nat) (A : Nat) (H : Nat) (AH : Nat) (y0 : Int) (y1 : Int) (z0 : Int) (z1 : Int) (k : Nat) : Value :=
  match k with
  | 30 => .slice aO j cO
  | 31 => .slice (some ⟨b1, o1, none⟩) N ck
  | 32 => .int .i64 (A : Int)
  | 33 => .pointer (some ⟨b1, o1 + A * 2, none⟩)
  | 34 => .agg #[.int .u64 y0, .int .u64 y1]
  | 35 => .slice (some ⟨b1, o1, none⟩) N ck
  | 36 => .int .i64 (A : Int)
  | 37 => .int .i64 (H : Int)
  | 38 => .int .i64 (AH : Int)
  | 39 => .pointer (some ⟨b1, o1 + AH * 2, none⟩)
  | 40 => .agg #[.int .u64 z0, .int .u64 z1]
  | _ => .agg #[.int .u64 y0, .int .u64 y1, .int .u64 z0, .int .u64 z1]
def GSeenUp (w w1 : World) (rows : List QL) (pl n : Nat) (v at' i : Value) (W : World) : Prop :=
  ∃ j : Nat, j ≤ n ∧ i = .int .i64 (j : Int) ∧ at' = .int .i64 ((atK rows pl j : Nat) : Int) ∧ Below w.heap.size w W ∧ w1.heap.size ≤ W.heap.size ∧ MadeD w1 W v (preL rows pl j) ∧ ∀ i, i < j → halfA rows i ≠ 0
set_option maxRecDepth 100000 in
set_option maxHeartbeats 8000000 in
theorem gseen_at (a : Option Addr) (n cap : Nat) (rows : List QL) (pl : Nat) (w : World) (ht : TabQ w a n rows) (hn : n ≤ 1000) (hl : ∀ r ∈ rows, r.length ≤ 4294967296) (hpl : (pl : Int) ≤ 9223372036854775807) :
    Calls Tryz.prog 7 #[.slice a n cap, .int .i64 (pl : Int)] w (SeenPost w (opnL rows pl)) := by
  obtain ⟨i0, hi, hz0, hz1, hz2⟩ := info_parts infoD
  obtain rfl := ht.1
  have HT := Lib.hid ht
  have HL : Hid (∀ j, j < rows.length → (rows.getD j []).length ≤ 4294967296) := Lib.hid fun j hj => hl _ (by rw [show rows.getD j [] = rows[j] by simp [List.getD, hj]]; exact List.getElem_mem hj)
  have HPL := Lib.hid hpl
  obtain ⟨n, hne⟩ : ∃ n, rows.length = n := ⟨_, rfl⟩
  have HN := Lib.hid hne
  rw [hne] at hn HT HL ⊢
  clear ht hl hne hpl
  go_enter Tryz.func7, Tryz.ntmps7
  go_upto_region 1 with fail
  obtain ⟨g4, hg4⟩ : ∃ g, w.heap.size = g := ⟨_, rfl⟩
  have HG4 : Hid (w.heap.size ≤ g4) := Lib.hid (by omega)
  refine wp_gen (fun W => Below w.heap.size w W ∧ Quo W g4 zI zI zI zI) ⟨(Below.refl _ _).alloc (Nat.le_refl _) _, by subst hg4; simp [Quo, go_sem]⟩ ?_
  rintro w1 ⟨hB1, hq4⟩
  simp only [hg4]
  have HB1 := Lib.hid hB1; have HQ4 := Lib.hid hq4
  have hg4l := hq4.lt
  have HT1 := Lib.hid (HT.out.keep hB1)
  clear hB1 hq4 hg4
  go_upto_region 4 with fail
  go_loopw [6, 7, 14] (GSeenUp w w1 rows pl n) (fun _ _ i _ => n - (intOf i).toNat)
  case atStart => exact ⟨0, Nat.zero_le _, rfl, rfl, HB1.out, Nat.le_refl _, MadeD.start w1, fun i hi => absurd hi (Nat.not_lt_zero i)⟩
  case round =>
    obtain ⟨j, hj, rfl, rfl, hB, hsz, hM, hall⟩ := hrel
    by_cases hgo : j < n ∧ halfA rows j ≠ 0
    · obtain ⟨hlt, hhalf⟩ := hgo
      have hltI : (j : Int) < (n : Int) := by omega
      have hj0 : (0 : Int) ≤ (j : Int) := by omega
      have hj1 : j + 1 ≤ 1000 := by omega
      obtain ⟨b, off, rfl, ak, ck, hc1, hr1⟩ := HT1.out.2.2 j hlt
      have hc := bkeep hM.2 hc1
      obtain ⟨row, hrow⟩ : ∃ r, rows.getD j [] = r := ⟨_, rfl⟩
      have hln := HL.out j hlt
      rw [hrow] at hc hr1 hln
      obtain ⟨N, hN⟩ : ∃ N, row.length = N := ⟨_, rfl⟩
      have hHH : halfA rows j = N / 2 := by unfold halfA; rw [hrow, hN]
      obtain ⟨H, hH⟩ : ∃ H, N / 2 = H := ⟨_, rfl⟩
      rw [hH] at hHH
      rw [hN] at hc hr1
      have hz : H ≠ 0 := by rw [← hHH]; exact hhalf
      obtain ⟨A, hA⟩ : ∃ A, atK rows pl j % H = A := ⟨_, rfl⟩
      have hale := atK_le rows pl j
      have hkA : atK rows pl (j + 1) = A := by rw [atK, hHH]; exact hA
      obtain ⟨a0, ha0⟩ : ∃ A, atK rows pl j = A := ⟨_, rfl⟩
      rw [ha0] at hA hale
      have haI : ¬ (a0 : Int) < 0 := Int.not_lt.2 (Int.natCast_nonneg a0)
      have sn := seen_all (N := N) (a0 := a0) (by rw [← hN]; exact hln) hH hz hA
      obtain ⟨b1, o1, e1, y0c, y1c⟩ := hr1.2.2 A sn.n1
      obtain ⟨b2, o2, e2, z0c, z1c⟩ := hr1.2.2 (A + H) sn.n2
      rw [e1] at e2
      cases e2
      subst e1
      have hsnoc := preL_snoc rows pl j
      rw [hrow, hkA, hHH, show twoAt row A H = (row.getD A (0, 0), row.getD (A + H) (0, 0)) from rfl] at hsnoc
      have HALL : Hid (∀ i, i < j + 1 → halfA rows i ≠ 0) := Lib.hid fun i hi => by
        by_cases c : i = j
        · subst c; exact hhalf
        · exact hall i (by omega)
      have HNX := Lib.hid hkA
      rw [ha0]
      obtain ⟨ya, hya⟩ : ∃ q, row.getD A (0, 0) = q := ⟨_, rfl⟩
      obtain ⟨za, hza⟩ : ∃ q, row.getD (A + H) (0, 0) = q := ⟨_, rfl⟩
      rw [hya] at y0c y1c hsnoc
      rw [hza] at z0c z1c hsnoc
      obtain ⟨y0, y1⟩ := ya
      obtain ⟨z0, z1⟩ := za
      dsimp only at y0c y1c z0c z1c
      obtain ⟨s1, s2, s2b, s2c, s3, s4, s5, s6, s7, s8, s9, _, _⟩ := sn
      obtain ⟨AH, hAH⟩ : ∃ x, A + H = x := ⟨_, rfl⟩
      rw [hAH] at s3 s4 s7 s9 z0c z1c
      have Y := Lib.hid (And.intro y0c y1c); have Z := Lib.hid (And.intro z0c z1c)
      obtain ⟨aO, cO, hv⟩ := own_form hM.1
      rw [preL_len] at hv
      subst hv
      have hM1 := hM.1
      rw [preL_len] at hM1
      have HSTEP : Hid (∀ W v', W.ownsRow w1.heap.size 32 4 v' (j + 1) (flatD (preL rows pl j) ++ quadL ((y0, y1), (z0, z1))) → Below w1.heap.size w1 W → MadeD w1 W v' (preL rows pl (j + 1))) := Lib.hid fun W v' h hb => ⟨by rw [preL_len, ← hsnoc, flatD_app, flatD_one]; exact h, hb⟩
      obtain ⟨FL, hFL⟩ : ∃ q, flatD (preL rows pl j) = q := ⟨_, rfl⟩
      rw [hFL] at hM1 HSTEP
      have HM := Lib.hid (And.intro hM1 hM.2)
      have HB := Lib.hid hB; have HSZ := Lib.hid hsz; have HJ := Lib.hid hlt
      have e0 : ((H : Int) == 0) = false := beq_eq_false_iff_ne.2 s5
      have HE0 := Lib.hid e0
      have HS3 := Lib.hid (And.intro s3 (And.intro s4 (And.intro s6 (And.intro s7 (And.intro s8 s9)))))
      have HS2 := Lib.hid s2; have HS5 := Lib.hid s5; have HSW := Lib.hid s2c; have HAI := Lib.hid haI
      have HG4L := Lib.hid hg4l; have HJ1 := Lib.hid hj1; have HNN := Lib.hid hn
      clear hM hM1 hB hsz hFL hsnoc hN hln hya hza hAH hA ha0 hale hkA hHH hH hrow hr1 hc1 y0c y1c z0c z1c hall hhalf hz hlt hj s2 s2b s2c s3 s4 s5 s6 s7 s8 s9 e0 hg4l hj1 hn haI
      go_upto_region 7 with fail
      have hw := HSW.out
      simp only [hw]
      have s5 := HS5.out; have haI := HAI.out
      clear hw s1 hc hltI hj0
      go_upto_region 8 with fail
      have s2 := HS2.out
      clear haI
      go_upto_region 9 with fail
      have e0 := HE0.out
      try simp only [e0]
      clear s5 e0 s2
      obtain ⟨s3, s4, s6, s7, s8, s9⟩ := HS3.out
      have hj1 := HJ1.out
      refine wp_lay [(30, []), (31, []), (32, []), (33, [31, 32]), (34, [33]), (35, []), (36, []), (37, []), (38, [36, 37]), (39, [35, 38]), (40, [39]), (41, [34, 40]), (42, [41]), (43, [30, 42])]
        (AppOp w1 wr 32 4 42 43 (.slice none 0 0) j 0 FL [] [.int .u64 y0, .int .u64 y1, .int .u64 z0, .int .u64 z1] [30, 31, 32, 33, 34, 35, 36, 37, 38, 39, 40, 41] (SnV aO j cO b1 o1 N ck A H AH y0 y1 z0 z1)) (by kernel_rfl) (by kernel_rfl) (fun σ => AppOp.start (HM.out.2).drew (Below.refl _ _).drew σ) ?_ ?_
      · refine opsw_cons ?_ (opsw_cons ?_ (opsw_cons ?_ (opsw_cons ?_ (opsw_cons ?_ (opsw_cons ?_ (opsw_cons ?_ (opsw_cons ?_ (opsw_cons ?_ (opsw_cons ?_ (opsw_cons ?_ (opsw_cons ?_ (opsw_cons ?_ (opsw_cons ?_ opsw_nil)))))))))))))
        all_goals
          refine OpRunsW.any ?_
          intro Q0 D1 σ W K hW hd hn hK
          simp only [fill, List.map, Act.put, List.setIfInBounds_toArray, List.set_cons_zero, List.set_cons_succ] at hK ⊢
        · have HW := Lib.hid hW
          clear hW
          go_simp
          exact hK _ _ (HW.out.next (Below.refl _ _) (by decide) rfl)
        · have HW := Lib.hid hW
          clear hW
          go_simp
          exact hK _ _ (HW.out.next (Below.refl _ _) (by decide) rfl)
        · have HW := Lib.hid hW
          clear hW
          go_simp
          exact hK _ _ (HW.out.next (Below.refl _ _) (by decide) rfl)
        · have h31 : σ 31 = .slice (some ⟨b1, o1, none⟩) N ck := hW.sv 31 (by decide) (hn 31 (by decide))
          have h32 : σ 32 = .int .i64 (A : Int) := hW.sv 32 (by decide) (hn 32 (by decide))
          simp only [h31, h32] at hK
          have HW := Lib.hid hW
          clear hW
          go_simp
          exact hK _ _ (HW.out.next (Below.refl _ _) (by decide) rfl)
        · have h33 : σ 33 = .pointer (some ⟨b1, o1 + A * 2, none⟩) := hW.sv 33 (by decide) (hn 33 (by decide))
          simp only [h33] at hK
          have c0 := bkeep hW.bel Y.out.1
          have c1 := bkeep hW.bel Y.out.2
          have HW := Lib.hid hW
          clear hW
          go_simp
          exact hK _ _ (HW.out.next (Below.refl _ _) (by decide) rfl)
        · have HW := Lib.hid hW
          clear hW
          go_simp
          exact hK _ _ (HW.out.next (Below.refl _ _) (by decide) rfl)
        · have HW := Lib.hid hW
          clear hW
          go_simp
          exact hK _ _ (HW.out.next (Below.refl _ _) (by decide) rfl)
        · have HW := Lib.hid hW
          clear hW
          go_simp
          exact hK _ _ (HW.out.next (Below.refl _ _) (by decide) rfl)
        · have h36 : σ 36 = .int .i64 (A : Int) := hW.sv 36 (by decide) (hn 36 (by decide))
          have h37 : σ 37 = .int .i64 (H : Int) := hW.sv 37 (by decide) (hn 37 (by decide))
          simp only [h36, h37] at hK
          have HW := Lib.hid hW
          clear hW
          go_simp
          exact hK _ _ (HW.out.next (Below.refl _ _) (by decide) rfl)
        · have h35 : σ 35 = .slice (some ⟨b1, o1, none⟩) N ck := hW.sv 35 (by decide) (hn 35 (by decide))
          have h38 : σ 38 = .int .i64 (AH : Int) := hW.sv 38 (by decide) (hn 38 (by decide))
          simp only [h35, h38] at hK
          have HW := Lib.hid hW
          clear hW
          go_simp
          exact hK _ _ (HW.out.next (Below.refl _ _) (by decide) rfl)
        · have h39 : σ 39 = .pointer (some ⟨b1, o1 + AH * 2, none⟩) := hW.sv 39 (by decide) (hn 39 (by decide))
          simp only [h39] at hK
          have c0 := bkeep hW.bel Z.out.1
          have c1 := bkeep hW.bel Z.out.2
          have HW := Lib.hid hW
          clear hW
          go_simp
          exact hK _ _ (HW.out.next (Below.refl _ _) (by decide) rfl)
        · have h34 : σ 34 = .agg #[.int .u64 y0, .int .u64 y1] := hW.sv 34 (by decide) (hn 34 (by decide))
          have h40 : σ 40 = .agg #[.int .u64 z0, .int .u64 z1] := hW.sv 40 (by decide) (hn 40 (by decide))
          simp only [h34, h40] at hK
          have HW := Lib.hid hW
          clear hW
          go_simp
          exact hK _ _ (HW.out.next (Below.refl _ _) (by decide) rfl)
        · have h41 : σ 41 = .agg #[.int .u64 y0, .int .u64 y1, .int .u64 z0, .int .u64 z1] := hW.sv 41 (by decide) (hn 41 (by decide))
          simp only [h41] at hK
          have HW := Lib.hid hW
          clear hW
          go_simp
          exact hK _ _ (HW.out.build hd ((Below.refl _ _).alloc (Nat.le_refl _) _) (by decide) (by decide) (quad_src (by simp [go_sem]) (by simp [go_sem]) (by simp [go_sem]) (by simp [go_sem])))
        · have h30 : σ 30 = .slice aO j cO := hW.sv 30 (by decide) (hn 30 (by decide))
          obtain ⟨g, hg, hz⟩ := hW.li hd (hn 42 (by decide))
          rw [if_pos (by rfl)]
          refine wp_append_at3 (.tmp 30) (.tmp 42) 33 (by rfl) w1.heap.size 32 i0 (.agg #[.int .u64 0, .int .u64 0, .int .u64 0, .int .u64 0]) 4 32 Tryz.underlying33 hi hz0 hz1 hz2 rfl (by decide) (.slice aO j cO) j FL (by exact h30) (own_keep HM.out.1 (hW.pre hd)) (some ⟨g, 0, none⟩) 1 1 [.int .u64 y0, .int .u64 y1, .int .u64 z0, .int .u64 z1] (by exact hg) rfl (fun h => by cases h) (fun h => by cases h) (by rintro ad e; cases e; exact hz) (by intro u hu; simp at hu; rcases hu with rfl | rfl | rfl | rfl <;> rfl) (seen_sm1 hj1) (seen_sm2 hj1) hW.bel.size ?_
          intro v' w' q1 q2 q3
          exact hK _ _ (hW.app hd (hn 42 (by decide)) (by decide) (by decide) HM.out.1 (World.ownsRow_nil _ _ _ _) (fun k _ h => by cases h) q1 q2 q3)
      · intro D1 σ W hW hD
        have h43 := hW.post (hD 43 (by decide))
        have hbel := hW.bel
        have HR := Lib.hid (HSTEP.out W _ h43.1 hbel)
        have HBW := Lib.hid (bthen HB1.out hbel)
        have HS2 := Lib.hid hbel.size
        clear hW hD h43 hbel HM HB HSZ HSTEP Y Z s3 s4 s6 s7 s8 s9
        simp only [fill, List.map, Act.put, List.setIfInBounds_toArray, List.set_cons_zero, List.set_cons_succ, List.length_cons, List.length_nil, List.drop_succ_cons, List.drop_zero, Nat.reduceAdd]
        go_wp2_with fail
        go_roundw
        case rel => exact ⟨j + 1, HJ.out, by go_num, by rw [HNX.out], HBW.out, HS2.out, HR.out, HALL.out⟩
        case measure =>
          have := HJ.out
          simp [intOf]; omega
    · have hend : j = rows.length ∨ halfA rows j = 0 := by
        rw [HN.out]
        by_cases c : j = n
        · exact Or.inl c
        · exact Or.inr (Classical.byContradiction fun h => hgo ⟨by omega, h⟩)
      have hE := opn_end (rows := rows) (pl := pl) (k := j) (by rw [HN.out]; exact hj) hall hend
      have HE := Lib.hid hE
      have hq4 := HQ4.out.keep hM.2
      have HM := Lib.hid hM
      have hown := hM.1
      rw [preL_len] at hown
      obtain ⟨aO, cO, rfl⟩ := own_form hown
      have HB := Lib.hid hB; have HOW := Lib.hid hown
      have hexit : j = n ∨ (j < n ∧ halfA rows j = 0) := by
        by_cases c : j = n
        · exact Or.inl c
        · exact Or.inr ⟨by omega, Classical.byContradiction fun h => hgo ⟨by omega, h⟩⟩
      have HQ := Lib.hid hq4
      have HAL := Lib.hid hg4l
      clear hE hend hM hown hB hall hgo hsz hq4
      rcases hexit with hA | hB2
      · obtain rfl : j = n := hA
        have hltI : ¬ (j : Int) < (j : Int) := by omega
        by_cases hz : j = 0
        · subst hz
          obtain ⟨⟨v0, v1, v2, v3⟩, v4, v5, v6, v7⟩ := HQ.out
          go_upto_region 12 with fail
          clear hltI
          go_wp2_with fail
          exact bodyPost_ret (v := .tuple #[quadV zeroQ, .slice none 0 0]) (by simp [results, Tryz.results7, go_sem, v0, v1, v2, v3]) rfl (by rw [HE.out]; exact ⟨(((HB.out.setCell HG4.out _).setCell HG4.out _).setCell HG4.out _).setCell HG4.out _, none, 0, rfl, quads_zero _ _⟩)
        · obtain ⟨aQ, cQ, eQ, hQA⟩ := own_quads' HOW.out (preL_len rows pl j)
          cases eQ
          obtain ⟨bq, oq, rfl, q0, q1, q2, q3⟩ := hQA.2.2 0 (by omega)
          simp only [Nat.zero_mul, Nat.add_zero] at q0 q1 q2 q3
          obtain ⟨F0, hF0⟩ : ∃ q, (preL rows pl j).getD 0 zeroQ = q := ⟨_, rfl⟩
          rw [hF0] at q0 q1 q2 q3
          have HF0 := Lib.hid hF0
          obtain ⟨⟨f0, f1⟩, f2, f3⟩ := F0
          simp only at q0 q1 q2 q3
          have hbq := own_ge HOW.out bq rfl
          have hbl : bq < wr.heap.size := World.block_lt_of_cell? _ _ q0
          have n1 : ¬ bq = g4 := seen_ne hbq HAL.out
          have n2 : ¬ g4 = bq := fun e => n1 e.symm
          have HBQ := Lib.hid hbq
          have hjI : ((j : Int) == 0) = false := beq_eq_false_iff_ne.2 (fun e => hz (Int.ofNat.inj e))
          obtain ⟨⟨v0, v1, v2, v3⟩, v4, v5, v6, v7⟩ := HQ.out
          clear hQA hbq hF0
          obtain ⟨J1, rfl⟩ : ∃ J1, j = J1 + 1 := ⟨j - 1, by omega⟩
          have h1I : (1 : Int) ≤ ((J1 + 1 : Nat) : Int) := seen_one J1
          have h0I : (0 : Int) < ((J1 + 1 : Nat) : Int) := seen_pos J1
          go_upto_region 13 with fail
          clear hltI
          have HPOST : Hid (∀ (aa : Option Addr) (cc : Nat) (W : World), Below w.heap.size w W → QuadsA W aa J1 ((preL rows pl (J1 + 1)).drop 1) → SeenPost w (opnL rows pl) (.returned (.tuple #[quadV ((f0, f1), (f2, f3)), .slice aa J1 cc])) W) := Lib.hid fun aa cc W h1 h2 => by
            rw [HE.out]
            refine ⟨h1, aa, cc, ?_, ?_⟩
            · rw [HF0.out, List.length_drop, preL_len]; rfl
            · rw [List.length_drop, preL_len]; exact h2
          have HSET := Lib.hid (own_set (o := 3) (x := .int .u64 f3) (own_set (o := 2) (x := .int .u64 f2) (own_set (o := 1) (x := .int .u64 f1) (own_set (o := 0) (x := .int .u64 f0) HOW.out HAL.out) HAL.out) HAL.out) HAL.out)
          have HBF : Hid (Below w.heap.size w ((((wr.setCell ⟨g4, 0, none⟩ (.int .u64 f0)).setCell ⟨g4, 1, none⟩ (.int .u64 f1)).setCell ⟨g4, 2, none⟩ (.int .u64 f2)).setCell ⟨g4, 3, none⟩ (.int .u64 f3))) := Lib.hid ((((HB.out.setCell HG4.out _).setCell HG4.out _).setCell HG4.out _).setCell HG4.out _)
          have HCAP : Hid (J1 + 1 ≤ cO) := Lib.hid (by
            rcases HOW.out.2 with ⟨hh, _⟩ | ⟨gg, cap, cur, hh, _, _, hn2, _⟩
            · cases hh
            · cases hh; exact hn2)
          by_cases hc1 : cO = 1
          · subst hc1
            go_region
            go_wp2_with fail
            obtain rfl : J1 = 0 := by have := HCAP.out; omega
            exact bodyPost_ret (v := .tuple #[quadV ((f0, f1), (f2, f3)), .slice (some ⟨bq, oq, none⟩) 0 0]) (by simp [results, Tryz.results7, go_sem, v0, v1, v2, v3]) rfl (HPOST.out _ _ _ HBF.out.drew (by
              have h0 : (preL rows pl (0 + 1)).drop 1 = [] := List.drop_of_length_le (by rw [preL_len]; exact Nat.le_refl _)
              rw [h0]; exact quads_zero _ _))
          · go_region
            go_wp2_with fail
            exact bodyPost_ret (v := .tuple #[quadV ((f0, f1), (f2, f3)), .slice (some ⟨bq, oq + 4, none⟩) J1 (cO - 1)]) (by simp [results, Tryz.results7, go_sem, v0, v1, v2, v3]) rfl (HPOST.out _ _ _ HBF.out.drew (by
              obtain ⟨a5, c5, e5, h5⟩ := own_quads' HSET.out (preL_len _ _ _)
              cases e5
              exact quads_drop h5))
      · obtain ⟨hlt, hhalf⟩ := hB2
        have hltI : (j : Int) < (n : Int) := Int.ofNat_lt.2 hlt
        have hj0 : (0 : Int) ≤ (j : Int) := Int.natCast_nonneg j
        obtain ⟨b, off, rfl, ak, ck, hc, hr1⟩ := (HT1.out.keep HM.out.2).2.2 j hlt
        obtain ⟨N, hN⟩ : ∃ N, (rows.getD j []).length = N := ⟨_, rfl⟩
        have s1 : (N : Int).tdiv 2 = 0 := seen_half0 (by rw [← hN]; exact hhalf)
        rw [hN] at hc
        clear hr1 hN hhalf hlt
        by_cases hz : j = 0
        · subst hz
          rw [Nat.add_zero] at hc
          obtain ⟨⟨v0, v1, v2, v3⟩, v4, v5, v6, v7⟩ := HQ.out
          go_upto_region 12 with fail
          clear hltI hj0 hc s1
          go_wp2_with fail
          exact bodyPost_ret (v := .tuple #[quadV zeroQ, .slice none 0 0]) (by simp [results, Tryz.results7, go_sem, v0, v1, v2, v3]) rfl (by rw [HE.out]; exact ⟨(((HB.out.setCell HG4.out _).setCell HG4.out _).setCell HG4.out _).setCell HG4.out _, none, 0, rfl, quads_zero _ _⟩)
        · obtain ⟨aQ, cQ, eQ, hQA⟩ := own_quads' HOW.out (preL_len rows pl j)
          cases eQ
          obtain ⟨bq, oq, rfl, q0, q1, q2, q3⟩ := hQA.2.2 0 (by omega)
          simp only [Nat.zero_mul, Nat.add_zero] at q0 q1 q2 q3
          obtain ⟨F0, hF0⟩ : ∃ q, (preL rows pl j).getD 0 zeroQ = q := ⟨_, rfl⟩
          rw [hF0] at q0 q1 q2 q3
          have HF0 := Lib.hid hF0
          obtain ⟨⟨f0, f1⟩, f2, f3⟩ := F0
          simp only at q0 q1 q2 q3
          have hbq := own_ge HOW.out bq rfl
          have hbl : bq < wr.heap.size := World.block_lt_of_cell? _ _ q0
          have n1 : ¬ bq = g4 := seen_ne hbq HAL.out
          have n2 : ¬ g4 = bq := fun e => n1 e.symm
          have HBQ := Lib.hid hbq
          have hjI : ((j : Int) == 0) = false := beq_eq_false_iff_ne.2 (fun e => hz (Int.ofNat.inj e))
          obtain ⟨⟨v0, v1, v2, v3⟩, v4, v5, v6, v7⟩ := HQ.out
          clear hQA hbq hF0
          obtain ⟨J1, rfl⟩ : ∃ J1, j = J1 + 1 := ⟨j - 1, by omega⟩
          have h1I : (1 : Int) ≤ ((J1 + 1 : Nat) : Int) := seen_one J1
          have h0I : (0 : Int) < ((J1 + 1 : Nat) : Int) := seen_pos J1
          go_upto_region 13 with fail
          clear hltI hj0 hc s1
          have HPOST : Hid (∀ (aa : Option Addr) (cc : Nat) (W : World), Below w.heap.size w W → QuadsA W aa J1 ((preL rows pl (J1 + 1)).drop 1) → SeenPost w (opnL rows pl) (.returned (.tuple #[quadV ((f0, f1), (f2, f3)), .slice aa J1 cc])) W) := Lib.hid fun aa cc W h1 h2 => by
            rw [HE.out]
            refine ⟨h1, aa, cc, ?_, ?_⟩
            · rw [HF0.out, List.length_drop, preL_len]; rfl
            · rw [List.length_drop, preL_len]; exact h2
          have HSET := Lib.hid (own_set (o := 3) (x := .int .u64 f3) (own_set (o := 2) (x := .int .u64 f2) (own_set (o := 1) (x := .int .u64 f1) (own_set (o := 0) (x := .int .u64 f0) HOW.out HAL.out) HAL.out) HAL.out) HAL.out)
          have HBF : Hid (Below w.heap.size w ((((wr.setCell ⟨g4, 0, none⟩ (.int .u64 f0)).setCell ⟨g4, 1, none⟩ (.int .u64 f1)).setCell ⟨g4, 2, none⟩ (.int .u64 f2)).setCell ⟨g4, 3, none⟩ (.int .u64 f3))) := Lib.hid ((((HB.out.setCell HG4.out _).setCell HG4.out _).setCell HG4.out _).setCell HG4.out _)
          have HCAP : Hid (J1 + 1 ≤ cO) := Lib.hid (by
            rcases HOW.out.2 with ⟨hh, _⟩ | ⟨gg, cap, cur, hh, _, _, hn2, _⟩
            · cases hh
            · cases hh; exact hn2)
          by_cases hc1 : cO = 1
          · subst hc1
            go_region
            go_wp2_with fail
            obtain rfl : J1 = 0 := by have := HCAP.out; omega
            exact bodyPost_ret (v := .tuple #[quadV ((f0, f1), (f2, f3)), .slice (some ⟨bq, oq, none⟩) 0 0]) (by simp [results, Tryz.results7, go_sem, v0, v1, v2, v3]) rfl (HPOST.out _ _ _ HBF.out.drew (by
              have h0 : (preL rows pl (0 + 1)).drop 1 = [] := List.drop_of_length_le (by rw [preL_len]; exact Nat.le_refl _)
              rw [h0]; exact quads_zero _ _))
          · go_region
            go_wp2_with fail
            exact bodyPost_ret (v := .tuple #[quadV ((f0, f1), (f2, f3)), .slice (some ⟨bq, oq + 4, none⟩) J1 (cO - 1)]) (by simp [results, Tryz.results7, go_sem, v0, v1, v2, v3]) rfl (HPOST.out _ _ _ HBF.out.drew (by
              obtain ⟨a5, c5, e5, h5⟩ := own_quads' HSET.out (preL_len _ _ _)
              cases e5
              exact quads_drop h5))
set_option maxRecDepth 100000 in
set_option maxHeartbeats 8000000 in
/-- A place below 0. -/
theorem gseen_no (a : Option Addr) (n cap : Nat) (rows : List QL) (pl : Int) (w : World) (ht : TabQ w a n rows) (hl : ∀ r ∈ rows, r.length ≤ 4294967296) (hpl : pl < 0) :
    Calls Tryz.prog 7 #[.slice a n cap, .int .i64 pl] w (SeenPost w []) := by
  have HT := Lib.hid ht; have HL := Lib.hid hl
  have hn0 := ht.1
  clear ht hl
  go_enter Tryz.func7, Tryz.ntmps7
  go_upto_region 1 with fail
  obtain ⟨g4, hg4⟩ : ∃ g, w.heap.size = g := ⟨_, rfl⟩
  have HGE : Hid (w.heap.size ≤ g4) := Lib.hid (by omega)
  refine wp_gen (fun W => Below w.heap.size w W ∧ Quo W g4 zI zI zI zI) ⟨(Below.refl _ _).alloc (Nat.le_refl _) _, by subst hg4; simp [Quo, go_sem]⟩ ?_
  rintro w1 ⟨hB1, hq4⟩
  simp only [hg4]
  have HB1 := Lib.hid hB1; have HQ4 := Lib.hid hq4
  clear hB1 hq4 hg4
  go_upto_region 4 with fail
  go_loopw [6, 7, 14] (fun v at' i W => v = .slice none 0 0 ∧ at' = .int .i64 pl ∧ i = .int .i64 0 ∧ Below w.heap.size w W ∧ Quo W g4 zI zI zI zI) (fun _ _ _ _ => 0)
  case atStart => exact ⟨rfl, rfl, rfl, HB1.out, HQ4.out⟩
  case round =>
    clear HB1 HQ4
    obtain ⟨rfl, rfl, rfl, hB, hq4⟩ := hrel
    have HB := Lib.hid hB
    have FIN : Hid (∀ W, Below w.heap.size w W → SeenPost w [] (.returned (.tuple #[quadV zeroQ, .slice none 0 0])) W) := Lib.hid fun W h => ⟨h, none, 0, rfl, quads_zero W _⟩
    by_cases hlt : 0 < n
    · have hltI : (0 : Int) < (n : Int) := by omega
      obtain ⟨b, off, rfl, ak, ck, hc, hr⟩ := (HT.out.keep hB).2.2 0 hlt
      obtain ⟨N, hN⟩ : ∃ N, (rows.getD 0 []).length = N := ⟨_, rfl⟩
      have hN32 : N ≤ 4294967296 := by
        rw [← hN]
        exact HL.out _ (by rw [show rows.getD 0 [] = rows[0]'(by omega) by simp [List.getD, show 0 < rows.length by omega]]; exact List.getElem_mem _)
      rw [hN] at hc
      obtain ⟨H, hH⟩ : ∃ H, N / 2 = H := ⟨_, rfl⟩
      have hq : (N : Int).tdiv 2 = (H : Int) := by rw [Int.tdiv_eq_ediv_of_nonneg (by omega)]; omega
      have hqw : wrap64 (H : Int) = (H : Int) := IntWalk.wrap64_in _ (by omega)
      obtain ⟨⟨v0, v1, v2, v3⟩, v4, v5, v6, v7⟩ := hq4
      rw [Nat.add_zero] at hc
      clear hB hr hN hH
      by_cases hz : (H : Int) = 0
      all_goals
        go_wp2_with fail
        exact bodyPost_ret (v := .tuple #[quadV zeroQ, .slice none 0 0]) (by simp [results, Tryz.results7, go_sem, v0, v1, v2, v3]) rfl (FIN.out _ ((((HB.out.setCell HGE.out _).setCell HGE.out _).setCell HGE.out _).setCell HGE.out _))
    · have hltI : ¬ (0 : Int) < (n : Int) := by omega
      obtain ⟨⟨v0, v1, v2, v3⟩, v4, v5, v6, v7⟩ := hq4
      clear hB hlt
      go_wp2_with fail
      exact bodyPost_ret (v := .tuple #[quadV zeroQ, .slice none 0 0]) (by simp [results, Tryz.results7, go_sem, v0, v1, v2, v3]) rfl (FIN.out _ ((((HB.out.setCell HGE.out _).setCell HGE.out _).setCell HGE.out _).setCell HGE.out _))
theorem gseen_is (a : Option Addr) (n cap : Nat) (rows : List QL) (pl : Int) (w : World) (ht : TabQ w a n rows) (hn : n ≤ 1000) (hl : ∀ r ∈ rows, r.length ≤ 4294967296) (hpl : I64 pl) :
    Calls Tryz.prog 7 #[.slice a n cap, .int .i64 pl] w (SeenPost w (opnV rows pl)) := by
  by_cases h : pl < 0
  · rw [show opnV rows pl = [] by unfold opnV; rw [if_pos h]]
    exact gseen_no a n cap rows pl w ht hl h
  · obtain ⟨PL, rfl⟩ := Int.eq_ofNat_of_zero_le (show 0 ≤ pl by omega)
    rw [show opnV rows (PL : Int) = opnL rows PL by unfold opnV; rw [if_neg h, Int.toNat_natCast]]
    exact gseen_at a n cap rows PL w ht hn hl (by have := hpl.2; omega)
end Go.Proofs.YthfkfgjhgicfeaaGreatDoor
namespace Go.Proofs.YthfkfgjhgicfeaaGreatDoor
open Go Go.RowKit Go.Sort Go.BigFrame
set_option linter.unusedVariables false

theorem opnL_same : ∀ (rows : List QL) (a b : Nat), (opnL rows a).length = (opnL rows b).length
  | [], _, _ => rfl
  | w :: r, a, b => by
    rw [opnL, opnL]
    split
    · rfl
    · rw [List.length_cons, List.length_cons, opnL_same r]
theorem opnR_same (rows : List QL) (i : Nat) : (opnR rows (i : Int)).length = (opnR rows 0).length := by
  unfold opnR opnV
  rw [if_neg (by omega), if_neg (by decide), List.length_drop, List.length_drop, opnL_same rows _ (Int.toNat 0)]
theorem right_zero {k bl fo : Int} {n i ln fn : Nat} (hi : i < 2 ^ (k + bl - 1).toNat) : rightJ k bl fo n (i : Int) ln fn ↔ rightJ k bl fo n 0 ln fn := by
  have hp : 0 < 2 ^ (k + bl - 1).toNat := Nat.two_pow_pos _
  generalize hX : 2 ^ (k + bl - 1).toNat = X at *
  unfold rightJ
  rw [hX]
  constructor
  · rintro ⟨h1, h2, h3, h4, h5⟩; exact ⟨h1, h2, by omega, by omega, h5⟩
  · rintro ⟨h1, h2, h3, h4, h5⟩; exact ⟨h1, h2, by omega, by omega, h5⟩
theorem accepts_none {k bl fo : Int} {bys : QL} {rows : List QL} {fin : QL} (h : ¬ rightJ k bl fo bys.length 0 (opnR rows 0).length fin.length) : acceptsV k bl fo bys rows fin = 0 := by
  unfold acceptsV
  refine many_none fun i hi => ?_
  unfold judgeB
  rw [if_neg fun hr => h ((right_zero hi).1 (by rw [opnR_same] at hr; exact hr))]
  decide
set_option maxRecDepth 100000 in
set_option maxHeartbeats 8000000 in
theorem gaccepts_is (k bl fo qu gr : Int) (a : Option Addr) (n c : Nat) (bys : QL) (ta : Option Addr) (tn tc : Nat) (rows : List QL) (fa : Option Addr) (fn fc : Nat) (fin : QL) (w : World) (hk : 0 ≤ k ∧ k ≤ 10) (hb : 1 ≤ bl ∧ bl ≤ 4) (hby : QRowA w a n bys) (hbu : UsR bys) (ht : TabQ w ta tn rows) (htu : UsT rows) (htn : tn ≤ 1000) (htl : ∀ r ∈ rows, r.length ≤ 4294967296) (hf : QRowA w fa fn fin) (hfu : UsR fin) :
    Calls Tryz.prog 12 #[.int .i64 k, .agg #[.int .i64 bl, .int .i64 fo, .int .i64 qu, .int .i64 gr], .slice a n c, .slice ta tn tc, .slice fa fn fc] w (IntPost w (acceptsV k bl fo bys rows fin)) := by
  obtain ⟨K, rfl⟩ := Int.eq_ofNat_of_zero_le hk.1
  obtain ⟨B, rfl⟩ := Int.eq_ofNat_of_zero_le (show 0 ≤ bl by omega)
  have HBY := Lib.hid hby; have HBU := Lib.hid hbu; have HT := Lib.hid ht; have HTU := Lib.hid htu; have HTN := Lib.hid htn; have HTL := Lib.hid htl; have HF := Lib.hid hf; have HFU := Lib.hid hfu
  obtain ⟨M, hM⟩ : ∃ M, K + B - 1 = M := ⟨_, rfl⟩
  have hM13 : M ≤ 13 := by omega
  obtain ⟨g1, g1'⟩ := w_add K B (by omega) (by omega)
  have g2 : IntKind.i64.wrap (((K + B : Nat) : Int) - 1) = (M : Int) := by rw [IntWalk.i64_in _ (by omega)]; omega
  have g3 : wrap64 (((K + B : Nat) : Int) - 1) = (M : Int) := by rw [IntWalk.wrap64_in _ (by omega)]; omega
  have g5 := pw_wrap M (by omega)
  have hM40 : M ≤ 40 := by omega
  have hX := pow13 hM13
  have HNO : Hid (¬ rightJ (K : Int) (B : Int) fo n 0 (opnR rows 0).length fn → acceptsV (K : Int) (B : Int) fo bys rows fin = 0) := Lib.hid fun h => accepts_none (by rw [hby.1, hf.1]; exact h)
  have hend : acceptsV (K : Int) (B : Int) fo bys rows fin = many (fun i => judgeB (K : Int) (B : Int) fo bys (i : Int) (opnF rows (i : Int)) (opnR rows (i : Int)) fin) (2 ^ M) := by
    unfold acceptsV
    rw [show ((K : Int) + (B : Int) - 1).toNat = M by omega]
  have HEND := Lib.hid hend
  obtain ⟨AV, hAV⟩ : ∃ q, acceptsV (K : Int) (B : Int) fo bys rows fin = q := ⟨_, rfl⟩
  rw [hAV] at HNO HEND ⊢
  obtain ⟨X, hXe⟩ : ∃ X, 2 ^ M = X := ⟨_, rfl⟩
  rw [hXe] at g5 hX HEND
  obtain ⟨p, hp⟩ : ∃ p : Nat → Bool, (fun i : Nat => judgeB (K : Int) (B : Int) fo bys (i : Int) (opnF rows (i : Int)) (opnR rows (i : Int)) fin) = p := ⟨_, rfl⟩
  have HP : Hid (∀ i : Nat, judgeB (K : Int) (B : Int) fo bys (i : Int) (opnF rows (i : Int)) (opnR rows (i : Int)) fin = p i) := Lib.hid fun i => by rw [← hp]
  rw [hp] at HEND
  have s0 := fun W (h : Below w.heap.size w W) => gseen_is ta tn tc rows 0 W (ht.keep h) htn htl (by constructor <;> decide)
  unfold SeenPost at s0
  rw [show (opnV rows 0).drop 1 = opnR rows 0 from rfl] at s0
  obtain ⟨Q0, hQ0⟩ : ∃ q, (opnV rows 0).getD 0 zeroQ = q := ⟨_, rfl⟩
  rw [hQ0] at s0
  obtain ⟨R0, hR0⟩ : ∃ q, opnR rows 0 = q := ⟨_, rfl⟩
  rw [hR0] at s0 HNO
  obtain ⟨RL0, hRL0⟩ : ∃ q, R0.length = q := ⟨_, rfl⟩
  rw [hRL0] at s0 HNO
  obtain ⟨rb, hrb⟩ : ∃ b, decide (rightJ (K : Int) (B : Int) fo n 0 RL0 fn) = b := ⟨_, rfl⟩
  have k1 := fun la lc W => jright_is (K : Int) (B : Int) fo qu gr a n c 0 la RL0 lc fa fn fc rb W hrb
  obtain ⟨S, hS⟩ : ∃ S, K + B = S := ⟨_, rfl⟩
  rw [hS] at g1 g1' g2 g3
  have HRB := Lib.hid hrb
  obtain ⟨⟨q0, q1⟩, q2, q3⟩ := Q0
  clear hS hby hbu ht htu htn htl hf hfu hk hb hM hend hXe hp hAV hQ0 hR0 hRL0 hrb
  go_enter Tryz.func12, Tryz.ntmps12
  go_upto_region 1 with fail
  obtain ⟨g, hg⟩ : ∃ g, w.heap.size = g := ⟨_, rfl⟩
  refine wp_gen (fun W => Below w.heap.size w W ∧ RjBox W g (B : Int) fo qu gr) ⟨(Below.refl _ _).alloc (Nat.le_refl _) _, by subst hg; simp [RjBox, go_sem]⟩ ?_
  rintro w0 ⟨hB0, hPB⟩
  simp only [hg]
  have HB0 := Lib.hid hB0; have HPB := Lib.hid hPB
  clear hB0 hPB hg
  go_upto_region 2 with (go_at_call 7; (with_reducible refine (s0 _ HB0.out).mono ?_); rintro e w1 ⟨hb1, qa, qc, rfl, hQ⟩; replace HB0 := Lib.hid (bthen HB0.out hb1); replace HPB := Lib.hid (HPB.out.keep hb1); clear hb1 hQ)
  clear s0
  obtain ⟨g11, hg11⟩ : ∃ g, w1.heap.size = g := ⟨_, rfl⟩
  refine wp_gen (fun W => Below w.heap.size w W ∧ RjBox W g (B : Int) fo qu gr) ⟨HB0.out.alloc HB0.out.size _, HPB.out.keep ((Below.refl _ _).alloc (Nat.le_refl _) _)⟩ ?_
  rintro w2 ⟨hB0, hPB⟩
  simp only [hg11]
  replace HB0 := Lib.hid hB0; replace HPB := Lib.hid hPB
  clear hg11 hB0
  obtain ⟨c0, c1, c2, c3⟩ := hPB
  cases rb
  · have HZ := Lib.hid (HNO.out (of_decide_eq_false HRB.out))
    clear HNO HEND HP
    go_wp2_with (go_at_call 24; (with_reducible refine (k1 _ _ _).mono ?_); rintro e w3 ⟨rfl, hb3⟩; replace HB0 := Lib.hid (bthen HB0.out hb3); clear hb3)
    go_ret
    exact ⟨by rw [HZ.out]; rfl, HB0.out⟩
  clear HNO HRB
  go_upto_region 4 with (go_at_call 24; (with_reducible refine (k1 _ _ _).mono ?_); rintro e w3 ⟨rfl, hb3⟩; replace HB0 := Lib.hid (bthen HB0.out hb3); replace HPB := Lib.hid (HPB.out.keep hb3); clear hb3)
  clear k1 c0 c1 c2 c3
  obtain ⟨c0, c1, c2, c3⟩ := HPB.out
  go_upto_region 6 with fail
  try simp only [g5]
  clear c0 c1 c2 c3 g1 g1' g2 g3 g5
  go_loopw [13, 35] (AccRel w w3 p X) (fun _ i _ => X - (intOf i).toNat)
  case atStart => exact ⟨0, Nat.zero_le _, rfl, HB0.out, Below.refl _ _, rfl⟩
  case round =>
    clear HB0
    obtain ⟨j, hj, rfl, hB, hBw, rfl⟩ := hrel
    obtain ⟨c0, c1, c2, c3⟩ := HPB.out.keep hBw
    have hle := many_le p j
    by_cases hlt : j < X
    · have hltI : (j : Int) < (X : Int) := Int.ofNat_lt.2 hlt
      have hj0 : (0 : Int) ≤ (j : Int) := Int.natCast_nonneg j
      have s1 := gseen_is ta tn tc rows (j : Int) wr (HT.out.keep hB) HTN.out HTL.out (by constructor <;> omega)
      unfold SeenPost at s1
      have hfst : (opnV rows (j : Int)).getD 0 zeroQ = opnF rows (j : Int) := rfl
      have hrst : (opnV rows (j : Int)).drop 1 = opnR rows (j : Int) := rfl
      rw [hfst, hrst] at s1
      have hUF := opnF_U (pl := (j : Int)) HTU.out
      have hUR := opnR_U (pl := (j : Int)) HTU.out
      have hpj := HP.out j
      obtain ⟨FQ, hFQ⟩ : ∃ q, opnF rows (j : Int) = q := ⟨_, rfl⟩
      obtain ⟨RS, hRS⟩ : ∃ q, opnR rows (j : Int) = q := ⟨_, rfl⟩
      rw [hFQ, hRS] at hpj s1
      rw [hFQ] at hUF
      rw [hRS] at hUR
      have HUF := Lib.hid hUF; have HUR := Lib.hid hUR; have HPJ := Lib.hid hpj; have HB := Lib.hid hB; have HBW := Lib.hid hBw; have HJ := Lib.hid hlt
      obtain ⟨RL, hRL⟩ : ∃ q, RS.length = q := ⟨_, rfl⟩
      rw [hRL] at s1
      obtain ⟨⟨f0, f1⟩, ⟨f2, f3⟩⟩ := FQ
      obtain ⟨cn, hcn⟩ : ∃ q, many p j = q := ⟨_, rfl⟩
      rw [hcn] at hle ⊢
      have HCN := Lib.hid hcn
      clear hj hB hBw hlt hfst hrst hUF hUR hpj hFQ hRS hRL hcn
      go_upto_region 9 with (go_at_call 7; (with_reducible refine s1.mono ?_); rintro e w4 ⟨hb1, qa, qc, rfl, hQ⟩; have HQ := Lib.hid hQ; replace HB := Lib.hid (bthen HB.out hb1); replace HBW := Lib.hid (bthen HBW.out hb1); replace c0 := bkeep hb1 c0; replace c1 := bkeep hb1 c1; replace c2 := bkeep hb1 c2; replace c3 := bkeep hb1 c3; clear hb1 hQ)
      clear s1
      obtain ⟨g13, hg13⟩ : ∃ g, w4.heap.size = g := ⟨_, rfl⟩
      refine wp_gen (fun W => Below w4.heap.size w4 W ∧ QuadC W g13 ((f0, f1), (f2, f3))) ⟨(Below.refl _ _).alloc (Nat.le_refl _) _, by rw [← hg13]; simp [QuadC, go_sem]⟩ ?_
      rintro w5 ⟨hb2, d0, d1, d2, d3⟩
      simp only [hg13]
      replace HB := Lib.hid (bthen HB.out hb2)
      replace HBW := Lib.hid (bthen HBW.out hb2)
      replace c0 := bkeep hb2 c0; replace c1 := bkeep hb2 c1; replace c2 := bkeep hb2 c2; replace c3 := bkeep hb2 c3
      have J1 := jjudge_is (K : Int) (B : Int) fo qu gr a n c bys (j : Int) ((f0, f1), (f2, f3)) qa RL qc RS fa fn fc fin (p j) w5 (HBY.out.keep HB.out) HBU.out HUF.out (HQ.out.keep hb2) HUR.out (HF.out.keep HB.out) HFU.out HPJ.out
      have hstep : many p (j + 1) = cn + (if p j = true then 1 else 0) := by rw [many, HCN.out]
      have HST := Lib.hid hstep
      clear hb2 hg13 hstep
      obtain ⟨pb, hpb⟩ : ∃ b, p j = b := ⟨_, rfl⟩
      rw [hpb] at J1 HST
      clear hpb
      cases pb
      all_goals
        go_wp2_with (go_at_call 25; (with_reducible refine J1.mono ?_); rintro e w6 ⟨rfl, hb3⟩; replace HB := Lib.hid (bthen HB.out hb3); replace HBW := Lib.hid (bthen HBW.out hb3); clear hb3)
        go_roundw
        case rel => exact ⟨j + 1, HJ.out, by go_num, HB.out, HBW.out, by rw [HST.out]; first | rfl | go_num⟩
        case measure =>
          have := HJ.out
          simp [intOf]
          omega
    · obtain rfl : j = X := by omega
      have hltI : ¬ (j : Int) < (j : Int) := by omega
      have HB := Lib.hid hB
      clear hB hBw hj hlt
      go_wp2_with fail
      go_ret
      exact ⟨by rw [HEND.out]; rfl, HB.out⟩
set_option maxRecDepth 100000 in
set_option maxHeartbeats 4000000 in
theorem gcntwords_is (a : Option Addr) (n c : Nat) (word : QL) (ya : Option Addr) (yn yc : Nat) (ys : QL) (w : World) (hT : Tab w) (hw : QRowA w a n word) (hwu : UsR word) (hn : n ≤ 4294967296) (hy : QRowA w ya yn ys) (hyu : UsR ys) (hyn : yn ≤ 1000) :
    Calls Tryz.prog 9 #[.slice a n c, .slice ya yn yc] w (TabPost w (wordsV word ys)) := by
  obtain ⟨rows, ok, hr⟩ : ∃ rows ok, chainV word ys = (rows, ok) := ⟨_, _, rfl⟩
  have k1 := nwords_is a n c word ya yn yc ys rows ok w hw hwu hy hyu hn hyn hr hT
  unfold WordsPost at k1
  have hV : wordsV word ys = if ok = true then (if 1 < rows.length then rows.take (rows.length - 1) else rows) else [] := by unfold wordsV; rw [hr]
  have hno : ok = false → rows = [] := fun e => by
    have h1 : chainV word ys = (rows, false) := by rw [hr, e]
    unfold chainV at h1
    split at h1
    · cases h1
    · exact (congrArg Prod.fst h1).symm
  have hlr : rows.length ≤ 2000 := by
    have e : rows = (chainV word ys).1 := by rw [hr]
    rw [e]
    unfold chainV
    split
    · simp only [chRows_len]; rw [hy.1]; omega
    · exact Nat.zero_le _
  have hV2 : wordsV word ys = if 1 < rows.length then rows.take (rows.length - 1) else rows := by
    rw [hV]
    cases ok
    · rw [if_neg (by decide), hno rfl]; rfl
    · rw [if_pos rfl]
  rw [hV2]
  clear hT hw hwu hy hyu hr hV hV2 hno hn hyn
  obtain ⟨L, hL⟩ : ∃ L, rows.length = L := ⟨_, rfl⟩
  have HL := Lib.hid hL
  rw [hL] at k1 hlr ⊢
  clear hL
  by_cases h1 : 1 < L
  · rw [if_pos h1]
    have h1I : ¬ (L : Int) < 2 := by omega
    have g1 : IntKind.i64.wrap ((L : Int) - 1) = ((L - 1 : Nat) : Int) := by rw [IntWalk.i64_in _ (by omega)]; omega
    have g2 : wrap64 ((L : Int) - 1) = ((L - 1 : Nat) : Int) := by rw [IntWalk.wrap64_in _ (by omega)]; omega
    have htk : (rows.take (L - 1)).length = L - 1 := by rw [List.length_take, HL.out]; omega
    have hl1 : L - 1 ≤ L := by omega
    obtain ⟨L1, hL1⟩ : ∃ q, L - 1 = q := ⟨_, rfl⟩
    rw [hL1] at g1 g2 htk hl1 ⊢
    have HTK := Lib.hid htk; have HL1 := Lib.hid hL1; have HLE := Lib.hid hl1
    have h0 : (0 : Int) ≤ (L1 : Int) := Int.natCast_nonneg _
    clear htk hL1
    go_enter Tryz.func9, Tryz.ntmps9
    go_wp2_with (go_at_call 22; (with_reducible refine k1.mono ?_); rintro e w1 ⟨hb, ta, tc, rfl, hT, htc⟩; have HB := Lib.hid hb; have HT := Lib.hid hT; have htc1 : L1 ≤ tc := Nat.le_trans HLE.out htc; have htcI : (L1 : Int) ≤ (tc : Int) := Int.ofNat_le.2 htc1; have HTC := Lib.hid htc; clear hb hT htc)
    go_ret
    have hT2 := TabQ.cut HT.out HLE.out
    exact ⟨HB.out, ta, tc, by rw [HTK.out]; rfl, by rw [HTK.out]; exact hT2, by rw [HTK.out]; exact htc1⟩
  · rw [if_neg h1]
    have h1I : (L : Int) < 2 := by omega
    go_enter Tryz.func9, Tryz.ntmps9
    go_wp2_with (go_at_call 22; (with_reducible refine k1.mono ?_); rintro e w1 ⟨hb, ta, tc, rfl, hT, htc⟩; have HB := Lib.hid hb; have HT := Lib.hid hT; have HTC := Lib.hid htc; clear hb hT htc)
    go_ret
    exact ⟨HB.out, ta, tc, by rw [HL.out]; rfl, by rw [HL.out]; exact HT.out, by rw [HL.out]; exact HTC.out⟩
/-- All that is asked of the program. -/
theorem ask23 : AskCount Tab where
  keep := fun h hb => Tab.keep h hb
  seen := fun a n c rows pl W ht _ hn hl hpl _ => gseen_is a n c rows pl W ht hn hl hpl
  accepts := fun k bl fo qu gr a n c bys ta tn tc rows fa fn fc fin W hk hb _ hby hbu ht htu htn htl hf hfu _ => gaccepts_is k bl fo qu gr a n c bys ta tn tc rows fa fn fc fin W hk hb hby hbu ht htu htn htl hf hfu
  agree := fun a n c word f la ln lc line two W hw hwu hn _ hl hlu hln hT => gAgree_is a n c word f la ln lc line two W hT hw hwu hl hlu hn (by omega)
  best := fun a n c word f dim two W hw hwu hn _ _ hT => gbest_is a n c word f dim two W hT hw hwu hn
  bad := fun a n c word f dim places W hw hwu hn hc hf hd _ hp hT => gbad_is a n c word f dim places W hT hw hc hwu hn hf hd hp
  words := fun a n c word ya yn yc ys W hw hwu hn _ hy hyu hyn hT => gcntwords_is a n c word ya yn yc ys W hT hw hwu hn hy hyu hyn
end Go.Proofs.YthfkfgjhgicfeaaGreatDoor
