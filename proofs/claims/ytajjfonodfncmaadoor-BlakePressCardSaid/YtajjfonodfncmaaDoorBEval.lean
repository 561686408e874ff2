/-
  The sum of 'abc', reckoned: rows of words as lists. Plain functions.
-/
import Derived.Test.YtajjfonodfncmaaDoorSumM
namespace Go.Proofs.YtajjfonodfncmaaDoor
open Go Go.RowKit
set_option linter.unusedVariables false

def fl (L : List Int) : Nat → Int := fun j => L.getD j 0
theorem upd_fl (L : List Int) (i : Nat) (v : Int) (h : i < L.length) : upd (fl L) i v = fl (L.set i v) := by
  funext j
  unfold upd fl
  by_cases hj : j = i
  · subst hj; simp [h]
  · rw [if_neg hj]; simp [List.getD, Ne.symm hj]
def mixL (L : List Int) (a b c d : Nat) (x y : Int) : List Int :=
  let L := L.set a (add32 (add32 (fl L a) (fl L b)) x)
  let L := L.set d (rot32 (xor32 (fl L d) (fl L a)) 16)
  let L := L.set c (add32 (fl L c) (fl L d))
  let L := L.set b (rot32 (xor32 (fl L b) (fl L c)) 12)
  let L := L.set a (add32 (add32 (fl L a) (fl L b)) y)
  let L := L.set d (rot32 (xor32 (fl L d) (fl L a)) 8)
  let L := L.set c (add32 (fl L c) (fl L d))
  L.set b (rot32 (xor32 (fl L b) (fl L c)) 7)
theorem mixL_len (L : List Int) (a b c d : Nat) (x y : Int) : (mixL L a b c d x y).length = L.length := by simp [mixL]
theorem mixL_is (L : List Int) (a b c d : Nat) (x y : Int) (hL : L.length = 16) (ha : a < 16) (hb : b < 16) (hc : c < 16) (hd : d < 16) : mixf (fl L) a b c d x y = fl (mixL L a b c d x y) := by
  unfold mixf mix1 mix2 mix3 mixL
  simp only []
  rw [upd_fl L a _ (by omega), upd_fl _ d _ (by simp; omega), upd_fl _ c _ (by simp; omega), upd_fl _ b _ (by simp; omega), upd_fl _ a _ (by simp; omega), upd_fl _ d _ (by simp; omega), upd_fl _ c _ (by simp; omega), upd_fl _ b _ (by simp; omega)]
def roundL (m : Nat → Int) (r : Nat) (L : List Int) : List Int :=
  let M := fun (L : List Int) k a b c d => mixL L a b c d (m (ord r (2 * k))) (m (ord r (2 * k + 1)))
  M (M (M (M (M (M (M (M L 0 0 4 8 12) 1 1 5 9 13) 2 2 6 10 14) 3 3 7 11 15) 4 0 5 10 15) 5 1 6 11 12) 6 2 7 8 13) 7 3 4 9 14
theorem roundL_len (m : Nat → Int) (r : Nat) (L : List Int) : (roundL m r L).length = L.length := by simp only [roundL, mixL_len]
theorem roundL_is (m : Nat → Int) (r : Nat) (L : List Int) (hL : L.length = 16) : roundf m r (fl L) = fl (roundL m r L) := by
  unfold roundf roundL mixAt
  simp only []
  rw [mixL_is L _ _ _ _ _ _ hL (by decide) (by decide) (by decide) (by decide)]
  iterate 7 rw [mixL_is _ _ _ _ _ _ _ (by simp only [mixL_len]; exact hL) (by decide) (by decide) (by decide) (by decide)]
def roundsL (m : Nat → Int) : Nat → List Int → List Int
  | 0, L => L
  | r + 1, L => roundL m r (roundsL m r L)
theorem roundsL_len (m : Nat → Int) (L : List Int) : ∀ r, (roundsL m r L).length = L.length
  | 0 => rfl
  | r + 1 => by rw [roundsL, roundL_len, roundsL_len m L r]
theorem roundsL_is (m : Nat → Int) (L : List Int) (hL : L.length = 16) : ∀ r, rounds m r (fl L) = fl (roundsL m r L)
  | 0 => rfl
  | r + 1 => by rw [rounds, roundsL_is m L hL r, roundsL, roundL_is _ _ _ (by rw [roundsL_len]; exact hL)]
theorem rounds_low (m : Nat → Int) {v u : Nat → Int} (h : ∀ j, j < 16 → v j = u j) : ∀ r j, j < 16 → rounds m r v j = rounds m r u j := by
  have key : ∀ (v u : Nat → Int) (a b c d : Nat) (x y : Int), (∀ j, j < 16 → v j = u j) → a < 16 → b < 16 → c < 16 → d < 16 → ∀ j, j < 16 → mixf v a b c d x y j = mixf u a b c d x y j := by
    have st : ∀ (v u : Nat → Int) (i : Nat) (p q : Int), (∀ j, j < 16 → v j = u j) → p = q → ∀ j, j < 16 → upd v i p j = upd u i q j := by
      intro v u i p q h hpq j hj
      subst hpq
      unfold upd
      split
      · rfl
      · exact h j hj
    intro v u a b c d x y h ha hb hc hd
    unfold mixf
    have m1 : ∀ (v u : Nat → Int) a b x, (∀ j, j < 16 → v j = u j) → a < 16 → b < 16 → ∀ j, j < 16 → mix1 v a b x j = mix1 u a b x j := fun v u a b x h ha hb => by
      unfold mix1; exact st v u a _ _ h (by rw [h a ha, h b hb])
    have m2 : ∀ (v u : Nat → Int) d a n, (∀ j, j < 16 → v j = u j) → d < 16 → a < 16 → ∀ j, j < 16 → mix2 v d a n j = mix2 u d a n j := fun v u d a n h hd ha => by
      unfold mix2; exact st v u d _ _ h (by rw [h d hd, h a ha])
    have m3 : ∀ (v u : Nat → Int) c d, (∀ j, j < 16 → v j = u j) → c < 16 → d < 16 → ∀ j, j < 16 → mix3 v c d j = mix3 u c d j := fun v u c d h hc hd => by
      unfold mix3; exact st v u c _ _ h (by rw [h c hc, h d hd])
    exact m2 _ _ _ _ _ (m3 _ _ _ _ (m2 _ _ _ _ _ (m1 _ _ _ _ _ (m2 _ _ _ _ _ (m3 _ _ _ _ (m2 _ _ _ _ _ (m1 _ _ _ _ _ h ha hb) hd ha) hc hd) hb hc) ha hb) hd ha) hc hd) hb hc
  intro r
  induction r with
  | zero => exact h
  | succ r ih =>
    unfold rounds roundf mixAt
    exact key _ _ _ _ _ _ _ _ (key _ _ _ _ _ _ _ _ (key _ _ _ _ _ _ _ _ (key _ _ _ _ _ _ _ _ (key _ _ _ _ _ _ _ _ (key _ _ _ _ _ _ _ _ (key _ _ _ _ _ _ _ _ (key _ _ _ _ _ _ _ _ ih (by decide) (by decide) (by decide) (by decide)) (by decide) (by decide) (by decide) (by decide)) (by decide) (by decide) (by decide) (by decide)) (by decide) (by decide) (by decide) (by decide)) (by decide) (by decide) (by decide) (by decide)) (by decide) (by decide) (by decide) (by decide)) (by decide) (by decide) (by decide) (by decide)) (by decide) (by decide) (by decide) (by decide)
/-- A press, by lists. -/
def pressL (h b : Nat → Int) (n : Int) (last : Bool) : List Int :=
  let R := roundsL (le4 b) 10 ((List.range 16).map (vfirst h n last))
  (List.range 8).map fun j => xor32 (xor32 (h j) (fl R j)) (fl R (j + 8))
theorem pressL_is (h b : Nat → Int) (n : Int) (last : Bool) (j : Nat) (hj : j < 8) : press h b n last j = fl (pressL h b n last) j := by
  have hv : ∀ i, i < 16 → vfirst h n last i = fl ((List.range 16).map (vfirst h n last)) i := fun i hi => by unfold fl; simp [List.getD, hi]
  have e : ∀ i, i < 16 → rounds (le4 b) 10 (vfirst h n last) i = fl (roundsL (le4 b) 10 ((List.range 16).map (vfirst h n last))) i := fun i hi => by
    rw [rounds_low (le4 b) hv 10 i hi, roundsL_is _ _ (by simp)]
  unfold press
  rw [e j (by omega), e (j + 8) (by omega)]
  unfold pressL fl
  simp [List.getD, hj]
abbrev abc : ByteArray := ⟨#[97, 98, 99]⟩
abbrev abcSum : ByteArray := ⟨#[80, 140, 94, 140, 50, 124, 20, 226, 225, 167, 43, 163, 78, 235, 69, 47, 55, 69, 139, 32, 158, 214, 58, 41, 77, 153, 155, 76, 134, 103, 89, 130]⟩
theorem out_congr {h g : Nat → Int} (e : ∀ j, j < 8 → h j = g j) : outS h 32 = outS g 32 := by
  unfold outS
  congr 1
  refine List.map_congr_left fun j hj => ?_
  have := List.mem_range.1 hj
  unfold outI
  rw [e (j / 4) (by omega)]
theorem abc_press : pressL h0 (blkOf abc 0) 3 true = [2355006544, 3792993330, 2737547233, 793111374, 545998135, 691721886, 1285265741, 2186897286] := by decide +kernel
theorem abc_sum : sumB abc = abcSum := by
  have e : ∀ j, j < 8 → hend abc j = fl (pressL h0 (blkOf abc 0) 3 true) j := fun j hj => by
    show press (hseq abc (nbl abc)) (blkOf abc (64 * nbl abc)) _ true j = _
    rw [show nbl abc = 0 from rfl]
    exact pressL_is h0 (blkOf abc 0) 3 true j hj
  unfold sumB
  rw [out_congr e, abc_press]
  decide +kernel
end Go.Proofs.YtajjfonodfncmaaDoor
