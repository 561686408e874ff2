/-
  Operations and their bytes: plain; there and back.
-/
import Derived.Test.YtckipfcjgmiacaaGOct
namespace Go.Proofs.Ytckipfcjgmiacaa
open Go Go.RowKit
set_option linter.unusedVariables false

abbrev Opn := Int × Int
/-- May an operation be written? -/
def rightO (o : Opn) : Bool := if o.1 = 1 ∨ o.1 = 2 then decide (o.2 < 256) else if o.1 = 3 then decide (o.2 < 18446744069414584321) else if o.1 = 4 ∨ o.1 = 5 ∨ o.1 = 6 then decide (o.2 = 0) else false
/-- Its bytes. -/
def opN (o : Opn) : List Int := if o.1 = 3 then 3 :: (List.range 8).map (oct o.2) else if o.1 = 1 ∨ o.1 = 2 then [o.1, o.2] else [o.1]
def codeN (l : List Opn) : List Int := l.flatMap opN
def codeB (l : List Opn) : ByteArray := strOfNums (codeN l)
theorem codeN_nil : codeN [] = [] := rfl
theorem codeN_app (l m : List Opn) : codeN (l ++ m) = codeN l ++ codeN m := by simp [codeN]
theorem codeN_one (o : Opn) : codeN [o] = opN o := by simp [codeN]
theorem right_kind {o : Opn} (h : rightO o = true) : 1 ≤ o.1 ∧ o.1 ≤ 6 := by
  unfold rightO at h
  split at h
  · omega
  · split at h
    · omega
    · split at h
      · omega
      · cases h
theorem opN_bd {o : Opn} (h : rightO o = true) (hu : U o.2) : ∀ x ∈ opN o, 0 ≤ x ∧ x < 256 := by
  have hk := right_kind h
  intro x hx
  unfold opN at hx
  unfold rightO at h
  split at hx
  · rcases List.mem_cons.1 hx with rfl | hx
    · omega
    · obtain ⟨i, _, rfl⟩ := List.mem_map.1 hx
      exact oct_bd _ _
  · split at hx
    · next h2 =>
      rw [if_pos h2] at h
      have := of_decide_eq_true h
      have := hu.1
      simp at hx
      rcases hx with rfl | rfl <;> omega
    · obtain rfl : x = o.1 := by simpa using hx
      omega
theorem codeN_bd : ∀ {l : List Opn}, (∀ o ∈ l, rightO o = true ∧ U o.2) → ∀ x ∈ codeN l, 0 ≤ x ∧ x < 256 := by
  intro l h x hx
  obtain ⟨o, ho, hx⟩ := List.mem_flatMap.1 hx
  exact opN_bd (h o ho).1 (h o ho).2 x hx
theorem opN_pos (o : Opn) : 1 ≤ (opN o).length := by
  unfold opN
  split
  · simp
  · split <;> simp
/-- One operation from a place on: the error, the operation, the next place. -/
def parseAt (s : ByteArray) (a : Nat) : Int × Opn × Nat :=
  if byt s a < 1 ∨ 6 < byt s a then (3, (0, 0), a)
  else if byt s a = 3 then (if a + 9 ≤ s.size ∧ numB s (a + 1) < 18446744069414584321 then (0, (3, numB s (a + 1)), a + 9) else (2, (0, 0), a))
  else if byt s a = 1 ∨ byt s a = 2 then (if a + 1 < s.size then (0, (byt s a, byt s (a + 1)), a + 2) else (2, (0, 0), a))
  else (0, (byt s a, 0), a + 1)
theorem parseAt_next (s : ByteArray) (a : Nat) (h : (parseAt s a).1 = 0) : a < (parseAt s a).2.2 := by
  unfold parseAt at h ⊢
  split
  · next c => rw [if_pos c] at h; cases h
  · next c =>
    rw [if_neg c] at h
    split
    · next d =>
      rw [if_pos d] at h
      split
      · show a < a + 9; omega
      · next e => rw [if_neg e] at h; cases h
    · next d =>
      rw [if_neg d] at h
      split
      · next f =>
        rw [if_pos f] at h
        split
        · show a < a + 2; omega
        · next e => rw [if_neg e] at h; cases h
      · show a < a + 1; omega
def parseD (s : ByteArray) : Nat → Nat → List Opn → List Opn × Int
  | 0, a, out => (out, 0)
  | f + 1, a, out => if s.size ≤ a then (out, 0) else if (parseAt s a).1 = 0 then (if 256 < out.length + 1 then ([], 6) else parseD s f (parseAt s a).2.2 (out ++ [(parseAt s a).2.1])) else ([], (parseAt s a).1)
theorem parseD_fuel (s : ByteArray) : ∀ (f f' a : Nat) (out : List Opn), s.size < a + f → s.size < a + f' → parseD s f a out = parseD s f' a out
  | 0, 0, a, out, _, _ => rfl
  | 0, f' + 1, a, out, h, _ => by rw [parseD, parseD, if_pos (by omega)]
  | f + 1, 0, a, out, _, h => by rw [parseD, parseD, if_pos (by omega)]
  | f + 1, f' + 1, a, out, h, h' => by
    rw [parseD, parseD]
    split
    · rfl
    · split
      · next c =>
        split
        · rfl
        · have := parseAt_next s a c
          exact parseD_fuel s f f' _ _ (by omega) (by omega)
      · rfl
/-- What is left to be parsed, from a place on, behind what was. -/
def parseR (s : ByteArray) (a : Nat) (out : List Opn) : List Opn × Int := parseD s (s.size + 1) a out
def parseB (s : ByteArray) : List Opn × Int := parseR s 0 []
theorem parseR_end {s : ByteArray} {a : Nat} {out : List Opn} (h : s.size ≤ a) : parseR s a out = (out, 0) := by unfold parseR; rw [parseD, if_pos h]
theorem parseR_err {s : ByteArray} {a : Nat} {out : List Opn} (h : a < s.size) (he : (parseAt s a).1 ≠ 0) : parseR s a out = ([], (parseAt s a).1) := by unfold parseR; rw [parseD, if_neg (by omega), if_neg he]
theorem parseR_many {s : ByteArray} {a : Nat} {out : List Opn} (h : a < s.size) (he : (parseAt s a).1 = 0) (hm : 256 < out.length + 1) : parseR s a out = ([], 6) := by unfold parseR; rw [parseD, if_neg (by omega), if_pos he, if_pos hm]
theorem parseR_step {s : ByteArray} {a : Nat} {out : List Opn} (h : a < s.size) (he : (parseAt s a).1 = 0) (hm : ¬ 256 < out.length + 1) : parseR s a out = parseR s (parseAt s a).2.2 (out ++ [(parseAt s a).2.1]) := by
  have hn := parseAt_next s a he
  unfold parseR
  rw [parseD, if_neg (by omega), if_pos he, if_neg hm]
  exact parseD_fuel s _ _ _ _ (by omega) (by omega)
end Go.Proofs.Ytckipfcjgmiacaa
