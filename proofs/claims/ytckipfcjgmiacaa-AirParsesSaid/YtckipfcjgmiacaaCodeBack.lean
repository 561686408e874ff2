/-
  Operations and their bytes: there and back; two codes, one behind the other; how long they are. Plain mathematics.
-/
import Derived.Test.YtckipfcjgmiacaaCodeM
namespace Go.Proofs.Ytckipfcjgmiacaa
open Go Go.RowKit
set_option linter.unusedVariables false

/-- The bytes of a text. -/
def bl (s : ByteArray) : List Int := (List.range s.size).map (byt s)
theorem bl_len (s : ByteArray) : (bl s).length = s.size := by simp [bl]
theorem bl_str (s : ByteArray) : strOfNums (bl s) = s := by
  have hb : ∀ x ∈ bl s, 0 ≤ x ∧ x < 256 := by
    intro x hx
    obtain ⟨i, _, rfl⟩ := List.mem_map.1 hx
    exact byt_bd s i
  refine byt_ext _ _ (by rw [strOfNums_size, bl_len]) fun j hj => ?_
  rw [strOfNums_size, bl_len] at hj
  rw [byt_nums _ hb _ (by rw [bl_len]; exact hj)]
  simp [bl, List.getD, hj]
theorem bl_part (s : ByteArray) (a k : Nat) (h : a + k ≤ s.size) : ((bl s).drop a).take k = (List.range k).map fun j => byt s (a + j) := by
  apply List.ext_getElem
  · simp [bl_len]; omega
  · intro j h1 h2
    simp [bl]
theorem numP_ext {f g : Nat → Int} (h : ∀ j, j < 8 → f j = g j) : numP f 8 = numP g 8 := by
  simp only [numP, h 0 (by decide), h 1 (by decide), h 2 (by decide), h 3 (by decide), h 4 (by decide), h 5 (by decide), h 6 (by decide), h 7 (by decide), show 7 - 0 = 7 from rfl, show 7 - 1 = 6 from rfl, show 7 - 2 = 5 from rfl, show 7 - 3 = 4 from rfl, show 7 - 4 = 3 from rfl, show 7 - 5 = 2 from rfl, show 7 - 6 = 1 from rfl, show 7 - 7 = 0 from rfl]
theorem at_ok (s : ByteArray) (a : Nat) (ha : a < s.size) (h : (parseAt s a).1 = 0) :
    (parseAt s a).2.2 ≤ s.size ∧ rightO (parseAt s a).2.1 = true ∧ U (parseAt s a).2.1.2 ∧ opN (parseAt s a).2.1 = ((bl s).drop a).take ((parseAt s a).2.2 - a) := by
  unfold parseAt at h ⊢
  split
  · next c => rw [if_pos c] at h; cases h
  · next c =>
    rw [if_neg c] at h
    split
    · next d =>
      rw [if_pos d] at h
      split
      · next e =>
        have hb := fun j => byt_bd s (a + 1 + j)
        refine ⟨e.1, ?_, numB_U _ _, ?_⟩
        · show rightO (3, numB s (a + 1)) = true
          unfold rightO
          rw [if_neg (by show ¬ ((3 : Int) = 1 ∨ (3 : Int) = 2); omega), if_pos rfl]
          exact decide_eq_true e.2
        · show opN (3, numB s (a + 1)) = ((bl s).drop a).take (a + 9 - a)
          rw [show a + 9 - a = 9 by omega, bl_part s a 9 e.1, List.range_succ_eq_map]
          unfold opN
          rw [if_pos rfl]
          simp only [List.map_cons, Nat.add_zero, List.map_map]
          congr 1
          · exact d.symm
          · apply List.map_congr_left
            intro i hi
            have hi8 := List.mem_range.1 hi
            show oct (numP (fun j => byt s (a + 1 + j)) 8) i = byt s (a + (i + 1))
            rw [oct_numP hb i hi8, show a + 1 + i = a + (i + 1) by omega]
      · next e => rw [if_neg e] at h; cases h
    · next d =>
      rw [if_neg d] at h
      split
      · next f =>
        rw [if_pos f] at h
        split
        · next e =>
          have hb := byt_bd s (a + 1)
          refine ⟨e, ?_, ⟨hb.1, ?_⟩, ?_⟩
          · show rightO (byt s a, byt s (a + 1)) = true
            unfold rightO
            rw [if_pos f]
            exact decide_eq_true hb.2
          · show byt s (a + 1) < 18446744073709551616
            omega
          · show opN (byt s a, byt s (a + 1)) = ((bl s).drop a).take (a + 2 - a)
            rw [show a + 2 - a = 2 by omega, bl_part s a 2 e]
            unfold opN
            rw [if_neg d, if_pos f]
            rfl
        · next e => rw [if_neg e] at h; cases h
      · next f =>
        refine ⟨ha, ?_, ⟨by show (0 : Int) ≤ 0; omega, by show (0 : Int) < 18446744073709551616; omega⟩, ?_⟩
        · show rightO (byt s a, 0) = true
          unfold rightO
          rw [if_neg f, if_neg d, if_pos (by show byt s a = 4 ∨ byt s a = 5 ∨ byt s a = 6; omega)]
          rfl
        · show opN (byt s a, 0) = ((bl s).drop a).take (a + 1 - a)
          rw [show a + 1 - a = 1 by omega, bl_part s a 1 ha]
          unfold opN
          rw [if_neg d, if_neg f]
          rfl
theorem print_parse (s : ByteArray) : ∀ (n a : Nat) (out m : List Opn), s.size - a ≤ n → a ≤ s.size → codeN out = (bl s).take a → (∀ o ∈ out, rightO o = true ∧ U o.2) → out.length ≤ 256 → parseR s a out = (m, 0) →
    codeB m = s ∧ (∀ o ∈ m, rightO o = true ∧ U o.2) ∧ m.length ≤ 256 := by
  intro n
  induction n with
  | zero =>
    intro a out m hn ha hc hr hl hp
    rw [parseR_end (by omega)] at hp
    cases hp
    refine ⟨?_, hr, hl⟩
    unfold codeB
    rw [hc, List.take_of_length_le (by rw [bl_len]; omega), bl_str]
  | succ n ih =>
    intro a out m hn ha hc hr hl hp
    by_cases h : a < s.size
    · by_cases he : (parseAt s a).1 = 0
      · by_cases hm : 256 < out.length + 1
        · rw [parseR_many h he hm] at hp
          cases hp
        · rw [parseR_step h he hm] at hp
          obtain ⟨h1, h2, h3, h4⟩ := at_ok s a h he
          have h5 := parseAt_next s a he
          refine ih (parseAt s a).2.2 (out ++ [(parseAt s a).2.1]) m (by omega) h1 ?_ ?_ (by rw [List.length_append]; show out.length + 1 ≤ 256; omega) hp
          · rw [codeN_app, codeN_one, hc, h4]
            rw [show (bl s).take (parseAt s a).2.2 = (bl s).take (a + ((parseAt s a).2.2 - a)) by rw [show a + ((parseAt s a).2.2 - a) = (parseAt s a).2.2 by omega], List.take_add]
          · intro o ho
            rcases List.mem_append.1 ho with ho | ho
            · exact hr o ho
            · obtain rfl : o = _ := by simpa using ho
              exact ⟨h2, h3⟩
      · rw [parseR_err h he] at hp
        have : (parseAt s a).1 = 0 := (Prod.mk.inj hp).2
        exact absurd this he
    · rw [parseR_end (by omega)] at hp
      cases hp
      refine ⟨?_, hr, hl⟩
      unfold codeB
      rw [hc, List.take_of_length_le (by rw [bl_len]; omega), bl_str]
/-- What is parsed may be written, and is written just so. -/
theorem parse_back {s : ByteArray} {m : List Opn} (h : parseB s = (m, 0)) : codeB m = s ∧ (∀ o ∈ m, rightO o = true ∧ U o.2) ∧ m.length ≤ 256 :=
  print_parse s s.size 0 [] m (by omega) (Nat.zero_le _) (by simp [codeN_nil]) (fun o ho => by cases ho) (by simp) h
/-- One operation stands where it was written. -/
theorem at_print (pre post : List Opn) (o : Opn) (hr : ∀ x ∈ pre ++ o :: post, rightO x = true ∧ U x.2) :
    parseAt (codeB (pre ++ o :: post)) (codeN pre).length = (0, o, (codeN pre).length + (opN o).length) := by
  have hc : codeN (pre ++ o :: post) = codeN pre ++ (opN o ++ codeN post) := by simp [codeN]
  have hbd := codeN_bd hr
  have hsz : (codeB (pre ++ o :: post)).size = (codeN pre).length + ((opN o).length + (codeN post).length) := by unfold codeB; rw [strOfNums_size, hc, List.length_append, List.length_append]
  have hat : ∀ j, j < (opN o).length → byt (codeB (pre ++ o :: post)) ((codeN pre).length + j) = (opN o).getD j 0 := by
    intro j hj
    unfold codeB
    rw [byt_nums _ hbd _ (by rw [hc]; simp; omega), hc]
    simp [List.getD, List.getElem?_append_right, List.getElem?_append_left, hj]
  obtain ⟨hro, huo⟩ := hr o (by simp)
  have hk := right_kind hro
  generalize codeB (pre ++ o :: post) = s at *
  generalize (codeN pre).length = p at *
  obtain ⟨k, n⟩ := o
  have h0 : byt s p = k := by
    have := hat 0 (opN_pos _)
    rw [Nat.add_zero] at this
    rw [this]
    unfold opN
    split
    · next c => exact c.symm
    · split <;> rfl
  unfold parseAt
  rw [h0, if_neg (by have := hk.1; have := hk.2; show ¬ (k < 1 ∨ 6 < k); simp only at *; omega)]
  by_cases h3 : k = 3
  · subst h3
    have e : opN ((3 : Int), n) = 3 :: (List.range 8).map (oct n) := if_pos rfl
    have hl : (opN ((3 : Int), n)).length = 9 := by rw [e]; rfl
    have hnum : numB s (p + 1) = n := by
      unfold numB
      rw [numP_ext (g := oct n) fun j hj => ?_]
      · exact numP_oct n huo
      · have := hat (1 + j) (by rw [hl]; omega)
        rw [show p + 1 + j = p + (1 + j) by omega, this, e]
        simp [List.getD, Nat.add_comm 1 j, hj]
    have hp : n < 18446744069414584321 := by
      unfold rightO at hro
      rw [if_neg (by show ¬ ((3 : Int) = 1 ∨ (3 : Int) = 2); omega), if_pos rfl] at hro
      exact of_decide_eq_true hro
    rw [if_pos rfl, hnum, if_pos ⟨by rw [hsz, hl]; omega, hp⟩, hl]
  · rw [if_neg h3]
    by_cases h1 : k = 1 ∨ k = 2
    · have e : opN (k, n) = [k, n] := by unfold opN; rw [if_neg h3, if_pos h1]
      have hl : (opN (k, n)).length = 2 := by rw [e]; rfl
      have hn1 : byt s (p + 1) = n := by rw [hat 1 (by rw [hl]; omega), e]; rfl
      rw [if_pos h1, hn1, if_pos (by rw [hsz, hl]; omega), hl]
    · have e : opN (k, n) = [k] := by unfold opN; rw [if_neg h3, if_neg h1]
      have hl : (opN (k, n)).length = 1 := by rw [e]; rfl
      have hn0 : n = 0 := by
        unfold rightO at hro
        rw [if_neg h1, if_neg h3] at hro
        split at hro
        · exact of_decide_eq_true hro
        · cases hro
      rw [if_neg h1, hl, hn0]
theorem parse_from (l : List Opn) (hr : ∀ x ∈ l, rightO x = true ∧ U x.2) : ∀ (d i : Nat), l.length - i = d → i ≤ l.length → i ≤ 256 → parseR (codeB l) (codeN (l.take i)).length (l.take i) = if l.length ≤ 256 then (l, 0) else ([], 6) := by
  intro d
  induction d with
  | zero =>
    intro i hd hi h256
    have e : i = l.length := by omega
    subst e
    rw [List.take_length, parseR_end (by unfold codeB; rw [strOfNums_size]; exact Nat.le_refl _), if_pos h256]
  | succ d ih =>
    intro i hd hi h256
    have hlt : i < l.length := by omega
    have hsplit : l = l.take i ++ l[i] :: l.drop (i + 1) := by rw [← List.drop_eq_getElem_cons hlt, List.take_append_drop]
    have hat := at_print (l.take i) (l.drop (i + 1)) l[i] (by rw [← hsplit]; exact hr)
    rw [← hsplit] at hat
    have hsz : (codeN (l.take i)).length < (codeB l).size := by
      have h1 : codeN l = codeN (l.take i) ++ (opN l[i] ++ codeN (l.drop (i + 1))) := by
        have h3 := congrArg codeN hsplit
        rw [codeN_app] at h3
        rw [h3, show l[i] :: l.drop (i + 1) = [l[i]] ++ l.drop (i + 1) from rfl, codeN_app, codeN_one]
      have h2 := opN_pos l[i]
      unfold codeB
      rw [strOfNums_size, h1, List.length_append, List.length_append]
      omega
    have hlen : (l.take i).length = i := by rw [List.length_take]; omega
    have he : (parseAt (codeB l) (codeN (l.take i)).length).1 = 0 := by rw [hat]
    by_cases hm : 256 < i + 1
    · rw [parseR_many hsz he (by rw [hlen]; exact hm), if_neg (by omega)]
    · rw [parseR_step hsz he (by rw [hlen]; exact hm), hat]
      have e1 : l.take i ++ [l[i]] = l.take (i + 1) := by rw [List.take_succ_eq_append_getElem hlt]
      have e2 : (codeN (l.take i)).length + (opN l[i]).length = (codeN (l.take (i + 1))).length := by rw [← e1, codeN_app, codeN_one, List.length_append]
      show parseR (codeB l) ((codeN (l.take i)).length + (opN l[i]).length) (l.take i ++ [l[i]]) = _
      rw [e2, e1]
      exact ih (i + 1) (by omega) (by omega) (by omega)
/-- Operations that may be written are parsed as they were, if there aren't too many. -/
theorem parse_print (l : List Opn) (hr : ∀ x ∈ l, rightO x = true ∧ U x.2) : parseB (codeB l) = if l.length ≤ 256 then (l, 0) else ([], 6) := by
  have := parse_from l hr l.length 0 (by omega) (Nat.zero_le _) (by omega)
  simpa [parseB, codeN_nil] using this
theorem codeB_app (l m : List Opn) : codeB (l ++ m) = codeB l ++ codeB m := by
  unfold codeB
  rw [codeN_app]
  apply ByteArray.ext
  rw [ByteArray.data_append]
  simp [strOfNums]
/-- Two codes, one behind the other. -/
theorem parse_join {s t : ByteArray} {a b : List Opn} (h1 : parseB s = (a, 0)) (h2 : parseB t = (b, 0)) : parseB (s ++ t) = if a.length + b.length ≤ 256 then (a ++ b, 0) else ([], 6) := by
  obtain ⟨e1, r1, _⟩ := parse_back h1
  obtain ⟨e2, r2, _⟩ := parse_back h2
  have := parse_print (a ++ b) (fun x hx => by
    rcases List.mem_append.1 hx with hx | hx
    · exact r1 x hx
    · exact r2 x hx)
  rw [codeB_app, e1, e2, List.length_append] at this
  exact this
theorem codeB_size (l : List Opn) : (codeB l).size = (codeN l).length := by unfold codeB; rw [strOfNums_size]
/-- A column takes two bytes, a constant nine, all else one. -/
theorem opN_len (o : Opn) : (opN o).length = if o.1 = 3 then 9 else if o.1 = 1 ∨ o.1 = 2 then 2 else 1 := by
  unfold opN
  split
  · rfl
  · split <;> rfl
end Go.Proofs.Ytckipfcjgmiacaa
