/-
  CodeM: Operations and their bytes: plain; there and back.
  CodeBack: Operations and their bytes: there and back; two codes, one behind the other; how long they are. Plain mathematics.
  CodeRef: What the document's calls of layer 15 come to: Right, takes, Print, Same. What is asked of the program's calls.
  CodeRef2: What the document's Print of layer 15 comes to.
  CodeRef3: What the document's Parse of layer 15 comes to. (Written by gen_cparse.py.)
  KPro1: The program's Right and first of layer 15; what is parsed from a place on is what is parsed of the text behind that place.
  KProg: The program's Parse and Print of layer 15; what is asked of the program's calls is so.
-/
import Derived.Test.YtjcgakmhpblanaaGOct
import Derived.Test.YtjcgakmhpblanaaGArgs
import Derived.Laws.BytesArg
import Derived.Test.YtjcgakmhpblanaaGOctPro
import Derived.Lib.AppendStr
namespace Go.Proofs.Ytjcgakmhpblanaa
open Go Go.RowKit
set_option linter.unusedVariables false

abbrev Opn := Int × Int
/-- May an operation be written? -/
def rightO (o : Opn) : Bool := if o.1 = 1 ∨ o.1 = 2 then decide (o.2 < 256) else if o.1 = 3 then decide (o.2 < 18446744069414584321) else if o.1 = 4 ∨ o.1 = 5 ∨ o.1 = 6 then decide (o.2 = 0) else false
/-- Its bytes. -/
def opN (o : Opn) : List Int := if o.1 = 3 then 3 :: (List.range 8).map (oct o.2) else if o.1 = 1 ∨ o.1 = 2 then [o.1, o.2] else [o.1]
def codeN (l : List Opn) : List Int := l.flatMap opN
def codeB (l : List Opn) : ByteArray := strOfNums (codeN l)
theorem codeN_nil : codeN [] = [] := rfl
theorem codeN_app (l m : List Opn) : codeN (l ++ m) = codeN l ++ codeN m := by simp [codeN]
theorem codeN_one (o : Opn) : codeN [o] = opN o := by simp [codeN]
theorem right_kind {o : Opn} (h : rightO o = true) : 1 ≤ o.1 ∧ o.1 ≤ 6 := by
  unfold rightO at h
  split at h
  · omega
  · split at h
    · omega
    · split at h
      · omega
      · cases h
theorem opN_bd {o : Opn} (h : rightO o = true) (hu : U o.2) : ∀ x ∈ opN o, 0 ≤ x ∧ x < 256 := by
  have hk := right_kind h
  intro x hx
  unfold opN at hx
  unfold rightO at h
  split at hx
  · rcases List.mem_cons.1 hx with rfl | hx
    · omega
    · obtain ⟨i, _, rfl⟩ := List.mem_map.1 hx
      exact oct_bd _ _
  · split at hx
    · next h2 =>
      rw [if_pos h2] at h
      have := of_decide_eq_true h
      have := hu.1
      simp at hx
      rcases hx with rfl | rfl <;> omega
    · obtain rfl : x = o.1 := by simpa using hx
      omega
theorem codeN_bd : ∀ {l : List Opn}, (∀ o ∈ l, rightO o = true ∧ U o.2) → ∀ x ∈ codeN l, 0 ≤ x ∧ x < 256 := by
  intro l h x hx
  obtain ⟨o, ho, hx⟩ := List.mem_flatMap.1 hx
  exact opN_bd (h o ho).1 (h o ho).2 x hx
theorem opN_pos (o : Opn) : 1 ≤ (opN o).length := by
  unfold opN
  split
  · simp
  · split <;> simp
/-- One operation from a place on: the error, the operation, the next place. -/
def parseAt (s : ByteArray) (a : Nat) : Int × Opn × Nat :=
  if byt s a < 1 ∨ 6 < byt s a then (3, (0, 0), a)
  else if byt s a = 3 then (if a + 9 ≤ s.size ∧ numB s (a + 1) < 18446744069414584321 then (0, (3, numB s (a + 1)), a + 9) else (2, (0, 0), a))
  else if byt s a = 1 ∨ byt s a = 2 then (if a + 1 < s.size then (0, (byt s a, byt s (a + 1)), a + 2) else (2, (0, 0), a))
  else (0, (byt s a, 0), a + 1)
theorem parseAt_next (s : ByteArray) (a : Nat) (h : (parseAt s a).1 = 0) : a < (parseAt s a).2.2 := by
  unfold parseAt at h ⊢
  split
  · next c => rw [if_pos c] at h; cases h
  · next c =>
    rw [if_neg c] at h
    split
    · next d =>
      rw [if_pos d] at h
      split
      · show a < a + 9; omega
      · next e => rw [if_neg e] at h; cases h
    · next d =>
      rw [if_neg d] at h
      split
      · next f =>
        rw [if_pos f] at h
        split
        · show a < a + 2; omega
        · next e => rw [if_neg e] at h; cases h
      · show a < a + 1; omega
def parseD (s : ByteArray) : Nat → Nat → List Opn → List Opn × Int
  | 0, a, out => (out, 0)
  | f + 1, a, out => if s.size ≤ a then (out, 0) else if (parseAt s a).1 = 0 then (if 256 < out.length + 1 then ([], 6) else parseD s f (parseAt s a).2.2 (out ++ [(parseAt s a).2.1])) else ([], (parseAt s a).1)
theorem parseD_fuel (s : ByteArray) : ∀ (f f' a : Nat) (out : List Opn), s.size < a + f → s.size < a + f' → parseD s f a out = parseD s f' a out
  | 0, 0, a, out, _, _ => rfl
  | 0, f' + 1, a, out, h, _ => by rw [parseD, parseD, if_pos (by omega)]
  | f + 1, 0, a, out, _, h => by rw [parseD, parseD, if_pos (by omega)]
  | f + 1, f' + 1, a, out, h, h' => by
    rw [parseD, parseD]
    split
    · rfl
    · split
      · next c =>
        split
        · rfl
        · have := parseAt_next s a c
          exact parseD_fuel s f f' _ _ (by omega) (by omega)
      · rfl
/-- What is left to be parsed, from a place on, behind what was. -/
def parseR (s : ByteArray) (a : Nat) (out : List Opn) : List Opn × Int := parseD s (s.size + 1) a out
def parseB (s : ByteArray) : List Opn × Int := parseR s 0 []
theorem parseR_end {s : ByteArray} {a : Nat} {out : List Opn} (h : s.size ≤ a) : parseR s a out = (out, 0) := by unfold parseR; rw [parseD, if_pos h]
theorem parseR_err {s : ByteArray} {a : Nat} {out : List Opn} (h : a < s.size) (he : (parseAt s a).1 ≠ 0) : parseR s a out = ([], (parseAt s a).1) := by unfold parseR; rw [parseD, if_neg (by omega), if_neg he]
theorem parseR_many {s : ByteArray} {a : Nat} {out : List Opn} (h : a < s.size) (he : (parseAt s a).1 = 0) (hm : 256 < out.length + 1) : parseR s a out = ([], 6) := by unfold parseR; rw [parseD, if_neg (by omega), if_pos he, if_pos hm]
theorem parseR_step {s : ByteArray} {a : Nat} {out : List Opn} (h : a < s.size) (he : (parseAt s a).1 = 0) (hm : ¬ 256 < out.length + 1) : parseR s a out = parseR s (parseAt s a).2.2 (out ++ [(parseAt s a).2.1]) := by
  have hn := parseAt_next s a he
  unfold parseR
  rw [parseD, if_neg (by omega), if_pos he, if_neg hm]
  exact parseD_fuel s _ _ _ _ (by omega) (by omega)
end Go.Proofs.Ytjcgakmhpblanaa
namespace Go.Proofs.Ytjcgakmhpblanaa
open Go Go.RowKit
set_option linter.unusedVariables false

/-- The bytes of a text. -/
def bl (s : ByteArray) : List Int := (List.range s.size).map (byt s)
theorem bl_len (s : ByteArray) : (bl s).length = s.size := by simp [bl]
theorem bl_str (s : ByteArray) : strOfNums (bl s) = s := by
  have hb : ∀ x ∈ bl s, 0 ≤ x ∧ x < 256 := by
    intro x hx
    obtain ⟨i, _, rfl⟩ := List.mem_map.1 hx
    exact byt_bd s i
  refine byt_ext _ _ (by rw [strOfNums_size, bl_len]) fun j hj => ?_
  rw [strOfNums_size, bl_len] at hj
  rw [byt_nums _ hb _ (by rw [bl_len]; exact hj)]
  simp [bl, List.getD, hj]
theorem bl_part (s : ByteArray) (a k : Nat) (h : a + k ≤ s.size) : ((bl s).drop a).take k = (List.range k).map fun j => byt s (a + j) := by
  apply List.ext_getElem
  · simp [bl_len]; omega
  · intro j h1 h2
    simp [bl]
theorem numP_ext {f g : Nat → Int} (h : ∀ j, j < 8 → f j = g j) : numP f 8 = numP g 8 := by
  simp only [numP, h 0 (by decide), h 1 (by decide), h 2 (by decide), h 3 (by decide), h 4 (by decide), h 5 (by decide), h 6 (by decide), h 7 (by decide), show 7 - 0 = 7 from rfl, show 7 - 1 = 6 from rfl, show 7 - 2 = 5 from rfl, show 7 - 3 = 4 from rfl, show 7 - 4 = 3 from rfl, show 7 - 5 = 2 from rfl, show 7 - 6 = 1 from rfl, show 7 - 7 = 0 from rfl]
theorem at_ok (s : ByteArray) (a : Nat) (ha : a < s.size) (h : (parseAt s a).1 = 0) :
    (parseAt s a).2.2 ≤ s.size ∧ rightO (parseAt s a).2.1 = true ∧ U (parseAt s a).2.1.2 ∧ opN (parseAt s a).2.1 = ((bl s).drop a).take ((parseAt s a).2.2 - a) := by
  unfold parseAt at h ⊢
  split
  · next c => rw [if_pos c] at h; cases h
  · next c =>
    rw [if_neg c] at h
    split
    · next d =>
      rw [if_pos d] at h
      split
      · next e =>
        have hb := fun j => byt_bd s (a + 1 + j)
        refine ⟨e.1, ?_, numB_U _ _, ?_⟩
        · show rightO (3, numB s (a + 1)) = true
          unfold rightO
          rw [if_neg (by show ¬ ((3 : Int) = 1 ∨ (3 : Int) = 2); omega), if_pos rfl]
          exact decide_eq_true e.2
        · show opN (3, numB s (a + 1)) = ((bl s).drop a).take (a + 9 - a)
          rw [show a + 9 - a = 9 by omega, bl_part s a 9 e.1, List.range_succ_eq_map]
          unfold opN
          rw [if_pos rfl]
          simp only [List.map_cons, Nat.add_zero, List.map_map]
          congr 1
          · exact d.symm
          · apply List.map_congr_left
            intro i hi
            have hi8 := List.mem_range.1 hi
            show oct (numP (fun j => byt s (a + 1 + j)) 8) i = byt s (a + (i + 1))
            rw [oct_numP hb i hi8, show a + 1 + i = a + (i + 1) by omega]
      · next e => rw [if_neg e] at h; cases h
    · next d =>
      rw [if_neg d] at h
      split
      · next f =>
        rw [if_pos f] at h
        split
        · next e =>
          have hb := byt_bd s (a + 1)
          refine ⟨e, ?_, ⟨hb.1, ?_⟩, ?_⟩
          · show rightO (byt s a, byt s (a + 1)) = true
            unfold rightO
            rw [if_pos f]
            exact decide_eq_true hb.2
          · show byt s (a + 1) < 18446744073709551616
            omega
          · show opN (byt s a, byt s (a + 1)) = ((bl s).drop a).take (a + 2 - a)
            rw [show a + 2 - a = 2 by omega, bl_part s a 2 e]
            unfold opN
            rw [if_neg d, if_pos f]
            rfl
        · next e => rw [if_neg e] at h; cases h
      · next f =>
        refine ⟨ha, ?_, ⟨by show (0 : Int) ≤ 0; omega, by show (0 : Int) < 18446744073709551616; omega⟩, ?_⟩
        · show rightO (byt s a, 0) = true
          unfold rightO
          rw [if_neg f, if_neg d, if_pos (by show byt s a = 4 ∨ byt s a = 5 ∨ byt s a = 6; omega)]
          rfl
        · show opN (byt s a, 0) = ((bl s).drop a).take (a + 1 - a)
          rw [show a + 1 - a = 1 by omega, bl_part s a 1 ha]
          unfold opN
          rw [if_neg d, if_neg f]
          rfl
theorem print_parse (s : ByteArray) : ∀ (n a : Nat) (out m : List Opn), s.size - a ≤ n → a ≤ s.size → codeN out = (bl s).take a → (∀ o ∈ out, rightO o = true ∧ U o.2) → out.length ≤ 256 → parseR s a out = (m, 0) →
    codeB m = s ∧ (∀ o ∈ m, rightO o = true ∧ U o.2) ∧ m.length ≤ 256 := by
  intro n
  induction n with
  | zero =>
    intro a out m hn ha hc hr hl hp
    rw [parseR_end (by omega)] at hp
    cases hp
    refine ⟨?_, hr, hl⟩
    unfold codeB
    rw [hc, List.take_of_length_le (by rw [bl_len]; omega), bl_str]
  | succ n ih =>
    intro a out m hn ha hc hr hl hp
    by_cases h : a < s.size
    · by_cases he : (parseAt s a).1 = 0
      · by_cases hm : 256 < out.length + 1
        · rw [parseR_many h he hm] at hp
          cases hp
        · rw [parseR_step h he hm] at hp
          obtain ⟨h1, h2, h3, h4⟩ := at_ok s a h he
          have h5 := parseAt_next s a he
          refine ih (parseAt s a).2.2 (out ++ [(parseAt s a).2.1]) m (by omega) h1 ?_ ?_ (by rw [List.length_append]; show out.length + 1 ≤ 256; omega) hp
          · rw [codeN_app, codeN_one, hc, h4]
            rw [show (bl s).take (parseAt s a).2.2 = (bl s).take (a + ((parseAt s a).2.2 - a)) by rw [show a + ((parseAt s a).2.2 - a) = (parseAt s a).2.2 by omega], List.take_add]
          · intro o ho
            rcases List.mem_append.1 ho with ho | ho
            · exact hr o ho
            · obtain rfl : o = _ := by simpa using ho
              exact ⟨h2, h3⟩
      · rw [parseR_err h he] at hp
        have : (parseAt s a).1 = 0 := (Prod.mk.inj hp).2
        exact absurd this he
    · rw [parseR_end (by omega)] at hp
      cases hp
      refine ⟨?_, hr, hl⟩
      unfold codeB
      rw [hc, List.take_of_length_le (by rw [bl_len]; omega), bl_str]
/-- What is parsed may be written, and is written just so. -/
theorem parse_back {s : ByteArray} {m : List Opn} (h : parseB s = (m, 0)) : codeB m = s ∧ (∀ o ∈ m, rightO o = true ∧ U o.2) ∧ m.length ≤ 256 :=
  print_parse s s.size 0 [] m (by omega) (Nat.zero_le _) (by simp [codeN_nil]) (fun o ho => by cases ho) (by simp) h
/-- One operation stands where it was written. -/
theorem at_print (pre post : List Opn) (o : Opn) (hr : ∀ x ∈ pre ++ o :: post, rightO x = true ∧ U x.2) :
    parseAt (codeB (pre ++ o :: post)) (codeN pre).length = (0, o, (codeN pre).length + (opN o).length) := by
  have hc : codeN (pre ++ o :: post) = codeN pre ++ (opN o ++ codeN post) := by simp [codeN]
  have hbd := codeN_bd hr
  have hsz : (codeB (pre ++ o :: post)).size = (codeN pre).length + ((opN o).length + (codeN post).length) := by unfold codeB; rw [strOfNums_size, hc, List.length_append, List.length_append]
  have hat : ∀ j, j < (opN o).length → byt (codeB (pre ++ o :: post)) ((codeN pre).length + j) = (opN o).getD j 0 := by
    intro j hj
    unfold codeB
    rw [byt_nums _ hbd _ (by rw [hc]; simp; omega), hc]
    simp [List.getD, List.getElem?_append_right, List.getElem?_append_left, hj]
  obtain ⟨hro, huo⟩ := hr o (by simp)
  have hk := right_kind hro
  generalize codeB (pre ++ o :: post) = s at *
  generalize (codeN pre).length = p at *
  obtain ⟨k, n⟩ := o
  have h0 : byt s p = k := by
    have := hat 0 (opN_pos _)
    rw [Nat.add_zero] at this
    rw [this]
    unfold opN
    split
    · next c => exact c.symm
    · split <;> rfl
  unfold parseAt
  rw [h0, if_neg (by have := hk.1; have := hk.2; show ¬ (k < 1 ∨ 6 < k); simp only at *; omega)]
  by_cases h3 : k = 3
  · subst h3
    have e : opN ((3 : Int), n) = 3 :: (List.range 8).map (oct n) := if_pos rfl
    have hl : (opN ((3 : Int), n)).length = 9 := by rw [e]; rfl
    have hnum : numB s (p + 1) = n := by
      unfold numB
      rw [numP_ext (g := oct n) fun j hj => ?_]
      · exact numP_oct n huo
      · have := hat (1 + j) (by rw [hl]; omega)
        rw [show p + 1 + j = p + (1 + j) by omega, this, e]
        simp [List.getD, Nat.add_comm 1 j, hj]
    have hp : n < 18446744069414584321 := by
      unfold rightO at hro
      rw [if_neg (by show ¬ ((3 : Int) = 1 ∨ (3 : Int) = 2); omega), if_pos rfl] at hro
      exact of_decide_eq_true hro
    rw [if_pos rfl, hnum, if_pos ⟨by rw [hsz, hl]; omega, hp⟩, hl]
  · rw [if_neg h3]
    by_cases h1 : k = 1 ∨ k = 2
    · have e : opN (k, n) = [k, n] := by unfold opN; rw [if_neg h3, if_pos h1]
      have hl : (opN (k, n)).length = 2 := by rw [e]; rfl
      have hn1 : byt s (p + 1) = n := by rw [hat 1 (by rw [hl]; omega), e]; rfl
      rw [if_pos h1, hn1, if_pos (by rw [hsz, hl]; omega), hl]
    · have e : opN (k, n) = [k] := by unfold opN; rw [if_neg h3, if_neg h1]
      have hl : (opN (k, n)).length = 1 := by rw [e]; rfl
      have hn0 : n = 0 := by
        unfold rightO at hro
        rw [if_neg h1, if_neg h3] at hro
        split at hro
        · exact of_decide_eq_true hro
        · cases hro
      rw [if_neg h1, hl, hn0]
theorem parse_from (l : List Opn) (hr : ∀ x ∈ l, rightO x = true ∧ U x.2) : ∀ (d i : Nat), l.length - i = d → i ≤ l.length → i ≤ 256 → parseR (codeB l) (codeN (l.take i)).length (l.take i) = if l.length ≤ 256 then (l, 0) else ([], 6) := by
  intro d
  induction d with
  | zero =>
    intro i hd hi h256
    have e : i = l.length := by omega
    subst e
    rw [List.take_length, parseR_end (by unfold codeB; rw [strOfNums_size]; exact Nat.le_refl _), if_pos h256]
  | succ d ih =>
    intro i hd hi h256
    have hlt : i < l.length := by omega
    have hsplit : l = l.take i ++ l[i] :: l.drop (i + 1) := by rw [← List.drop_eq_getElem_cons hlt, List.take_append_drop]
    have hat := at_print (l.take i) (l.drop (i + 1)) l[i] (by rw [← hsplit]; exact hr)
    rw [← hsplit] at hat
    have hsz : (codeN (l.take i)).length < (codeB l).size := by
      have h1 : codeN l = codeN (l.take i) ++ (opN l[i] ++ codeN (l.drop (i + 1))) := by
        have h3 := congrArg codeN hsplit
        rw [codeN_app] at h3
        rw [h3, show l[i] :: l.drop (i + 1) = [l[i]] ++ l.drop (i + 1) from rfl, codeN_app, codeN_one]
      have h2 := opN_pos l[i]
      unfold codeB
      rw [strOfNums_size, h1, List.length_append, List.length_append]
      omega
    have hlen : (l.take i).length = i := by rw [List.length_take]; omega
    have he : (parseAt (codeB l) (codeN (l.take i)).length).1 = 0 := by rw [hat]
    by_cases hm : 256 < i + 1
    · rw [parseR_many hsz he (by rw [hlen]; exact hm), if_neg (by omega)]
    · rw [parseR_step hsz he (by rw [hlen]; exact hm), hat]
      have e1 : l.take i ++ [l[i]] = l.take (i + 1) := by rw [List.take_succ_eq_append_getElem hlt]
      have e2 : (codeN (l.take i)).length + (opN l[i]).length = (codeN (l.take (i + 1))).length := by rw [← e1, codeN_app, codeN_one, List.length_append]
      show parseR (codeB l) ((codeN (l.take i)).length + (opN l[i]).length) (l.take i ++ [l[i]]) = _
      rw [e2, e1]
      exact ih (i + 1) (by omega) (by omega) (by omega)
/-- Operations that may be written are parsed as they were, if there aren't too many. -/
theorem parse_print (l : List Opn) (hr : ∀ x ∈ l, rightO x = true ∧ U x.2) : parseB (codeB l) = if l.length ≤ 256 then (l, 0) else ([], 6) := by
  have := parse_from l hr l.length 0 (by omega) (Nat.zero_le _) (by omega)
  simpa [parseB, codeN_nil] using this
theorem codeB_app (l m : List Opn) : codeB (l ++ m) = codeB l ++ codeB m := by
  unfold codeB
  rw [codeN_app]
  apply ByteArray.ext
  rw [ByteArray.data_append]
  simp [strOfNums]
/-- Two codes, one behind the other. -/
theorem parse_join {s t : ByteArray} {a b : List Opn} (h1 : parseB s = (a, 0)) (h2 : parseB t = (b, 0)) : parseB (s ++ t) = if a.length + b.length ≤ 256 then (a ++ b, 0) else ([], 6) := by
  obtain ⟨e1, r1, _⟩ := parse_back h1
  obtain ⟨e2, r2, _⟩ := parse_back h2
  have := parse_print (a ++ b) (fun x hx => by
    rcases List.mem_append.1 hx with hx | hx
    · exact r1 x hx
    · exact r2 x hx)
  rw [codeB_app, e1, e2, List.length_append] at this
  exact this
theorem codeB_size (l : List Opn) : (codeB l).size = (codeN l).length := by unfold codeB; rw [strOfNums_size]
/-- A column takes two bytes, a constant nine, all else one. -/
theorem opN_len (o : Opn) : (opN o).length = if o.1 = 3 then 9 else if o.1 = 1 ∨ o.1 = 2 then 2 else 1 := by
  unfold opN
  split
  · rfl
  · split <;> rfl
end Go.Proofs.Ytjcgakmhpblanaa
namespace Go.Proofs.Ytjcgakmhpblanaa
open Go Go.RowKit
set_option linter.unusedVariables false

/-- A slice of operations. -/
def OpA (w : World) (a : Option Addr) (len : Nat) (zs : List Opn) : Prop :=
  zs.length = len ∧ len ≤ maxLen ∧ ∀ k, k < len → ∃ b off : Nat, a = some ⟨b, off, none⟩ ∧ w.cell? ⟨b, off + k * 2, none⟩ = some (.int .i64 (zs.getD k (0, 0)).1) ∧ w.cell? ⟨b, off + k * 2 + 1, none⟩ = some (.int .u64 (zs.getD k (0, 0)).2)
theorem OpA.keep {w w' : World} {a : Option Addr} {len : Nat} {zs : List Opn} (h : OpA w a len zs) (hb : Below w.heap.size w w') : OpA w' a len zs :=
  ⟨h.1, h.2.1, fun k hk => by obtain ⟨b, off, e, c0, c1⟩ := h.2.2 k hk; exact ⟨b, off, e, bkeep hb c0, bkeep hb c1⟩⟩
abbrev opV (o : Opn) : Value := .agg #[.int .i64 o.1, .int .u64 o.2]
/-- An operation, as it may come. -/
def OkO (o : Opn) : Prop := (-9223372036854775808 ≤ o.1 ∧ o.1 ≤ 9223372036854775807) ∧ U o.2
def ParsePost (W : World) (m : List Opn) (r : Int) (e : Ending) (w' : World) : Prop :=
  Below W.heap.size W w' ∧ ∃ (a : Option Addr) (cap : Nat), e = .returned (.tuple #[.slice a m.length cap, .int .i64 r]) ∧ OpA w' a m.length m ∧ (a = none → cap = 0)
set_option maxHeartbeats 2000000 in
theorem rcright_is (k n : Int) (r : Bool) (w : World) (hk : OkO (k, n)) (hr : rightO (k, n) = r) : Calls Try.prog 48 #[.agg #[.int .i64 k, .int .u64 n]] w fun e w' => e = .returned (.bool r) ∧ Below w.heap.size w w' := by
  have HR := Lib.hid hr
  clear hr
  go_enter Try.func48, Try.ntmps48
  go_upto_region 1 with fail
  refine wp_gen (fun W => Below w.heap.size w W ∧ W.cell? ⟨w.heap.size, 0, none⟩ = some (.int .i64 k) ∧ W.cell? ⟨w.heap.size, 1, none⟩ = some (.int .u64 n)) ⟨(Below.refl _ _).alloc (Nat.le_refl _) _, by simp [go_sem], by simp [go_sem]⟩ ?_
  obtain ⟨g, hg⟩ : ∃ g, w.heap.size = g := ⟨_, rfl⟩
  rintro W1 ⟨hB, c0, c1⟩
  rw [hg] at c0 c1
  simp only [hg]
  have HB := Lib.hid hB
  clear hB hg
  have hcase : k = 1 ∨ k = 2 ∨ k = 3 ∨ k = 4 ∨ k = 5 ∨ k = 6 ∨ (¬ k = 1 ∧ ¬ k = 2 ∧ ¬ k = 3 ∧ ¬ k = 4 ∧ ¬ k = 5 ∧ ¬ k = 6) := by omega
  rcases hcase with rfl | rfl | rfl | rfl | rfl | rfl | ⟨h1, h2, h3, h4, h5, h6⟩
  all_goals
    go_wp2_with fail
    go_ret
    refine ⟨?_, HB.out⟩
    rw [← HR.out]
    (simp_all [rightO]) <;> (rw [Bool.eq_iff_iff]; simp)
set_option maxHeartbeats 1000000 in
theorem rtakes_is (k : Int) (r : Bool) (w : World) (hr : decide (k = 1 ∨ k = 2 ∨ k = 3) = r) : Calls Try.prog 47 #[.int .i64 k] w fun e w' => e = .returned (.bool r) ∧ w' = w := by
  subst hr
  by_cases h1 : k = 1
  · subst h1
    go_enter Try.func47, Try.ntmps47
    go_wp2
    go_ret
    exact ⟨rfl, rfl⟩
  · by_cases h2 : k = 2
    · subst h2
      go_enter Try.func47, Try.ntmps47
      go_wp2
      go_ret
      exact ⟨rfl, rfl⟩
    · by_cases h3 : k = 3
      · subst h3
        go_enter Try.func47, Try.ntmps47
        go_wp2
        go_ret
        exact ⟨rfl, rfl⟩
      · have e : decide (k = 1 ∨ k = 2 ∨ k = 3) = false := decide_eq_false (by omega)
        rw [e]
        clear e
        go_enter Try.func47, Try.ntmps47
        go_wp2
        go_ret
        exact ⟨by simp [h1, h2, h3], rfl⟩
/-- The same operations: where they are. -/
def SameRel15 (w : World) (n : Nat) (i : Value) (W : World) : Prop := ∃ k : Nat, k ≤ n ∧ i = .int .i64 k ∧ Below w.heap.size w W
end Go.Proofs.Ytjcgakmhpblanaa
namespace Go.Proofs.Ytjcgakmhpblanaa
open Go Go.RowKit
set_option linter.unusedVariables false

theorem strOf_cat (xs ys : List Int) : strOfNums (xs ++ ys) = strOfNums xs ++ strOfNums ys := by
  apply ByteArray.ext
  rw [ByteArray.data_append]
  simp [strOfNums]
abbrev one8 (x : Int) : ByteArray := strOfNums [x]
theorem one8_size (x : Int) : (strOfNums [x]).size = 1 := by rw [strOfNums_size]; rfl
theorem codeN_len_le : ∀ l : List Opn, (codeN l).length ≤ 9 * l.length
  | [] => by simp [codeN_nil]
  | o :: l => by
    have h := codeN_len_le l
    have h2 := opN_len o
    have e : codeN (o :: l) = opN o ++ codeN l := by simp [codeN]
    rw [e, List.length_append, List.length_cons, h2]
    split
    · omega
    · split <;> omega
theorem conv_one (x : Int) (W : World) : (convert 81 9 (.slice (some ⟨W.heap.size, 0, none⟩) 1 1)).run Try.prog (W.alloc (.cells #[.int .u8 x] 5)) = .ok (.string (strOfNums [x])) (W.alloc (.cells #[.int .u8 x] 5)) :=
  run_convert_bytes_arg (P := Try.prog) (W.alloc (.cells #[.int .u8 x] 5)) 81 5 (by kernel_rfl) (by kernel_rfl) W.heap.size 0 1 1 [x] rfl (fun j hj => by
    have : j = 0 := by omega
    subst this
    simp [go_sem]) 9 (by kernel_rfl)
def PrintRel (w : World) (zs : List Opn) (s i : Value) (W : World) : Prop := ∃ k : Nat, k ≤ zs.length ∧ s = .string (codeB (zs.take k)) ∧ i = .int .i64 k ∧ Below w.heap.size w W
theorem codeB_next (zs : List Opn) (k : Nat) (h : k < zs.length) (P : ByteArray) (hP : codeB (zs.take k) = P) (x y : Int) (hx : (zs.getD k (0, 0)).1 = x) (hy : (zs.getD k (0, 0)).2 = y) : codeB (zs.take (k + 1)) = P ++ strOfNums (opN (x, y)) := by
  have e : zs.getD k (0, 0) = zs[k] := by simp [List.getD, h]
  have e2 : zs[k] = (x, y) := by rw [← e]; exact Prod.ext hx hy
  rw [List.take_succ_eq_append_getElem h, codeB_app, hP, e2]
  unfold codeB
  rw [codeN_one]
set_option maxHeartbeats 4000000 in
set_option maxRecDepth 100000 in
theorem rprint_is (a : Option Addr) (len cap : Nat) (zs : List Opn) (z : ByteArray) (w : World) (hO : OpA w a len zs) (hr : ∀ o ∈ zs, rightO o = true ∧ U o.2) (hl : len ≤ 1000) (hz : codeB zs = z) :
    Calls Try.prog 39 #[.slice a len cap] w fun e w' => e = .returned (.string z) ∧ Below w.heap.size w w' := by
  obtain ⟨rfl, hlm, hcell⟩ := hO
  have HC := Lib.hid hcell
  have HU : Hid (∀ k, k < zs.length → rightO (zs.getD k (0, 0)) = true ∧ U (zs.getD k (0, 0)).2) := Lib.hid fun k hk => by
    have e : zs.getD k (0, 0) = zs[k] := by simp [List.getD, hk]
    rw [e]
    exact hr _ (List.getElem_mem hk)
  have HZ := Lib.hid hz
  have hcv := fun x W => conv_one x W
  clear hcell hr hz hlm
  go_enter Try.func39, Try.ntmps39
  go_upto_region 3 with fail
  go_loopw [3, 4] (PrintRel w zs) (fun _ i _ => zs.length - (intOf i).toNat)
  case atStart => exact ⟨0, Nat.zero_le _, rfl, rfl, Below.refl _ _⟩
  case round =>
    obtain ⟨k, hk, rfl, rfl, hB⟩ := hrel
    by_cases hlt : k < zs.length
    · obtain ⟨b, off, rfl, g0, g1⟩ := HC.out k hlt
      replace g0 := bkeep hB g0; replace g1 := bkeep hB g1
      have hbl := World.block_lt_of_cell? _ _ g0
      have hbne : b ≠ wr.heap.size := by have : b < wr.heap.size := hbl; omega
      have hlt' : (k : Int) < (zs.length : Int) := by omega
      have hk0 : (0 : Int) ≤ (k : Int) := by omega
      obtain ⟨hro, huo⟩ := HU.out k hlt
      have hps : (codeB (zs.take k)).size ≤ 9000 := by
        have := codeN_len_le (zs.take k)
        have h2 : (zs.take k).length ≤ k := by rw [List.length_take]; omega
        rw [codeB_size]
        omega
      have HN := Lib.hid (fun P hP x y hx hy => codeB_next zs k hlt P hP x y hx hy)
      obtain ⟨P, hP⟩ : ∃ P, codeB (zs.take k) = P := ⟨_, rfl⟩
      obtain ⟨x, hx⟩ : ∃ x, (zs.getD k (0, 0)).1 = x := ⟨_, rfl⟩
      obtain ⟨y, hy⟩ : ∃ y, (zs.getD k (0, 0)).2 = y := ⟨_, rfl⟩
      have hxy : zs.getD k (0, 0) = (x, y) := Prod.ext hx hy
      have HN2 := Lib.hid (HN.out P hP x y hx hy)
      rw [hxy] at hro
      rw [hP] at hps ⊢
      rw [hx] at g0
      rw [hy] at g1 huo
      have hkd := right_kind hro
      have hwx : IntKind.u8.wrap x = x := by rw [IntKind.wrap_u8]; have h1 := hkd.1; have h2 := hkd.2; exact Int.emod_eq_of_lt (by simp only at h1; omega) (by simp only at h2; omega)
      have hwx' : x % 256 = x := by have h1 := hkd.1; have h2 := hkd.2; exact Int.emod_eq_of_lt (by simp only at h1; omega) (by simp only at h2; omega)
      have hq1 := one8_size x
      have hq2 := one8_size y
      have hE := eightB_size y
      have ke := fun W => reight_is y huo W
      have hcx := fun W => hcv x W
      have hcy := fun W => hcv y W
      have HB := Lib.hid hB
      have hJ : Hid (∀ Q, P ++ strOfNums (opN (x, y)) = Q → codeB (zs.take (k + 1)) = Q) := Lib.hid fun Q hQ => HN2.out.trans hQ
      clear hB HN HN2 hxy hx hy hP hcv
      by_cases h3 : x = 3
      · subst h3
        have hop : P ++ strOfNums (opN (3, y)) = P ++ strOfNums [3] ++ eightB y := by
          have e : opN (3, y) = [3] ++ (List.range 8).map (oct y) := rfl
          rw [e, strOf_cat, ByteArray.append_assoc]
          rfl
        have HF := Lib.hid (hJ.out _ hop)
        clear hop hJ hro hkd hwx hwx'
        generalize strOfNums [3] = Qx at *
        generalize strOfNums [y] = Qy at *
        generalize eightB y = E at *
        go_wp2_with (go_at_call 52; ((with_reducible refine (ke _).mono ?_); rintro e w1 ⟨rfl, hb⟩))
        go_roundw
        case rel => exact ⟨k + 1, by omega, by rw [HF.out], by go_num, bthen (bthen HB.out ((Below.refl _ _).alloc (Nat.le_refl _) _)) hb⟩
        case measure => simp [intOf]; omega
      · have kt := fun W r hr => rtakes_is x r W hr
        by_cases h12 : x = 1 ∨ x = 2
        · have hop : P ++ strOfNums (opN (x, y)) = P ++ strOfNums [x] ++ strOfNums [y] := by
            have e : opN (x, y) = [x] ++ [y] := by unfold opN; rw [if_neg h3, if_pos h12]; rfl
            rw [e, strOf_cat, ByteArray.append_assoc]
          have hyb : y < 256 := by unfold rightO at hro; rw [if_pos h12] at hro; exact of_decide_eq_true hro
          have hwy : IntKind.u8.wrap y = y := by rw [IntKind.wrap_u8]; exact Int.emod_eq_of_lt huo.1 hyb
          have hwy' : y % 256 = y := Int.emod_eq_of_lt huo.1 hyb
          have kt := fun W => kt W true (decide_eq_true (by omega))
          have HF := Lib.hid (hJ.out _ hop)
          have hcy2 := hcy (wr.alloc (.cells #[.int .u8 x] 5))
          rw [show (wr.alloc (.cells #[.int .u8 x] 5)).heap.size = wr.heap.size + 1 by simp] at hcy2
          clear hop hJ hro hkd hyb h12
          generalize strOfNums [x] = Qx at *
          generalize strOfNums [y] = Qy at *
          go_wp2_with (go_at_call 47; ((with_reducible refine (kt _).mono ?_); rintro e w1 ⟨rfl, rfl⟩))
          go_roundw
          case rel => exact ⟨k + 1, by omega, by rw [HF.out], by go_num, (HB.out.alloc HB.out.size _).alloc (by have := HB.out.size; simp; omega) _⟩
          case measure => simp [intOf]; omega
        · have hop : P ++ strOfNums (opN (x, y)) = P ++ strOfNums [x] := by
            have e : opN (x, y) = [x] := by unfold opN; rw [if_neg h3, if_neg h12]
            rw [e]
          have kt := fun W => kt W false (decide_eq_false (by omega))
          have HF := Lib.hid (hJ.out _ hop)
          clear hop hJ hro hkd h12
          generalize strOfNums [x] = Qx at *
          go_wp2_with (go_at_call 47; ((with_reducible refine (kt _).mono ?_); rintro e w1 ⟨rfl, rfl⟩))
          go_roundw
          case rel => exact ⟨k + 1, by omega, by rw [HF.out], by go_num, bthen HB.out ((Below.refl _ _).alloc (Nat.le_refl _) _)⟩
          case measure => simp [intOf]; omega
    · obtain rfl : k = zs.length := by omega
      have hZ : codeB (zs.take zs.length) = z := by rw [List.take_length]; exact HZ.out
      rw [hZ]
      have HB := Lib.hid hB
      clear hB hZ HZ HC HU hcv
      go_wp2_with fail
      go_ret
      exact ⟨rfl, HB.out⟩
end Go.Proofs.Ytjcgakmhpblanaa
namespace Go.Proofs.Ytjcgakmhpblanaa
open Go Go.RowKit
set_option linter.unusedVariables false

theorem infoOp : (Try.prog.info? 66).map (fun i => (i.zero, i.size, i.bytes)) = some (some (.agg #[.int .i64 0, .int .u64 0]), 2, 16) := by kernel_rfl
def flatO (xs : List Opn) : List Value := xs.flatMap fun z => [.int .i64 z.1, .int .u64 z.2]
theorem flatO_at : ∀ (xs : List Opn) (i : Nat), i < xs.length → (flatO xs)[i * 2]? = some (.int .i64 (xs.getD i (0, 0)).1) ∧ (flatO xs)[i * 2 + 1]? = some (.int .u64 (xs.getD i (0, 0)).2)
  | x :: xs, 0, _ => ⟨rfl, rfl⟩
  | x :: xs, i + 1, h => by
    have ih := flatO_at xs i (by simpa using h)
    have e : flatO (x :: xs) = .int .i64 x.1 :: .int .u64 x.2 :: flatO xs := by simp [flatO]
    rw [e, show (i + 1) * 2 = i * 2 + 1 + 1 by omega]
    simpa [List.getD] using ih
theorem own_oprow {W : World} {B : Nat} {v : Value} {l : List Opn} (h : W.ownsRow B 66 2 v l.length (flatO l)) : ∃ a c, v = .slice a l.length c ∧ OpA W a l.length l ∧ (a = none → c = 0) := by
  rcases h.2 with ⟨hv, h0⟩ | ⟨g, cap, cur, hv, hb, hg, hn, hcap, hsz, ht⟩
  · exact ⟨none, 0, by rw [hv, h0], ⟨rfl, by unfold maxLen; omega, fun k hk => by omega⟩, fun _ => rfl⟩
  · refine ⟨some ⟨g, 0, none⟩, cap, hv, ⟨rfl, by omega, fun i hi => ⟨g, 0, rfl, ?_⟩⟩, fun h => by cases h⟩
    subst hv
    have h0 := h.cellAt (i * 2) (by omega)
    have h1 := h.cellAt (i * 2 + 1) (by omega)
    obtain ⟨f0, f1⟩ := flatO_at l i hi
    rw [Nat.zero_add, h0, h1]
    exact ⟨f0, f1⟩
theorem numB_from (s : ByteArray) (o : Nat) (h : o + 8 ≤ s.size) : numB (s.extract o s.size) 0 = numB s o := by
  unfold numB
  exact numP_ext fun j hj => by rw [Nat.zero_add, byt_extract _ _ _ _ (Nat.le_refl _) (by omega)]
/-- What is parsed, in a row of its own. -/
def ParseOwn (W : World) (m : List Opn) (r : Int) (e : Ending) (w' : World) : Prop := Below W.heap.size W w' ∧ ∃ v, e = .returned (.tuple #[v, .int .i64 r]) ∧ w'.ownsRow W.heap.size 66 2 v m.length (flatO m)
def ParseRel (w : World) (s : ByteArray) (m : List Opn) (r : Int) (v i : Value) (W : World) : Prop :=
  ∃ (a : Nat) (out : List Opn) (ad : Option Addr) (cap : Nat), (a ≤ s.size ∧ a ≤ 9 * out.length) ∧ v = .slice ad out.length cap ∧ i = .int .i64 a ∧ Below w.heap.size w W ∧ W.ownsRow w.heap.size 66 2 v out.length (flatO out) ∧ out.length ≤ 256 ∧ parseR s a out = (m, r)
set_option maxRecDepth 100000 in
set_option maxHeartbeats 8000000 in
theorem rcparse_own (s : ByteArray) (m : List Opn) (r : Int) (w : World) (hs : s.size ≤ 9223372036854775807) (hr : parseB s = (m, r)) : Calls Try.prog 31 #[.string s] w (ParseOwn w m r) := by
  obtain ⟨i0, hi, hz0, hz1, hz2⟩ := info_parts infoOp
  have HR : Hid (∀ a : List Opn × Int, a = (m, r) → a.1 = m ∧ a.2 = r) := Lib.hid fun a h => by subst h; exact ⟨rfl, rfl⟩
  have HR0 := Lib.hid hr
  clear hr
  go_enter Try.func31, Try.ntmps31
  go_upto_region 3 with fail
  go_loopw [4, 5] (ParseRel w s m r) (fun _ i _ => s.size - (intOf i).toNat)
  case atStart => exact ⟨0, [], none, 0, ⟨Nat.zero_le _, Nat.zero_le _⟩, rfl, rfl, Below.refl _ _, World.ownsRow_nil _ _ _ _, by simp, HR0.out⟩
  case round =>
    clear HR0
    obtain ⟨a, out, ad, cap, ⟨ha, ha9⟩, rfl, rfl, hB, hown, hlen, hres⟩ := hrel
    by_cases hlt : a < s.size
    · have hltI : (a : Int) < (s.size : Int) := by omega
      have ha0 : (0 : Int) ≤ (a : Int) := by omega
      have hbd := byt_bd s a
      have e1 : IntKind.i64.wrap (((s[a]'hlt).toNat : Nat) : Int) = byt s a := by rw [byt_get]; exact IntWalk.i64_in _ (by omega)
      have HB := Lib.hid hB; have HO := Lib.hid hown; have HRES := Lib.hid hres; have HA := Lib.hid hlt
      clear hB hown hres
      go_upto_region 5 with fail
      have hb2 := (Below.refl wr.heap.size wr).alloc (Nat.le_refl _) (.cells #[.int .i64 (byt s a), .int .u64 0] 66)
      have hol : ∀ k, (Value.slice ad out.length cap).ownBlock = some k → k ≠ wr.heap.size := fun k hk => by have := (HO.out.lt k hk).2; omega
      refine wp_gen (fun W => (Below w.heap.size w W ∧ w.heap.size ≤ wr.heap.size) ∧ W.ownsRow w.heap.size 66 2 (.slice ad out.length cap) out.length (flatO out) ∧ Duo W wr.heap.size (.int .i64 (byt s a)) (.int .u64 0)) ⟨⟨HB.out.alloc HB.out.size _, HB.out.size⟩, HO.out.alloc _, by simp [Duo, go_sem]⟩ ?_
      obtain ⟨g6, hg6⟩ : ∃ g, wr.heap.size = g := ⟨_, rfl⟩
      rintro W1 ⟨⟨hB, hgl⟩, hown, hD⟩
      rw [hg6] at hgl hD hol
      simp only [hg6]
      clear HB HO hb2 e1 hg6
      have HB := Lib.hid hB; have HO := Lib.hid hown; have H6 := Lib.hid hD
      obtain ⟨x0, x1, x2, x3⟩ := hD
      clear hB hown
      have hw1 : IntKind.i64.wrap ((a : Int) + 1) = (a : Int) + 1 := IntWalk.i64_in _ (by omega)
      have hcat : parseAt s a = parseAt s a := rfl
      generalize hk : byt s a = k at *
      by_cases hbad : k < 1 ∨ 6 < k
      · have HP : Hid (parseAt s a = (3, (0, 0), a)) := Lib.hid (by unfold parseAt; rw [hk, if_pos hbad])
        obtain ⟨e1, e2⟩ := HR.out _ ((parseR_err HA.out (by rw [HP.out]; show (3 : Int) ≠ 0; decide)).symm.trans HRES.out)
        rw [HP.out] at e2
        have e1 : ([] : List Opn) = m := e1
        have e2 : (3 : Int) = r := e2
        subst e1 e2
        clear HR HRES HP HO
        rcases hbad with hbad | hbad
        · go_wp2_with fail
          exact bodyPost_ret (v := .tuple #[.slice none 0 0, .int .i64 3]) (by simp [results, Try.results31, go_sem]) rfl ⟨HB.out, _, rfl, World.ownsRow_nil _ _ _ _⟩
        · have hn1 : ¬ k < 1 := by omega
          go_wp2_with fail
          exact bodyPost_ret (v := .tuple #[.slice none 0 0, .int .i64 3]) (by simp [results, Try.results31, go_sem]) rfl ⟨HB.out, _, rfl, World.ownsRow_nil _ _ _ _⟩
      · have hn1 : ¬ k < 1 := by omega
        have hn6 : ¬ 6 < k := by omega
        by_cases h3 : k = 3
        · subst h3
          by_cases h9 : a + 9 ≤ s.size
          · have hex : (s.extract (a + 1) s.size).size = s.size - (a + 1) := by rw [ByteArray.size_extract]; omega
            have kn := fun W => rnum_yes (s.extract (a + 1) s.size) (by omega) W
            rw [numB_from s (a + 1) (by omega)] at kn
            have hu := numB_U s (a + 1)
            by_cases hP : numB s (a + 1) < 18446744069414584321
            · have HP : Hid (parseAt s a = (0, (3, numB s (a + 1)), a + 9)) := Lib.hid (by unfold parseAt; rw [hk, if_neg hbad, if_pos rfl, if_pos ⟨h9, hP⟩])
              have hPn : ¬ (18446744069414584321 : Int) ≤ numB s (a + 1) := by omega
              generalize numB s (a + 1) = N at *
              have hw9 : IntKind.i64.wrap ((a : Int) + 1 + 8) = (a : Int) + 1 + 8 := IntWalk.i64_in _ (by omega)
              have hat1 : (a : Int) + 1 ≤ (s.size : Int) := by omega
              have hat2 : ((a : Int) + 1).toNat = a + 1 := by omega
              go_upto_region 19 with (go_at_call 46; (with_reducible refine (kn _).mono ?_); rintro e w2 ⟨rfl, rfl⟩)
              refine wp_gen (fun W => Below w.heap.size w W ∧ W.ownsRow w.heap.size 66 2 (.slice ad out.length cap) out.length (flatO out) ∧ Duo W g6 (.int .i64 3) (.int .u64 N)) ⟨HB.out.setCell hgl _, HO.out.kept (grown_set _ g6 1 _) (by
                cases hv : (Value.slice ad out.length cap).ownBlock with
                | none => exact Or.inl rfl
                | some q => exact Or.inr (fun e => hol q hv (Option.some.inj e))), by obtain ⟨q0, q1, q2, q3⟩ := H6.out; simp [Duo, go_sem, q0, q1, q2, q3]⟩ ?_
              clear HB HO H6 x0 x1 x2 x3 kn
              rintro W2 ⟨hB, hown, hD⟩
              have HB := Lib.hid hB; have HO := Lib.hid hown; have H6 := Lib.hid hD
              clear hB hown hD
              have hown := HO.out
              have HNE := Lib.hid (fun k hk => (hol k hk))
              have HFL := Lib.hid (show flatO (out ++ [(3, N)]) = flatO out ++ [.int .i64 3, .int .u64 N] by simp [flatO])
              have hsz0 := HB.out.size
              obtain ⟨y0, y1, _, _⟩ := H6.out
              clear hol
              generalize hfx : flatO out = fl at *
              clear hfx
              go_upto_region 20 with (at_builtin; refine wpList_append_own _ rfl _ _ 48 rfl w.heap.size 66 i0 (.agg #[.int .i64 0, .int .u64 0]) 2 16 Try.underlying48 hi hz0 hz1 hz2 rfl (by decide) _ _ _ rfl (hown.alloc _) ⟨W2.heap.size, 0, none⟩ 1 1 [.int .i64 3, .int .u64 N] rfl rfl ?c1 ?c2 ?c3 ?c4 ?c5 ?_)
              case c1 => exact two_src (by simp [go_sem]) (by simp [go_sem])
              case c2 => first | rfl | (intro u hu; simp at hu; rcases hu with rfl | rfl <;> rfl)
              case c3 => unfold maxLen; omega
              case c4 => omega
              case c5 => first | omega | (simp; omega)
              · intro v' w4 hown' hgrow _
                have hb4 := own_row_below (hown.alloc (.cells #[.int .i64 3, .int .u64 N] 66)) (HB.out.alloc HB.out.size _) hgrow (Nat.le_refl _) (by simp; omega)
                obtain ⟨a', cap', rfl⟩ := own_form hown'
                have HB4 := Lib.hid hb4
                have HO4 := Lib.hid hown'
                clear hb4 hgrow hown hown' HB HO H6 y0 y1 HNE hsz0
                by_cases hm : 256 < out.length + 1
                · have hmI : (256 : Int) < ((out.length + 1 : Nat) : Int) := by omega
                  obtain ⟨e1, e2⟩ := HR.out _ ((parseR_many HA.out (by rw [HP.out]) hm).symm.trans HRES.out)
                  have e1 : ([] : List Opn) = m := e1
                  have e2 : (6 : Int) = r := e2
                  subst e1 e2
                  clear HR HRES HP HO4 HFL
                  go_wp2_with fail
                  exact bodyPost_ret (v := .tuple #[.slice none 0 0, .int .i64 6]) (by simp [results, Try.results31, go_sem]) rfl ⟨HB4.out, _, rfl, World.ownsRow_nil _ _ _ _⟩
                · have hmI : ¬ (256 : Int) < ((out.length + 1 : Nat) : Int) := by omega
                  have HS := Lib.hid ((parseR_step HA.out (by rw [HP.out]) hm).symm.trans HRES.out)
                  rw [HP.out] at HS
                  clear HR HRES
                  go_wp2_with fail
                  go_roundw
                  case rel =>
                    refine ⟨(a + 9), out ++ [(3, N)], a', cap', ⟨by omega, by rw [List.length_append]; show _ ≤ 9 * (out.length + 1); omega⟩, by simp, by go_num, HB4.out, ?_, by rw [List.length_append]; show out.length + 1 ≤ 256; omega, HS.out⟩
                    rw [HFL.out]
                    have := HO4.out
                    simpa using this
                  case measure => simp [intOf]; omega
            · have HP : Hid (parseAt s a = (2, (0, 0), a)) := Lib.hid (by unfold parseAt; rw [hk, if_neg hbad, if_pos rfl, if_neg (fun q => hP q.2)])
              have hPn : (18446744069414584321 : Int) ≤ numB s (a + 1) := by omega
              generalize numB s (a + 1) = N at *
              have hat1 : (a : Int) + 1 ≤ (s.size : Int) := by omega
              have hat2 : ((a : Int) + 1).toNat = a + 1 := by omega
              obtain ⟨e1, e2⟩ := HR.out _ ((parseR_err HA.out (by rw [HP.out]; show (2 : Int) ≠ 0; decide)).symm.trans HRES.out)
              rw [HP.out] at e2
              have e1 : ([] : List Opn) = m := e1
              have e2 : (2 : Int) = r := e2
              subst e1 e2
              clear HR HRES HP HO
              go_wp2_with (go_at_call 46; (with_reducible refine (kn _).mono ?_); rintro e w2 ⟨rfl, rfl⟩)
              exact bodyPost_ret (v := .tuple #[.slice none 0 0, .int .i64 2]) (by simp [results, Try.results31, go_sem]) rfl ⟨HB.out, _, rfl, World.ownsRow_nil _ _ _ _⟩
          · have hex : (s.extract (a + 1) s.size).size = s.size - (a + 1) := by rw [ByteArray.size_extract]; omega
            have kn := fun W => rnum_no (s.extract (a + 1) s.size) (by omega) W
            have HP : Hid (parseAt s a = (2, (0, 0), a)) := Lib.hid (by unfold parseAt; rw [hk, if_neg hbad, if_pos rfl, if_neg (fun q => h9 q.1)])
            have hat1 : (a : Int) + 1 ≤ (s.size : Int) := by omega
            have hat2 : ((a : Int) + 1).toNat = a + 1 := by omega
            obtain ⟨e1, e2⟩ := HR.out _ ((parseR_err HA.out (by rw [HP.out]; show (2 : Int) ≠ 0; decide)).symm.trans HRES.out)
            rw [HP.out] at e2
            have e1 : ([] : List Opn) = m := e1
            have e2 : (2 : Int) = r := e2
            subst e1 e2
            clear HR HRES HP HO
            go_wp2_with (go_at_call 46; (with_reducible refine (kn _).mono ?_); rintro e w2 ⟨rfl, rfl⟩)
            exact bodyPost_ret (v := .tuple #[.slice none 0 0, .int .i64 2]) (by simp [results, Try.results31, go_sem]) rfl ⟨HB.out, _, rfl, World.ownsRow_nil _ _ _ _⟩
        · have kt := fun W r hr => rtakes_is k r W hr
          by_cases h12 : k = 1 ∨ k = 2
          · have kt := fun W => kt W true (decide_eq_true (by omega))
            by_cases h2 : a + 1 < s.size
            · have h2I : ¬ (s.size : Int) ≤ (a : Int) + 1 := by omega
              have h2J : (a : Int) + 1 < (s.size : Int) := by omega
              have hat2 : ((a : Int) + 1).toNat = a + 1 := by omega
              have hap : (0 : Int) ≤ (a : Int) + 1 := by omega
              have hw2 : IntKind.i64.wrap ((a : Int) + 1 + 1) = (a : Int) + 1 + 1 := IntWalk.i64_in _ (by omega)
              have HP : Hid (parseAt s a = (0, (k, byt s (a + 1)), a + 2)) := Lib.hid (by unfold parseAt; rw [hk, if_neg hbad, if_neg h3, if_pos h12, if_pos h2])
              have hy := byt_bd s (a + 1)
              have e2 : IntKind.u64.wrap (((s[a + 1]'h2).toNat : Nat) : Int) = byt s (a + 1) := by rw [byt_get, IntKind.wrap_u64]; exact Int.emod_eq_of_lt hy.1 (by omega)
              generalize byt s (a + 1) = N at *
              go_upto_region 19 with (go_at_call 47; (with_reducible refine (kt _).mono ?_); rintro e w2 ⟨rfl, rfl⟩)
              refine wp_gen (fun W => Below w.heap.size w W ∧ W.ownsRow w.heap.size 66 2 (.slice ad out.length cap) out.length (flatO out) ∧ Duo W g6 (.int .i64 k) (.int .u64 N)) ⟨HB.out.setCell hgl _, HO.out.kept (grown_set _ g6 1 _) (by
                cases hv : (Value.slice ad out.length cap).ownBlock with
                | none => exact Or.inl rfl
                | some q => exact Or.inr (fun e => hol q hv (Option.some.inj e))), by obtain ⟨q0, q1, q2, q3⟩ := H6.out; simp [Duo, go_sem, q0, q1, q2, q3]⟩ ?_
              clear HB HO H6 x0 x1 x2 x3 kt e2
              rintro W2 ⟨hB, hown, hD⟩
              have HB := Lib.hid hB; have HO := Lib.hid hown; have H6 := Lib.hid hD
              clear hB hown hD
              have hown := HO.out
              have HNE := Lib.hid (fun k hk => (hol k hk))
              have HFL := Lib.hid (show flatO (out ++ [(k, N)]) = flatO out ++ [.int .i64 k, .int .u64 N] by simp [flatO])
              have hsz0 := HB.out.size
              obtain ⟨y0, y1, _, _⟩ := H6.out
              clear hol
              generalize hfx : flatO out = fl at *
              clear hfx
              go_upto_region 20 with (at_builtin; refine wpList_append_own _ rfl _ _ 48 rfl w.heap.size 66 i0 (.agg #[.int .i64 0, .int .u64 0]) 2 16 Try.underlying48 hi hz0 hz1 hz2 rfl (by decide) _ _ _ rfl (hown.alloc _) ⟨W2.heap.size, 0, none⟩ 1 1 [.int .i64 k, .int .u64 N] rfl rfl ?c1 ?c2 ?c3 ?c4 ?c5 ?_)
              case c1 => exact two_src (by simp [go_sem]) (by simp [go_sem])
              case c2 => first | rfl | (intro u hu; simp at hu; rcases hu with rfl | rfl <;> rfl)
              case c3 => unfold maxLen; omega
              case c4 => omega
              case c5 => first | omega | (simp; omega)
              · intro v' w4 hown' hgrow _
                have hb4 := own_row_below (hown.alloc (.cells #[.int .i64 k, .int .u64 N] 66)) (HB.out.alloc HB.out.size _) hgrow (Nat.le_refl _) (by simp; omega)
                obtain ⟨a', cap', rfl⟩ := own_form hown'
                have HB4 := Lib.hid hb4
                have HO4 := Lib.hid hown'
                clear hb4 hgrow hown hown' HB HO H6 y0 y1 HNE hsz0
                by_cases hm : 256 < out.length + 1
                · have hmI : (256 : Int) < ((out.length + 1 : Nat) : Int) := by omega
                  obtain ⟨e1, e2⟩ := HR.out _ ((parseR_many HA.out (by rw [HP.out]) hm).symm.trans HRES.out)
                  have e1 : ([] : List Opn) = m := e1
                  have e2 : (6 : Int) = r := e2
                  subst e1 e2
                  clear HR HRES HP HO4 HFL
                  go_wp2_with fail
                  exact bodyPost_ret (v := .tuple #[.slice none 0 0, .int .i64 6]) (by simp [results, Try.results31, go_sem]) rfl ⟨HB4.out, _, rfl, World.ownsRow_nil _ _ _ _⟩
                · have hmI : ¬ (256 : Int) < ((out.length + 1 : Nat) : Int) := by omega
                  have HS := Lib.hid ((parseR_step HA.out (by rw [HP.out]) hm).symm.trans HRES.out)
                  rw [HP.out] at HS
                  clear HR HRES
                  go_wp2_with fail
                  go_roundw
                  case rel =>
                    refine ⟨(a + 2), out ++ [(k, N)], a', cap', ⟨by omega, by rw [List.length_append]; show _ ≤ 9 * (out.length + 1); omega⟩, by simp, by go_num, HB4.out, ?_, by rw [List.length_append]; show out.length + 1 ≤ 256; omega, HS.out⟩
                    rw [HFL.out]
                    have := HO4.out
                    simpa using this
                  case measure => simp [intOf]; omega
            · have h2I : (s.size : Int) ≤ (a : Int) + 1 := by omega
              have HP : Hid (parseAt s a = (2, (0, 0), a)) := Lib.hid (by unfold parseAt; rw [hk, if_neg hbad, if_neg h3, if_pos h12, if_neg h2])
              obtain ⟨e1, e2⟩ := HR.out _ ((parseR_err HA.out (by rw [HP.out]; show (2 : Int) ≠ 0; decide)).symm.trans HRES.out)
              rw [HP.out] at e2
              have e1 : ([] : List Opn) = m := e1
              have e2 : (2 : Int) = r := e2
              subst e1 e2
              clear HR HRES HP HO
              go_wp2_with (go_at_call 47; (with_reducible refine (kt _).mono ?_); rintro e w2 ⟨rfl, rfl⟩)
              exact bodyPost_ret (v := .tuple #[.slice none 0 0, .int .i64 2]) (by simp [results, Try.results31, go_sem]) rfl ⟨HB.out, _, rfl, World.ownsRow_nil _ _ _ _⟩
          · have kt := fun W => kt W false (decide_eq_false (by omega))
            have HP : Hid (parseAt s a = (0, (k, 0), a + 1)) := Lib.hid (by unfold parseAt; rw [hk, if_neg hbad, if_neg h3, if_neg h12])
            go_upto_region 19 with (go_at_call 47; (with_reducible refine (kt _).mono ?_); rintro e w2 ⟨rfl, rfl⟩)
            clear x0 x1 x2 x3 kt
            have hown := HO.out
            have HNE := Lib.hid (fun k hk => (hol k hk))
            have HFL := Lib.hid (show flatO (out ++ [(k, 0)]) = flatO out ++ [.int .i64 k, .int .u64 0] by simp [flatO])
            have hsz0 := HB.out.size
            obtain ⟨y0, y1, _, _⟩ := H6.out
            clear hol
            generalize hfx : flatO out = fl at *
            clear hfx
            go_upto_region 20 with (at_builtin; refine wpList_append_own _ rfl _ _ 48 rfl w.heap.size 66 i0 (.agg #[.int .i64 0, .int .u64 0]) 2 16 Try.underlying48 hi hz0 hz1 hz2 rfl (by decide) _ _ _ rfl (hown.alloc _) ⟨w2.heap.size, 0, none⟩ 1 1 [.int .i64 k, .int .u64 0] rfl rfl ?c1 ?c2 ?c3 ?c4 ?c5 ?_)
            case c1 => exact two_src (by simp [go_sem]) (by simp [go_sem])
            case c2 => first | rfl | (intro u hu; simp at hu; rcases hu with rfl | rfl <;> rfl)
            case c3 => unfold maxLen; omega
            case c4 => omega
            case c5 => first | omega | (simp; omega)
            · intro v' w4 hown' hgrow _
              have hb4 := own_row_below (hown.alloc (.cells #[.int .i64 k, .int .u64 0] 66)) (HB.out.alloc HB.out.size _) hgrow (Nat.le_refl _) (by simp; omega)
              obtain ⟨a', cap', rfl⟩ := own_form hown'
              have HB4 := Lib.hid hb4
              have HO4 := Lib.hid hown'
              clear hb4 hgrow hown hown' HB HO H6 y0 y1 HNE hsz0
              by_cases hm : 256 < out.length + 1
              · have hmI : (256 : Int) < ((out.length + 1 : Nat) : Int) := by omega
                obtain ⟨e1, e2⟩ := HR.out _ ((parseR_many HA.out (by rw [HP.out]) hm).symm.trans HRES.out)
                have e1 : ([] : List Opn) = m := e1
                have e2 : (6 : Int) = r := e2
                subst e1 e2
                clear HR HRES HP HO4 HFL
                go_wp2_with fail
                exact bodyPost_ret (v := .tuple #[.slice none 0 0, .int .i64 6]) (by simp [results, Try.results31, go_sem]) rfl ⟨HB4.out, _, rfl, World.ownsRow_nil _ _ _ _⟩
              · have hmI : ¬ (256 : Int) < ((out.length + 1 : Nat) : Int) := by omega
                have HS := Lib.hid ((parseR_step HA.out (by rw [HP.out]) hm).symm.trans HRES.out)
                rw [HP.out] at HS
                clear HR HRES
                go_wp2_with fail
                go_roundw
                case rel =>
                  refine ⟨(a + 1), out ++ [(k, 0)], a', cap', ⟨by omega, by rw [List.length_append]; show _ ≤ 9 * (out.length + 1); omega⟩, by simp, by go_num, HB4.out, ?_, by rw [List.length_append]; show out.length + 1 ≤ 256; omega, HS.out⟩
                  rw [HFL.out]
                  have := HO4.out
                  simpa using this
                case measure => simp [intOf]; omega
    · obtain rfl : a = s.size := by omega
      obtain ⟨e1, e2⟩ := HR.out _ ((parseR_end (Nat.le_refl _)).symm.trans hres)
      have e1 : out = m := e1
      have e2 : (0 : Int) = r := e2
      subst e1 e2
      have HB := Lib.hid hB
      have HQ := Lib.hid hown
      clear hB hown hres HR
      go_wp2_with fail
      exact bodyPost_ret (v := .tuple #[.slice ad out.length cap, .int .i64 0]) (by simp [results, Try.results31, go_sem]) rfl ⟨HB.out, _, rfl, HQ.out⟩
theorem rcparse_is (s : ByteArray) (m : List Opn) (r : Int) (w : World) (hs : s.size ≤ 9223372036854775807) (hr : parseB s = (m, r)) : Calls Try.prog 31 #[.string s] w (ParsePost w m r) :=
  (rcparse_own s m r w hs hr).mono fun e w' ⟨hb, v, he, ho⟩ => by
    obtain ⟨a, c, hv, h1, h2⟩ := own_oprow ho
    subst hv
    exact ⟨hb, a, c, he, h1, h2⟩
end Go.Proofs.Ytjcgakmhpblanaa
namespace Go.Proofs.Ytjcgakmhpblanaa
open Go Go.RowKit
set_option linter.unusedVariables false

theorem cut_size (t : ByteArray) (c : Nat) : (t.extract c t.size).size = t.size - c := by rw [ByteArray.size_extract]; omega
theorem numB_cut (t : ByteArray) (c i : Nat) (h : c + i + 8 ≤ t.size) : numB (t.extract c t.size) i = numB t (c + i) := by
  unfold numB
  exact numP_ext fun j hj => by rw [byt_extract _ _ _ _ (Nat.le_refl _) (by omega), Nat.add_assoc]
theorem at_cut (t : ByteArray) (c i : Nat) (h : c + i < t.size) : parseAt (t.extract c t.size) i = ((parseAt t (c + i)).1, (parseAt t (c + i)).2.1, (parseAt t (c + i)).2.2 - c) := by
  have b0 := byt_extract t c t.size i (Nat.le_refl _) h
  have hz := cut_size t c
  unfold parseAt
  rw [b0, hz]
  by_cases h1 : byt t (c + i) < 1 ∨ 6 < byt t (c + i)
  · rw [if_pos h1, if_pos h1]
    show _ = ((3 : Int), ((0, 0) : Opn), c + i - c)
    rw [show c + i - c = i by omega]
  · rw [if_neg h1, if_neg h1]
    by_cases h3 : byt t (c + i) = 3
    · rw [if_pos h3, if_pos h3]
      by_cases h9 : c + i + 9 ≤ t.size
      · rw [numB_cut t c (i + 1) (by omega), show c + (i + 1) = c + i + 1 by omega]
        by_cases hp : numB t (c + i + 1) < 18446744069414584321
        · rw [if_pos ⟨by omega, hp⟩, if_pos ⟨h9, hp⟩]
          show _ = ((0 : Int), ((3, _) : Opn), c + i + 9 - c)
          rw [show c + i + 9 - c = i + 9 by omega]
        · rw [if_neg (fun q => hp q.2), if_neg (fun q => hp q.2)]
          show _ = ((2 : Int), ((0, 0) : Opn), c + i - c)
          rw [show c + i - c = i by omega]
      · rw [if_neg (fun q => h9 (by have := q.1; omega)), if_neg (fun q => h9 q.1)]
        show _ = ((2 : Int), ((0, 0) : Opn), c + i - c)
        rw [show c + i - c = i by omega]
    · rw [if_neg h3, if_neg h3]
      by_cases h2 : byt t (c + i) = 1 ∨ byt t (c + i) = 2
      · rw [if_pos h2, if_pos h2]
        by_cases h4 : c + i + 1 < t.size
        · rw [if_pos (by omega : i + 1 < t.size - c), if_pos h4, byt_extract t c t.size (i + 1) (Nat.le_refl _) (by omega), show c + (i + 1) = c + i + 1 by omega]
          show _ = ((0 : Int), ((_, _) : Opn), c + i + 2 - c)
          rw [show c + i + 2 - c = i + 2 by omega]
        · rw [if_neg (by omega : ¬ i + 1 < t.size - c), if_neg h4]
          show _ = ((2 : Int), ((0, 0) : Opn), c + i - c)
          rw [show c + i - c = i by omega]
      · rw [if_neg h2, if_neg h2]
        show _ = ((0 : Int), ((_, 0) : Opn), c + i + 1 - c)
        rw [show c + i + 1 - c = i + 1 by omega]
theorem parseD_cut (t : ByteArray) (c : Nat) (hc : c ≤ t.size) : ∀ (f i : Nat) (out : List Opn), parseD (t.extract c t.size) f i out = parseD t f (c + i) out
  | 0, i, out => rfl
  | f + 1, i, out => by
    rw [parseD, parseD, cut_size]
    by_cases h : t.size ≤ c + i
    · rw [if_pos (by omega), if_pos h]
    · rw [if_neg (by omega), if_neg h, at_cut t c i (by omega)]
      by_cases h0 : (parseAt t (c + i)).1 = 0
      · have hn := parseAt_next t (c + i) h0
        rw [if_pos h0, if_pos h0]
        show (if 256 < out.length + 1 then _ else parseD (t.extract c t.size) f ((parseAt t (c + i)).2.2 - c) (out ++ [(parseAt t (c + i)).2.1])) = _
        rw [parseD_cut t c hc f _ _, show c + ((parseAt t (c + i)).2.2 - c) = (parseAt t (c + i)).2.2 by omega]
      · rw [if_neg h0, if_neg h0]
theorem parse_cut (t : ByteArray) (c : Nat) (hc : c ≤ t.size) (out : List Opn) : parseR (t.extract c t.size) 0 out = parseR t c out := by
  unfold parseR
  rw [parseD_cut t c hc, Nat.add_zero]
  exact parseD_fuel t _ _ c out (by rw [cut_size]; omega) (by omega)
theorem four_eq {a a' : Int} {b b' : Int} {x x' : Int} {d d' : Nat} (h : ((a, (b, x), d) : Int × Opn × Nat) = (a', (b', x'), d')) : a' = a ∧ b' = b ∧ x' = x ∧ d' = d := by cases h; exact ⟨rfl, rfl, rfl, rfl⟩

set_option maxHeartbeats 2000000 in
theorem kright_is (k n : Int) (r : Bool) (w : World) (hk : OkO (k, n)) (hr : rightO (k, n) = r) : Calls Try.prog 82 #[.agg #[.int .i64 k, .int .u64 n]] w fun e w' => e = .returned (.bool r) ∧ Below w.heap.size w w' := by
  have HR := Lib.hid hr
  clear hr
  go_enter Try.func82, Try.ntmps82
  go_upto_region 1 with fail
  refine wp_gen (fun W => Below w.heap.size w W ∧ W.cell? ⟨w.heap.size, 0, none⟩ = some (.int .i64 k) ∧ W.cell? ⟨w.heap.size, 1, none⟩ = some (.int .u64 n)) ⟨(Below.refl _ _).alloc (Nat.le_refl _) _, by simp [go_sem], by simp [go_sem]⟩ ?_
  obtain ⟨g, hg⟩ : ∃ g, w.heap.size = g := ⟨_, rfl⟩
  rintro W1 ⟨hB, c0, c1⟩
  rw [hg] at c0 c1
  simp only [hg]
  have HB := Lib.hid hB
  clear hB hg
  have hcase : k = 1 ∨ k = 2 ∨ k = 3 ∨ k = 4 ∨ k = 5 ∨ k = 6 ∨ (¬ k = 1 ∧ ¬ k = 2 ∧ ¬ k = 3 ∧ ¬ k = 4 ∧ ¬ k = 5 ∧ ¬ k = 6) := by omega
  rcases hcase with rfl | rfl | rfl | rfl | rfl | rfl | ⟨h1, h2, h3, h4, h5, h6⟩
  all_goals
    go_wp2_with fail
    go_ret
    refine ⟨?_, HB.out⟩
    rw [← HR.out]
    (simp_all [rightO]) <;> (rw [Bool.eq_iff_iff]; simp)
abbrev firstV (k n : Int) (c : Nat) (e : Int) : Value := .tuple #[.agg #[.int .i64 k, .int .u64 n], .int .i64 (c : Int), .int .i64 e]
set_option maxHeartbeats 4000000 in
theorem kfirst_is (t : ByteArray) (e k n : Int) (c : Nat) (ht : 0 < t.size) (hs : t.size ≤ 9223372036854775807) (h : parseAt t 0 = (e, (k, n), c)) (w : World) :
    Calls Try.prog 56 #[.string t] w fun en w' => en = .returned (firstV k n c e) ∧ Below w.heap.size w w' := by
  have hI : (0 : Int) < (t.size : Int) := by omega
  have e1 : (((t[0]'ht).toNat : Nat) : Int) = byt t 0 := byt_get t 0 ht
  have hbd := byt_bd t 0
  have HP := Lib.hid h
  clear h
  generalize hx : byt t 0 = x at *
  by_cases hbad : x < 1 ∨ 6 < x
  · obtain ⟨rfl, rfl, rfl, rfl⟩ := four_eq (((show parseAt t 0 = (3, (0, 0), 0) by unfold parseAt; rw [hx, if_pos hbad])).symm.trans HP.out)
    have n1 : ¬ x = 1 := by omega
    have n2 : ¬ x = 2 := by omega
    have n3 : ¬ x = 3 := by omega
    have n4 : ¬ x = 4 := by omega
    have n5 : ¬ x = 5 := by omega
    have n6 : ¬ x = 6 := by omega
    clear hx HP hbad hbd
    go_enter Try.func56, Try.ntmps56
    go_wp2_with fail
    exact bodyPost_ret (v := firstV (0) (0) 0 (3)) (by simp [results, Try.results56, go_sem]) rfl ⟨rfl, (Below.refl w.heap.size w).alloc (Nat.le_refl _) _⟩
  · have hcase : x = 1 ∨ x = 2 ∨ x = 3 ∨ x = 4 ∨ x = 5 ∨ x = 6 := by omega
    have nbad := hbad
    rcases hcase with rfl | rfl | rfl | rfl | rfl | rfl
    · by_cases h2 : 1 < t.size
      · obtain ⟨rfl, rfl, rfl, rfl⟩ := four_eq (((show parseAt t 0 = (0, (1, byt t 1), 2) by unfold parseAt; rw [hx, if_neg (by omega), if_neg (by omega), if_pos (by omega), if_pos (by omega)])).symm.trans HP.out)
        have hI2 : ¬ (t.size : Int) < 2 := by omega
        have hI3 : (1 : Int) < (t.size : Int) := by omega
        have hy := byt_bd t 1
        have e2 : IntKind.u64.wrap (((t[1]'h2).toNat : Nat) : Int) = byt t 1 := by rw [byt_get, IntKind.wrap_u64]; exact Int.emod_eq_of_lt hy.1 (by omega)
        generalize byt t 1 = y at *
        clear hx HP hbad hbd nbad
        go_enter Try.func56, Try.ntmps56
        go_wp2_with fail
        exact bodyPost_ret (v := firstV (1) (y) 2 (0)) (by simp [results, Try.results56, go_sem]) rfl ⟨rfl, (Below.refl w.heap.size w).alloc (Nat.le_refl _) _⟩
      · obtain ⟨rfl, rfl, rfl, rfl⟩ := four_eq (((show parseAt t 0 = (2, (0, 0), 0) by unfold parseAt; rw [hx, if_neg (by omega), if_neg (by omega), if_pos (by omega), if_neg (by omega)])).symm.trans HP.out)
        have hI2 : (t.size : Int) < 2 := by omega
        clear hx HP hbad hbd nbad
        go_enter Try.func56, Try.ntmps56
        go_wp2_with fail
        exact bodyPost_ret (v := firstV (0) (0) 0 (2)) (by simp [results, Try.results56, go_sem]) rfl ⟨rfl, (Below.refl w.heap.size w).alloc (Nat.le_refl _) _⟩
    · by_cases h2 : 1 < t.size
      · obtain ⟨rfl, rfl, rfl, rfl⟩ := four_eq (((show parseAt t 0 = (0, (2, byt t 1), 2) by unfold parseAt; rw [hx, if_neg (by omega), if_neg (by omega), if_pos (by omega), if_pos (by omega)])).symm.trans HP.out)
        have hI2 : ¬ (t.size : Int) < 2 := by omega
        have hI3 : (1 : Int) < (t.size : Int) := by omega
        have hy := byt_bd t 1
        have e2 : IntKind.u64.wrap (((t[1]'h2).toNat : Nat) : Int) = byt t 1 := by rw [byt_get, IntKind.wrap_u64]; exact Int.emod_eq_of_lt hy.1 (by omega)
        generalize byt t 1 = y at *
        clear hx HP hbad hbd nbad
        go_enter Try.func56, Try.ntmps56
        go_wp2_with fail
        exact bodyPost_ret (v := firstV (2) (y) 2 (0)) (by simp [results, Try.results56, go_sem]) rfl ⟨rfl, (Below.refl w.heap.size w).alloc (Nat.le_refl _) _⟩
      · obtain ⟨rfl, rfl, rfl, rfl⟩ := four_eq (((show parseAt t 0 = (2, (0, 0), 0) by unfold parseAt; rw [hx, if_neg (by omega), if_neg (by omega), if_pos (by omega), if_neg (by omega)])).symm.trans HP.out)
        have hI2 : (t.size : Int) < 2 := by omega
        clear hx HP hbad hbd nbad
        go_enter Try.func56, Try.ntmps56
        go_wp2_with fail
        exact bodyPost_ret (v := firstV (0) (0) 0 (2)) (by simp [results, Try.results56, go_sem]) rfl ⟨rfl, (Below.refl w.heap.size w).alloc (Nat.le_refl _) _⟩
    · have hI1 : (1 : Int) ≤ (t.size : Int) := by omega
      by_cases h9 : 9 ≤ t.size
      · have kn := fun W => onum_yes (t.extract 1 t.size) (by rw [cut_size]; omega) W
        rw [numB_cut t 1 0 (by omega)] at kn
        have hu := numB_U t 1
        by_cases hp : numB t 1 < 18446744069414584321
        · obtain ⟨rfl, rfl, rfl, rfl⟩ := four_eq (((show parseAt t 0 = (0, (3, numB t 1), 9) by unfold parseAt; rw [hx, if_neg (by omega), if_pos rfl, if_pos ⟨by omega, hp⟩])).symm.trans HP.out)
          have hp' : ¬ numB t 1 ≥ 18446744069414584321 := by omega
          rw [show 1 + 0 = 1 from rfl] at kn
          generalize numB t 1 = y at *
          clear hx HP hbad hbd nbad
          go_enter Try.func56, Try.ntmps56
          go_wp2_with (go_at_call 69; (with_reducible refine (kn _).mono ?_); rintro e w2 ⟨rfl, rfl⟩)
          exact bodyPost_ret (v := firstV (3) (y) 9 (0)) (by simp [results, Try.results56, go_sem]) rfl ⟨rfl, (Below.refl w.heap.size w).alloc (Nat.le_refl _) _⟩
        · obtain ⟨rfl, rfl, rfl, rfl⟩ := four_eq (((show parseAt t 0 = (2, (0, 0), 0) by unfold parseAt; rw [hx, if_neg (by omega), if_pos rfl, if_neg (fun q => hp q.2)])).symm.trans HP.out)
          have hp' : numB t 1 ≥ 18446744069414584321 := by omega
          rw [show 1 + 0 = 1 from rfl] at kn
          generalize numB t 1 = y at *
          clear hx HP hbad hbd nbad hp
          go_enter Try.func56, Try.ntmps56
          go_wp2_with (go_at_call 69; (with_reducible refine (kn _).mono ?_); rintro e w2 ⟨rfl, rfl⟩)
          exact bodyPost_ret (v := firstV (0) (0) 0 (2)) (by simp [results, Try.results56, go_sem]) rfl ⟨rfl, (Below.refl w.heap.size w).alloc (Nat.le_refl _) _⟩
      · have kn := fun W => onum_no (t.extract 1 t.size) (by rw [cut_size]; omega) W
        obtain ⟨rfl, rfl, rfl, rfl⟩ := four_eq (((show parseAt t 0 = (2, (0, 0), 0) by unfold parseAt; rw [hx, if_neg (by omega), if_pos rfl, if_neg (fun q => h9 (by have := q.1; omega))])).symm.trans HP.out)
        clear hx HP hbad hbd nbad
        go_enter Try.func56, Try.ntmps56
        go_wp2_with (go_at_call 69; (with_reducible refine (kn _).mono ?_); rintro e w2 ⟨rfl, rfl⟩)
        exact bodyPost_ret (v := firstV (0) (0) 0 (2)) (by simp [results, Try.results56, go_sem]) rfl ⟨rfl, (Below.refl w.heap.size w).alloc (Nat.le_refl _) _⟩
    · obtain ⟨rfl, rfl, rfl, rfl⟩ := four_eq (((show parseAt t 0 = (0, (4, 0), 1) by unfold parseAt; rw [hx, if_neg (by omega), if_neg (by omega), if_neg (by omega)])).symm.trans HP.out)
      clear hx HP hbad hbd nbad
      go_enter Try.func56, Try.ntmps56
      go_wp2_with fail
      exact bodyPost_ret (v := firstV (4) (0) 1 (0)) (by simp [results, Try.results56, go_sem]) rfl ⟨rfl, (Below.refl w.heap.size w).alloc (Nat.le_refl _) _⟩
    · obtain ⟨rfl, rfl, rfl, rfl⟩ := four_eq (((show parseAt t 0 = (0, (5, 0), 1) by unfold parseAt; rw [hx, if_neg (by omega), if_neg (by omega), if_neg (by omega)])).symm.trans HP.out)
      clear hx HP hbad hbd nbad
      go_enter Try.func56, Try.ntmps56
      go_wp2_with fail
      exact bodyPost_ret (v := firstV (5) (0) 1 (0)) (by simp [results, Try.results56, go_sem]) rfl ⟨rfl, (Below.refl w.heap.size w).alloc (Nat.le_refl _) _⟩
    · obtain ⟨rfl, rfl, rfl, rfl⟩ := four_eq (((show parseAt t 0 = (0, (6, 0), 1) by unfold parseAt; rw [hx, if_neg (by omega), if_neg (by omega), if_neg (by omega)])).symm.trans HP.out)
      clear hx HP hbad hbd nbad
      go_enter Try.func56, Try.ntmps56
      go_wp2_with fail
      exact bodyPost_ret (v := firstV (6) (0) 1 (0)) (by simp [results, Try.results56, go_sem]) rfl ⟨rfl, (Below.refl w.heap.size w).alloc (Nat.le_refl _) _⟩
end Go.Proofs.Ytjcgakmhpblanaa
namespace Go.Proofs.Ytjcgakmhpblanaa
open Go Go.RowKit
set_option linter.unusedVariables false

def txtLen : Value → Nat
  | .string t => t.size
  | _ => 0
def KParseRel (w : World) (m : List Opn) (r : Int) (s v : Value) (W : World) : Prop :=
  ∃ (t : ByteArray) (out : List Opn) (ad : Option Addr) (cap : Nat), t.size ≤ 9223372036854775807 ∧ s = .string t ∧ v = .slice ad out.length cap ∧ Below w.heap.size w W ∧ W.ownsRow w.heap.size 66 2 v out.length (flatO out) ∧ out.length ≤ 256 ∧ parseR t 0 out = (m, r)
set_option maxRecDepth 100000 in
set_option maxHeartbeats 8000000 in
theorem kparse_own (s : ByteArray) (m : List Opn) (r : Int) (w : World) (hs : s.size ≤ 9223372036854775807) (hr : parseB s = (m, r)) : Calls Try.prog 44 #[.string s] w (ParseOwn w m r) := by
  obtain ⟨i0, hi, hz0, hz1, hz2⟩ := info_parts infoOp
  have HR : Hid (∀ a : List Opn × Int, a = (m, r) → a.1 = m ∧ a.2 = r) := Lib.hid fun a h => by subst h; exact ⟨rfl, rfl⟩
  have HR0 := Lib.hid hr
  clear hr
  go_enter Try.func44, Try.ntmps44
  go_upto_region 2 with fail
  go_loopw [0, 4] (KParseRel w m r) (fun s _ _ => txtLen s)
  case atStart => exact ⟨s, [], none, 0, hs, rfl, rfl, Below.refl _ _, World.ownsRow_nil _ _ _ _, by simp, HR0.out⟩
  case round =>
    clear HR0 hs
    obtain ⟨t, out, ad, cap, hts, rfl, rfl, hB, hown, hlen, hres⟩ := hrel
    by_cases hlt : 0 < t.size
    · have hltI : (0 : Int) < (t.size : Int) := by omega
      have HB := Lib.hid hB; have HO := Lib.hid hown; have HRES := Lib.hid hres
      clear hB hown hres
      obtain ⟨e, o, c, hp⟩ : ∃ e o c, parseAt t 0 = (e, o, c) := ⟨_, _, _, rfl⟩
      obtain ⟨k, n⟩ := o
      have kf := fun W => kfirst_is t e k n c hlt hts hp W
      have HP := Lib.hid hp
      have hat := at_ok t 0 hlt
      have hnx := parseAt_next t 0
      rw [hp] at hat hnx
      have HAT := Lib.hid hat
      have HNX := Lib.hid hnx
      clear hp hat hnx
      unfold firstV at kf
      have hw0 := fun k (hk : (Value.slice ad out.length cap).ownBlock = some k) => (HO.out.lt k hk).2
      have HW0 := Lib.hid hw0
      clear hw0
      go_upto_region 4 with (go_at_call 56; (with_reducible refine (kf _).mono ?_); rintro ee w1 ⟨rfl, hb1⟩)
      clear kf
      have hg1 := hb1.size
      refine wp_gen (fun W => Below w.heap.size w W ∧ W.ownsRow w.heap.size 66 2 (.slice ad out.length cap) out.length (flatO out) ∧ Duo W w1.heap.size (.int .i64 k) (.int .u64 n)) ⟨(bthen HB.out hb1).alloc (by have := HB.out.size; omega) _, (own_keep HO.out hb1).alloc _, by simp [Duo, go_sem]⟩ ?_
      obtain ⟨g, hg⟩ : ∃ g, w1.heap.size = g := ⟨_, rfl⟩
      have hol : ∀ k, (Value.slice ad out.length cap).ownBlock = some k → k ≠ g := fun k hk => by have := HW0.out k hk; omega
      rintro W1 ⟨hB, hown, hD⟩
      rw [hg] at hD
      simp only [hg]
      clear HB HO hb1 hg1 hg HW0
      have HB := Lib.hid hB; have HO := Lib.hid hown; have H6 := Lib.hid hD
      obtain ⟨y0, y1, _, _⟩ := hD
      clear hB hown
      by_cases he : e = 0
      · subst he
        obtain ⟨hcs, _, _, _⟩ := HAT.out rfl
        have hcn := HNX.out rfl
        clear HAT HNX
        replace hcs : c ≤ t.size := hcs
        replace hcn : 0 < c := hcn
        have hcI : (c : Int) ≤ (t.size : Int) := by omega
        have hc0 : (0 : Int) ≤ (c : Int) := by omega
        have hct : ((c : Int)).toNat = c := by omega
        have h0 : (parseAt t 0).1 = 0 := by rw [HP.out]
        by_cases hm : out.length = 256
        · have hmI : (out.length : Int) = 256 := by omega
          obtain ⟨e1, e2⟩ := HR.out _ ((parseR_many hlt h0 (by omega)).symm.trans HRES.out)
          have e1 : ([] : List Opn) = m := e1
          have e2 : (6 : Int) = r := e2
          subst e1 e2
          clear HR HRES HP HO h0 hm
          go_wp2_with fail
          exact bodyPost_ret (v := .tuple #[.slice none 0 0, .int .i64 6]) (by simp [results, Try.results44, go_sem]) rfl ⟨HB.out, _, rfl, World.ownsRow_nil _ _ _ _⟩
        · have hmI : ¬ (out.length : Int) = 256 := by omega
          have HS := Lib.hid ((parseR_step hlt h0 (by omega)).symm.trans HRES.out)
          rw [HP.out] at HS
          clear HR HRES h0
          have hown := HO.out
          have HFL := Lib.hid (show flatO (out ++ [(k, n)]) = flatO out ++ [.int .i64 k, .int .u64 n] by simp [flatO])
          have hsz0 := HB.out.size
          generalize hfx : flatO out = fl at *
          clear hfx
          go_upto_region 9 with (at_builtin; refine wpList_append_own _ rfl _ _ 48 rfl w.heap.size 66 i0 (.agg #[.int .i64 0, .int .u64 0]) 2 16 Try.underlying48 hi hz0 hz1 hz2 rfl (by decide) _ _ _ rfl (hown.alloc _) ⟨W1.heap.size, 0, none⟩ 1 1 [.int .i64 k, .int .u64 n] rfl rfl ?c1 ?c2 ?c3 ?c4 ?c5 ?_)
          case c2 => first | exact ⟨rfl, rfl⟩ | rfl | (intro u hu; simp at hu; rcases hu with rfl | rfl <;> rfl)
          case c3 => unfold maxLen; omega
          case c4 => omega
          case c5 => first | omega | (simp; omega)
          · intro v' w4 hown' hgrow _
            have hb4 := own_row_below (hown.alloc (.cells #[.int .i64 k, .int .u64 n] 66)) (HB.out.alloc HB.out.size _) hgrow (Nat.le_refl _) (by simp; omega)
            obtain ⟨a', cap', rfl⟩ := own_form hown'
            have HB4 := Lib.hid hb4
            have HO4 := Lib.hid hown'
            have hzz := cut_size t c
            have HL1 := Lib.hid (show out.length + 1 ≤ 256 by omega)
            have HC := Lib.hid (parse_cut t c hcs (out ++ [(k, n)]))
            clear hb4 hgrow hown hown' HB HO H6 y0 y1 hsz0 hm hmI HP
            go_wp2_with fail
            go_roundw
            case rel =>
              refine ⟨_, out ++ [(k, n)], a', cap', ?_, rfl, by simp, HB4.out, ?_, by rw [List.length_append]; exact HL1.out, HC.out.trans HS.out⟩
              · rw [hzz]; omega
              · rw [HFL.out]
                have := HO4.out
                simpa using this
            case measure => simp [txtLen]; omega
      · obtain ⟨e1, e2⟩ := HR.out _ ((parseR_err hlt (by rw [HP.out]; exact he)).symm.trans HRES.out)
        rw [HP.out] at e2
        have e1 : ([] : List Opn) = m := e1
        have e2 : e = r := e2
        subst e1 e2
        clear HR HRES HP HO HAT HNX
        go_wp2_with fail
        exact bodyPost_ret (v := .tuple #[.slice none 0 0, .int .i64 e]) (by simp [results, Try.results44, go_sem]) rfl ⟨HB.out, _, rfl, World.ownsRow_nil _ _ _ _⟩
    · have hz : t.size = 0 := by omega
      obtain ⟨e1, e2⟩ := HR.out _ ((parseR_end (by omega)).symm.trans hres)
      have e1 : out = m := e1
      have e2 : (0 : Int) = r := e2
      subst e1 e2
      have HB := Lib.hid hB
      have HQ := Lib.hid hown
      have hltI : ¬ (0 : Int) < (t.size : Int) := by omega
      clear hB hown hres HR
      go_wp2_with fail
      exact bodyPost_ret (v := .tuple #[.slice ad out.length cap, .int .i64 0]) (by simp [results, Try.results44, go_sem]) rfl ⟨HB.out, _, rfl, HQ.out⟩
theorem kparse_is (s : ByteArray) (m : List Opn) (r : Int) (w : World) (hs : s.size ≤ 9223372036854775807) (hr : parseB s = (m, r)) : Calls Try.prog 44 #[.string s] w (ParsePost w m r) :=
  (kparse_own s m r w hs hr).mono fun e w' ⟨hb, v, he, ho⟩ => by
    obtain ⟨a, c, hv, h1, h2⟩ := own_oprow ho
    subst hv
    exact ⟨hb, a, c, he, h1, h2⟩
theorem strCells_nums : ∀ xs : List Int, (∀ x ∈ xs, 0 ≤ x ∧ x < 256) → Lib.strCells (strOfNums xs) = xs.map (Value.int .u8)
  | [], _ => rfl
  | x :: xs, h => by
    have ih := strCells_nums xs fun y hy => h y (List.mem_cons_of_mem _ hy)
    obtain ⟨h0, h1⟩ := h x List.mem_cons_self
    unfold Lib.strCells at ih ⊢
    rw [strOfNums_data] at ih ⊢
    rw [List.map_cons, List.map_cons, List.map_cons, ih]
    congr 2
    rw [UInt8.toNat_ofNat']
    omega
def KPrintRel (w : World) (zs : List Opn) (v i : Value) (W : World) : Prop := ∃ k : Nat, k ≤ zs.length ∧ i = .int .i64 k ∧ MadeB w W v (codeN (zs.take k))
theorem kcodeN_next (zs : List Opn) (k : Nat) (h : k < zs.length) (x y : Int) (hx : zs.getD k (0, 0) = (x, y)) : codeN (zs.take (k + 1)) = codeN (zs.take k) ++ opN (x, y) := by
  have e : zs.getD k (0, 0) = zs[k] := by simp [List.getD, h]
  rw [List.take_succ_eq_append_getElem h, codeN_app, codeN_one, ← e, hx]
end Go.Proofs.Ytjcgakmhpblanaa
