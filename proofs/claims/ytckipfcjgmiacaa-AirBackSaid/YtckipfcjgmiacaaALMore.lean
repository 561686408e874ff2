/-
  The walk of AirMore: it answers true, where the program's calls do what is asked of them. (Written by gen_alaws.py.)
-/
import Derived.Test.YtckipfcjgmiacaaALShort
import Derived.Test.YtckipfcjgmiacaaGBlk
import Derived.BigQuiet
namespace Go.Proofs.Ytckipfcjgmiacaa
open Go Go.RowKit
set_option linter.unusedVariables false

/-- With one rule more. -/
def AirP.plus (A : AirP) (s : ByteArray) : AirP := ⟨A.cols, A.log, A.steps, A.rules ++ [s], A.bounds⟩
section
variable {A : AirP} {s : ByteArray}
theorem plus_text {i : Nat} (h : i < A.count) : (A.plus s).text i = A.text i := by
  unfold AirP.text AirP.plus
  dsimp only
  split
  · rfl
  · next c =>
    simp only [List.getD]
    rw [List.getElem?_append_left (by unfold AirP.count at h; omega)]
theorem plus_last : (A.plus s).text A.count = s := by
  unfold AirP.text AirP.plus AirP.count
  dsimp only
  rw [if_neg (by omega), show A.steps.length + A.rules.length - A.steps.length = A.rules.length by omega]
  simp [List.getD]
theorem plus_one {i : Nat} (h : i < A.count) : (A.plus s).one i = A.one i := by unfold AirP.one; rw [plus_text h]; rfl
theorem plus_upto : ∀ {k : Nat}, k ≤ A.count → (A.plus s).upto k = A.upto k
  | 0, _ => rfl
  | k + 1, h => by
    rw [AirP.upto, AirP.upto, plus_upto (by omega), plus_one (by omega)]
    rfl
theorem plus_count : (A.plus s).count = A.count + 1 := by unfold AirP.count AirP.plus; simp; omega
theorem plus_one_last {nx : Bool} (hn : decide (¬ A.count < A.steps.length) = nx) : nx = true := by rw [← hn]; exact decide_eq_true (by unfold AirP.count; omega)
theorem plus_far (h : A.check = 0) (hr : 16 < A.rules.length + 1) : (A.plus s).check ≠ 0 := by
  intro h0
  have := (AirP.check_ok h0).2.1.2.2.2
  unfold AirP.plus at this
  simp at this
  omega
theorem plus_bad (h : A.check = 0) (hr : ¬ 16 < A.rules.length + 1) {e : Int} (he : (ruleB s A.cols true).2 = e) (h0 : e ≠ 0) : (A.plus s).check ≠ 0 := by
  intro hc
  obtain ⟨_, _, h3, h4, _⟩ := AirP.check_ok hc
  have hu := (AirP.check_ok h).2.2.2.1
  rw [plus_count] at h4
  have e1 : (A.plus s).upto A.count = ((A.upto A.count).1, 0) := by rw [plus_upto (Nat.le_refl _), ← hu]
  have e2 : (A.plus s).one A.count = ruleB s A.cols true := by
    unfold AirP.one
    rw [plus_last]
    show ruleB s A.cols (decide (¬ A.count < A.steps.length)) = _
    rw [decide_eq_true (show ¬ A.count < A.steps.length by unfold AirP.count; omega)]
  have := AirP.upto_err e1 (show (A.plus s).one A.count = ((ruleB s A.cols true).1, e) by rw [e2, ← he]) h0
  rw [this] at h4
  exact h0 h4
theorem plus_ok (h : A.check = 0) (hr : ¬ 16 < A.rules.length + 1) {l : List Opn} (he : ruleB s A.cols true = (l, 0)) : (A.plus s).all = (A.all.1 ++ [l], 0) ∧ (A.plus s).check = 0 := by
  obtain ⟨a1, a2, a3, a4, a5⟩ := AirP.check_ok h
  have e1 : (A.plus s).upto A.count = (A.all.1, 0) := by rw [plus_upto (Nat.le_refl _), a3, ← a4]
  have e2 : (A.plus s).one A.count = (l, 0) := by
    unfold AirP.one
    rw [plus_last]
    show ruleB s A.cols (decide (¬ A.count < A.steps.length)) = _
    rw [decide_eq_true (show ¬ A.count < A.steps.length by unfold AirP.count; omega)]
    exact he
  have e3 := AirP.upto_go e1 e2
  have e4 : (A.plus s).form A.count l = l := if_neg (show ¬ A.count < A.steps.length by unfold AirP.count; omega)
  rw [e4] at e3
  have hf : (A.plus s).fits := ⟨a2.1, a2.2.1, a2.2.2.1, by show (A.rules ++ [s]).length ≤ 16; simp; omega⟩
  have hall : (A.plus s).all = (A.all.1 ++ [l], 0) := by rw [AirP.all_ok2 hf, plus_count]; exact e3
  exact ⟨hall, AirP.check_is (show (A.plus s).near from a1) (by rw [hall]) a5⟩
end
theorem parseD_nil (s : ByteArray) : ∀ (f a : Nat) (out : List Opn), (parseD s f a out).2 ≠ 0 → (parseD s f a out).1 = []
  | 0, a, out, h => absurd rfl h
  | f + 1, a, out, h => by
    rw [parseD] at h ⊢
    by_cases c : s.size ≤ a
    · rw [if_pos c] at h; exact absurd rfl h
    · rw [if_neg c] at h ⊢
      by_cases d : (parseAt s a).1 = 0
      · rw [if_pos d] at h ⊢
        by_cases e : 256 < out.length + 1
        · rw [if_pos e]
        · rw [if_neg e] at h ⊢; exact parseD_nil s f _ _ h
      · rw [if_neg d]
theorem parse_okO2 {s : ByteArray} {l : List Opn} {e : Int} (h : parseB s = (l, e)) : (∀ o ∈ l, OkO o) ∧ l.length ≤ 256 := by
  by_cases he : e = 0
  · subst he; exact parse_okO h
  · have h1 := parseD_nil s (s.size + 1) 0 [] (show (parseB s).2 ≠ 0 by rw [h]; exact he)
    have h2 : (parseB s).1 = [] := h1
    rw [h] at h2
    have h2 : l = [] := h2
    subst h2
    exact ⟨fun o ho => absurd ho List.not_mem_nil, Nat.zero_le _⟩
theorem strV_tx (l : List ByteArray) : strV (tx l) l.length = l.map Value.string := by
  refine List.ext_getElem (by simp [strV]) fun i h1 h2 => ?_
  simp only [strV, List.getElem_map, List.getElem_range]
  have : i < l.length := by simpa using h2
  simp [tx, List.getD, this]
theorem opA_lt {W : World} {a : Option Addr} {n : Nat} {zs : List Opn} (h : OpA W a n zs) : ∀ x, a = some x → 0 < n → x.block < W.heap.size := by
  rintro x rfl hn
  obtain ⟨b, o, e, c0, _⟩ := h.2.2 0 hn
  cases e
  exact World.block_lt_of_cell? W _ c0
theorem opA_far {W : World} {a : Option Addr} {n g o : Nat} {v : Value} {zs : List Opn} (h : OpA W a n zs) (hl : ∀ x, a = some x → 0 < n → x.block < g) : OpA (W.setCell ⟨g, o, none⟩ v) a n zs :=
  ⟨h.1, h.2.1, fun k hk => by
    obtain ⟨b, off, e, c0, c1⟩ := h.2.2 k hk
    have hne : g ≠ b := by have : b < g := hl _ e (by omega)
                           omega
    exact ⟨b, off, e, (World.cell?_setCell_far _ _ _ _ hne).trans c0, (World.cell?_setCell_far _ _ _ _ hne).trans c1⟩⟩
theorem infoStrM : (Try.prog.info? 9).map (fun i => (i.zero, i.size, i.bytes)) = some (some (.string ⟨#[]⟩), 1, 16) := by kernel_rfl
set_option maxRecDepth 100000 in
set_option maxHeartbeats 8000000 in
theorem amore_body (G : World → Prop) (hAk : AskAir G) (aw : ∀ W, G W → Calls Try.prog 9 #[] W fun e w' => e = .returned (.bool true) ∧ Below W.heap.size W w') (A : AirP) (p : AirAt) (s : ByteArray) (w : World) (hG : G w) (hA : AirA w A p) (hk : OkAir A) (hnil : p.ra = none → p.rc = 0) (hs : s.size ≤ maxLen) :
    Calls Try.prog 7 #[A.val p, .string s] w fun e w' => e = .returned (.bool true) ∧ Below w.heap.size w w' := by
  have HK := Lib.hid (fun (W W' : World) => @AskAir.keep G hAk W W')
  have HG0 := Lib.hid hG
  have HA0 := Lib.hid hA
  clear hG hA
  by_cases hsh : shortB A = true
  case neg =>
    have hsh : shortB A = false := by simpa using hsh
    have ks := fun W (h : AirA W A p) => rashort_is A p false W h hsh
    clear hsh
    go_enter Try.func7, Try.ntmps7
    go_upto_region 1 with fail
    obtain ⟨g, hg⟩ : ∃ g, w.heap.size = g := ⟨_, rfl⟩
    refine wp_gen (fun W => Below w.heap.size w W ∧ AirC W g A p) ⟨(Below.refl _ _).alloc (Nat.le_refl _) _, by rw [← hg]; exact AirC.new _ _ _ _⟩ ?_
    rintro w0 ⟨hB0, hC⟩
    simp only [hg]
    have HB0 := Lib.hid hB0; have HC := Lib.hid hC
    have HA := Lib.hid (HA0.out.keep hB0)
    have HG := Lib.hid (HK.out _ _ HG0.out hB0)
    have HB : Hid (Below w0.heap.size w0 w0) := Lib.hid (Below.refl _ _)
    clear hB0 hg HA0 HG0 hC
    obtain ⟨x0, x1, x2, x3, x4⟩ := HC.out
    have ks := fun W (h : Below w0.heap.size w0 W) => ks W (HA.out.keep h)
    have aw := fun W (h : Below w0.heap.size w0 W) => aw W (HK.out _ _ HG.out h)
    go_wp2_with (first
        | (go_at_call 8; (with_reducible refine (ks _ HB.out).mono ?_); rintro e w1 ⟨rfl, hb⟩; replace x0 := bkeep hb x0; replace x1 := bkeep hb x1; replace x2 := bkeep hb x2; replace x3 := bkeep hb x3; replace x4 := bkeep hb x4; replace HB := Lib.hid (bthen HB.out hb); clear hb)
        | (go_at_call 9; (with_reducible refine (aw _ HB.out).mono ?_); rintro e w1 ⟨rfl, hb⟩; replace x0 := bkeep hb x0; replace x1 := bkeep hb x1; replace x2 := bkeep hb x2; replace x3 := bkeep hb x3; replace x4 := bkeep hb x4; replace HB := Lib.hid (bthen HB.out hb); clear hb))
    go_ret
    exact ⟨rfl, bthen HB0.out HB.out⟩
  have hf := short_few hsh
  have hr20 : A.rules.length ≤ 20 := (of_decide_eq_true hsh).2.1
  have ks := fun W (h : AirA W A p) => rashort_is A p true W h hsh
  clear hsh
  by_cases h5 : (500 : Int) < (s.size : Int)
  · go_enter Try.func7, Try.ntmps7
    go_upto_region 1 with fail
    obtain ⟨g, hg⟩ : ∃ g, w.heap.size = g := ⟨_, rfl⟩
    refine wp_gen (fun W => Below w.heap.size w W ∧ AirC W g A p) ⟨(Below.refl _ _).alloc (Nat.le_refl _) _, by rw [← hg]; exact AirC.new _ _ _ _⟩ ?_
    rintro w0 ⟨hB0, hC⟩
    simp only [hg]
    have HB0 := Lib.hid hB0; have HC := Lib.hid hC
    have HA := Lib.hid (HA0.out.keep hB0)
    have HG := Lib.hid (HK.out _ _ HG0.out hB0)
    have HB : Hid (Below w0.heap.size w0 w0) := Lib.hid (Below.refl _ _)
    clear hB0 hg HA0 HG0 hC
    obtain ⟨x0, x1, x2, x3, x4⟩ := HC.out
    have ks := fun W (h : Below w0.heap.size w0 W) => ks W (HA.out.keep h)
    have aw := fun W (h : Below w0.heap.size w0 W) => aw W (HK.out _ _ HG.out h)
    go_wp2_with (first
        | (go_at_call 8; (with_reducible refine (ks _ HB.out).mono ?_); rintro e w1 ⟨rfl, hb⟩; replace x0 := bkeep hb x0; replace x1 := bkeep hb x1; replace x2 := bkeep hb x2; replace x3 := bkeep hb x3; replace x4 := bkeep hb x4; replace HB := Lib.hid (bthen HB.out hb); clear hb)
        | (go_at_call 9; (with_reducible refine (aw _ HB.out).mono ?_); rintro e w1 ⟨rfl, hb⟩; replace x0 := bkeep hb x0; replace x1 := bkeep hb x1; replace x2 := bkeep hb x2; replace x3 := bkeep hb x3; replace x4 := bkeep hb x4; replace HB := Lib.hid (bthen HB.out hb); clear hb))
    go_ret
    exact ⟨rfl, bthen HB0.out HB.out⟩
  have h5b : decide ((500 : Int) < (s.size : Int)) = false := decide_eq_false h5
  obtain ⟨e0, he0⟩ : ∃ e, A.check = e := ⟨_, rfl⟩
  by_cases hE : e0 = 0
  case neg =>
    go_enter Try.func7, Try.ntmps7
    go_upto_region 1 with fail
    obtain ⟨g, hg⟩ : ∃ g, w.heap.size = g := ⟨_, rfl⟩
    refine wp_gen (fun W => Below w.heap.size w W ∧ AirC W g A p) ⟨(Below.refl _ _).alloc (Nat.le_refl _) _, by rw [← hg]; exact AirC.new _ _ _ _⟩ ?_
    rintro w0 ⟨hB0, hC⟩
    simp only [hg]
    have HB0 := Lib.hid hB0; have HC := Lib.hid hC
    have HA := Lib.hid (HA0.out.keep hB0)
    have HG := Lib.hid (HK.out _ _ HG0.out hB0)
    have HB : Hid (Below w0.heap.size w0 w0) := Lib.hid (Below.refl _ _)
    clear hB0 hg HA0 HG0 hC
    obtain ⟨x0, x1, x2, x3, x4⟩ := HC.out
    have ks := fun W (h : Below w0.heap.size w0 W) => ks W (HA.out.keep h)
    have aw := fun W (h : Below w0.heap.size w0 W) => aw W (HK.out _ _ HG.out h)
    have c1 := fun W (h : Below w0.heap.size w0 W) => hAk.check A p e0 W (HA.out.keep h) hk hf he0 (HK.out _ _ HG.out h)
    clear he0
    go_wp2_with (first
        | (go_at_call 8; (with_reducible refine (ks _ HB.out).mono ?_); rintro e w1 ⟨rfl, hb⟩; replace x0 := bkeep hb x0; replace x1 := bkeep hb x1; replace x2 := bkeep hb x2; replace x3 := bkeep hb x3; replace x4 := bkeep hb x4; replace HB := Lib.hid (bthen HB.out hb); clear hb)
        | (go_at_call 10; (with_reducible refine (c1 _ HB.out).mono ?_); rintro e w1 ⟨rfl, hb⟩; replace x0 := bkeep hb x0; replace x1 := bkeep hb x1; replace x2 := bkeep hb x2; replace x3 := bkeep hb x3; replace x4 := bkeep hb x4; replace HB := Lib.hid (bthen HB.out hb); clear hb)
        | (go_at_call 9; (with_reducible refine (aw _ HB.out).mono ?_); rintro e w1 ⟨rfl, hb⟩; replace x0 := bkeep hb x0; replace x1 := bkeep hb x1; replace x2 := bkeep hb x2; replace x3 := bkeep hb x3; replace x4 := bkeep hb x4; replace HB := Lib.hid (bthen HB.out hb); clear hb))
    go_ret
    exact ⟨rfl, bthen HB0.out HB.out⟩
  subst hE
  obtain ⟨i0, hi, hz0, hz1, hz2⟩ := info_parts infoStrM
  obtain ⟨l, e, hp⟩ : ∃ l e, parseB s = (l, e) := ⟨_, _, rfl⟩
  obtain ⟨d, f, hc⟩ : ∃ d f, checkB l A.cols true = (d, f) := ⟨_, _, rfl⟩
  obtain ⟨okl, hl256⟩ := parse_okO2 hp
  have hs1 : s.size ≤ 500 := by omega
  obtain ⟨B, hB⟩ : ∃ B, A.plus s = B := ⟨_, rfl⟩
  have HBP := Lib.hid hB
  have hBr : B.rules.length = A.rules.length + 1 := by rw [← hB]; show (A.rules ++ [s]).length = _; simp
  have hkB : OkAir B := by
    rw [← hB]
    exact ⟨hk.cols, hk.log, hk.steps, fun t ht => by
      rcases List.mem_append.1 ht with ht | ht
      · exact hk.rules t ht
      · obtain rfl : t = s := by simpa using ht
        omega, hk.bounds⟩
  have hfB : FewAir B := by
    have := short_few (A := A)
    refine ⟨?_, ?_, ?_⟩
    · rw [← hB]; exact hf.1
    · rw [hBr]; omega
    · rw [← hB]; exact hf.2.2
  have hcB : (e = 0 ∧ f = 0 ∧ ¬ 16 < A.rules.length + 1) ∨ B.check ≠ 0 := by
    by_cases h16 : 16 < A.rules.length + 1
    · exact .inr (by rw [← hB]; exact plus_far he0 h16)
    · by_cases h1 : e = 0
      · by_cases h2 : f = 0
        · exact .inl ⟨h1, h2, h16⟩
        · exact .inr (by rw [← hB]; exact plus_bad he0 h16 (e := f) (by rw [ruleB_check (by rw [hp, h1]) hc h2]) h2)
      · exact .inr (by rw [← hB]; exact plus_bad he0 h16 (e := e) (by rw [ruleB_parse hp h1]) h1)
  have hokB : e = 0 → f = 0 → ¬ 16 < A.rules.length + 1 → B.all = (A.all.1 ++ [l], 0) ∧ B.check = 0 := fun h1 h2 h3 => by
    rw [← hB]
    exact plus_ok he0 h3 (ruleB_ok (by rw [hp, h1]) (by rw [hc, h2]))
  have HCB := Lib.hid hcB; have HOB := Lib.hid hokB; have HCC := Lib.hid hc
  have hTs : s.size ≤ 9223372036854775807 := by omega
  have hcA := he0
  go_enter Try.func7, Try.ntmps7
  go_upto_region 1 with fail
  obtain ⟨g, hg⟩ : ∃ g, w.heap.size = g := ⟨_, rfl⟩
  refine wp_gen (fun W => Below w.heap.size w W ∧ AirC W g A p) ⟨(Below.refl _ _).alloc (Nat.le_refl _) _, by rw [← hg]; exact AirC.new _ _ _ _⟩ ?_
  rintro w0 ⟨hB0, hC⟩
  simp only [hg]
  have HB0 := Lib.hid hB0; have HC := Lib.hid hC
  have HA := Lib.hid (HA0.out.keep hB0)
  have HG := Lib.hid (HK.out _ _ HG0.out hB0)
  have HB : Hid (Below w0.heap.size w0 w0) := Lib.hid (Below.refl _ _)
  clear hB0 hg HA0 HG0 hC
  obtain ⟨x0, x1, x2, x3, x4⟩ := HC.out
  have ks := fun W (h : Below w0.heap.size w0 W) => ks W (HA.out.keep h)
  have aw := fun W (h : Below w0.heap.size w0 W) => aw W (HK.out _ _ HG.out h)
  have c1 := fun W (h : Below w0.heap.size w0 W) => hAk.check A p 0 W (HA.out.keep h) hk hf he0 (HK.out _ _ HG.out h)
  have kp := fun W => rcparse_is s l e W hTs hp
  unfold ParsePost at kp
  have kc := fun (a : Option Addr) (c : Nat) W (h : OpA W a l.length l) => rscheck_is a c l A.cols true d f W h okl hk.cols hc
  clear hcB hokB hc hp
  go_upto_region 4 with (first
      | (go_at_call 8; (with_reducible refine (ks _ HB.out).mono ?_); rintro e w1 ⟨rfl, hb⟩; replace x0 := bkeep hb x0; replace x1 := bkeep hb x1; replace x2 := bkeep hb x2; replace x3 := bkeep hb x3; replace x4 := bkeep hb x4; replace HB := Lib.hid (bthen HB.out hb); clear hb)
      | (go_at_call 10; (with_reducible refine (c1 _ HB.out).mono ?_); rintro e w1 ⟨rfl, hb⟩; replace x0 := bkeep hb x0; replace x1 := bkeep hb x1; replace x2 := bkeep hb x2; replace x3 := bkeep hb x3; replace x4 := bkeep hb x4; replace HB := Lib.hid (bthen HB.out hb); clear hb)
      | (go_at_call 26; (with_reducible refine (kp _).mono ?_); rintro E w5 ⟨hb, ap, cp, rfl, op, _⟩; replace x0 := bkeep hb x0; replace x1 := bkeep hb x1; replace x2 := bkeep hb x2; replace x3 := bkeep hb x3; replace x4 := bkeep hb x4; have HOP := Lib.hid op; clear op; replace HB := Lib.hid (bthen HB.out hb); clear hb))
  go_upto_region 5 with (go_at_call 27; (with_reducible refine (kc _ _ _ HOP.out).mono ?_); rintro E w6 ⟨rfl, hb⟩; replace x0 := bkeep hb x0; replace x1 := bkeep hb x1; replace x2 := bkeep hb x2; replace x3 := bkeep hb x3; replace x4 := bkeep hb x4; replace HOP := Lib.hid (HOP.out.keep hb); replace HB := Lib.hid (bthen HB.out hb); clear hb)
  refine wp_gen (fun W => Below w0.heap.size w0 W ∧ OpA W ap l.length l) ⟨HB.out, HOP.out⟩ ?_
  clear HB HOP x0 x1 x2 x3 x4 kp kc ks
  rintro w6 ⟨hB6, ho6⟩
  have HB := Lib.hid hB6; have HOP := Lib.hid ho6
  obtain ⟨x0, x1, x2, x3, x4⟩ := HC.out.keep hB6
  clear hB6 ho6
  go_upto_region 6 with fail
  obtain ⟨g9, hg9⟩ : ∃ g, w6.heap.size = g := ⟨_, rfl⟩
  have hal := fun o => (Below.refl w6.heap.size w6).alloc (Nat.le_refl _) o
  refine wp_gen (fun W => Below w0.heap.size w0 W ∧ g9 + 1 ≤ W.heap.size ∧ Five W g9 (.int .i64 A.cols) (.int .i64 A.log) (.slice p.sa A.steps.length p.sc) (.slice p.ra A.rules.length p.rc) (.slice p.ba A.bounds.length p.bc) ∧ OpA W ap l.length l) ⟨bthen HB.out (hal _), by rw [← hg9]; simp, by rw [← hg9]; exact Five.new _ _, HOP.out.keep (hal _)⟩ ?_
  have HLT : Hid (∀ x, ap = some x → 0 < l.length → x.block < g9) := Lib.hid (by rw [← hg9]; exact opA_lt HOP.out)
  have hg9w : w0.heap.size ≤ g9 := by rw [← hg9]; exact HB.out.size
  clear HB HOP x0 x1 x2 x3 x4 hal
  rintro w7 ⟨hB7, hsz7, hF7, ho7⟩
  simp only [hg9]
  clear hg9
  have HB := Lib.hid hB7; have HOP := Lib.hid ho7; have HF7 := Lib.hid hF7
  obtain ⟨x0, x1, x2, x3, x4⟩ := HC.out.keep hB7
  have HST : Hid (StrA w7 p.ra A.rules.length (tx A.rules)) := Lib.hid (HA.out.keep hB7).2.1
  clear hB7 ho7 hF7
  have hnil2 : p.ra = none → A.rules.length = 0 ∧ p.rc = 0 := fun h => by
    refine ⟨?_, hnil h⟩
    cases hn : A.rules.length with
    | zero => rfl
    | succ n =>
      obtain ⟨b, o, e, _⟩ := HST.out.2 0 (by omega)
      rw [h] at e
      cases e
  have HNL := Lib.hid hnil2
  clear hnil2
  have x3' := bkeep (show Below w7.heap.size w7 (w7.alloc (.cells #[] 9)) from (Below.refl _ _).alloc (Nat.le_refl _) _) x3
  go_upto_region 7 with (first
    | (at_builtin; refine wpList_append_str rfl _ _ 22 rfl w7.heap.size 9 i0 (.string ⟨#[]⟩) 16 Try.underlying22 hi hz0 hz1 hz2 rfl _ 0 [] rfl (own_none _ _ _ (Nat.le_refl _)) p.ra A.rules.length p.rc (tx A.rules) rfl HNL.out (HST.out.keep ((Below.refl _ _).alloc (Nat.le_refl _) _)) (by unfold maxLen; omega) (by omega) (by simp) ?_; rintro v8 w8 q1 q2; rw [Nat.zero_add, List.nil_append] at q1; obtain ⟨a8, c8, rfl⟩ := own_form q1; have HBX := Lib.hid (own_row_below (own_none w7 w7.heap.size 9 (Nat.le_refl _)) ((Below.refl _ _).alloc (Nat.le_refl _) _) q2 (Nat.le_refl _) (by simp)); have HR8 := Lib.hid q1; clear q1 q2)
    | (at_builtin; refine wpList_append_own _ rfl _ _ 22 rfl w7.heap.size 9 i0 (.string ⟨#[]⟩) 1 16 Try.underlying22 hi hz0 hz1 hz2 rfl (by decide) _ _ _ rfl (HR8.out.alloc _) ⟨w8.heap.size, 0, none⟩ 1 1 [.string s] rfl rfl (one_src (by simp [go_sem])) (by intro u hu; simp at hu; subst hu; rfl) (by unfold maxLen; omega) (by omega) (by have := HBX.out.size; simp; omega) ?_; rintro v9 w9 q1 q2 _; obtain ⟨a9, c9, rfl⟩ := own_form q1; have HBY := Lib.hid (own_row_below (HR8.out.alloc _) (HBX.out.alloc HBX.out.size _) q2 (Nat.le_refl _) (by have := HBX.out.size; simp; omega)); have HR9 := Lib.hid q1; clear q1 q2; obtain ⟨⟨y0, y1, y2, y3, y4⟩, f0, f1, f2, f3, f4⟩ := HF7.out.keep HBY.out))
  have hF9 := (HF7.out.keep HBY.out).set3 (.slice a9 (A.rules.length + 1) c9)
  have hR9 := own_set (g := g9) (o := 3) (x := .slice a9 (A.rules.length + 1) c9) HR9.out (by omega)
  have hBn : Below w0.heap.size w0 (w9.setCell ⟨g9, 3, none⟩ (.slice a9 (A.rules.length + 1) c9)) := (bthen HB.out HBY.out).setCell hg9w _
  have hOn : OpA (w9.setCell ⟨g9, 3, none⟩ (.slice a9 (A.rules.length + 1) c9)) ap l.length l := opA_far (HOP.out.keep HBY.out) HLT.out
  refine wp_gen (fun W => Below w0.heap.size w0 W ∧ OpA W ap l.length l ∧ Five W g9 (.int .i64 A.cols) (.int .i64 A.log) (.slice p.sa A.steps.length p.sc) (.slice a9 (A.rules.length + 1) c9) (.slice p.ba A.bounds.length p.bc) ∧ StrA W a9 (A.rules.length + 1) (tx (A.rules ++ [s]))) ⟨hBn, hOn, hF9, ?_⟩ ?_
  · have e9 : strV (tx A.rules) A.rules.length ++ [.string s] = strsV (A.rules ++ [s]) := by rw [strsV, List.map_append, strV_tx]; rfl
    rw [e9] at hR9
    have := own_str_at (l := A.rules ++ [s]) (by rw [List.length_append]; exact hR9)
    rw [List.length_append] at this
    exact this
  clear hF9 hR9 hBn hOn HB HOP HF7 HST HNL x0 x1 x2 x3 x4 x3' y0 y1 y2 y3 y4 f0 f1 f2 f3 f4 HBX HBY HR8 HR9
  rintro W ⟨hBW, hOW, hFW, hSW⟩
  have HB0' := Lib.hid hBW
  have hvB : ∀ q : AirAt, q = ⟨p.sa, p.sc, a9, c9, p.ba, p.bc⟩ → B.val q = .agg #[.int .i64 A.cols, .int .i64 A.log, .slice p.sa A.steps.length p.sc, .slice a9 (A.rules.length + 1) c9, .slice p.ba A.bounds.length p.bc] := fun q hq => by
    subst hq
    show Value.agg #[.int .i64 B.cols, .int .i64 B.log, .slice p.sa B.steps.length p.sc, .slice a9 B.rules.length c9, .slice p.ba B.bounds.length p.bc] = _
    rw [hBr, ← HBP.out]
    rfl
  have HAB : Hid (AirA W B ⟨p.sa, p.sc, a9, c9, p.ba, p.bc⟩) := Lib.hid (by
    obtain ⟨q1, q2, q3⟩ := HA.out.keep hBW
    refine ⟨?_, ?_, ?_⟩
    · rw [← HBP.out]; exact q1
    · show StrA W a9 B.rules.length (tx B.rules)
      rw [hBr, ← HBP.out]; exact hSW
    · rw [← HBP.out]; exact q3)
  have HF := Lib.hid hFW.1; have HOP := Lib.hid hOW
  have hG2 := HK.out _ _ HG.out hBW
  have HG2 := Lib.hid hG2
  have kB : ∀ W', Below W.heap.size W W' → Calls Try.prog 10 #[.agg #[.int .i64 A.cols, .int .i64 A.log, .slice p.sa A.steps.length p.sc, .slice a9 (A.rules.length + 1) c9, .slice p.ba A.bounds.length p.bc]] W' fun e w' => e = .returned (.int .i64 B.check) ∧ Below W'.heap.size W' w' := fun W' hb => by
    rw [← hvB _ rfl]
    exact hAk.check B _ _ W' (HAB.out.keep hb) hkB hfB rfl (HK.out _ _ HG2.out hb)
  have aw := fun W' (hb : Below W.heap.size W W') => aw W' (bthen hBW hb)
  obtain ⟨y0, y1, y2, y3, y4⟩ := HF.out
  obtain ⟨x0, x1, x2, x3, x4⟩ := HC.out.keep hBW
  have HB : Hid (Below W.heap.size W W) := Lib.hid (Below.refl _ _)
  clear hBW hOW hFW hSW hG2
  obtain ⟨gB, hgB⟩ : ∃ e, B.check = e := ⟨_, rfl⟩
  rw [hgB] at kB HCB
  have HGB := Lib.hid hgB
  clear hgB
  go_upto_region 8 with (go_at_call 10; (with_reducible refine (kB _ HB.out).mono ?_); rintro e w1 ⟨rfl, hb⟩; replace x0 := bkeep hb x0; replace x1 := bkeep hb x1; replace x2 := bkeep hb x2; replace x3 := bkeep hb x3; replace x4 := bkeep hb x4; replace y0 := bkeep hb y0; replace y1 := bkeep hb y1; replace y2 := bkeep hb y2; replace y3 := bkeep hb y3; replace y4 := bkeep hb y4; replace HOP := Lib.hid (HOP.out.keep hb); replace HB := Lib.hid (bthen HB.out hb); clear hb)
  by_cases hok : e = 0 ∧ f = 0 ∧ ¬ 16 < A.rules.length + 1
  · obtain ⟨rfl, rfl, h16⟩ := hok
    obtain ⟨hallB, hckB⟩ := HOB.out rfl rfl h16
    obtain rfl : gB = 0 := HGB.out.symm.trans hckB
    have hdB : B.degree = max A.degree d := by
      show degMax B.all.1 = max (degMax A.all.1) d
      rw [hallB, degMax_snoc, checkB_degO (cols := A.cols) (nx := true) (d := d) HCC.out]
    obtain ⟨N, hN⟩ : ∃ N, A.all.1.length = N := ⟨_, rfl⟩
    have hN24 : N ≤ 40 := by
      have h0 := AirP.all_len (A := B) (by rw [hallB])
      rw [hallB, List.length_append, hN] at h0
      have hfit := (AirP.check_ok hckB).2.1
      have := hfit.2.2.1; have := hfit.2.2.2; have := hfit.2.1
      unfold AirP.count at h0
      simp at h0
      omega
    have hmx := max_nat A.degree d
    rw [← hdB] at hmx
    have kR : ∀ W', Below W.heap.size W W' → Calls Try.prog 11 #[.agg #[.int .i64 A.cols, .int .i64 A.log, .slice p.sa A.steps.length p.sc, .slice a9 (A.rules.length + 1) c9, .slice p.ba A.bounds.length p.bc]] W' (RulesPost W' (A.all.1 ++ [l]) 0) := fun W' hb => by
      rw [← hvB _ rfl]
      exact hAk.rules B _ _ 0 W' (HAB.out.keep hb) hkB hfB hallB (HK.out _ _ HG2.out hb)
    unfold RulesPost at kR
    have kD : ∀ W', Below W.heap.size W W' → Calls Try.prog 17 #[.agg #[.int .i64 A.cols, .int .i64 A.log, .slice p.sa A.steps.length p.sc, .slice a9 (A.rules.length + 1) c9, .slice p.ba A.bounds.length p.bc]] W' fun e w' => e = .returned (.int .i64 (B.degree : Int)) ∧ Below W'.heap.size W' w' := fun W' hb => by
      rw [← hvB _ rfl]
      exact hAk.degree B _ W' (HAB.out.keep hb) hkB hfB hckB (HK.out _ _ HG2.out hb)
    have kE := fun W' (hb : Below W.heap.size W W') => hAk.degree A p W' (HA.out.keep (bthen HB0'.out hb)) hk hf hcA (HK.out _ _ HG2.out hb)
    have h16I : ¬ (16 : Int) < ((A.rules.length + 1 : Nat) : Int) := by omega
    clear HCB HOB hallB hckB hdB HGB h16
    go_upto_region 11 with (go_at_call 11; (with_reducible refine (kR _ HB.out).mono ?_); rintro E w12 ⟨hb, aR, cR, rfl, oR, _⟩; replace x0 := bkeep hb x0; replace x1 := bkeep hb x1; replace x2 := bkeep hb x2; replace x3 := bkeep hb x3; replace x4 := bkeep hb x4; replace y0 := bkeep hb y0; replace y1 := bkeep hb y1; replace y2 := bkeep hb y2; replace y3 := bkeep hb y3; replace y4 := bkeep hb y4; replace HOP := Lib.hid (HOP.out.keep hb); have HRR := Lib.hid oR; clear oR; replace HB := Lib.hid (bthen HB.out hb); clear hb)
    obtain ⟨bR, qR, rfl, ak, ck, u1, v1, _⟩ := HRR.out.2.2 N (by rw [List.length_append, hN]; show N < N + 1; omega)
    have hgl : (A.all.1 ++ [l]).getD N [] = l := by simp [List.getD, ← hN]
    rw [hgl] at u1 v1
    have hlenM : (A.all.1 ++ [l]).length = N + 1 := by rw [List.length_append, hN]; rfl
    have hwM : IntKind.i64.wrap (((N + 1 : Nat) : Int) - 1) = (N : Int) := by rw [IntWalk.i64_in _ (by omega)]; omega
    have hwM' : wrap64 (((N + 1 : Nat) : Int) - 1) = (N : Int) := by rw [IntWalk.wrap64_in _ (by omega)]; omega
    have hwM2 : IntKind.i64.wrap ((N : Int) + 1 - 1) = (N : Int) := by rw [IntWalk.i64_in _ (by omega)]; omega
    have hwM3 : wrap64 ((N : Int) + 1 - 1) = (N : Int) := by rw [IntWalk.wrap64_in _ (by omega)]; omega
    have hNM : (N : Int) < ((N + 1 : Nat) : Int) := by omega
    have hNM2 : (N : Int) < (N : Int) + 1 := by omega
    have hN0 : (0 : Int) ≤ (N : Int) := by omega
    try simp only [hlenM]
    clear hgl hN
    generalize hwR : w12 = WR at *
    have aw' := fun W' (h : Below WR.heap.size WR W') => aw W' (bthen HB.out h)
    have kD' := fun W' (h : Below WR.heap.size WR W') => kD W' (bthen HB.out h)
    have kE' := fun W' (h : Below WR.heap.size WR W') => kE W' (bthen HB.out h)
    have s1 := fun W' (h : Below WR.heap.size WR W') => rsameO_is ak ap l.length ck cp l W' (v1.keep h) (HOP.out.keep h)
    generalize B.degree = DB at *
    generalize A.degree = DA at *
    clear hlenM
    replace x0 := fun q : Regrown => cell_regrown x0 q.d q.os
    replace x1 := fun q : Regrown => cell_regrown x1 q.d q.os
    replace x2 := fun q : Regrown => cell_regrown x2 q.d q.os
    replace x3 := fun q : Regrown => cell_regrown x3 q.d q.os
    replace x4 := fun q : Regrown => cell_regrown x4 q.d q.os
    replace y0 := fun q : Regrown => cell_regrown y0 q.d q.os
    replace y1 := fun q : Regrown => cell_regrown y1 q.d q.os
    replace y2 := fun q : Regrown => cell_regrown y2 q.d q.os
    replace y3 := fun q : Regrown => cell_regrown y3 q.d q.os
    replace y4 := fun q : Regrown => cell_regrown y4 q.d q.os
    replace u1 := fun q : Regrown => cell_regrown u1 q.d q.os
    refine wp_region_quiet_below (by kernel_rfl) (by kernel_rfl) ?_
    repeat (first | go_big_quiet_step (first
      | (go_at_call 9; with_reducible exact Calls.regrown_of (aw' _ (below_regrown WR _ _)))
      | (go_at_call 17; (first | with_reducible exact Calls.regrown_of (kD' _ (below_regrown WR _ _)) | with_reducible exact Calls.regrown_of (kE' _ (below_regrown WR _ _))))
      | (go_at_call 14; with_reducible exact Calls.regrown_of (s1 _ (below_regrown WR _ _)))) | quiet_step (fail))
    refine wpQuiet_nil ?_
    rintro _ ⟨pq, rfl⟩
    have HBE := Lib.hid (bthen HB0.out (bthen HB0'.out (bthen HB.out (below_regrown WR pq.d pq.os))))
    clear x0 x1 x2 x3 x4 y0 y1 y2 y3 y4 u1
    go_wp2_with fail
    go_ret
    exact ⟨rfl, HBE.out⟩
  · have hg0 : ¬ gB = 0 := HCB.out.resolve_left hok
    have hgb : (gB != 0) = true := by simp [hg0]
    clear HCB HOB HF HAB kB
    by_cases h1 : e = 0
    · by_cases h2 : f = 0
      · have h16 : (16 : Int) < ((A.rules.length + 1 : Nat) : Int) := by
          have : 16 < A.rules.length + 1 := by
            refine Nat.not_le.1 fun hle => hok ⟨h1, h2, by omega⟩
          omega
        clear hok
        go_wp2_with (go_at_call 9; (with_reducible refine (aw _ HB.out).mono ?_); rintro e w1 ⟨rfl, hb⟩; replace x0 := bkeep hb x0; replace x1 := bkeep hb x1; replace x2 := bkeep hb x2; replace x3 := bkeep hb x3; replace x4 := bkeep hb x4; replace y0 := bkeep hb y0; replace y1 := bkeep hb y1; replace y2 := bkeep hb y2; replace y3 := bkeep hb y3; replace y4 := bkeep hb y4; replace HB := Lib.hid (bthen HB.out hb); clear hb)
        go_ret
        exact ⟨rfl, bthen HB0.out (bthen HB0'.out HB.out)⟩
      · clear hok
        go_wp2_with (go_at_call 9; (with_reducible refine (aw _ HB.out).mono ?_); rintro e w1 ⟨rfl, hb⟩; replace x0 := bkeep hb x0; replace x1 := bkeep hb x1; replace x2 := bkeep hb x2; replace x3 := bkeep hb x3; replace x4 := bkeep hb x4; replace y0 := bkeep hb y0; replace y1 := bkeep hb y1; replace y2 := bkeep hb y2; replace y3 := bkeep hb y3; replace y4 := bkeep hb y4; replace HB := Lib.hid (bthen HB.out hb); clear hb)
        go_ret
        exact ⟨rfl, bthen HB0.out (bthen HB0'.out HB.out)⟩
    · clear hok
      go_wp2_with (go_at_call 9; (with_reducible refine (aw _ HB.out).mono ?_); rintro e w1 ⟨rfl, hb⟩; replace x0 := bkeep hb x0; replace x1 := bkeep hb x1; replace x2 := bkeep hb x2; replace x3 := bkeep hb x3; replace x4 := bkeep hb x4; replace y0 := bkeep hb y0; replace y1 := bkeep hb y1; replace y2 := bkeep hb y2; replace y3 := bkeep hb y3; replace y4 := bkeep hb y4; replace HB := Lib.hid (bthen HB.out hb); clear hb)
      go_ret
      exact ⟨rfl, bthen HB0.out (bthen HB0'.out HB.out)⟩
end Go.Proofs.Ytckipfcjgmiacaa
