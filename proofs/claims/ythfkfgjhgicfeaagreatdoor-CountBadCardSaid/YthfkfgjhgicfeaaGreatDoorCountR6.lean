/-
  What the document's Bad of layer 23 comes to. (Written by gen_cr6.py.)
-/
import Derived.Test.YthfkfgjhgicfeaaGreatDoorGCntRef
import Derived.Test.YthfkfgjhgicfeaaGreatDoorGFold
import Derived.Test.YthfkfgjhgicfeaaGreatDoorGRef
namespace Go.Proofs.YthfkfgjhgicfeaaGreatDoor
open Go Go.RowKit Go.Sort Go.BigFrame
set_option linter.unusedVariables false

theorem badOk_no {n : Nat} {dim places : Int} (h : ¬ badOk n dim places) {word : QL} (hl : word.length = n) (f : Int) : badV word f dim places = ([], false) := by
  unfold badV; rw [hl, if_neg h]
/-- The state behind t of a set's other places. -/
def setUp (x E O : Nat → F2) (d : Nat) (I : List Nat) (t : Nat) : F2 × Bool × Bool := ((restV x E O d I).take t).foldl stepV (0, false, false)
theorem restV_len (x E O : Nat → F2) (d : Nat) (I : List Nat) : (restV x E O d I).length = I.length - d := by simp [restV]
theorem setUp_step {x E O : Nat → F2} {d : Nat} {I : List Nat} {t : Nat} (h : d + t < I.length) :
    setUp x E O d I (t + 1) = stepV (setUp x E O d I t) (missV x E O (thrL (picks x (I.take d)) (picks E (I.take d))) (thrL (picks x (I.take d)) (picks O (I.take d))) (I.getD (d + t) 0)) := by
  unfold setUp
  have hl : t < (restV x E O d I).length := by rw [restV_len]; omega
  rw [List.take_succ_eq_append_getElem hl, List.foldl_append]
  have e : (restV x E O d I)[t] = missV x E O (thrL (picks x (I.take d)) (picks E (I.take d))) (thrL (picks x (I.take d)) (picks O (I.take d))) (I.getD (d + t) 0) := by
    simp [restV, List.getD, h]
  rw [e]
  rfl
theorem setUp_end {x E O : Nat → F2} {d : Nat} {I : List Nat} {t : Nat} (h : I.length = d + t) : setUp x E O d I t = setV x E O d I := by
  unfold setUp
  rw [List.take_of_length_le (by rw [restV_len]; omega)]
  rfl
def SetRel (wI : World) (g : Nat) (st : Nat → F2 × Bool × Bool) (D P : Nat) (kn no k : Value) (W : World) : Prop :=
  ∃ t : Nat, D + t ≤ P ∧ k = .int .i64 (D + t : Nat) ∧ kn = .bool (st t).2.1 ∧ no = .bool (st t).2.2 ∧ Below wI.heap.size wI W ∧ Duo W g (.int .u64 (enc (st t).1.a)) (.int .u64 (enc (st t).1.b))
def BadRel (wb : World) (g : List Nat → F2 × Bool × Bool) (L : List (List Nat)) (v i : Value) (W : World) : Prop :=
  ∃ (j : Nat) (out : List F2), j ≤ L.length ∧ i = .int .i64 (j : Int) ∧ badGo g L [] = badGo g (L.drop j) out ∧ out.length ≤ j ∧ MadeQ wb W v (encL out)
def ThereRel (wK : World) (bz : F2) (out : List F2) (th k : Value) (W : World) : Prop := ∃ q : Nat, q ≤ out.length ∧ k = .int .i64 (q : Int) ∧ th = .bool (decide (bz ∈ out.take q)) ∧ Below wK.heap.size wK W
theorem there_step {bz x : F2} {out : List F2} {q : Nat} (h : q < out.length) (hx : cq out q = x) : decide (bz ∈ out.take (q + 1)) = (decide (bz ∈ out.take q) || decide (x = bz)) := by
  have e : out[q] = x := by rw [← hx]; simp [cq, List.getD, h]
  rw [List.take_succ_eq_append_getElem h, e]
  simp only [List.mem_append, List.mem_singleton, Bool.decide_or]
  congr 1
  exact decide_eq_decide.2 eq_comm
theorem encL_snoc (l : List F2) (x : F2) : encL l ++ [(enc x.a, enc x.b)] = encL (l ++ [x]) := by simp [encL]
def Bad20B (eb eo ec xb xo xc hh AT l1 lc : Nat) (la : Option Addr) (e0 e1 : Int) (x vv z : F2) (sl : Nat) (v : Value) : Prop :=
  match sl with
  | 119 => v = .slice (some ⟨eb, eo, none⟩) hh ec
  | 120 => v = .int .i64 (AT : Int)
  | 121 => v = .pointer (some ⟨eb, eo + AT * 2, none⟩)
  | 122 => v = .agg #[.int .u64 e0, .int .u64 e1]
  | 123 => v = .slice la l1 lc
  | 124 => v = .slice (some ⟨xb, xo, none⟩) hh xc
  | 125 => v = .int .i64 (AT : Int)
  | 126 => v = .pointer (some ⟨xb, xo + AT * 2, none⟩)
  | 127 => v = .agg #[.int .u64 (enc x.a), .int .u64 (enc x.b)]
  | 128 => v = .agg #[.int .u64 (enc vv.a), .int .u64 (enc vv.b)]
  | 129 => v = .agg #[.int .u64 (enc z.a), .int .u64 (enc z.b)]
  | _ => v = .bool true
def Bad20A (B : Nat) (eb eo ec xb xo xc hh AT l1 lc : Nat) (la : Option Addr) (e0 e1 : Int) (x vv z : F2) (s : Bool) (v : Value) (W : World) : Prop := ∃ q : Nat, B ≤ q ∧ v = .pointer (some ⟨q, 0, none⟩) ∧ Duo W q (if s then .int .u64 (enc z.a) else .int .u64 0) (if s then .int .u64 (enc z.b) else .int .u64 0)
def Bad20G (B : Nat) (eb eo ec xb xo xc hh AT l1 lc : Nat) (la : Option Addr) (e0 e1 : Int) (x vv z : F2) (s : Bool) (sl : Nat) (v : Value) (W : World) : Prop := if sl = 27 then Bad20A B eb eo ec xb xo xc hh AT l1 lc la e0 e1 x vv z s v W else Bad20B eb eo ec xb xo xc hh AT l1 lc la e0 e1 x vv z sl v
theorem Bad20G.keep {B : Nat} {eb eo ec xb xo xc hh AT l1 lc : Nat} {la : Option Addr} {e0 e1 : Int} {x vv z : F2} (s : Bool) (sl : Nat) (v : Value) (W W' : World) (h : Bad20G B eb eo ec xb xo xc hh AT l1 lc la e0 e1 x vv z s sl v W) (hb : Below W.heap.size W W') : Bad20G B eb eo ec xb xo xc hh AT l1 lc la e0 e1 x vv z s sl v W' := by
  unfold Bad20G at *
  split
  · next c => rw [if_pos c] at h; obtain ⟨q, h0, h1, h2⟩ := h; exact ⟨q, h0, h1, h2.keep hb⟩
  · next c => rw [if_neg c] at h; exact h
def Bad21B (eb eo ec xb xo xc hh AT l1 lc : Nat) (la : Option Addr) (e0 e1 : Int) (x vv z : F2) (sl : Nat) (v : Value) : Prop :=
  match sl with
  | 130 => v = .slice (some ⟨eb, eo, none⟩) hh ec
  | 131 => v = .int .i64 (AT : Int)
  | 132 => v = .pointer (some ⟨eb, eo + AT * 2, none⟩)
  | 133 => v = .agg #[.int .u64 e0, .int .u64 e1]
  | 134 => v = .slice la l1 lc
  | 135 => v = .slice (some ⟨xb, xo, none⟩) hh xc
  | 136 => v = .int .i64 (AT : Int)
  | 137 => v = .pointer (some ⟨xb, xo + AT * 2, none⟩)
  | 138 => v = .agg #[.int .u64 (enc x.a), .int .u64 (enc x.b)]
  | 139 => v = .agg #[.int .u64 (enc vv.a), .int .u64 (enc vv.b)]
  | 140 => v = .agg #[.int .u64 (enc z.a), .int .u64 (enc z.b)]
  | _ => v = .bool true
def Bad21A (B : Nat) (eb eo ec xb xo xc hh AT l1 lc : Nat) (la : Option Addr) (e0 e1 : Int) (x vv z : F2) (s : Bool) (v : Value) (W : World) : Prop := ∃ q : Nat, B ≤ q ∧ v = .pointer (some ⟨q, 0, none⟩) ∧ Duo W q (if s then .int .u64 (enc z.a) else .int .u64 0) (if s then .int .u64 (enc z.b) else .int .u64 0)
def Bad21G (B : Nat) (eb eo ec xb xo xc hh AT l1 lc : Nat) (la : Option Addr) (e0 e1 : Int) (x vv z : F2) (s : Bool) (sl : Nat) (v : Value) (W : World) : Prop := if sl = 28 then Bad21A B eb eo ec xb xo xc hh AT l1 lc la e0 e1 x vv z s v W else Bad21B eb eo ec xb xo xc hh AT l1 lc la e0 e1 x vv z sl v
theorem Bad21G.keep {B : Nat} {eb eo ec xb xo xc hh AT l1 lc : Nat} {la : Option Addr} {e0 e1 : Int} {x vv z : F2} (s : Bool) (sl : Nat) (v : Value) (W W' : World) (h : Bad21G B eb eo ec xb xo xc hh AT l1 lc la e0 e1 x vv z s sl v W) (hb : Below W.heap.size W W') : Bad21G B eb eo ec xb xo xc hh AT l1 lc la e0 e1 x vv z s sl v W' := by
  unfold Bad21G at *
  split
  · next c => rw [if_pos c] at h; obtain ⟨q, h0, h1, h2⟩ := h; exact ⟨q, h0, h1, h2.keep hb⟩
  · next c => rw [if_neg c] at h; exact h
def Bad23B (g27 g29 : Nat) (c m n z : F2) (sl : Nat) (v : Value) : Prop :=
  match sl with
  | 146 => v = .agg #[.int .u64 (enc c.a), .int .u64 (enc c.b)]
  | 147 => v = .agg #[.int .u64 (enc m.a), .int .u64 (enc m.b)]
  | 148 => v = .agg #[.int .u64 (enc n.a), .int .u64 (enc n.b)]
  | 149 => v = .agg #[.int .u64 (enc z.a), .int .u64 (enc z.b)]
  | _ => v = .bool true
def Bad23A (B : Nat) (g27 g29 : Nat) (c m n z : F2) (s : Bool) (v : Value) (W : World) : Prop := ∃ q : Nat, B ≤ q ∧ v = .pointer (some ⟨q, 0, none⟩) ∧ Duo W q (if s then .int .u64 (enc z.a) else .int .u64 0) (if s then .int .u64 (enc z.b) else .int .u64 0)
def Bad23G (B : Nat) (g27 g29 : Nat) (c m n z : F2) (s : Bool) (sl : Nat) (v : Value) (W : World) : Prop := if sl = 31 then Bad23A B g27 g29 c m n z s v W else Bad23B g27 g29 c m n z sl v
theorem Bad23G.keep {B : Nat} {g27 g29 : Nat} {c m n z : F2} (s : Bool) (sl : Nat) (v : Value) (W W' : World) (h : Bad23G B g27 g29 c m n z s sl v W) (hb : Below W.heap.size W W') : Bad23G B g27 g29 c m n z s sl v W' := by
  unfold Bad23G at *
  split
  · next c => rw [if_pos c] at h; obtain ⟨q, h0, h1, h2⟩ := h; exact ⟨q, h0, h1, h2.keep hb⟩
  · next c => rw [if_neg c] at h; exact h

set_option maxRecDepth 100000 in
set_option maxHeartbeats 20000000 in
theorem rbad_is (a : Option Addr) (n c : Nat) (word : QL) (f dim places : Int) (w : World) (hw : QRowA w a n word) (hwu : UsR word) (hn : n ≤ 16) (hf : 0 ≤ f ∧ f ≤ 64) (hd64 : I64 dim) (hp64 : I64 places) :
    Calls Tryz.prog 20 #[.slice a n c, .int .i64 f, .int .i64 dim, .int .i64 places] w (BadPost w (badV word f dim places)) := by
  have hlen := hw.1
  have L1 := fun W => reflog_is (n : Int) (lg (n : Int)) (by constructor <;> omega) rfl W
  have HB : Hid (Below w.heap.size w w) := Lib.hid (Below.refl _ _)
  obtain ⟨m, hm⟩ : ∃ m, lg (n : Int) = m := ⟨_, rfl⟩
  rw [hm] at L1
  by_cases c1 : m < 2
  · rw [badOk_no (fun h => by have := h; unfold badOk at this; rw [hm] at this; omega) hlen]
    clear hm
    clear hw hwu hlen
    go_enter Tryz.func20, Tryz.ntmps20
    go_wp2_with (go_at_call 30; (with_reducible refine (L1 _).mono ?_); rintro e w1 ⟨rfl, rfl⟩)
    exact bodyPost_ret (v := .tuple #[.slice none 0 0, .bool false]) (by simp [results, Tryz.results20, go_sem]) rfl ⟨HB.out, none, 0, rfl, qrowA_nil _⟩

  obtain ⟨k, hk, hnk, h1⟩ := (lg_small (show n ≤ 64 by omega)).resolve_left (by rw [hm]; omega)
  have hmk : m = (k : Int) := by rw [← hm]; exact h1
  subst hmk
  have hk2 : 2 ≤ k := by omega
  have hk4 : k ≤ 4 := by
    refine Nat.le_of_not_lt fun hc => ?_
    have : 2 ^ 5 ≤ 2 ^ k := Nat.pow_le_pow_right (by decide) hc
    omega
  have c2 : ¬ 4 < (k : Int) := by omega
  obtain ⟨h, hh⟩ : ∃ h, n / 2 = h := ⟨_, rfl⟩
  have hq : (n : Int).tdiv 2 = (h : Int) := by rw [Int.tdiv_eq_ediv_of_nonneg (by omega)]; omega
  have hqw : wrap64 (h : Int) = (h : Int) := IntWalk.wrap64_in _ (by omega)
  have HNK := Lib.hid hnk; have HK := Lib.hid (And.intro hk2 hk4)
  by_cases c3 : dim < 0
  · rw [badOk_no (fun h => by have := h; unfold badOk at this; omega) hlen]
    clear hm hnk h1 hk hh
    clear hw hwu hlen
    go_enter Tryz.func20, Tryz.ntmps20
    go_wp2_with (go_at_call 30; (with_reducible refine (L1 _).mono ?_); rintro e w1 ⟨rfl, rfl⟩)
    exact bodyPost_ret (v := .tuple #[.slice none 0 0, .bool false]) (by simp [results, Tryz.results20, go_sem]) rfl ⟨HB.out, none, 0, rfl, qrowA_nil _⟩

  by_cases c4 : places ≤ dim
  · rw [badOk_no (fun h => by have := h; unfold badOk at this; omega) hlen]
    clear hm hnk h1 hk hh
    clear hw hwu hlen
    go_enter Tryz.func20, Tryz.ntmps20
    go_wp2_with (go_at_call 30; (with_reducible refine (L1 _).mono ?_); rintro e w1 ⟨rfl, rfl⟩)
    exact bodyPost_ret (v := .tuple #[.slice none 0 0, .bool false]) (by simp [results, Tryz.results20, go_sem]) rfl ⟨HB.out, none, 0, rfl, qrowA_nil _⟩

  by_cases c5 : (h : Int) < places
  · rw [badOk_no (fun h => by have := h; unfold badOk at this; rw [hh] at this; omega) hlen]
    clear hm hnk h1 hk hh
    clear hw hwu hlen
    go_enter Tryz.func20, Tryz.ntmps20
    go_wp2_with (go_at_call 30; (with_reducible refine (L1 _).mono ?_); rintro e w1 ⟨rfl, rfl⟩)
    exact bodyPost_ret (v := .tuple #[.slice none 0 0, .bool false]) (by simp [results, Tryz.results20, go_sem]) rfl ⟨HB.out, none, 0, rfl, qrowA_nil _⟩

  obtain ⟨i0, hi, hz0, hz1, hz2⟩ := info_parts infoQ5
  obtain ⟨D, rfl⟩ := Int.eq_ofNat_of_zero_le (show 0 ≤ dim by omega)
  obtain ⟨PL, rfl⟩ := Int.eq_ofNat_of_zero_le (show 0 ≤ places by omega)
  have hDP : D < PL := by omega
  have hPh : PL ≤ h := by omega
  obtain ⟨k1, rfl⟩ : ∃ k1, k = k1 + 1 := ⟨k - 1, by omega⟩
  have hlw : word.length = 2 ^ (k1 + 1) := hlen.trans hnk
  have hhe : h = 2 ^ k1 := by rw [← hh, ← hlen]; exact half_len hlw
  have hend : badV word f (D : Int) (PL : Int) = badGo (setV (ptV (k1 : Int) (f + 1)) (evenV word f) (oddV word f) D) (subs PL h) [] := by
    unfold badV
    rw [hlen, hm, hh, Int.toNat_natCast, Int.toNat_natCast, show ((k1 + 1 : Nat) : Int) - 1 = (k1 : Int) by omega, if_pos]
    unfold badOk
    rw [hm, hh]
    exact ⟨by omega, by omega, by omega, by omega, by omega⟩
  rw [hend]
  have S1 := fun W (h : Below w.heap.size w W) => rsplit_is a n c k1 word f W (hw.keep h) hwu hlw (by omega)
  have hEl : (wordV word 0 f).1.length = h := by rw [hhe]; exact word_len hlw (by omega) 0 f
  have hOl : (oddL word f (2 ^ k1)).length = h := by rw [hhe]; exact oddL_len _ _ _
  have hUE : UsR (wordV word 0 f).1 := wordV_U (show wordV word 0 f = ((wordV word 0 f).1, true) by rw [wordV_yes (by rw [lg_len hlw]; omega)])
  have hUO : UsR (oddL word f (2 ^ k1)) := encL_U _
  have hqE : ∀ i, qAt (wordV word 0 f).1 i = evenV word f i := fun i => rfl
  have hqO : ∀ i, i < h → qAt (oddL word f (2 ^ k1)) i = oddV word f i := fun i hi => oddL_qAt word f (by rw [← hhe]; exact hi)
  unfold SplitPost at S1
  rw [hEl, hOl] at S1
  obtain ⟨EV, hEV⟩ : ∃ q, (wordV word 0 f).1 = q := ⟨_, rfl⟩
  obtain ⟨OD, hOD⟩ : ∃ q, oddL word f (2 ^ k1) = q := ⟨_, rfl⟩
  rw [hEV] at S1 hEl hUE hqE
  rw [hOD] at S1 hOl hUO hqO
  have X1 := fun W => rxs_is k1 (f + 1) W (by omega)
  unfold RowQPost at X1
  rw [xsL_len, ← hhe] at X1
  have T1 := fun W => rsubs_is PL h W (by omega) (by omega)
  unfold NTabPost at T1
  have hsl : ∀ I ∈ subs PL h, I.length = PL ∧ (∀ i ∈ I, i < h) := fun I hI => ⟨subs_len hI, subs_lt hI⟩
  have hLc := subs_le PL h (by omega)
  generalize evenV word f = EF at *
  generalize oddV word f = OF at *
  obtain ⟨XF, hXF⟩ : ∃ q, ptV (k1 : Int) (f + 1) = q := ⟨_, rfl⟩
  have hqX : ∀ i, i < h → (xsL (k1 : Int) (f + 1) h).getD i (0, 0) = encP (XF i) := fun i hi => by rw [xsL_at _ _ hi, hXF]
  have hqX2 : ∀ i, i < h → qAt (xsL (k1 : Int) (f + 1) h) i = XF i := fun i hi => by rw [xsL_qAt _ _ hi, hXF]
  have hXl : (xsL (k1 : Int) (f + 1) h).length = h := xsL_len _ _ _
  have hXU := xsL_U (k1 : Int) (f + 1) h
  rw [hXF]
  obtain ⟨XS, hXS⟩ : ∃ q, xsL (k1 : Int) (f + 1) h = q := ⟨_, rfl⟩
  rw [hXS] at X1 hqX hqX2 hXl hXU
  obtain ⟨L, hL⟩ : ∃ L, subs PL h = L := ⟨_, rfl⟩
  rw [hL] at T1 hsl hLc ⊢
  have hG : ∀ I : List Nat, I.length = PL → ∀ t, D + t = PL → setUp XF EF OF D I t = setV XF EF OF D I := fun I hI t ht => setUp_end (by omega)
  have HGE := Lib.hid hG
  obtain ⟨G, hGG⟩ : ∃ G, setV XF EF OF D = G := ⟨_, rfl⟩
  rw [hGG] at HGE ⊢
  have HSL := Lib.hid hsl; have HEL := Lib.hid hEl; have HOL := Lib.hid hOl; have HUE := Lib.hid hUE; have HUO := Lib.hid hUO; have HQE := Lib.hid hqE; have HQO := Lib.hid hqO; have HQX := Lib.hid hqX; have HQX2 := Lib.hid hqX2; have HXL := Lib.hid hXl; have HXU := Lib.hid hXU
  have HDP := Lib.hid hDP; have HPH := Lib.hid hPh; have HW0 := Lib.hid hw
  have hh8 : h ≤ 8 := by omega
  have hP8 : PL ≤ 8 := by omega
  have m1 : IntKind.i64.wrap (((k1 + 1 : Nat) : Int) - 1) = (k1 : Int) := by rw [IntWalk.i64_in _ (by omega)]; omega
  have m2 : wrap64 (((k1 + 1 : Nat) : Int) - 1) = (k1 : Int) := by rw [IntWalk.wrap64_in _ (by omega)]; omega
  have hDI : (0 : Int) ≤ (D : Int) := Int.natCast_nonneg D
  have hDPI : (D : Int) < (PL : Int) := Int.ofNat_lt.2 hDP
  have c4' : ¬ (PL : Int) ≤ (D : Int) := by omega
  have c5' : ¬ (h : Int) < (PL : Int) := by omega
  obtain ⟨K1, hK1⟩ : ∃ q : Int, ((k1 + 1 : Nat) : Int) = q := ⟨_, rfl⟩
  rw [hK1] at L1 c1 c2 m1 m2
  obtain ⟨F1, hF1⟩ : ∃ q : Int, f + 1 = q := ⟨_, rfl⟩
  have f1 : IntKind.i64.wrap (f + 1) = F1 := by rw [← hF1]; exact IntWalk.i64_in _ (by omega)
  have f2 : wrap64 (f + 1) = F1 := by rw [← hF1]; exact IntWalk.wrap64_in _ (by omega)
  rw [hF1] at X1
  clear hw hwu hlen hm hk hnk h1 hk2 hk4 hh HNK HK hlw hhe hend hEl hOl hUE hUO hqE hqO hqX hqX2 hXl hXU hEV hOD hXF hXS hL hsl hG hGG hDP hPh hK1 hF1 hf hd64 hp64 hn c3 c4 c5
  go_enter Tryz.func20, Tryz.ntmps20
  go_upto_region 9 with (first
    | (go_at_call 30; (with_reducible refine (L1 _).mono ?_); rintro e w1 ⟨rfl, rfl⟩)
    | (go_at_call 43; (with_reducible refine (S1 _ HB.out).mono ?_); rintro e w2 ⟨hb, ea, ec, oa, oc, rfl, hE, hO⟩; have HE := Lib.hid hE; have HO := Lib.hid hO; replace HB := Lib.hid (bthen HB.out hb); clear hb hE hO)
    | (go_at_call 31; (with_reducible refine (X1 _).mono ?_); rintro e w3 ⟨hb, xa, xc, rfl, hX⟩; have HX := Lib.hid hX; replace HE := Lib.hid (HE.out.keep hb); replace HO := Lib.hid (HO.out.keep hb); replace HB := Lib.hid (bthen HB.out hb); clear hb hX)
    | (go_at_call 37; (with_reducible refine (T1 _).mono ?_); rintro e wb ⟨hb, ta, tc, rfl, hT⟩; have HT := Lib.hid hT; replace HX := Lib.hid (HX.out.keep hb); replace HE := Lib.hid (HE.out.keep hb); replace HO := Lib.hid (HO.out.keep hb); replace HB := Lib.hid (bthen HB.out hb); clear hb hT))
  clear L1 S1 X1 T1 c1 c2 f1 f2 m1 m2 hq hqw c4' c5'
  go_loopw [14, 16] (BadRel wb G L) (fun _ i _ => L.length - (intOf i).toNat)
  case atStart => exact ⟨0, [], Nat.zero_le _, rfl, by rw [List.drop_zero], Nat.le_refl _, ⟨World.ownsRow_nil _ _ _ _, Below.refl _ _⟩⟩
  case round =>
    obtain ⟨j, out, hj, rfl, hgo, hol, hM⟩ := hrel
    have hBb := hM.2
    by_cases hlt : j < L.length
    case neg =>
      obtain rfl : j = L.length := by omega
      have hltI : ¬ ((L.length : Nat) : Int) < (L.length : Int) := by omega
      rw [List.drop_length, badGo] at hgo
      obtain ⟨ao, co, hv, hr⟩ := hM.rowA
      rw [encL_len] at hv hr
      subst hv
      have HM := Lib.hid hM.2; have HR := Lib.hid hr; have HGO := Lib.hid hgo
      clear hM hr hgo hBb hlt hj hol
      go_wp2_with fail
      exact bodyPost_ret (v := .tuple #[.slice ao out.length co, .bool false]) (by simp [results, Tryz.results20, go_sem]) rfl ⟨bthen HB.out HM.out, ao, co, by rw [HGO.out], by rw [HGO.out]; exact HR.out⟩
    have hltI : (j : Int) < (L.length : Int) := Int.ofNat_lt.2 hlt
    have hj0 : (0 : Int) ≤ (j : Int) := Int.natCast_nonneg j
    obtain ⟨tb, tO, rfl, ai, ci, t0c, hrow, hci⟩ := (RowsP.keep (rowP := NRowA) nrowP_keep HT.out hBb).2.2 j hlt
    have hin : L.getD j [] ∈ L := by rw [show L.getD j [] = L[j] by simp [List.getD, hlt]]; exact List.getElem_mem hlt
    obtain ⟨I, hI⟩ : ∃ I, L.getD j [] = I := ⟨_, rfl⟩
    have hdr : L.drop j = I :: L.drop (j + 1) := by
      rw [← hI, show L.getD j [] = L[j] by simp [List.getD, hlt]]
      exact List.drop_eq_getElem_cons hlt
    rw [hI] at t0c hrow hin hci
    obtain ⟨hIl, hIn⟩ := HSL.out I hin
    rw [hIl] at t0c hrow hci
    rw [hdr, badGo] at hgo
    have hcut := hrow.cut (Nat.le_of_lt HDP.out)
    have hcin : ∀ i ∈ I.take D, i < h := fun i hi => hIn i (List.mem_of_mem_take hi)
    have kx := fun W (hb : Below wr.heap.size wr W) => rpick_is xa h xc XS ai D ci (I.take D) W ((HX.out.keep (bthen hBb hb)).at) (hcut.keep hb) (by omega) hcin
    have ke := fun W (hb : Below wr.heap.size wr W) => rpick_is ea h ec EV ai D ci (I.take D) W (HE.out.keep (bthen hBb hb)) (hcut.keep hb) (by omega) hcin
    have ko := fun W (hb : Below wr.heap.size wr W) => rpick_is oa h oc OD ai D ci (I.take D) W (HO.out.keep (bthen hBb hb)) (hcut.keep hb) (by omega) hcin
    have qx : (pickL XS (I.take D)).map toQ = picks XF (I.take D) := (pickL_map _ _).trans (picks_congr fun i hi => HQX2.out i (hcin i hi))
    have qe' : (pickL EV (I.take D)).map toQ = picks EF (I.take D) := (pickL_map _ _).trans (picks_congr fun i hi => HQE.out i)
    have qo : (pickL OD (I.take D)).map toQ = picks OF (I.take D) := (pickL_map _ _).trans (picks_congr fun i hi => HQO.out i (hcin i hi))
    have hUX := pickL_U HXU.out (I := I.take D) (fun i hi => by rw [HXL.out]; exact hcin i hi)
    have hUEE := pickL_U HUE.out (I := I.take D) (fun i hi => by rw [HEL.out]; exact hcin i hi)
    have hUOO := pickL_U HUO.out (I := I.take D) (fun i hi => by rw [HOL.out]; exact hcin i hi)
    have htl : (I.take D).length ≤ 8 := by rw [List.length_take]; omega
    have kt1 := fun W v u (h1 : QRow W v (pickL XS (I.take D))) (h2 : QRow W u (pickL EV (I.take D))) => dthrough v u (picks XF (I.take D)) (picks EF (I.take D)) W ⟨_, h1, hUX, qx⟩ ⟨_, h2, hUEE, qe'⟩ (by rw [picks_len]; omega) (by rw [picks_len]; omega)
    have kt2 := fun W v u (h1 : QRow W v (pickL XS (I.take D))) (h2 : QRow W u (pickL OD (I.take D))) => dthrough v u (picks XF (I.take D)) (picks OF (I.take D)) W ⟨_, h1, hUX, qx⟩ ⟨_, h2, hUOO, qo⟩ (by rw [picks_len]; omega) (by rw [picks_len]; omega)
    unfold RetT at kt1 kt2
    unfold RowQPost at kx ke ko
    have hl1 : (thrL (picks XF (I.take D)) (picks EF (I.take D))).length ≤ 8 := Nat.le_trans thrL_len (by rw [picks_len]; exact htl)
    have hl2 : (thrL (picks XF (I.take D)) (picks OF (I.take D))).length ≤ 8 := Nat.le_trans thrL_len (by rw [picks_len]; exact htl)
    have hstep : ∀ t, D + t < PL → setUp XF EF OF D I (t + 1) = stepV (setUp XF EF OF D I t) (missV XF EF OF (thrL (picks XF (I.take D)) (picks EF (I.take D))) (thrL (picks XF (I.take D)) (picks OF (I.take D))) (I.getD (D + t) 0)) := fun t ht => setUp_step (by rw [hIl]; exact ht)
    have hst0 : setUp XF EF OF D I 0 = (0, false, false) := by unfold setUp; rw [List.take_zero]; rfl
    have hstE := HGE.out I hIl
    generalize thrB (picks XF (I.take D)) (picks EF (I.take D)) = B1 at *
    generalize thrB (picks XF (I.take D)) (picks OF (I.take D)) = B2 at *
    generalize thrL (picks XF (I.take D)) (picks EF (I.take D)) = LE at *
    generalize thrL (picks XF (I.take D)) (picks OF (I.take D)) = LO at *
    obtain ⟨ST, hST⟩ : ∃ q, setUp XF EF OF D I = q := ⟨_, rfl⟩
    rw [hST] at hstep hst0 hstE
    have HSTEP := Lib.hid hstep; have HST0 := Lib.hid hst0; have HSTE := Lib.hid hstE; have HGO := Lib.hid hgo; have HJ := Lib.hid hlt; have HOLN := Lib.hid hol; have HROW := Lib.hid hrow; have HT0 := Lib.hid t0c
    have HIN := Lib.hid hIn; have HIL := Lib.hid hIl; have HMO := Lib.hid hM; have HBB := Lib.hid hBb; have HL1 := Lib.hid hl1; have HL2 := Lib.hid hl2
    have hciI : (D : Int) ≤ (ci : Int) := by have := HDP.out; omega
    have hciN : D ≤ ci := by have := HDP.out; omega
    have HBW : Hid (Below wr.heap.size wr wr) := Lib.hid (Below.refl _ _)
    obtain ⟨LNN, hLN⟩ : ∃ q, L.length = q := ⟨_, rfl⟩
    have HLQ := Lib.hid hLN
    have hLc2 : LNN ≤ 65536 := by rw [← hLN]; exact hLc
    simp only [hLN] at hltI ⊢
    clear hj hgo hol hM hBb hlt hrow hci hin hI hdr hIl hIn hcut hcin qx qe' qo hUX hUEE hUOO htl hl1 hl2 hstep hst0 hstE hST hLN hLc
    go_upto_region 14 with (first
      | (go_at_call 39; (first
        | ((with_reducible refine (kx _ HBW.out).mono ?_); rintro e w1 ⟨hb, pa, pc, rfl, hq⟩; have HPX := Lib.hid hq; replace HBW := Lib.hid (bthen HBW.out hb); (try replace HPE := Lib.hid (HPE.out.keep hb)); clear hb hq)
        | ((with_reducible refine (ke _ HBW.out).mono ?_); rintro e w2 ⟨hb, pa, pc, rfl, hq⟩; have HQ2 := Lib.hid hq; replace HPX := Lib.hid (HPX.out.keep hb); replace HBW := Lib.hid (bthen HBW.out hb); clear hb hq)
        | ((with_reducible refine (ko _ HBW.out).mono ?_); rintro e w4 ⟨hb, pa, pc, rfl, hq⟩; have HQ3 := Lib.hid hq; replace HPX := Lib.hid (HPX.out.keep hb); replace HBW := Lib.hid (bthen HBW.out hb); replace HPE := Lib.hid (HPE.out.keep hb); clear hb hq)))
      | (go_at_call 38; (first
        | ((with_reducible refine (kt1 _ _ _ HPX.out HQ2.out).mono ?_); rintro e w3 ⟨v, rfl, hb, hp⟩; obtain ⟨le, lec, rfl⟩ := hp.slice; have HPE := Lib.hid hp; replace HBW := Lib.hid (bthen HBW.out hb); clear hb hp HQ2)
        | ((with_reducible refine (kt2 _ _ _ HPX.out HQ3.out).mono ?_); rintro e w5 ⟨v, rfl, hb, hp⟩; obtain ⟨lo, loc, rfl⟩ := hp.slice; have HPO := Lib.hid hp; replace HPE := Lib.hid (HPE.out.keep hb); replace HBW := Lib.hid (bthen HBW.out hb); clear hb hp HQ3))))
    clear kx ke ko kt1 kt2
    have HX5 := Lib.hid (HX.out.keep (bthen HBB.out HBW.out)); have HE5 := Lib.hid (HE.out.keep (bthen HBB.out HBW.out)); have HO5 := Lib.hid (HO.out.keep (bthen HBB.out HBW.out))
    have HROW5 := Lib.hid (HROW.out.keep HBW.out); have HT5 := Lib.hid (bkeep HBW.out HT0.out); have HM5 := Lib.hid (HMO.out.keep HBW.out); have HBB5 := Lib.hid (bthen HBB.out HBW.out)
    clear HX HE HO HT HROW HT0 HMO HBB HBW HPX
    go_upto_region 17 with fail
    clear t0c
    obtain ⟨g22, hg22⟩ : ∃ g, w5.heap.size = g := ⟨_, rfl⟩
    refine wp_gen (fun W => Below w5.heap.size w5 W ∧ Duo W g22 (.int .u64 0) (.int .u64 0)) ⟨(Below.refl _ _).alloc (Nat.le_refl _) _, by rw [← hg22]; exact Duo.new _ _ _ _⟩ ?_
    rintro w6 ⟨hb6, hd6⟩
    simp only [hg22]
    have HB6 := Lib.hid hb6; have HD6 := Lib.hid hd6; have HG22 := Lib.hid (Nat.le_of_eq hg22)
    clear hb6 hd6 hg22
    go_loopw [23, 24, 25] (SetRel w5 g22 ST D PL) (fun _ _ k _ => PL - (intOf k).toNat)
    case atStart => exact ⟨0, by have := HDP.out; omega, rfl, by rw [HST0.out], by rw [HST0.out], HB6.out, by rw [HST0.out]; exact HD6.out⟩
    case round =>
      clear HB6 HD6
      obtain ⟨t, ht, rfl, rfl, rfl, hB2, hDuo⟩ := hrel
      obtain ⟨⟨bz, kb', nb⟩, hst⟩ : ∃ q, ST t = q := ⟨_, rfl⟩
      rw [hst] at hDuo ⊢
      dsimp only at hDuo ⊢
      obtain ⟨KK, hKK⟩ : ∃ q, D + t = q := ⟨_, rfl⟩
      rw [hKK]
      by_cases hlt2 : KK < PL
      · have hlt2I : (KK : Int) < (PL : Int) := Int.ofNat_lt.2 hlt2
        have hKK0 : (0 : Int) ≤ (KK : Int) := Int.natCast_nonneg KK
        obtain ⟨AT, hAT⟩ : ∃ q, I.getD KK 0 = q := ⟨_, rfl⟩
        have hATh : AT < h := by rw [← hAT]; exact HIN.out _ (getD_mem (by rw [HIL.out]; exact hlt2))
        obtain ⟨ib, io, rfl, i0c⟩ := (HROW5.out.keep hB2).2.2 KK hlt2
        rw [hAT] at i0c
        have t0c := bkeep hB2 HT5.out
        obtain ⟨eb, eo, rfl, e0c, e1c⟩ := (HE5.out.keep hB2).2.2 AT hATh
        obtain ⟨xb, xo, rfl, x0c, x1c⟩ := ((HX5.out.keep hB2).at).2.2 AT hATh
        rw [HQX.out AT hATh] at x0c x1c
        have re := qAt_rep HUE.out (show AT < EV.length by rw [HEL.out]; exact hATh)
        rw [HQE.out AT] at re
        obtain ⟨e0, e1, he⟩ : ∃ x y, EV.getD AT (0, 0) = (x, y) := ⟨_, _, rfl⟩
        rw [he] at e0c e1c re
        obtain ⟨vv, hvv⟩ : ∃ q, atP LE (XF AT) = q := ⟨_, rfl⟩
        obtain ⟨cc, hcc⟩ : ∃ q, EF AT - vv = q := ⟨_, rfl⟩
        have ka := fun W (hb : Below wr.heap.size wr W) => ratQ_is (c := lec) (QRow.at (QRow.keep HPE.out (bthen hB2 hb))) (encL_U LE) (by have := HL1.out; omega) (XF AT) vv (by rw [encL_toQ]; exact hvv)
        have ks := fun W => rsub_q e0 e1 (enc vv.a) (enc vv.b) (EF AT) vv cc re (rep_enc vv) hcc W
        have HS1 := Lib.hid (HSTEP.out t (by rw [hKK]; exact hlt2))
        have HVV := Lib.hid hvv; have HCC := Lib.hid hcc; have HAT := Lib.hid hAT; have HATH := Lib.hid hATh; have HB2 := Lib.hid hB2; have HDUO := Lib.hid hDuo; have HST := Lib.hid hst; have HKK := Lib.hid hKK; have HLT2 := Lib.hid hlt2
        have hATI : (AT : Int) < (h : Int) := Int.ofNat_lt.2 hATh
        have hAT0 : (0 : Int) ≤ (AT : Int) := Int.natCast_nonneg AT
        unfold encP at x0c x1c
        simp only at x0c x1c
        clear ht hst hKK hAT hATh re he hvv hcc hB2 hDuo hlt2
        go_upto_region 20 with fail
        clear i0c t0c
        refine wp_twow [(some 119, [], true), (some 120, [], true), (some 121, [119, 120], true), (some 122, [121], true), (some 123, [], true), (some 124, [], true), (some 125, [], true), (some 126, [124, 125], true), (some 127, [126], true), (some 128, [123, 127], true), (some 129, [122, 128], true), (some 27, [], true), (none, [27, 129], false)]
          12 (Bad20G wr.heap.size eb eo ec xb xo xc h AT LE.length lec le e0 e1 (XF AT) vv cc) (fun _ W => Below wr.heap.size wr W) (by kernel_rfl) (by kernel_rfl) (below_drewN (Below.refl _ _) 1) Bad20G.keep ?_ ?_
        · refine opsv_one ?_ (opsv_one ?_ (opsv_one ?_ (opsv_one ?_ (opsv_one ?_ (opsv_one ?_ (opsv_one ?_ (opsv_one ?_ (opsv_one ?_ (opsv_one ?_ (opsv_one ?_ (opsv_one ?_ (opsv_st ?_ opsv_nil))))))))))))
          all_goals
            first | refine OpRunsV.any ?_ | refine StRunsV.any ?_
          · intro Q0 σ s W' KK hs1 hb hn hK
            simp only [fill, List.filterMap, Act.put, List.setIfInBounds_toArray, List.set_cons_zero, List.set_cons_succ] at hK ⊢
            clear hn
            have HH := Lib.hid hb
            clear hb
            go_simp
            exact hK _ _ rfl (Below.refl _ _) HH.out
          · intro Q0 σ s W' KK hs1 hb hn hK
            simp only [fill, List.filterMap, Act.put, List.setIfInBounds_toArray, List.set_cons_zero, List.set_cons_succ] at hK ⊢
            clear hn
            have HH := Lib.hid hb
            clear hb
            go_simp
            exact hK _ _ rfl (Below.refl _ _) HH.out
          · intro Q0 σ s W' KK hs1 hb hn hK
            simp only [fill, List.filterMap, Act.put, List.setIfInBounds_toArray, List.set_cons_zero, List.set_cons_succ] at hK ⊢
            have h119 : σ 119 = _ := hn 119 (by decide)
            have h120 : σ 120 = _ := hn 120 (by decide)
            clear hn
            simp only [h119, h120] at hK
            have HH := Lib.hid hb
            clear hb
            go_simp
            exact hK _ _ rfl (Below.refl _ _) HH.out
          · intro Q0 σ s W' KK hs1 hb hn hK
            simp only [fill, List.filterMap, Act.put, List.setIfInBounds_toArray, List.set_cons_zero, List.set_cons_succ] at hK ⊢
            have h121 : σ 121 = _ := hn 121 (by decide)
            clear hn
            simp only [h121] at hK
            have e0c' := bkeep hb e0c
            have e1c' := bkeep hb e1c
            clear e0c e1c
            have HH := Lib.hid hb
            clear hb
            go_simp
            exact hK _ _ rfl (Below.refl _ _) HH.out
          · intro Q0 σ s W' KK hs1 hb hn hK
            simp only [fill, List.filterMap, Act.put, List.setIfInBounds_toArray, List.set_cons_zero, List.set_cons_succ] at hK ⊢
            clear hn
            have HH := Lib.hid hb
            clear hb
            go_simp
            exact hK _ _ rfl (Below.refl _ _) HH.out
          · intro Q0 σ s W' KK hs1 hb hn hK
            simp only [fill, List.filterMap, Act.put, List.setIfInBounds_toArray, List.set_cons_zero, List.set_cons_succ] at hK ⊢
            clear hn
            have HH := Lib.hid hb
            clear hb
            go_simp
            exact hK _ _ rfl (Below.refl _ _) HH.out
          · intro Q0 σ s W' KK hs1 hb hn hK
            simp only [fill, List.filterMap, Act.put, List.setIfInBounds_toArray, List.set_cons_zero, List.set_cons_succ] at hK ⊢
            clear hn
            have HH := Lib.hid hb
            clear hb
            go_simp
            exact hK _ _ rfl (Below.refl _ _) HH.out
          · intro Q0 σ s W' KK hs1 hb hn hK
            simp only [fill, List.filterMap, Act.put, List.setIfInBounds_toArray, List.set_cons_zero, List.set_cons_succ] at hK ⊢
            have h124 : σ 124 = _ := hn 124 (by decide)
            have h125 : σ 125 = _ := hn 125 (by decide)
            clear hn
            simp only [h124, h125] at hK
            have HH := Lib.hid hb
            clear hb
            go_simp
            exact hK _ _ rfl (Below.refl _ _) HH.out
          · intro Q0 σ s W' KK hs1 hb hn hK
            simp only [fill, List.filterMap, Act.put, List.setIfInBounds_toArray, List.set_cons_zero, List.set_cons_succ] at hK ⊢
            have h126 : σ 126 = _ := hn 126 (by decide)
            clear hn
            simp only [h126] at hK
            have x0c' := bkeep hb x0c
            have x1c' := bkeep hb x1c
            clear x0c x1c
            have HH := Lib.hid hb
            clear hb
            go_simp
            exact hK _ _ rfl (Below.refl _ _) HH.out
          · intro Q0 σ s W' KK hs1 hb hn hK
            simp only [fill, List.filterMap, Act.put, List.setIfInBounds_toArray, List.set_cons_zero, List.set_cons_succ] at hK ⊢
            have h123 : σ 123 = _ := hn 123 (by decide)
            have h127 : σ 127 = _ := hn 127 (by decide)
            clear hn
            simp only [h123, h127] at hK
            go_simp
            go_at_call 32
            refine (ka _ hb).mono ?_
            rintro e w1 ⟨rfl, hb1⟩
            exact hK _ _ rfl hb1 (bthen hb hb1)
          · intro Q0 σ s W' KK hs1 hb hn hK
            simp only [fill, List.filterMap, Act.put, List.setIfInBounds_toArray, List.set_cons_zero, List.set_cons_succ] at hK ⊢
            have h122 : σ 122 = _ := hn 122 (by decide)
            have h128 : σ 128 = _ := hn 128 (by decide)
            clear hn
            simp only [h122, h128] at hK
            go_simp
            go_at_call 44
            refine (ks _).mono ?_
            rintro e w1 ⟨rfl, hb1⟩
            exact hK _ _ rfl hb1 (bthen hb hb1)
          · intro Q0 σ s W' KK hs1 hb hn hK
            simp only [fill, List.filterMap, Act.put, List.setIfInBounds_toArray, List.set_cons_zero, List.set_cons_succ] at hK ⊢
            obtain rfl := hs1 rfl
            clear hn
            go_simp
            refine hK _ _ ?_ ((Below.refl _ _).alloc (Nat.le_refl _) _) (bthen hb ((Below.refl _ _).alloc (Nat.le_refl _) _))
            exact ⟨W'.heap.size, hb.size, rfl, by simp [Duo, go_sem]⟩
          · intro Q0 σ W' KK hb hn hK
            simp only [fill, List.filterMap, Act.put, List.setIfInBounds_toArray, List.set_cons_zero, List.set_cons_succ] at hK ⊢
            have hs129 : σ 129 = _ := hn 129 (by decide)
            obtain ⟨q, hq, eA, hV⟩ : Bad20A wr.heap.size eb eo ec xb xo xc h AT LE.length lec le e0 e1 (XF AT) vv cc false (σ 27) W' := hn 27 (by decide)
            clear hn
            have HKP : Hid (∀ (kk : Nat) (W'' : World), Duo W'' q (.int .u64 (enc cc.a)) (.int .u64 (enc cc.b)) → Bad20G wr.heap.size eb eo ec xb xo xc h AT LE.length lec le e0 e1 (XF AT) vv cc false kk (σ kk) W' → Bad20G wr.heap.size eb eo ec xb xo xc h AT LE.length lec le e0 e1 (XF AT) vv cc true kk (σ kk) W'') := Lib.hid fun kk W'' hD hk => by
                by_cases c : kk = 27
                · subst c; exact ⟨q, hq, eA, hD⟩
                · unfold Bad20G at *; rw [if_neg c] at *; exact hk
            have HQ' := Lib.hid hq
            simp only [if_neg Bool.false_ne_true] at hV
            have HV := Lib.hid hV
            obtain ⟨v0, v1, f0, f1⟩ := hV
            clear hq
            simp only [hs129, eA] at hK
            go_simp
            exact hK undef ((W'.setCell ⟨q, 0, none⟩ (.int .u64 (enc cc.a))).setCell ⟨q, 1, none⟩ (.int .u64 (enc cc.b))) (fun kk e => by cases e) (fun kk hk => HKP.out kk _ (HV.out.set _ _) hk) ((hb.setCell HQ'.out _).setCell HQ'.out _)
        · intro σ W1 hb1 hR'
          obtain ⟨g27, hg27, h27, hV27⟩ : Bad20A wr.heap.size eb eo ec xb xo xc h AT LE.length lec le e0 e1 (XF AT) vv cc true (σ 27) W1 := hR' 27 (by decide)
          simp only [if_true] at hV27
          have HB21 := Lib.hid (bthen HB2.out hb1); have HDUO1 := Lib.hid (HDUO.out.keep hb1); have HV27 := Lib.hid hV27
          clear hR' hb1 hg27 hV27 e0c e1c x0c x1c ka ks HDUO
          simp only [fill, List.filterMap, Act.put, List.setIfInBounds_toArray, List.set_cons_zero, List.set_cons_succ, List.length_cons, List.length_nil, List.drop_succ_cons, List.drop_zero, Nat.reduceAdd, h27]
          clear h27
          obtain ⟨ob, oo, rfl, o0c, o1c⟩ := (HO5.out.keep HB21.out).2.2 AT HATH.out
          obtain ⟨xb2, xo2, hxe, y0c, y1c⟩ := ((HX5.out.keep HB21.out).at).2.2 AT HATH.out
          cases hxe
          rw [HQX.out AT HATH.out] at y0c y1c
          have ro := qAt_rep HUO.out (show AT < OD.length by rw [HOL.out]; exact HATH.out)
          rw [HQO.out AT HATH.out] at ro
          obtain ⟨o0, o1, ho⟩ : ∃ x y, OD.getD AT (0, 0) = (x, y) := ⟨_, _, rfl⟩
          rw [ho] at o0c o1c ro
          obtain ⟨uu, huu⟩ : ∃ q, atP LO (XF AT) = q := ⟨_, rfl⟩
          obtain ⟨dd, hdd⟩ : ∃ q, OF AT - uu = q := ⟨_, rfl⟩
          have kb := fun W (hb : Below W1.heap.size W1 W) => ratQ_is (c := loc) (QRow.at (QRow.keep HPO.out (bthen HB21.out hb))) (encL_U LO) (by have := HL2.out; omega) (XF AT) uu (by rw [encL_toQ]; exact huu)
          have ks2 := fun W => rsub_q o0 o1 (enc uu.a) (enc uu.b) (OF AT) uu dd ro (rep_enc uu) hdd W
          have HSS : Hid (ST (t + 1) = stepV (bz, kb', nb) (cc, dd)) := Lib.hid (by
            rw [HS1.out, HST.out, HKK.out, HAT.out]
            unfold missV
            rw [HVV.out, huu, HCC.out, hdd])
          unfold encP at y0c y1c
          simp only at y0c y1c
          clear ro ho huu hdd
          go_upto_region 21 with fail
          refine wp_twow [(some 130, [], true), (some 131, [], true), (some 132, [130, 131], true), (some 133, [132], true), (some 134, [], true), (some 135, [], true), (some 136, [], true), (some 137, [135, 136], true), (some 138, [137], true), (some 139, [134, 138], true), (some 140, [133, 139], true), (some 28, [], true), (none, [28, 140], false)]
            12 (Bad21G W1.heap.size ob oo oc xb xo xc h AT LO.length loc lo o0 o1 (XF AT) uu dd) (fun _ W => Below W1.heap.size W1 W) (by kernel_rfl) (by kernel_rfl) (below_drewN (Below.refl _ _) 1) Bad21G.keep ?_ ?_
          · refine opsv_one ?_ (opsv_one ?_ (opsv_one ?_ (opsv_one ?_ (opsv_one ?_ (opsv_one ?_ (opsv_one ?_ (opsv_one ?_ (opsv_one ?_ (opsv_one ?_ (opsv_one ?_ (opsv_one ?_ (opsv_st ?_ opsv_nil))))))))))))
            all_goals
              first | refine OpRunsV.any ?_ | refine StRunsV.any ?_
            · intro Q0 σ s W' KK hs1 hb hn hK
              simp only [fill, List.filterMap, Act.put, List.setIfInBounds_toArray, List.set_cons_zero, List.set_cons_succ] at hK ⊢
              clear hn
              have HH := Lib.hid hb
              clear hb
              go_simp
              exact hK _ _ rfl (Below.refl _ _) HH.out
            · intro Q0 σ s W' KK hs1 hb hn hK
              simp only [fill, List.filterMap, Act.put, List.setIfInBounds_toArray, List.set_cons_zero, List.set_cons_succ] at hK ⊢
              clear hn
              have HH := Lib.hid hb
              clear hb
              go_simp
              exact hK _ _ rfl (Below.refl _ _) HH.out
            · intro Q0 σ s W' KK hs1 hb hn hK
              simp only [fill, List.filterMap, Act.put, List.setIfInBounds_toArray, List.set_cons_zero, List.set_cons_succ] at hK ⊢
              have h130 : σ 130 = _ := hn 130 (by decide)
              have h131 : σ 131 = _ := hn 131 (by decide)
              clear hn
              simp only [h130, h131] at hK
              have HH := Lib.hid hb
              clear hb
              go_simp
              exact hK _ _ rfl (Below.refl _ _) HH.out
            · intro Q0 σ s W' KK hs1 hb hn hK
              simp only [fill, List.filterMap, Act.put, List.setIfInBounds_toArray, List.set_cons_zero, List.set_cons_succ] at hK ⊢
              have h132 : σ 132 = _ := hn 132 (by decide)
              clear hn
              simp only [h132] at hK
              have o0c' := bkeep hb o0c
              have o1c' := bkeep hb o1c
              clear o0c o1c
              have HH := Lib.hid hb
              clear hb
              go_simp
              exact hK _ _ rfl (Below.refl _ _) HH.out
            · intro Q0 σ s W' KK hs1 hb hn hK
              simp only [fill, List.filterMap, Act.put, List.setIfInBounds_toArray, List.set_cons_zero, List.set_cons_succ] at hK ⊢
              clear hn
              have HH := Lib.hid hb
              clear hb
              go_simp
              exact hK _ _ rfl (Below.refl _ _) HH.out
            · intro Q0 σ s W' KK hs1 hb hn hK
              simp only [fill, List.filterMap, Act.put, List.setIfInBounds_toArray, List.set_cons_zero, List.set_cons_succ] at hK ⊢
              clear hn
              have HH := Lib.hid hb
              clear hb
              go_simp
              exact hK _ _ rfl (Below.refl _ _) HH.out
            · intro Q0 σ s W' KK hs1 hb hn hK
              simp only [fill, List.filterMap, Act.put, List.setIfInBounds_toArray, List.set_cons_zero, List.set_cons_succ] at hK ⊢
              clear hn
              have HH := Lib.hid hb
              clear hb
              go_simp
              exact hK _ _ rfl (Below.refl _ _) HH.out
            · intro Q0 σ s W' KK hs1 hb hn hK
              simp only [fill, List.filterMap, Act.put, List.setIfInBounds_toArray, List.set_cons_zero, List.set_cons_succ] at hK ⊢
              have h135 : σ 135 = _ := hn 135 (by decide)
              have h136 : σ 136 = _ := hn 136 (by decide)
              clear hn
              simp only [h135, h136] at hK
              have HH := Lib.hid hb
              clear hb
              go_simp
              exact hK _ _ rfl (Below.refl _ _) HH.out
            · intro Q0 σ s W' KK hs1 hb hn hK
              simp only [fill, List.filterMap, Act.put, List.setIfInBounds_toArray, List.set_cons_zero, List.set_cons_succ] at hK ⊢
              have h137 : σ 137 = _ := hn 137 (by decide)
              clear hn
              simp only [h137] at hK
              have y0c' := bkeep hb y0c
              have y1c' := bkeep hb y1c
              clear y0c y1c
              have HH := Lib.hid hb
              clear hb
              go_simp
              exact hK _ _ rfl (Below.refl _ _) HH.out
            · intro Q0 σ s W' KK hs1 hb hn hK
              simp only [fill, List.filterMap, Act.put, List.setIfInBounds_toArray, List.set_cons_zero, List.set_cons_succ] at hK ⊢
              have h134 : σ 134 = _ := hn 134 (by decide)
              have h138 : σ 138 = _ := hn 138 (by decide)
              clear hn
              simp only [h134, h138] at hK
              go_simp
              go_at_call 32
              refine (kb _ hb).mono ?_
              rintro e w1 ⟨rfl, hb1⟩
              exact hK _ _ rfl hb1 (bthen hb hb1)
            · intro Q0 σ s W' KK hs1 hb hn hK
              simp only [fill, List.filterMap, Act.put, List.setIfInBounds_toArray, List.set_cons_zero, List.set_cons_succ] at hK ⊢
              have h133 : σ 133 = _ := hn 133 (by decide)
              have h139 : σ 139 = _ := hn 139 (by decide)
              clear hn
              simp only [h133, h139] at hK
              go_simp
              go_at_call 44
              refine (ks2 _).mono ?_
              rintro e w1 ⟨rfl, hb1⟩
              exact hK _ _ rfl hb1 (bthen hb hb1)
            · intro Q0 σ s W' KK hs1 hb hn hK
              simp only [fill, List.filterMap, Act.put, List.setIfInBounds_toArray, List.set_cons_zero, List.set_cons_succ] at hK ⊢
              obtain rfl := hs1 rfl
              clear hn
              go_simp
              refine hK _ _ ?_ ((Below.refl _ _).alloc (Nat.le_refl _) _) (bthen hb ((Below.refl _ _).alloc (Nat.le_refl _) _))
              exact ⟨W'.heap.size, hb.size, rfl, by simp [Duo, go_sem]⟩
            · intro Q0 σ W' KK hb hn hK
              simp only [fill, List.filterMap, Act.put, List.setIfInBounds_toArray, List.set_cons_zero, List.set_cons_succ] at hK ⊢
              have hs140 : σ 140 = _ := hn 140 (by decide)
              obtain ⟨q, hq, eA, hV⟩ : Bad21A W1.heap.size ob oo oc xb xo xc h AT LO.length loc lo o0 o1 (XF AT) uu dd false (σ 28) W' := hn 28 (by decide)
              clear hn
              have HKP : Hid (∀ (kk : Nat) (W'' : World), Duo W'' q (.int .u64 (enc dd.a)) (.int .u64 (enc dd.b)) → Bad21G W1.heap.size ob oo oc xb xo xc h AT LO.length loc lo o0 o1 (XF AT) uu dd false kk (σ kk) W' → Bad21G W1.heap.size ob oo oc xb xo xc h AT LO.length loc lo o0 o1 (XF AT) uu dd true kk (σ kk) W'') := Lib.hid fun kk W'' hD hk => by
                  by_cases c : kk = 28
                  · subst c; exact ⟨q, hq, eA, hD⟩
                  · unfold Bad21G at *; rw [if_neg c] at *; exact hk
              have HQ' := Lib.hid hq
              simp only [if_neg Bool.false_ne_true] at hV
              have HV := Lib.hid hV
              obtain ⟨v0, v1, f0, f1⟩ := hV
              clear hq
              simp only [hs140, eA] at hK
              go_simp
              exact hK undef ((W'.setCell ⟨q, 0, none⟩ (.int .u64 (enc dd.a))).setCell ⟨q, 1, none⟩ (.int .u64 (enc dd.b))) (fun kk e => by cases e) (fun kk hk => HKP.out kk _ (HV.out.set _ _) hk) ((hb.setCell HQ'.out _).setCell HQ'.out _)
          · intro σ W2 hb2 hR'
            obtain ⟨g28, hg28, h28, hV28⟩ : Bad21A W1.heap.size ob oo oc xb xo xc h AT LO.length loc lo o0 o1 (XF AT) uu dd true (σ 28) W2 := hR' 28 (by decide)
            simp only [if_true] at hV28
            have HB22 := Lib.hid (bthen HB21.out hb2); have HDUO2 := Lib.hid (HDUO1.out.keep hb2); have HV27 := Lib.hid (HV27.out.keep hb2)
            obtain ⟨d0c, d1c, _, _⟩ := hV28
            clear hR' hb2 hg28 o0c o1c y0c y1c kb ks2 HDUO1 HB21 HB2
            simp only [fill, List.filterMap, Act.put, List.setIfInBounds_toArray, List.set_cons_zero, List.set_cons_succ, List.length_cons, List.length_nil, List.drop_succ_cons, List.drop_zero, Nat.reduceAdd, h28]
            clear h28
            by_cases hd0 : dd = 0
            · have iv := fun W => rinv_no (enc dd.a) (enc dd.b) dd (rep_enc dd) hd0 W
              have e3 := eqB_enc cc 0 (decide (cc = 0)) rfl
              rw [show enc (0 : F2).a = 0 from rfl, show enc (0 : F2).b = 0 from rfl] at e3
              obtain ⟨r3, hr3⟩ : ∃ b, decide (cc = 0) = b := ⟨_, rfl⟩
              have HS2 : Hid (ST (t + 1) = if r3 = true then (bz, kb', nb) else (bz, kb', true)) := Lib.hid (by
                rw [HSS.out]
                unfold stepV
                rw [if_pos hd0, ← hr3]
                by_cases c : cc = 0
                · rw [if_pos c, if_pos (decide_eq_true c)]
                · rw [if_neg c, if_neg (fun h => c (of_decide_eq_true h))])
              rw [hr3] at e3
              clear hr3 hd0
              go_upto_region 26 with (go_at_call 45; (with_reducible refine (iv _).mono ?_); rintro e w7 ⟨rfl, hb⟩; replace HB22 := Lib.hid (bthen HB22.out hb); replace HDUO2 := Lib.hid (HDUO2.out.keep hb); replace HV27 := Lib.hid (HV27.out.keep hb); clear hb)
              clear iv d0c d1c
              refine wp_gen (fun W => Below w5.heap.size w5 W ∧ Duo W g22 (.int .u64 (enc bz.a)) (.int .u64 (enc bz.b)) ∧ Duo W g27 (.int .u64 (enc cc.a)) (.int .u64 (enc cc.b))) ⟨HB22.out.alloc HB22.out.size _, HDUO2.out.keep ((Below.refl _ _).alloc (Nat.le_refl _) _), HV27.out.keep ((Below.refl _ _).alloc (Nat.le_refl _) _)⟩ ?_
              rintro W4 ⟨hB4, hD4, c0c, c1c, _, _⟩
              have HB4 := Lib.hid hB4; have HD4 := Lib.hid hD4
              clear hB4 hD4 HB22 HDUO2 HV27
              generalize enc cc.a = ca at *
              generalize enc cc.b = cb at *
              rcases e3 with ⟨rfl, rfl, rfl⟩ | ⟨rfl, h1⟩ | ⟨rfl, rfl, h1⟩
              case inl =>
                have HS3 : Hid (ST (t + 1) = (bz, kb', nb)) := Lib.hid HS2.out
                go_wp2_with fail
                go_roundw
                case rel => exact ⟨t + 1, by have := HLT2.out; have := HKK.out; omega, by rw [show D + (t + 1) = KK + 1 by have := HKK.out; omega]; go_num, by rw [HS3.out], by rw [HS3.out], HB4.out, by rw [HS3.out]; exact HD4.out⟩
                case measure =>
                  have := HLT2.out
                  simp [intOf]
                  omega
              all_goals
                have HS3 : Hid (ST (t + 1) = (bz, kb', true)) := Lib.hid HS2.out
                go_wp2_with fail
                go_roundw
                case rel => exact ⟨t + 1, by have := HLT2.out; have := HKK.out; omega, by rw [show D + (t + 1) = KK + 1 by have := HKK.out; omega]; go_num, by rw [HS3.out], by rw [HS3.out], HB4.out, by rw [HS3.out]; exact HD4.out⟩
                case measure =>
                  have := HLT2.out
                  simp [intOf]
                  omega
            · have iv := fun W => rinv_yes (enc dd.a) (enc dd.b) dd (qinv dd) (rep_enc dd) hd0 rfl W
              obtain ⟨nn, hnn⟩ : ∃ q, qinv dd = q := ⟨_, rfl⟩
              obtain ⟨mm, hmm⟩ : ∃ q, -cc = q := ⟨_, rfl⟩
              obtain ⟨zz, hzz⟩ : ∃ q, mm * nn = q := ⟨_, rfl⟩
              have HS2 : Hid (ST (t + 1) = (zz, true, nb || (kb' && decide (bz ≠ zz)))) := Lib.hid (by
                rw [HSS.out]
                unfold stepV
                rw [if_neg hd0]
                simp only [hnn, hmm, hzz])
              rw [hnn] at iv
              have kn := fun W => rneg_q (enc cc.a) (enc cc.b) cc mm (rep_enc cc) hmm W
              have km := fun W => rmul_q (enc mm.a) (enc mm.b) (enc nn.a) (enc nn.b) mm nn zz (rep_enc mm) (rep_enc nn) hzz W
              clear hnn hmm hzz hd0
              go_upto_region 26 with (go_at_call 45; (with_reducible refine (iv _).mono ?_); rintro e w7 ⟨rfl, hb⟩; replace HB22 := Lib.hid (bthen HB22.out hb); replace HDUO2 := Lib.hid (HDUO2.out.keep hb); replace HV27 := Lib.hid (HV27.out.keep hb); clear hb)
              clear iv d0c d1c
              obtain ⟨g29, hg29⟩ : ∃ g, w7.heap.size = g := ⟨_, rfl⟩
              refine wp_gen (fun W => Below w5.heap.size w5 W ∧ Duo W g22 (.int .u64 (enc bz.a)) (.int .u64 (enc bz.b)) ∧ Duo W g27 (.int .u64 (enc cc.a)) (.int .u64 (enc cc.b)) ∧ Duo W g29 (.int .u64 (enc nn.a)) (.int .u64 (enc nn.b))) ⟨HB22.out.alloc HB22.out.size _, HDUO2.out.keep ((Below.refl _ _).alloc (Nat.le_refl _) _), HV27.out.keep ((Below.refl _ _).alloc (Nat.le_refl _) _), by rw [← hg29]; simp [Duo, go_sem]⟩ ?_
              rintro W4 ⟨hB4, hD4, ⟨c0c, c1c, _, _⟩, n0c, n1c, _, _⟩
              simp only [hg29]
              have HB4 := Lib.hid hB4; have HD4 := Lib.hid hD4
              clear hB4 hD4 HB22 HDUO2 HV27 hg29
              go_upto_region 23 with fail
              refine wp_twow [(some 146, [], true), (some 147, [146], true), (some 148, [], true), (some 149, [147, 148], true), (some 31, [], true), (none, [31, 149], false)]
                5 (Bad23G W4.heap.size g27 g29 cc mm nn zz) (fun _ W => Below W4.heap.size W4 W) (by kernel_rfl) (by kernel_rfl) (below_drewN (Below.refl _ _) 1) Bad23G.keep ?_ ?_
              · refine opsv_one ?_ (opsv_one ?_ (opsv_one ?_ (opsv_one ?_ (opsv_one ?_ (opsv_st ?_ opsv_nil)))))
                all_goals
                  first | refine OpRunsV.any ?_ | refine StRunsV.any ?_
                · intro Q0 σ s W' KK hs1 hb hn hK
                  simp only [fill, List.filterMap, Act.put, List.setIfInBounds_toArray, List.set_cons_zero, List.set_cons_succ] at hK ⊢
                  clear hn
                  have c0c' := bkeep hb c0c
                  have c1c' := bkeep hb c1c
                  clear c0c c1c
                  have HH := Lib.hid hb
                  clear hb
                  go_simp
                  exact hK _ _ rfl (Below.refl _ _) HH.out
                · intro Q0 σ s W' KK hs1 hb hn hK
                  simp only [fill, List.filterMap, Act.put, List.setIfInBounds_toArray, List.set_cons_zero, List.set_cons_succ] at hK ⊢
                  have h146 : σ 146 = _ := hn 146 (by decide)
                  clear hn
                  simp only [h146] at hK
                  go_simp
                  go_at_call 47
                  refine (kn _).mono ?_
                  rintro e w1 ⟨rfl, hb1⟩
                  exact hK _ _ rfl hb1 (bthen hb hb1)
                · intro Q0 σ s W' KK hs1 hb hn hK
                  simp only [fill, List.filterMap, Act.put, List.setIfInBounds_toArray, List.set_cons_zero, List.set_cons_succ] at hK ⊢
                  clear hn
                  have n0c' := bkeep hb n0c
                  have n1c' := bkeep hb n1c
                  clear n0c n1c
                  have HH := Lib.hid hb
                  clear hb
                  go_simp
                  exact hK _ _ rfl (Below.refl _ _) HH.out
                · intro Q0 σ s W' KK hs1 hb hn hK
                  simp only [fill, List.filterMap, Act.put, List.setIfInBounds_toArray, List.set_cons_zero, List.set_cons_succ] at hK ⊢
                  have h147 : σ 147 = _ := hn 147 (by decide)
                  have h148 : σ 148 = _ := hn 148 (by decide)
                  clear hn
                  simp only [h147, h148] at hK
                  go_simp
                  go_at_call 46
                  refine (km _).mono ?_
                  rintro e w1 ⟨rfl, hb1⟩
                  exact hK _ _ rfl hb1 (bthen hb hb1)
                · intro Q0 σ s W' KK hs1 hb hn hK
                  simp only [fill, List.filterMap, Act.put, List.setIfInBounds_toArray, List.set_cons_zero, List.set_cons_succ] at hK ⊢
                  obtain rfl := hs1 rfl
                  clear hn
                  go_simp
                  refine hK _ _ ?_ ((Below.refl _ _).alloc (Nat.le_refl _) _) (bthen hb ((Below.refl _ _).alloc (Nat.le_refl _) _))
                  exact ⟨W'.heap.size, hb.size, rfl, by simp [Duo, go_sem]⟩
                · intro Q0 σ W' KK hb hn hK
                  simp only [fill, List.filterMap, Act.put, List.setIfInBounds_toArray, List.set_cons_zero, List.set_cons_succ] at hK ⊢
                  have hs149 : σ 149 = _ := hn 149 (by decide)
                  obtain ⟨q, hq, eA, hV⟩ : Bad23A W4.heap.size g27 g29 cc mm nn zz false (σ 31) W' := hn 31 (by decide)
                  clear hn
                  have HKP : Hid (∀ (kk : Nat) (W'' : World), Duo W'' q (.int .u64 (enc zz.a)) (.int .u64 (enc zz.b)) → Bad23G W4.heap.size g27 g29 cc mm nn zz false kk (σ kk) W' → Bad23G W4.heap.size g27 g29 cc mm nn zz true kk (σ kk) W'') := Lib.hid fun kk W'' hD hk => by
                      by_cases c : kk = 31
                      · subst c; exact ⟨q, hq, eA, hD⟩
                      · unfold Bad23G at *; rw [if_neg c] at *; exact hk
                  have HQ' := Lib.hid hq
                  simp only [if_neg Bool.false_ne_true] at hV
                  have HV := Lib.hid hV
                  obtain ⟨v0, v1, f0, f1⟩ := hV
                  clear hq
                  simp only [hs149, eA] at hK
                  go_simp
                  exact hK undef ((W'.setCell ⟨q, 0, none⟩ (.int .u64 (enc zz.a))).setCell ⟨q, 1, none⟩ (.int .u64 (enc zz.b))) (fun kk e => by cases e) (fun kk hk => HKP.out kk _ (HV.out.set _ _) hk) ((hb.setCell HQ'.out _).setCell HQ'.out _)
              · intro σ W5 hb5 hR'
                obtain ⟨g31, hg31, h31, hV31⟩ : Bad23A W4.heap.size g27 g29 cc mm nn zz true (σ 31) W5 := hR' 31 (by decide)
                simp only [if_true] at hV31
                have HB5 := Lib.hid (bthen HB4.out hb5); have HD5 := Lib.hid (HD4.out.keep hb5); have HV31 := Lib.hid hV31
                clear hR' hb5 hg31 hV31 c0c c1c n0c n1c kn km HB4 HD4
                simp only [fill, List.filterMap, Act.put, List.setIfInBounds_toArray, List.set_cons_zero, List.set_cons_succ, List.length_cons, List.length_nil, List.drop_succ_cons, List.drop_zero, Nat.reduceAdd, h31]
                clear h31
                obtain ⟨b0c, b1c, bf0, bf1⟩ := HD5.out
                obtain ⟨z0c, z1c, _, _⟩ := HV31.out
                cases nb
                · cases kb'
                  · have HS3 : Hid (ST (t + 1) = (zz, true, false)) := Lib.hid HS2.out
                    go_wp2_with fail
                    go_roundw
                    case rel => exact ⟨t + 1, by have := HLT2.out; have := HKK.out; omega, by rw [show D + (t + 1) = KK + 1 by have := HKK.out; omega]; go_num, by rw [HS3.out], by rw [HS3.out], (HB5.out.setCell HG22.out _).setCell HG22.out _, by rw [HS3.out]; exact HD5.out.set _ _⟩
                    case measure =>
                      have := HLT2.out
                      simp [intOf]
                      omega
                  · have e3 := eqB_enc bz zz (decide (bz = zz)) rfl
                    obtain ⟨r3, hr3⟩ : ∃ b, decide (bz = zz) = b := ⟨_, rfl⟩
                    have HS4 : Hid (ST (t + 1) = (zz, true, !r3)) := Lib.hid (by
                      rw [HS2.out, ← hr3, Bool.false_or, Bool.true_and, decide_not])
                    rw [hr3] at e3
                    clear hr3
                    rcases e3 with ⟨rfl, h1, h2⟩ | ⟨rfl, h1⟩ | ⟨rfl, h1, h2⟩
                    case inl =>
                      have HS3 : Hid (ST (t + 1) = (zz, true, false)) := Lib.hid HS4.out
                      go_wp2_with fail
                      go_roundw
                      case rel => exact ⟨t + 1, by have := HLT2.out; have := HKK.out; omega, by rw [show D + (t + 1) = KK + 1 by have := HKK.out; omega]; go_num, by rw [HS3.out], by rw [HS3.out], (HB5.out.setCell HG22.out _).setCell HG22.out _, by rw [HS3.out]; exact HD5.out.set _ _⟩
                      case measure =>
                        have := HLT2.out
                        simp [intOf]
                        omega
                    all_goals
                      have HS3 : Hid (ST (t + 1) = (zz, true, true)) := Lib.hid HS4.out
                      go_wp2_with fail
                      go_roundw
                      case rel => exact ⟨t + 1, by have := HLT2.out; have := HKK.out; omega, by rw [show D + (t + 1) = KK + 1 by have := HKK.out; omega]; go_num, by rw [HS3.out], by rw [HS3.out], (HB5.out.setCell HG22.out _).setCell HG22.out _, by rw [HS3.out]; exact HD5.out.set _ _⟩
                      case measure =>
                        have := HLT2.out
                        simp [intOf]
                        omega
                · have HS3 : Hid (ST (t + 1) = (zz, true, true)) := Lib.hid (by rw [HS2.out]; rfl)
                  go_wp2_with fail
                  go_roundw
                  case rel => exact ⟨t + 1, by have := HLT2.out; have := HKK.out; omega, by rw [show D + (t + 1) = KK + 1 by have := HKK.out; omega]; go_num, by rw [HS3.out], by rw [HS3.out], (HB5.out.setCell HG22.out _).setCell HG22.out _, by rw [HS3.out]; exact HD5.out.set _ _⟩
                  case measure =>
                    have := HLT2.out
                    simp [intOf]
                    omega
      · have hKP : D + t = PL := by omega
        have hGI := HSTE.out t hKP
        rw [hst] at hGI
        have hlt2I : ¬ (KK : Int) < (PL : Int) := by omega
        have HGO2 : Hid (badGo G L [] = if nb = true then badGo G (L.drop (j + 1)) out else if kb' = false then ([], true) else badGo G (L.drop (j + 1)) (if bz ∈ out then out else out ++ [bz])) := Lib.hid (by rw [HGO.out, ← hGI])
        have hM6 := HM5.out.keep hB2
        have HM6 := Lib.hid hM6; have HDK := Lib.hid hDuo
        clear ht hst hKK hlt2 hKP hGI hB2 hDuo HGO
        cases nb
        case true =>
          clear hM6
          go_wp2_with fail
          go_roundw
          case rel => exact ⟨j + 1, out, HJ.out, by go_num, by rw [HGO2.out]; rfl, by have := HOLN.out; omega, HM6.out⟩
          case measure =>
            have := HJ.out
            have := HLQ.out
            simp [intOf]
            omega
        cases kb'
        case false =>
          clear hM6
          go_wp2_with fail
          exact bodyPost_ret (v := .tuple #[.slice none 0 0, .bool true]) (by simp [results, Tryz.results20, go_sem]) rfl ⟨bthen HB.out HM6.out.2, none, 0, by rw [HGO2.out]; rfl, by rw [HGO2.out]; exact qrowA_nil _⟩
        obtain ⟨ao, co, hv, hro⟩ := hM6.rowA
        rw [encL_len] at hv hro
        subst hv
        have HRO := Lib.hid hro
        clear hM6 hro
        obtain ⟨wK, hwK⟩ : ∃ W, W = wr := ⟨_, rfl⟩
        rw [← hwK] at HRO HDK HM6
        rw [← hwK]
        clear hwK
        obtain ⟨OLN, hOLN⟩ : ∃ q, out.length = q := ⟨_, rfl⟩
        have HOQ := Lib.hid hOLN
        have hO5 : OLN ≤ 65536 := by have h1 := HOLN.out; have h2 := HJ.out; have h3 := HLQ.out; omega
        rw [hOLN] at HRO
        simp only [hOLN]
        clear hOLN
        go_upto_region 31 with fail
        go_loopw [32, 33] (ThereRel wK bz out) (fun _ k _ => OLN - (intOf k).toNat)
        case atStart => exact ⟨0, Nat.zero_le _, rfl, by simp, Below.refl _ _⟩
        case round =>
          obtain ⟨q, hq, rfl, rfl, hB3⟩ := hrel
          rw [HOQ.out] at hq
          by_cases hlt3 : q < OLN
          · have hlt3I : (q : Int) < (OLN : Int) := Int.ofNat_lt.2 hlt3
            have hq0 : (0 : Int) ≤ (q : Int) := Int.natCast_nonneg q
            obtain ⟨ob, oo, rfl, o0c, o1c⟩ := (HRO.out.keep hB3).2.2 q hlt3
            rw [encL_at] at o0c o1c
            obtain ⟨b0c, b1c, _, _⟩ := HDK.out.keep hB3
            obtain ⟨xq, hxq⟩ : ∃ x, cq out q = x := ⟨_, rfl⟩
            rw [hxq] at o0c o1c
            have hnx := there_step (bz := bz) (by rw [HOQ.out]; exact hlt3) hxq
            obtain ⟨th, hth⟩ : ∃ b, decide (bz ∈ out.take q) = b := ⟨_, rfl⟩
            rw [hth] at hnx ⊢
            have e3 := eqB_enc xq bz (decide (xq = bz)) rfl
            obtain ⟨r3, hr3⟩ : ∃ b, decide (xq = bz) = b := ⟨_, rfl⟩
            rw [hr3] at e3 hnx
            have HNX := Lib.hid hnx; have HB3 := Lib.hid hB3; have HL3 := Lib.hid hlt3
            clear hq hlt3 hxq hnx hth hr3 hB3
            simp only at o0c o1c
            go_upto_region 33 with fail
            replace o0c := fun q : Regrown => cell_regrown o0c q.d q.os
            replace o1c := fun q : Regrown => cell_regrown o1c q.d q.os
            replace b0c := fun q : Regrown => cell_regrown b0c q.d q.os
            replace b1c := fun q : Regrown => cell_regrown b1c q.d q.os
            cases th
            all_goals rcases e3 with ⟨rfl, h1, h2⟩ | ⟨rfl, h1⟩ | ⟨rfl, h1, h2⟩
            all_goals
              refine wp_region_quiet_below (by kernel_rfl) (by kernel_rfl) ?_
              repeat (first | go_big_quiet_step (fail) | quiet_step (fail))
              refine wpQuiet_nil ?_
              rintro _ ⟨pq, rfl⟩
              have hb9 := below_regrown wr pq.d pq.os
              have HB10 := Lib.hid (bthen HB3.out hb9)
              clear hb9
              clear o0c o1c b0c b1c
              go_wp2_with fail
              go_roundw
              case rel => exact ⟨q + 1, by rw [HOQ.out]; exact HL3.out, by go_num, by rw [HNX.out]; rfl, HB10.out⟩
              case measure =>
                have := HL3.out
                simp [intOf]
                omega
          · obtain rfl : q = OLN := by omega
            have hlt3I : ¬ (q : Int) < (q : Int) := by omega
            rw [show out.take q = out from List.take_of_length_le (by rw [HOQ.out]; exact Nat.le_refl _)]
            obtain ⟨th, hth⟩ : ∃ b, decide (bz ∈ out) = b := ⟨_, rfl⟩
            rw [hth]
            have hM9 := HM6.out.keep hB3
            have HM9 := Lib.hid hM9
            obtain ⟨b0c, b1c, _, _⟩ := HDK.out.keep hB3
            clear hq hlt3 hB3
            cases th
            · have HGO3 : Hid (badGo G L [] = badGo G (L.drop (j + 1)) (out ++ [bz])) := Lib.hid (by rw [HGO2.out, if_neg (by decide), if_neg (by decide), if_neg (of_decide_eq_false hth)])
              have hown := hM9.1; have hsz := hM9.2.size
              have HTT := Lib.hid (fun w2 v' => @MadeQ.step wb _ w2 _ v' (encL out) (enc bz.a) (enc bz.b) hM9)
              rw [encL_len, HOQ.out] at hown HTT
              clear hth hM9
              go_wp2_with (at_builtin; refine wpList_append_own _ rfl _ _ 24 rfl wb.heap.size 31 i0 (.agg #[.int .u64 0, .int .u64 0]) 2 16 Tryz.underlying24 hi hz0 hz1 hz2 rfl (by decide) _ _ _ rfl (hown.alloc _) ⟨wr.heap.size, 0, none⟩ 1 1 [.int .u64 (enc bz.a), .int .u64 (enc bz.b)] rfl rfl ?c1 ?c2 ?c3 ?c4 ?c5 ?_)
              (try case c1 => exact two_src (by simp [go_sem]) (by simp [go_sem]))
              (try case c2 => first | exact ⟨rfl, rfl⟩ | rfl | (intro u hu; simp at hu; rcases hu with rfl | rfl <;> rfl))
              case c3 => unfold maxLen; omega
              case c4 => omega
              case c5 => first | omega | (simp; omega)
              intro v' w2 hown' hgrow _
              have R := Lib.hid (HTT.out w2 v' _ hown' hgrow)
              clear hown' hgrow hown HTT b0c b1c
              go_wp2_with fail
              go_roundw
              case rel => exact ⟨j + 1, out ++ [bz], HJ.out, by go_num, HGO3.out, by have := HOLN.out; rw [List.length_append]; show out.length + 1 ≤ j + 1; omega, by rw [← encL_snoc]; exact R.out⟩
              case measure =>
                have := HJ.out
                have := HLQ.out
                simp [intOf]
                omega
            · have HGO3 : Hid (badGo G L [] = badGo G (L.drop (j + 1)) out) := Lib.hid (by rw [HGO2.out, if_neg (by decide), if_neg (by decide), if_pos (of_decide_eq_true hth)])
              clear hth hM9
              go_wp2_with fail
              go_roundw
              case rel => exact ⟨j + 1, out, HJ.out, by go_num, HGO3.out, by have := HOLN.out; omega, by have hm9 := HM9.out; rw [HOQ.out] at hm9; exact hm9⟩
              case measure =>
                have := HJ.out
                have := HLQ.out
                simp [intOf]
                omega
end Go.Proofs.YthfkfgjhgicfeaaGreatDoor
