/-
  The document's examples of layer 5: the call 'awake' answers true, where the program's calls do what is asked of them.
-/
import Derived.Test.YtajmfpnkcenhaaaPolyLem
namespace Go.Proofs.Ytajmfpnkcenhaaa
open Go.RowKit Go.Sort Go.BigFrame
set_option linter.unusedVariables false

def awL : List F2 := [⟨6, 0⟩, ⟨-5, 0⟩, ⟨1, 0⟩, 0]
def awT : F2 := ⟨2, 0⟩
def awF : F2 := ⟨4, 0⟩
def awX : List F2 := [⟨1, 0⟩, ⟨2, 0⟩]
def awY : List F2 := [⟨3, 0⟩, ⟨5, 0⟩]
def awO : List F2 := [⟨1, 0⟩, ⟨1, 0⟩]
theorem aw_div : divP awL awT = [⟨-3, 0⟩, ⟨1, 0⟩] := by decide +kernel
theorem aw_at2 : atP awL awT = 0 := by decide +kernel
theorem aw_at4 : atP awL awF = awT := by decide +kernel
theorem aw_deg : degP awL = 2 := by decide +kernel
theorem aw_trim : (trimP awL).length = 3 := by decide +kernel
theorem aw_nil : degP [] = -1 := by decide +kernel
theorem aw_mul : (mulP awX awX).length = 3 := by decide +kernel
theorem aw_yes : thrB awX awY = true := by decide +kernel
theorem aw_no : thrB awO awY = false := by decide +kernel
theorem eq0 : enc (cq [(⟨-3, 0⟩ : F2), ⟨1, 0⟩] 0).a = 18446744069414584318 := by decide +kernel
theorem eq1 : enc (cq [(⟨-3, 0⟩ : F2), ⟨1, 0⟩] 0).b = 0 := by decide +kernel
theorem em0 : enc (cq awX 0).a = 1 := by decide +kernel
theorem em1 : enc (cq awX 0).b = 0 := by decide +kernel
theorem em2 : enc (cq awX 1).a = 2 := by decide +kernel
theorem em3 : enc (cq awX 1).b = 0 := by decide +kernel
theorem aw_thr : thrL awX awY = awX := by
  unfold thrL
  rw [if_pos aw_yes]
  have e : pl 2 (cq awX) = awX := by decide +kernel
  have hd : ∀ i j, i < 2 → j < i → cq awX i ≠ cq awX j := by
    intro i j hi hj
    have : i = 1 ∧ j = 0 := by omega
    obtain ⟨rfl, rfl⟩ := this
    decide +kernel
  refine Eq.trans (pl_same (n := 2) (m := 2) (lgr_upto 2 (cq awX) (cq awY) 2 (Nat.le_refl _)) (cq_upto awX) fun i => ?_) e
  refine through_one (n := 2) (lgr_upto 2 _ _ 2 (Nat.le_refl _)) (cq_upto awX) (cq awX) hd (fun i hi => ?_) i
  rw [lgr_eval 2 (cq awX) (cq awY) hd i hi]
  have : i = 0 ∨ i = 1 := by omega
  rcases this with rfl | rfl <;> decide +kernel
theorem IsP.cells {W : World} {v : Value} {l : List F2} (h : IsP W v l) (h0 : 0 < l.length) : ∃ b off c : Nat, v = .slice (some ⟨b, off, none⟩) l.length c ∧ ∀ i, i < l.length → W.cell? ⟨b, off + i * 2, none⟩ = some (.int .u64 (enc (cq l i).a)) ∧ W.cell? ⟨b, off + i * 2 + 1, none⟩ = some (.int .u64 (enc (cq l i).b)) := by
  rcases h with ⟨_, h⟩ | ⟨a, c, _, h⟩ | ⟨b, off, c, rfl, h1, h2, h3⟩
  · have := encL_len l; rw [h] at this; simp at this; omega
  · have := encL_len l; rw [h] at this; simp at this; omega
  · refine ⟨b, off, c, by rw [encL_len], fun i hi => ?_⟩
    have := h3 i (by rw [encL_len]; exact hi)
    rw [encL_at] at this
    exact this
theorem IsP.raw {W : World} {b o c n : Nat} {l : List F2} (h : IsP W (.slice (some ⟨b, o, none⟩) n c) l) (i : Nat) (hi : i < l.length) : W.cell? ⟨b, o + i * 2, none⟩ = some (.int .u64 (enc (cq l i).a)) ∧ W.cell? ⟨b, o + i * 2 + 1, none⟩ = some (.int .u64 (enc (cq l i).b)) := by
  obtain ⟨b', o', c', e, hh⟩ := h.cells (by omega)
  cases e
  exact hh i hi
theorem poly_two {W : World} {g : Nat} {a0 a1 b0 b1 : Int} (h0 : W.cell? ⟨g, 0, none⟩ = some (.int .u64 a0)) (h1 : W.cell? ⟨g, 1, none⟩ = some (.int .u64 a1)) (h2 : W.cell? ⟨g, 2, none⟩ = some (.int .u64 b0)) (h3 : W.cell? ⟨g, 3, none⟩ = some (.int .u64 b1)) (ha : U a0) (ha' : U a1) (hb : U b0) (hb' : U b1) :
    Poly W (.slice (some ⟨g, 0, none⟩) 2 2) [toQ (a0, a1), toQ (b0, b1)] :=
  ⟨[(a0, a1), (b0, b1)], Or.inr (Or.inr ⟨g, 0, 2, rfl, by simp, by unfold maxLen; omega, fun i hi => by
    have : i = 0 ∨ i = 1 := by simp at hi; omega
    rcases this with rfl | rfl
    · exact ⟨h0, h1⟩
    · exact ⟨h2, h3⟩⟩), by intro n hn; simp at hn; rcases hn with rfl | rfl; exact ⟨ha, ha'⟩; exact ⟨hb, hb'⟩, rfl⟩
theorem poly_four {W : World} {g : Nat} (h0 : W.cell? ⟨g, 0, none⟩ = some (.int .u64 6)) (h1 : W.cell? ⟨g, 1, none⟩ = some (.int .u64 0)) (h2 : W.cell? ⟨g, 2, none⟩ = some (.int .u64 18446744069414584316)) (h3 : W.cell? ⟨g, 3, none⟩ = some (.int .u64 0)) (h4 : W.cell? ⟨g, 4, none⟩ = some (.int .u64 1)) (h5 : W.cell? ⟨g, 5, none⟩ = some (.int .u64 0)) (h6 : W.cell? ⟨g, 6, none⟩ = some (.int .u64 0)) (h7 : W.cell? ⟨g, 7, none⟩ = some (.int .u64 0)) :
    Poly W (.slice (some ⟨g, 0, none⟩) 4 4) awL :=
  ⟨[(6, 0), (18446744069414584316, 0), (1, 0), (0, 0)], Or.inr (Or.inr ⟨g, 0, 4, rfl, by simp, by unfold maxLen; omega, fun i hi => by
    have : i = 0 ∨ i = 1 ∨ i = 2 ∨ i = 3 := by simp at hi; omega
    rcases this with rfl | rfl | rfl | rfl
    · exact ⟨h0, h1⟩
    · exact ⟨h2, h3⟩
    · exact ⟨h4, h5⟩
    · exact ⟨h6, h7⟩⟩), by intro n hn; simp at hn; rcases hn with rfl | rfl | rfl | rfl <;> exact ⟨U_lit _ rfl rfl, U_lit _ rfl rfl⟩, by decide +kernel⟩

set_option maxRecDepth 100000 in
set_option maxHeartbeats 8000000 in
theorem aw5 (hA : AskPoly) (w : World) : Calls Try.prog 9 #[] w fun e w' => e = .returned (.bool true) ∧ Below w.heap.size w w' := by
  have rep2 : Rep 2 0 awT := ⟨U_lit _ rfl rfl, U_lit _ rfl rfl, by decide +kernel, by decide +kernel⟩
  have rep4 : Rep 4 0 awF := ⟨U_lit _ rfl rfl, U_lit _ rfl rfl, by decide +kernel, by decide +kernel⟩
  have dv := fun W v (h : Poly W v awL) => hA.divide v awL 2 0 awT W h rep2 (by decide)
  rw [aw_div, aw_at2] at dv
  unfold RetD at dv
  rw [show enc (0 : F2).a = 0 from rfl, show enc (0 : F2).b = 0 from rfl] at dv
  have th1 := fun W v u (h : Poly W v awX) (h' : Poly W u awY) => hA.through v u awX awY W h h' (by decide) (by decide)
  have th2 := fun W v u (h : Poly W v awO) (h' : Poly W u awY) => hA.through v u awO awY W h h' (by decide) (by decide)
  unfold RetT at th1 th2
  rw [aw_yes, aw_thr] at th1
  rw [aw_no] at th2
  go_enter Try.func9, Try.ntmps9
  go_upto_region 2 with fail
  have DV := dv _ _ (poly_four (W := w.alloc (.cells #[.int .u64 6, .int .u64 0, .int .u64 18446744069414584316, .int .u64 0, .int .u64 1, .int .u64 0, .int .u64 0, .int .u64 0] 25)) (g := w.heap.size) (by simp [go_sem]) (by simp [go_sem]) (by simp [go_sem]) (by simp [go_sem]) (by simp [go_sem]) (by simp [go_sem]) (by simp [go_sem]) (by simp [go_sem]))
  have hb0 := (Below.refl w.heap.size w).alloc (Nat.le_refl _) (.cells #[.int .u64 6, .int .u64 0, .int .u64 18446744069414584316, .int .u64 0, .int .u64 1, .int .u64 0, .int .u64 0, .int .u64 0] 25)
  have P0 := Lib.hid (poly_four (W := w.alloc (.cells #[.int .u64 6, .int .u64 0, .int .u64 18446744069414584316, .int .u64 0, .int .u64 1, .int .u64 0, .int .u64 0, .int .u64 0] 25)) (g := w.heap.size) (by simp [go_sem]) (by simp [go_sem]) (by simp [go_sem]) (by simp [go_sem]) (by simp [go_sem]) (by simp [go_sem]) (by simp [go_sem]) (by simp [go_sem]))
  go_upto_region 3 with ((go_at_call 23; ((with_reducible refine DV.mono ?_); rintro e W1 ⟨v7, rfl, hb, hp⟩)))
  refine wp_gen (fun W => Below w.heap.size w W ∧ Poly W (.slice (some ⟨w.heap.size, 0, none⟩) 4 4) awL ∧ IsP W v7 [⟨-3, 0⟩, ⟨1, 0⟩] ∧ Var W W1.heap.size 0 0) ⟨(hb0.trans (hb.mono (by simp))).alloc (hb0.trans (hb.mono (by simp))).size _, (P0.out.keep hb).keep ((Below.refl _ _).alloc (Nat.le_refl _) _), hp.keep ((Below.refl _ _).alloc (Nat.le_refl _) _), Var.new _ _ _ _⟩ ?_
  clear hb0 P0 DV hb hp dv
  rintro W2 ⟨hB, hl, h7, hn⟩
  generalize W1.heap.size = gn at *
  have T1 := th1 ((W2.alloc (.cells #[.int .u64 1, .int .u64 0, .int .u64 2, .int .u64 0] 25)).alloc (.cells #[.int .u64 3, .int .u64 0, .int .u64 5, .int .u64 0] 25)) (.slice (some ⟨W2.heap.size, 0, none⟩) 2 2) (.slice (some ⟨W2.heap.size + 1, 0, none⟩) 2 2)
    (poly_two (a0 := 1) (a1 := 0) (b0 := 2) (b1 := 0) (by simp [go_sem]) (by simp [go_sem]) (by simp [go_sem]) (by simp [go_sem]) (U_lit _ rfl rfl) (U_lit _ rfl rfl) (U_lit _ rfl rfl) (U_lit _ rfl rfl)) (poly_two (a0 := 3) (a1 := 0) (b0 := 5) (b1 := 0) (by simp [go_sem]) (by simp [go_sem]) (by simp [go_sem]) (by simp [go_sem]) (U_lit _ rfl rfl) (U_lit _ rfl rfl) (U_lit _ rfl rfl) (U_lit _ rfl rfl))
  have hb2 := ((Below.refl W2.heap.size W2).alloc (Nat.le_refl _) (.cells #[.int .u64 1, .int .u64 0, .int .u64 2, .int .u64 0] 25)).alloc (by simp) (.cells #[.int .u64 3, .int .u64 0, .int .u64 5, .int .u64 0] 25)
  have HB := Lib.hid hB; have HL := Lib.hid hl; have H7 := Lib.hid h7; have HN := Lib.hid hn
  clear hB hl h7 hn th1
  go_upto_region 4 with ((go_at_call 25; ((with_reducible refine T1.mono ?_); rintro e W3 ⟨v4, rfl, hb, hp⟩)))
  have hbb := hb2.trans (hb.mono hb2.size)
  refine wp_gen (fun W => Below w.heap.size w W ∧ Poly W (.slice (some ⟨w.heap.size, 0, none⟩) 4 4) awL ∧ IsP W v7 [⟨-3, 0⟩, ⟨1, 0⟩] ∧ Var W gn 0 0 ∧ IsP W v4 awX) ⟨bthen HB.out hbb, HL.out.keep hbb, H7.out.keep hbb, HN.out.keep hbb, hp⟩ ?_
  clear HB HL H7 HN hb hp hbb hb2 T1
  rintro W4 ⟨hB, hl, h7, hn, h4⟩
  have T2 := th2 ((W4.alloc (.cells #[.int .u64 1, .int .u64 0, .int .u64 1, .int .u64 0] 25)).alloc (.cells #[.int .u64 3, .int .u64 0, .int .u64 5, .int .u64 0] 25)) (.slice (some ⟨W4.heap.size, 0, none⟩) 2 2) (.slice (some ⟨W4.heap.size + 1, 0, none⟩) 2 2)
    (poly_two (a0 := 1) (a1 := 0) (b0 := 1) (b1 := 0) (by simp [go_sem]) (by simp [go_sem]) (by simp [go_sem]) (by simp [go_sem]) (U_lit _ rfl rfl) (U_lit _ rfl rfl) (U_lit _ rfl rfl) (U_lit _ rfl rfl)) (poly_two (a0 := 3) (a1 := 0) (b0 := 5) (b1 := 0) (by simp [go_sem]) (by simp [go_sem]) (by simp [go_sem]) (by simp [go_sem]) (U_lit _ rfl rfl) (U_lit _ rfl rfl) (U_lit _ rfl rfl) (U_lit _ rfl rfl))
  have hb2 := ((Below.refl W4.heap.size W4).alloc (Nat.le_refl _) (.cells #[.int .u64 1, .int .u64 0, .int .u64 1, .int .u64 0] 25)).alloc (by simp) (.cells #[.int .u64 3, .int .u64 0, .int .u64 5, .int .u64 0] 25)
  have HB := Lib.hid hB; have HL := Lib.hid hl; have H7 := Lib.hid h7; have HN := Lib.hid hn; have H4 := Lib.hid h4
  clear hB hl h7 hn th2 h4
  go_upto_region 5 with ((go_at_call 25; ((with_reducible refine T2.mono ?_); rintro e W5 ⟨v6, rfl, hb, hp⟩)))
  have hbb := hb2.trans (hb.mono hb2.size)
  refine wp_gen (fun W => Below w.heap.size w W ∧ Poly W (.slice (some ⟨w.heap.size, 0, none⟩) 4 4) awL ∧ IsP W v7 [⟨-3, 0⟩, ⟨1, 0⟩] ∧ Var W gn 0 0 ∧ IsP W v4 awX) ⟨bthen HB.out hbb, HL.out.keep hbb, H7.out.keep hbb, HN.out.keep hbb, H4.out.keep hbb⟩ ?_
  clear HB HL H7 HN hb hp hbb hb2 T2 H4
  rintro W6 ⟨hB, hl, h7, hn, h4⟩
  obtain ⟨bq, oq, cqq, rfl, hq⟩ := h7.cells (by decide)
  obtain ⟨bm, om, cm, rfl, hm⟩ := h4.cells (by decide)
  have G1 := hA.degree _ awL W6 hl (by decide)
  rw [aw_deg] at G1
  have HB := Lib.hid hB; have HL := Lib.hid hl; have HN := Lib.hid hn; have H4 := Lib.hid h4; have H7 := Lib.hid h7
  clear hB hl hn h4 h7 hq hm
  go_wp2_with (first
    | (go_at_call 17; ((with_reducible refine G1.mono ?_); rintro e W7 ⟨rfl, hb⟩; replace HB := Lib.hid (bthen HB.out hb); replace HL := Lib.hid (HL.out.keep hb); replace HN := Lib.hid (HN.out.keep hb); replace H4 := Lib.hid (H4.out.keep hb); replace H7 := Lib.hid (H7.out.keep hb); have G2 := hA.trim _ awL W7 HL.out (by decide); clear G1 hb))
    | (go_at_call 19; ((with_reducible refine G2.mono ?_); rintro e W8 ⟨v8, rfl, hb, hp⟩; obtain ⟨a8, c8, rfl⟩ := hp.slice; rw [aw_trim]; replace HB := Lib.hid (bthen HB.out hb); replace HL := Lib.hid (HL.out.keep hb); replace HN := Lib.hid (HN.out.keep hb); replace H4 := Lib.hid (H4.out.keep hb); replace H7 := Lib.hid (H7.out.keep hb); have G3 := hA.at' _ awL 4 0 awF W8 HL.out rep4 (by decide); clear G2 hb hp; unfold RetQ at G3; rw [aw_at4, show enc awT.a = 2 from rfl, show enc awT.b = 0 from rfl] at G3))
    | (go_at_call 21; ((with_reducible refine G3.mono ?_); rintro e W9 ⟨rfl, hb⟩; replace HB := Lib.hid (bthen HB.out hb); replace HN := Lib.hid (HN.out.keep hb); replace H4 := Lib.hid (H4.out.keep hb); replace H7 := Lib.hid (H7.out.keep hb); have hN := HN.out; obtain ⟨n0c, n1c, _, _⟩ := hN; obtain ⟨q0a, q0b⟩ := H7.out.raw 0 (by decide); obtain ⟨m0a, m0b⟩ := H4.out.raw 0 (by decide); obtain ⟨m1a, m1b⟩ := H4.out.raw 1 (by decide); rw [eq0] at q0a; rw [eq1] at q0b; rw [em0] at m0a; rw [em1] at m0b; rw [em2] at m1a; rw [em3] at m1b; simp only [Nat.zero_mul, Nat.one_mul, Nat.add_zero] at q0a q0b m0a m0b m1a m1b; have G4 := hA.degree _ [] W9 (IsP.nil W9).poly (by decide); rw [aw_nil] at G4; clear G3 hb))
    | (go_at_call 17; ((with_reducible refine G4.mono ?_); rintro e W10 ⟨rfl, hb⟩; replace HB := Lib.hid (bthen HB.out hb); replace H4 := Lib.hid (H4.out.keep hb); have G5 := hA.mul _ _ awX awX W10 H4.out.poly H4.out.poly (by decide) (by decide); clear G4 hb))
    | (go_at_call 13; ((with_reducible refine G5.mono ?_); rintro e W11 ⟨v11, rfl, hb, hp⟩; obtain ⟨a11, c11, rfl⟩ := hp.slice; rw [aw_mul]; replace HB := Lib.hid (bthen HB.out hb); clear G5 hb hp))
    | fail)
  go_ret; exact ⟨rfl, HB.out⟩
end Go.Proofs.Ytajmfpnkcenhaaa
