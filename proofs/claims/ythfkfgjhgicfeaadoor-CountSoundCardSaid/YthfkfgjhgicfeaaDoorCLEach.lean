/-
  The body of CountEach, where the program's calls do what is asked of them. (Written by gen_cleach.py.)
-/
import Derived.Test.YthfkfgjhgicfeaaDoorCountW
import Derived.Test.YthfkfgjhgicfeaaDoorCountFit
import Derived.Test.YthfkfgjhgicfeaaDoorCountAw
import Derived.Test.YthfkfgjhgicfeaaDoorGFold
import Derived.Test.YthfkfgjhgicfeaaDoorEqB
import Derived.BigQuiet
namespace Go.Proofs.YthfkfgjhgicfeaaDoor
open Go Go.RowKit Go.Sort Go.BigFrame
set_option linter.unusedVariables false

theorem each_facts {word : QL} {m d s : Nat} (h : word.length = 2 ^ (m + 1)) (h1 : 1 ≤ m) (h3 : m ≤ 3) (hds : d < s) (hs : s ≤ 2 ^ m) {l : List F2} (hl : (badV word 0 (d : Int) (s : Int)).1 = l) :
    (∀ i, i < l.length → s ≤ bestV (wordV word (cq l i) 0).1 1 (d : Int) false ∧ wordV word (cq l i) 0 = ((wordV word (cq l i) 0).1, true) ∧ (wordV word (cq l i) 0).1.length = 2 ^ m) ∧ ∀ k i, k < i → i < l.length → cq l k ≠ cq l i := by
  have hB : BadW word m d s l (badV word 0 (d : Int) (s : Int)).2 := ⟨h, h1, h3, hds, hs, by rw [← hl]⟩
  have hn := hB.nodup
  have hg : ∀ i, i < l.length → cq l i = l[i]! := fun i hi => by simp [cq, List.getD, hi]
  refine ⟨fun i hi => ⟨hB.each (by rw [show cq l i = l[i] by simp [cq, List.getD, hi]]; exact List.getElem_mem hi), ?_, word_len h (by omega) _ 0⟩, fun k i hk hi => ?_⟩
  · rw [wordV_yes (by rw [lg_len h]; omega)]
  · have hk2 : k < l.length := by omega
    rw [show cq l i = l[i] by simp [cq, List.getD, hi], show cq l k = l[k] by simp [cq, List.getD, hk2]]
    intro e
    have := (List.getElem_inj hn).1 e
    omega
def EachRel (w w1 : World) (L : Nat) (i : Value) (W : World) : Prop := ∃ k : Nat, k ≤ L ∧ i = .int .i64 (k : Int) ∧ Below w.heap.size w W ∧ Below w1.heap.size w1 W
set_option maxRecDepth 100000 in
set_option maxHeartbeats 8000000 in
theorem each_4_1 (G : World → Prop) (hA : AskCount G) (a : Option Addr) (c : Nat) (word : QL) (dim miss : Int) (r : Nat) (w : World) (hG : G w) (hw : QRowA w a 4 word) (hu : UsR word) (hc : 4 ≤ c) (hm0 : 0 ≤ miss) (hm1 : miss ≤ 255) (e1 : dim.tmod 2 = 0) (e2 : miss.tmod 1 = (r : Int)) (hr : r < 1) :
    Calls Tryd.prog 5 #[.slice a 4 c, .int .u8 dim, .int .u8 miss] w fun e w' => e = .returned (.bool true) ∧ Below w.heap.size w w' := by
  have HB := Lib.hid (Below.refl w.heap.size w)
  have aw := fun W (h : Below w.heap.size w W) => cntawake G hA W (hA.keep hG h)
  have ks := fun W => cfits a 4 c 2 true W (by decide)
  obtain ⟨P, hP⟩ : ∃ P, 2 - r = P := ⟨_, rfl⟩
  have hP1 : 1 < P := by omega
  have hP2 : P ≤ 2 := by omega
  have g1 : IntKind.i64.wrap (2 - (r : Int)) = (P : Int) := by rw [IntWalk.i64_in _ (by omega)]; omega
  have g2 : wrap64 (2 - (r : Int)) = (P : Int) := by rw [IntWalk.wrap64_in _ (by omega)]; omega
  obtain ⟨l, hl⟩ : ∃ l, (badV word 0 1 (P : Int)).1 = l := ⟨_, rfl⟩
  obtain ⟨F1, F2'⟩ := each_facts (m := 1) (d := 1) (s := P) hw.1 (by decide) (by decide) hP1 hP2 hl
  have k1 := fun W (h : Below w.heap.size w W) => hA.bad a 4 c word 0 1 (P : Int) W (hw.keep h) hu (by decide) hc (by decide) (by unfold I64; decide) (by decide) (by unfold I64; omega) (hA.keep hG h)
  unfold BadPost at k1
  obtain ⟨all, hall⟩ : ∃ b, (badV word 0 1 (P : Int)).2 = b := ⟨_, rfl⟩
  rw [hl, hall] at k1
  have kw := fun y W (h : Below w.heap.size w W) (r' : QL) (hy : wordV word y 0 = (r', true)) => rfword_is a 4 c word (enc y.a) (enc y.b) 0 y r' true W (hw.keep h) hu (rep_enc y) hy
  have kb := fun ra rn rc (r' : QL) W (h : Below w.heap.size w W) (h1 : QRowA W ra rn r') (h2 : UsR r') (h3 : rn ≤ 16) => hA.best ra rn rc r' 1 1 false W h1 h2 h3 (by decide) (by decide) (hA.keep hG h)
  have HF1 := Lib.hid F1; have HF2 := Lib.hid F2'; have HKW := Lib.hid kw; have HKB := Lib.hid kb; have HP := Lib.hid (And.intro hP1 hP2)
  clear hA hG hw hu hc hP hP1 hP2 hl hall F1 F2' kw kb
  obtain ⟨L, hL⟩ : ∃ L, l.length = L := ⟨_, rfl⟩
  have HL := Lib.hid hL
  rw [hL] at k1
  clear hL
  have hm : wrap64 miss = miss := IntWalk.wrap64_in _ (by omega)
  go_enter Tryd.func5, Tryd.ntmps5
  go_upto_region 6 with (go_at_call 7; (with_reducible refine (ks _).mono ?_); rintro e w1 ⟨rfl, hb⟩; replace HB := Lib.hid (bthen HB.out hb); clear hb)
  clear e1 e2 hm ks hm0 hm1 g1 g2 hr
  go_upto_region 8 with (go_at_call 9; (with_reducible refine (k1 _ HB.out).mono ?_); rintro e wb ⟨hb, ba, bc, rfl, hq⟩; have HQ := Lib.hid hq; replace HB := Lib.hid (bthen HB.out hb); clear hb hq)
  clear k1
  go_loopw [12] (EachRel w wb L) (fun i _ => L - (intOf i).toNat)
  case atStart => exact ⟨0, Nat.zero_le _, rfl, HB.out, Below.refl _ _⟩
  case round =>
    clear HB
    obtain ⟨i, hi, rfl, hB, hB1⟩ := hrel
    have hi0 : (0 : Int) ≤ (i : Int) := Int.natCast_nonneg i
    have HB := Lib.hid hB; have HB1 := Lib.hid hB1
    by_cases hlt : i < L
    case neg =>
      obtain rfl : i = L := by omega
      have hltI : ¬ (i : Int) < (i : Int) := by omega
      clear hB hB1 hi hlt
      go_wp2_with (go_at_call 8; (with_reducible refine (aw _ HB.out).mono ?_); rintro e w1 ⟨rfl, hb⟩; replace HB := Lib.hid (bthen HB.out hb); clear hb)
      go_ret
      exact ⟨rfl, HB.out⟩
    have hltI : (i : Int) < (L : Int) := Int.ofNat_lt.2 hlt
    by_cases h20 : (i : Int) < 20
    case neg =>
      clear hB hB1 hi hlt
      go_wp2_with (go_at_call 8; (with_reducible refine (aw _ HB.out).mono ?_); rintro e w1 ⟨rfl, hb⟩; replace HB := Lib.hid (bthen HB.out hb); clear hb)
      go_ret
      exact ⟨rfl, HB.out⟩
    obtain ⟨lb, lo, rfl, y0c, y1c⟩ := (HQ.out.keep hB1).2.2 i hlt
    rw [encL_at] at y0c y1c
    simp only at y0c y1c
    obtain ⟨hb1, hv, hlen⟩ := HF1.out i (by rw [HL.out]; exact hlt)
    obtain ⟨y, hy⟩ : ∃ y, cq l i = y := ⟨_, rfl⟩
    rw [hy] at y0c y1c hb1 hv hlen
    obtain ⟨r', hr'⟩ : ∃ q, (wordV word y 0).1 = q := ⟨_, rfl⟩
    rw [hr'] at hb1 hv hlen
    have hUr := wordV_U hv
    have kw := HKW.out y wr hB r' hv
    unfold WordPost at kw
    have hlr : r'.length = 2 := hlen
    rw [hlr] at kw
    have kb := fun ra rc W h h1 => HKB.out ra 2 rc r' W h h1 hUr (by decide)
    unfold IntPost at kb
    obtain ⟨b, hbb⟩ : ∃ b, bestV r' 1 1 false = b := ⟨_, rfl⟩
    rw [hbb] at kb
    have hbP : ¬ (b : Int) < (P : Int) := by
      have h5 : P ≤ bestV r' 1 1 false := hb1
      rw [hbb] at h5
      omega
    have HY := Lib.hid hy; have HJ := Lib.hid hlt
    clear hB hB1 hi hlt hy hb1 hv hlen hr' hUr hlr hbb
    generalize enc y.a = y0 at *
    generalize enc y.b = y1 at *
    go_upto_region 14 with (first
      | (go_at_call 13; (with_reducible refine kw.mono ?_); rintro e w2 ⟨hb, xa, xc, rfl, hx⟩; have HX := Lib.hid hx; replace HB := Lib.hid (bthen HB.out hb); replace HB1 := Lib.hid (bthen HB1.out hb); clear hb hx)
      | (go_at_call 10; (with_reducible refine (kb _ _ _ HB.out HX.out).mono ?_); rintro e w3 ⟨rfl, hb⟩; replace HB := Lib.hid (bthen HB.out hb); replace HB1 := Lib.hid (bthen HB1.out hb); clear hb))
    clear kw kb hbP y0c y1c
    obtain ⟨w3', hw3⟩ : ∃ W, W = w3 := ⟨_, rfl⟩
    rw [← hw3] at HB HB1 ⊢
    clear hw3
    go_loopw [15] (EachRel w wb i) (fun k _ => i - (intOf k).toNat)
    case atStart => exact ⟨0, Nat.zero_le _, rfl, HB.out, HB1.out⟩
    case round =>
      clear HB HB1
      obtain ⟨k, hk, rfl, hB, hB1⟩ := hrel
      have hk0 : (0 : Int) ≤ (k : Int) := Int.natCast_nonneg k
      by_cases hlk : k < i
      · have hlkI : (k : Int) < (i : Int) := Int.ofNat_lt.2 hlk
        have hkL : (k : Int) < (L : Int) := by omega
        have hkL2 : k < L := Nat.lt_trans hlk HJ.out
        obtain ⟨b2, o2, e2, z0c, z1c⟩ := (HQ.out.keep hB1).2.2 k hkL2
        obtain ⟨b3, o3, e3, y0c, y1c⟩ := (HQ.out.keep hB1).2.2 i HJ.out
        cases e2
        cases e3
        rw [encL_at] at z0c z1c y0c y1c
        simp only at z0c z1c y0c y1c
        have hne := HF2.out k i hlk (by rw [HL.out]; exact HJ.out)
        have e4 := eqB_enc (cq l k) (cq l i) false (decide_eq_false hne)
        have HB := Lib.hid hB; have HB1 := Lib.hid hB1; have HLK := Lib.hid hlk
        clear hB hB1 hne hlk hk hkL2
        generalize enc (cq l k).a = x0 at *
        generalize enc (cq l k).b = x1 at *
        generalize enc (cq l i).a = v0 at *
        generalize enc (cq l i).b = v1 at *
        go_upto_region 16 with fail
        replace z0c := fun q : Regrown => cell_regrown z0c q.d q.os
        replace z1c := fun q : Regrown => cell_regrown z1c q.d q.os
        replace y0c := fun q : Regrown => cell_regrown y0c q.d q.os
        replace y1c := fun q : Regrown => cell_regrown y1c q.d q.os
        rcases e4 with ⟨h0, _, _⟩ | ⟨_, h1⟩ | ⟨_, h1, h2⟩
        · cases h0
        all_goals
          refine wp_region_quiet_below (by kernel_rfl) (by kernel_rfl) ?_
          repeat (first | go_big_quiet_step (fail) | quiet_step (fail))
          refine wpQuiet_nil ?_
          rintro _ ⟨pq, rfl⟩
          have hb9 := below_regrown wr pq.d pq.os
          replace HB := Lib.hid (bthen HB.out hb9)
          replace HB1 := Lib.hid (bthen HB1.out hb9)
          clear hb9 z0c z1c y0c y1c
          go_wp2_with fail
          go_roundw
          case rel => exact ⟨k + 1, HLK.out, by go_num, HB.out, HB1.out⟩
          case measure =>
            have := HLK.out
            simp [intOf]
            omega
      · obtain rfl : k = i := by omega
        have hlkI : ¬ (k : Int) < (k : Int) := by omega
        have HB := Lib.hid hB; have HB1 := Lib.hid hB1
        clear hB hB1 hk hlk
        go_wp2_with fail
        go_roundw
        case rel => exact ⟨k + 1, HJ.out, by go_num, HB.out, HB1.out⟩
        case measure =>
          have := HJ.out
          simp [intOf]
          omega
set_option maxRecDepth 100000 in
set_option maxHeartbeats 8000000 in
theorem each_8_1 (G : World → Prop) (hA : AskCount G) (a : Option Addr) (c : Nat) (word : QL) (dim miss : Int) (r : Nat) (w : World) (hG : G w) (hw : QRowA w a 8 word) (hu : UsR word) (hc : 8 ≤ c) (hm0 : 0 ≤ miss) (hm1 : miss ≤ 255) (e1 : dim.tmod 2 = 0) (e2 : miss.tmod 3 = (r : Int)) (hr : r < 3) :
    Calls Tryd.prog 5 #[.slice a 8 c, .int .u8 dim, .int .u8 miss] w fun e w' => e = .returned (.bool true) ∧ Below w.heap.size w w' := by
  have HB := Lib.hid (Below.refl w.heap.size w)
  have aw := fun W (h : Below w.heap.size w W) => cntawake G hA W (hA.keep hG h)
  have ks := fun W => cfits a 8 c 2 true W (by decide)
  obtain ⟨P, hP⟩ : ∃ P, 4 - r = P := ⟨_, rfl⟩
  have hP1 : 1 < P := by omega
  have hP2 : P ≤ 4 := by omega
  have g1 : IntKind.i64.wrap (4 - (r : Int)) = (P : Int) := by rw [IntWalk.i64_in _ (by omega)]; omega
  have g2 : wrap64 (4 - (r : Int)) = (P : Int) := by rw [IntWalk.wrap64_in _ (by omega)]; omega
  obtain ⟨l, hl⟩ : ∃ l, (badV word 0 1 (P : Int)).1 = l := ⟨_, rfl⟩
  obtain ⟨F1, F2'⟩ := each_facts (m := 2) (d := 1) (s := P) hw.1 (by decide) (by decide) hP1 hP2 hl
  have k1 := fun W (h : Below w.heap.size w W) => hA.bad a 8 c word 0 1 (P : Int) W (hw.keep h) hu (by decide) hc (by decide) (by unfold I64; decide) (by decide) (by unfold I64; omega) (hA.keep hG h)
  unfold BadPost at k1
  obtain ⟨all, hall⟩ : ∃ b, (badV word 0 1 (P : Int)).2 = b := ⟨_, rfl⟩
  rw [hl, hall] at k1
  have kw := fun y W (h : Below w.heap.size w W) (r' : QL) (hy : wordV word y 0 = (r', true)) => rfword_is a 8 c word (enc y.a) (enc y.b) 0 y r' true W (hw.keep h) hu (rep_enc y) hy
  have kb := fun ra rn rc (r' : QL) W (h : Below w.heap.size w W) (h1 : QRowA W ra rn r') (h2 : UsR r') (h3 : rn ≤ 16) => hA.best ra rn rc r' 1 1 false W h1 h2 h3 (by decide) (by decide) (hA.keep hG h)
  have HF1 := Lib.hid F1; have HF2 := Lib.hid F2'; have HKW := Lib.hid kw; have HKB := Lib.hid kb; have HP := Lib.hid (And.intro hP1 hP2)
  clear hA hG hw hu hc hP hP1 hP2 hl hall F1 F2' kw kb
  obtain ⟨L, hL⟩ : ∃ L, l.length = L := ⟨_, rfl⟩
  have HL := Lib.hid hL
  rw [hL] at k1
  clear hL
  have hm : wrap64 miss = miss := IntWalk.wrap64_in _ (by omega)
  go_enter Tryd.func5, Tryd.ntmps5
  go_upto_region 6 with (go_at_call 7; (with_reducible refine (ks _).mono ?_); rintro e w1 ⟨rfl, hb⟩; replace HB := Lib.hid (bthen HB.out hb); clear hb)
  clear e1 e2 hm ks hm0 hm1 g1 g2 hr
  go_upto_region 8 with (go_at_call 9; (with_reducible refine (k1 _ HB.out).mono ?_); rintro e wb ⟨hb, ba, bc, rfl, hq⟩; have HQ := Lib.hid hq; replace HB := Lib.hid (bthen HB.out hb); clear hb hq)
  clear k1
  go_loopw [12] (EachRel w wb L) (fun i _ => L - (intOf i).toNat)
  case atStart => exact ⟨0, Nat.zero_le _, rfl, HB.out, Below.refl _ _⟩
  case round =>
    clear HB
    obtain ⟨i, hi, rfl, hB, hB1⟩ := hrel
    have hi0 : (0 : Int) ≤ (i : Int) := Int.natCast_nonneg i
    have HB := Lib.hid hB; have HB1 := Lib.hid hB1
    by_cases hlt : i < L
    case neg =>
      obtain rfl : i = L := by omega
      have hltI : ¬ (i : Int) < (i : Int) := by omega
      clear hB hB1 hi hlt
      go_wp2_with (go_at_call 8; (with_reducible refine (aw _ HB.out).mono ?_); rintro e w1 ⟨rfl, hb⟩; replace HB := Lib.hid (bthen HB.out hb); clear hb)
      go_ret
      exact ⟨rfl, HB.out⟩
    have hltI : (i : Int) < (L : Int) := Int.ofNat_lt.2 hlt
    by_cases h20 : (i : Int) < 20
    case neg =>
      clear hB hB1 hi hlt
      go_wp2_with (go_at_call 8; (with_reducible refine (aw _ HB.out).mono ?_); rintro e w1 ⟨rfl, hb⟩; replace HB := Lib.hid (bthen HB.out hb); clear hb)
      go_ret
      exact ⟨rfl, HB.out⟩
    obtain ⟨lb, lo, rfl, y0c, y1c⟩ := (HQ.out.keep hB1).2.2 i hlt
    rw [encL_at] at y0c y1c
    simp only at y0c y1c
    obtain ⟨hb1, hv, hlen⟩ := HF1.out i (by rw [HL.out]; exact hlt)
    obtain ⟨y, hy⟩ : ∃ y, cq l i = y := ⟨_, rfl⟩
    rw [hy] at y0c y1c hb1 hv hlen
    obtain ⟨r', hr'⟩ : ∃ q, (wordV word y 0).1 = q := ⟨_, rfl⟩
    rw [hr'] at hb1 hv hlen
    have hUr := wordV_U hv
    have kw := HKW.out y wr hB r' hv
    unfold WordPost at kw
    have hlr : r'.length = 4 := hlen
    rw [hlr] at kw
    have kb := fun ra rc W h h1 => HKB.out ra 4 rc r' W h h1 hUr (by decide)
    unfold IntPost at kb
    obtain ⟨b, hbb⟩ : ∃ b, bestV r' 1 1 false = b := ⟨_, rfl⟩
    rw [hbb] at kb
    have hbP : ¬ (b : Int) < (P : Int) := by
      have h5 : P ≤ bestV r' 1 1 false := hb1
      rw [hbb] at h5
      omega
    have HY := Lib.hid hy; have HJ := Lib.hid hlt
    clear hB hB1 hi hlt hy hb1 hv hlen hr' hUr hlr hbb
    generalize enc y.a = y0 at *
    generalize enc y.b = y1 at *
    go_upto_region 14 with (first
      | (go_at_call 13; (with_reducible refine kw.mono ?_); rintro e w2 ⟨hb, xa, xc, rfl, hx⟩; have HX := Lib.hid hx; replace HB := Lib.hid (bthen HB.out hb); replace HB1 := Lib.hid (bthen HB1.out hb); clear hb hx)
      | (go_at_call 10; (with_reducible refine (kb _ _ _ HB.out HX.out).mono ?_); rintro e w3 ⟨rfl, hb⟩; replace HB := Lib.hid (bthen HB.out hb); replace HB1 := Lib.hid (bthen HB1.out hb); clear hb))
    clear kw kb hbP y0c y1c
    obtain ⟨w3', hw3⟩ : ∃ W, W = w3 := ⟨_, rfl⟩
    rw [← hw3] at HB HB1 ⊢
    clear hw3
    go_loopw [15] (EachRel w wb i) (fun k _ => i - (intOf k).toNat)
    case atStart => exact ⟨0, Nat.zero_le _, rfl, HB.out, HB1.out⟩
    case round =>
      clear HB HB1
      obtain ⟨k, hk, rfl, hB, hB1⟩ := hrel
      have hk0 : (0 : Int) ≤ (k : Int) := Int.natCast_nonneg k
      by_cases hlk : k < i
      · have hlkI : (k : Int) < (i : Int) := Int.ofNat_lt.2 hlk
        have hkL : (k : Int) < (L : Int) := by omega
        have hkL2 : k < L := Nat.lt_trans hlk HJ.out
        obtain ⟨b2, o2, e2, z0c, z1c⟩ := (HQ.out.keep hB1).2.2 k hkL2
        obtain ⟨b3, o3, e3, y0c, y1c⟩ := (HQ.out.keep hB1).2.2 i HJ.out
        cases e2
        cases e3
        rw [encL_at] at z0c z1c y0c y1c
        simp only at z0c z1c y0c y1c
        have hne := HF2.out k i hlk (by rw [HL.out]; exact HJ.out)
        have e4 := eqB_enc (cq l k) (cq l i) false (decide_eq_false hne)
        have HB := Lib.hid hB; have HB1 := Lib.hid hB1; have HLK := Lib.hid hlk
        clear hB hB1 hne hlk hk hkL2
        generalize enc (cq l k).a = x0 at *
        generalize enc (cq l k).b = x1 at *
        generalize enc (cq l i).a = v0 at *
        generalize enc (cq l i).b = v1 at *
        go_upto_region 16 with fail
        replace z0c := fun q : Regrown => cell_regrown z0c q.d q.os
        replace z1c := fun q : Regrown => cell_regrown z1c q.d q.os
        replace y0c := fun q : Regrown => cell_regrown y0c q.d q.os
        replace y1c := fun q : Regrown => cell_regrown y1c q.d q.os
        rcases e4 with ⟨h0, _, _⟩ | ⟨_, h1⟩ | ⟨_, h1, h2⟩
        · cases h0
        all_goals
          refine wp_region_quiet_below (by kernel_rfl) (by kernel_rfl) ?_
          repeat (first | go_big_quiet_step (fail) | quiet_step (fail))
          refine wpQuiet_nil ?_
          rintro _ ⟨pq, rfl⟩
          have hb9 := below_regrown wr pq.d pq.os
          replace HB := Lib.hid (bthen HB.out hb9)
          replace HB1 := Lib.hid (bthen HB1.out hb9)
          clear hb9 z0c z1c y0c y1c
          go_wp2_with fail
          go_roundw
          case rel => exact ⟨k + 1, HLK.out, by go_num, HB.out, HB1.out⟩
          case measure =>
            have := HLK.out
            simp [intOf]
            omega
      · obtain rfl : k = i := by omega
        have hlkI : ¬ (k : Int) < (k : Int) := by omega
        have HB := Lib.hid hB; have HB1 := Lib.hid hB1
        clear hB hB1 hk hlk
        go_wp2_with fail
        go_roundw
        case rel => exact ⟨k + 1, HJ.out, by go_num, HB.out, HB1.out⟩
        case measure =>
          have := HJ.out
          simp [intOf]
          omega
set_option maxRecDepth 100000 in
set_option maxHeartbeats 8000000 in
theorem each_8_2 (G : World → Prop) (hA : AskCount G) (a : Option Addr) (c : Nat) (word : QL) (dim miss : Int) (r : Nat) (w : World) (hG : G w) (hw : QRowA w a 8 word) (hu : UsR word) (hc : 8 ≤ c) (hm0 : 0 ≤ miss) (hm1 : miss ≤ 255) (e1 : dim.tmod 2 = 1) (e2 : miss.tmod 2 = (r : Int)) (hr : r < 2) :
    Calls Tryd.prog 5 #[.slice a 8 c, .int .u8 dim, .int .u8 miss] w fun e w' => e = .returned (.bool true) ∧ Below w.heap.size w w' := by
  have HB := Lib.hid (Below.refl w.heap.size w)
  have aw := fun W (h : Below w.heap.size w W) => cntawake G hA W (hA.keep hG h)
  have ks := fun W => cfits a 8 c 4 true W (by decide)
  obtain ⟨P, hP⟩ : ∃ P, 4 - r = P := ⟨_, rfl⟩
  have hP1 : 2 < P := by omega
  have hP2 : P ≤ 4 := by omega
  have g1 : IntKind.i64.wrap (4 - (r : Int)) = (P : Int) := by rw [IntWalk.i64_in _ (by omega)]; omega
  have g2 : wrap64 (4 - (r : Int)) = (P : Int) := by rw [IntWalk.wrap64_in _ (by omega)]; omega
  obtain ⟨l, hl⟩ : ∃ l, (badV word 0 2 (P : Int)).1 = l := ⟨_, rfl⟩
  obtain ⟨F1, F2'⟩ := each_facts (m := 2) (d := 2) (s := P) hw.1 (by decide) (by decide) hP1 hP2 hl
  have k1 := fun W (h : Below w.heap.size w W) => hA.bad a 8 c word 0 2 (P : Int) W (hw.keep h) hu (by decide) hc (by decide) (by unfold I64; decide) (by decide) (by unfold I64; omega) (hA.keep hG h)
  unfold BadPost at k1
  obtain ⟨all, hall⟩ : ∃ b, (badV word 0 2 (P : Int)).2 = b := ⟨_, rfl⟩
  rw [hl, hall] at k1
  have kw := fun y W (h : Below w.heap.size w W) (r' : QL) (hy : wordV word y 0 = (r', true)) => rfword_is a 8 c word (enc y.a) (enc y.b) 0 y r' true W (hw.keep h) hu (rep_enc y) hy
  have kb := fun ra rn rc (r' : QL) W (h : Below w.heap.size w W) (h1 : QRowA W ra rn r') (h2 : UsR r') (h3 : rn ≤ 16) => hA.best ra rn rc r' 1 2 false W h1 h2 h3 (by decide) (by decide) (hA.keep hG h)
  have HF1 := Lib.hid F1; have HF2 := Lib.hid F2'; have HKW := Lib.hid kw; have HKB := Lib.hid kb; have HP := Lib.hid (And.intro hP1 hP2)
  clear hA hG hw hu hc hP hP1 hP2 hl hall F1 F2' kw kb
  obtain ⟨L, hL⟩ : ∃ L, l.length = L := ⟨_, rfl⟩
  have HL := Lib.hid hL
  rw [hL] at k1
  clear hL
  have hm : wrap64 miss = miss := IntWalk.wrap64_in _ (by omega)
  go_enter Tryd.func5, Tryd.ntmps5
  go_upto_region 6 with (go_at_call 7; (with_reducible refine (ks _).mono ?_); rintro e w1 ⟨rfl, hb⟩; replace HB := Lib.hid (bthen HB.out hb); clear hb)
  clear e1 e2 hm ks hm0 hm1 g1 g2 hr
  go_upto_region 8 with (go_at_call 9; (with_reducible refine (k1 _ HB.out).mono ?_); rintro e wb ⟨hb, ba, bc, rfl, hq⟩; have HQ := Lib.hid hq; replace HB := Lib.hid (bthen HB.out hb); clear hb hq)
  clear k1
  go_loopw [12] (EachRel w wb L) (fun i _ => L - (intOf i).toNat)
  case atStart => exact ⟨0, Nat.zero_le _, rfl, HB.out, Below.refl _ _⟩
  case round =>
    clear HB
    obtain ⟨i, hi, rfl, hB, hB1⟩ := hrel
    have hi0 : (0 : Int) ≤ (i : Int) := Int.natCast_nonneg i
    have HB := Lib.hid hB; have HB1 := Lib.hid hB1
    by_cases hlt : i < L
    case neg =>
      obtain rfl : i = L := by omega
      have hltI : ¬ (i : Int) < (i : Int) := by omega
      clear hB hB1 hi hlt
      go_wp2_with (go_at_call 8; (with_reducible refine (aw _ HB.out).mono ?_); rintro e w1 ⟨rfl, hb⟩; replace HB := Lib.hid (bthen HB.out hb); clear hb)
      go_ret
      exact ⟨rfl, HB.out⟩
    have hltI : (i : Int) < (L : Int) := Int.ofNat_lt.2 hlt
    by_cases h20 : (i : Int) < 20
    case neg =>
      clear hB hB1 hi hlt
      go_wp2_with (go_at_call 8; (with_reducible refine (aw _ HB.out).mono ?_); rintro e w1 ⟨rfl, hb⟩; replace HB := Lib.hid (bthen HB.out hb); clear hb)
      go_ret
      exact ⟨rfl, HB.out⟩
    obtain ⟨lb, lo, rfl, y0c, y1c⟩ := (HQ.out.keep hB1).2.2 i hlt
    rw [encL_at] at y0c y1c
    simp only at y0c y1c
    obtain ⟨hb1, hv, hlen⟩ := HF1.out i (by rw [HL.out]; exact hlt)
    obtain ⟨y, hy⟩ : ∃ y, cq l i = y := ⟨_, rfl⟩
    rw [hy] at y0c y1c hb1 hv hlen
    obtain ⟨r', hr'⟩ : ∃ q, (wordV word y 0).1 = q := ⟨_, rfl⟩
    rw [hr'] at hb1 hv hlen
    have hUr := wordV_U hv
    have kw := HKW.out y wr hB r' hv
    unfold WordPost at kw
    have hlr : r'.length = 4 := hlen
    rw [hlr] at kw
    have kb := fun ra rc W h h1 => HKB.out ra 4 rc r' W h h1 hUr (by decide)
    unfold IntPost at kb
    obtain ⟨b, hbb⟩ : ∃ b, bestV r' 1 2 false = b := ⟨_, rfl⟩
    rw [hbb] at kb
    have hbP : ¬ (b : Int) < (P : Int) := by
      have h5 : P ≤ bestV r' 1 2 false := hb1
      rw [hbb] at h5
      omega
    have HY := Lib.hid hy; have HJ := Lib.hid hlt
    clear hB hB1 hi hlt hy hb1 hv hlen hr' hUr hlr hbb
    generalize enc y.a = y0 at *
    generalize enc y.b = y1 at *
    go_upto_region 14 with (first
      | (go_at_call 13; (with_reducible refine kw.mono ?_); rintro e w2 ⟨hb, xa, xc, rfl, hx⟩; have HX := Lib.hid hx; replace HB := Lib.hid (bthen HB.out hb); replace HB1 := Lib.hid (bthen HB1.out hb); clear hb hx)
      | (go_at_call 10; (with_reducible refine (kb _ _ _ HB.out HX.out).mono ?_); rintro e w3 ⟨rfl, hb⟩; replace HB := Lib.hid (bthen HB.out hb); replace HB1 := Lib.hid (bthen HB1.out hb); clear hb))
    clear kw kb hbP y0c y1c
    obtain ⟨w3', hw3⟩ : ∃ W, W = w3 := ⟨_, rfl⟩
    rw [← hw3] at HB HB1 ⊢
    clear hw3
    go_loopw [15] (EachRel w wb i) (fun k _ => i - (intOf k).toNat)
    case atStart => exact ⟨0, Nat.zero_le _, rfl, HB.out, HB1.out⟩
    case round =>
      clear HB HB1
      obtain ⟨k, hk, rfl, hB, hB1⟩ := hrel
      have hk0 : (0 : Int) ≤ (k : Int) := Int.natCast_nonneg k
      by_cases hlk : k < i
      · have hlkI : (k : Int) < (i : Int) := Int.ofNat_lt.2 hlk
        have hkL : (k : Int) < (L : Int) := by omega
        have hkL2 : k < L := Nat.lt_trans hlk HJ.out
        obtain ⟨b2, o2, e2, z0c, z1c⟩ := (HQ.out.keep hB1).2.2 k hkL2
        obtain ⟨b3, o3, e3, y0c, y1c⟩ := (HQ.out.keep hB1).2.2 i HJ.out
        cases e2
        cases e3
        rw [encL_at] at z0c z1c y0c y1c
        simp only at z0c z1c y0c y1c
        have hne := HF2.out k i hlk (by rw [HL.out]; exact HJ.out)
        have e4 := eqB_enc (cq l k) (cq l i) false (decide_eq_false hne)
        have HB := Lib.hid hB; have HB1 := Lib.hid hB1; have HLK := Lib.hid hlk
        clear hB hB1 hne hlk hk hkL2
        generalize enc (cq l k).a = x0 at *
        generalize enc (cq l k).b = x1 at *
        generalize enc (cq l i).a = v0 at *
        generalize enc (cq l i).b = v1 at *
        go_upto_region 16 with fail
        replace z0c := fun q : Regrown => cell_regrown z0c q.d q.os
        replace z1c := fun q : Regrown => cell_regrown z1c q.d q.os
        replace y0c := fun q : Regrown => cell_regrown y0c q.d q.os
        replace y1c := fun q : Regrown => cell_regrown y1c q.d q.os
        rcases e4 with ⟨h0, _, _⟩ | ⟨_, h1⟩ | ⟨_, h1, h2⟩
        · cases h0
        all_goals
          refine wp_region_quiet_below (by kernel_rfl) (by kernel_rfl) ?_
          repeat (first | go_big_quiet_step (fail) | quiet_step (fail))
          refine wpQuiet_nil ?_
          rintro _ ⟨pq, rfl⟩
          have hb9 := below_regrown wr pq.d pq.os
          replace HB := Lib.hid (bthen HB.out hb9)
          replace HB1 := Lib.hid (bthen HB1.out hb9)
          clear hb9 z0c z1c y0c y1c
          go_wp2_with fail
          go_roundw
          case rel => exact ⟨k + 1, HLK.out, by go_num, HB.out, HB1.out⟩
          case measure =>
            have := HLK.out
            simp [intOf]
            omega
      · obtain rfl : k = i := by omega
        have hlkI : ¬ (k : Int) < (k : Int) := by omega
        have HB := Lib.hid hB; have HB1 := Lib.hid hB1
        clear hB hB1 hk hlk
        go_wp2_with fail
        go_roundw
        case rel => exact ⟨k + 1, HJ.out, by go_num, HB.out, HB1.out⟩
        case measure =>
          have := HJ.out
          simp [intOf]
          omega
set_option maxRecDepth 100000 in
set_option maxHeartbeats 8000000 in
theorem each_16_1 (G : World → Prop) (hA : AskCount G) (a : Option Addr) (c : Nat) (word : QL) (dim miss : Int) (r : Nat) (w : World) (hG : G w) (hw : QRowA w a 16 word) (hu : UsR word) (hc : 16 ≤ c) (hm0 : 0 ≤ miss) (hm1 : miss ≤ 255) (e1 : dim.tmod 2 = 0) (e2 : miss.tmod 7 = (r : Int)) (hr : r < 7) :
    Calls Tryd.prog 5 #[.slice a 16 c, .int .u8 dim, .int .u8 miss] w fun e w' => e = .returned (.bool true) ∧ Below w.heap.size w w' := by
  have HB := Lib.hid (Below.refl w.heap.size w)
  have aw := fun W (h : Below w.heap.size w W) => cntawake G hA W (hA.keep hG h)
  have ks := fun W => cfits a 16 c 2 true W (by decide)
  obtain ⟨P, hP⟩ : ∃ P, 8 - r = P := ⟨_, rfl⟩
  have hP1 : 1 < P := by omega
  have hP2 : P ≤ 8 := by omega
  have g1 : IntKind.i64.wrap (8 - (r : Int)) = (P : Int) := by rw [IntWalk.i64_in _ (by omega)]; omega
  have g2 : wrap64 (8 - (r : Int)) = (P : Int) := by rw [IntWalk.wrap64_in _ (by omega)]; omega
  obtain ⟨l, hl⟩ : ∃ l, (badV word 0 1 (P : Int)).1 = l := ⟨_, rfl⟩
  obtain ⟨F1, F2'⟩ := each_facts (m := 3) (d := 1) (s := P) hw.1 (by decide) (by decide) hP1 hP2 hl
  have k1 := fun W (h : Below w.heap.size w W) => hA.bad a 16 c word 0 1 (P : Int) W (hw.keep h) hu (by decide) hc (by decide) (by unfold I64; decide) (by decide) (by unfold I64; omega) (hA.keep hG h)
  unfold BadPost at k1
  obtain ⟨all, hall⟩ : ∃ b, (badV word 0 1 (P : Int)).2 = b := ⟨_, rfl⟩
  rw [hl, hall] at k1
  have kw := fun y W (h : Below w.heap.size w W) (r' : QL) (hy : wordV word y 0 = (r', true)) => rfword_is a 16 c word (enc y.a) (enc y.b) 0 y r' true W (hw.keep h) hu (rep_enc y) hy
  have kb := fun ra rn rc (r' : QL) W (h : Below w.heap.size w W) (h1 : QRowA W ra rn r') (h2 : UsR r') (h3 : rn ≤ 16) => hA.best ra rn rc r' 1 1 false W h1 h2 h3 (by decide) (by decide) (hA.keep hG h)
  have HF1 := Lib.hid F1; have HF2 := Lib.hid F2'; have HKW := Lib.hid kw; have HKB := Lib.hid kb; have HP := Lib.hid (And.intro hP1 hP2)
  clear hA hG hw hu hc hP hP1 hP2 hl hall F1 F2' kw kb
  obtain ⟨L, hL⟩ : ∃ L, l.length = L := ⟨_, rfl⟩
  have HL := Lib.hid hL
  rw [hL] at k1
  clear hL
  have hm : wrap64 miss = miss := IntWalk.wrap64_in _ (by omega)
  go_enter Tryd.func5, Tryd.ntmps5
  go_upto_region 6 with (go_at_call 7; (with_reducible refine (ks _).mono ?_); rintro e w1 ⟨rfl, hb⟩; replace HB := Lib.hid (bthen HB.out hb); clear hb)
  clear e1 e2 hm ks hm0 hm1 g1 g2 hr
  go_upto_region 8 with (go_at_call 9; (with_reducible refine (k1 _ HB.out).mono ?_); rintro e wb ⟨hb, ba, bc, rfl, hq⟩; have HQ := Lib.hid hq; replace HB := Lib.hid (bthen HB.out hb); clear hb hq)
  clear k1
  go_loopw [12] (EachRel w wb L) (fun i _ => L - (intOf i).toNat)
  case atStart => exact ⟨0, Nat.zero_le _, rfl, HB.out, Below.refl _ _⟩
  case round =>
    clear HB
    obtain ⟨i, hi, rfl, hB, hB1⟩ := hrel
    have hi0 : (0 : Int) ≤ (i : Int) := Int.natCast_nonneg i
    have HB := Lib.hid hB; have HB1 := Lib.hid hB1
    by_cases hlt : i < L
    case neg =>
      obtain rfl : i = L := by omega
      have hltI : ¬ (i : Int) < (i : Int) := by omega
      clear hB hB1 hi hlt
      go_wp2_with (go_at_call 8; (with_reducible refine (aw _ HB.out).mono ?_); rintro e w1 ⟨rfl, hb⟩; replace HB := Lib.hid (bthen HB.out hb); clear hb)
      go_ret
      exact ⟨rfl, HB.out⟩
    have hltI : (i : Int) < (L : Int) := Int.ofNat_lt.2 hlt
    by_cases h20 : (i : Int) < 20
    case neg =>
      clear hB hB1 hi hlt
      go_wp2_with (go_at_call 8; (with_reducible refine (aw _ HB.out).mono ?_); rintro e w1 ⟨rfl, hb⟩; replace HB := Lib.hid (bthen HB.out hb); clear hb)
      go_ret
      exact ⟨rfl, HB.out⟩
    obtain ⟨lb, lo, rfl, y0c, y1c⟩ := (HQ.out.keep hB1).2.2 i hlt
    rw [encL_at] at y0c y1c
    simp only at y0c y1c
    obtain ⟨hb1, hv, hlen⟩ := HF1.out i (by rw [HL.out]; exact hlt)
    obtain ⟨y, hy⟩ : ∃ y, cq l i = y := ⟨_, rfl⟩
    rw [hy] at y0c y1c hb1 hv hlen
    obtain ⟨r', hr'⟩ : ∃ q, (wordV word y 0).1 = q := ⟨_, rfl⟩
    rw [hr'] at hb1 hv hlen
    have hUr := wordV_U hv
    have kw := HKW.out y wr hB r' hv
    unfold WordPost at kw
    have hlr : r'.length = 8 := hlen
    rw [hlr] at kw
    have kb := fun ra rc W h h1 => HKB.out ra 8 rc r' W h h1 hUr (by decide)
    unfold IntPost at kb
    obtain ⟨b, hbb⟩ : ∃ b, bestV r' 1 1 false = b := ⟨_, rfl⟩
    rw [hbb] at kb
    have hbP : ¬ (b : Int) < (P : Int) := by
      have h5 : P ≤ bestV r' 1 1 false := hb1
      rw [hbb] at h5
      omega
    have HY := Lib.hid hy; have HJ := Lib.hid hlt
    clear hB hB1 hi hlt hy hb1 hv hlen hr' hUr hlr hbb
    generalize enc y.a = y0 at *
    generalize enc y.b = y1 at *
    go_upto_region 14 with (first
      | (go_at_call 13; (with_reducible refine kw.mono ?_); rintro e w2 ⟨hb, xa, xc, rfl, hx⟩; have HX := Lib.hid hx; replace HB := Lib.hid (bthen HB.out hb); replace HB1 := Lib.hid (bthen HB1.out hb); clear hb hx)
      | (go_at_call 10; (with_reducible refine (kb _ _ _ HB.out HX.out).mono ?_); rintro e w3 ⟨rfl, hb⟩; replace HB := Lib.hid (bthen HB.out hb); replace HB1 := Lib.hid (bthen HB1.out hb); clear hb))
    clear kw kb hbP y0c y1c
    obtain ⟨w3', hw3⟩ : ∃ W, W = w3 := ⟨_, rfl⟩
    rw [← hw3] at HB HB1 ⊢
    clear hw3
    go_loopw [15] (EachRel w wb i) (fun k _ => i - (intOf k).toNat)
    case atStart => exact ⟨0, Nat.zero_le _, rfl, HB.out, HB1.out⟩
    case round =>
      clear HB HB1
      obtain ⟨k, hk, rfl, hB, hB1⟩ := hrel
      have hk0 : (0 : Int) ≤ (k : Int) := Int.natCast_nonneg k
      by_cases hlk : k < i
      · have hlkI : (k : Int) < (i : Int) := Int.ofNat_lt.2 hlk
        have hkL : (k : Int) < (L : Int) := by omega
        have hkL2 : k < L := Nat.lt_trans hlk HJ.out
        obtain ⟨b2, o2, e2, z0c, z1c⟩ := (HQ.out.keep hB1).2.2 k hkL2
        obtain ⟨b3, o3, e3, y0c, y1c⟩ := (HQ.out.keep hB1).2.2 i HJ.out
        cases e2
        cases e3
        rw [encL_at] at z0c z1c y0c y1c
        simp only at z0c z1c y0c y1c
        have hne := HF2.out k i hlk (by rw [HL.out]; exact HJ.out)
        have e4 := eqB_enc (cq l k) (cq l i) false (decide_eq_false hne)
        have HB := Lib.hid hB; have HB1 := Lib.hid hB1; have HLK := Lib.hid hlk
        clear hB hB1 hne hlk hk hkL2
        generalize enc (cq l k).a = x0 at *
        generalize enc (cq l k).b = x1 at *
        generalize enc (cq l i).a = v0 at *
        generalize enc (cq l i).b = v1 at *
        go_upto_region 16 with fail
        replace z0c := fun q : Regrown => cell_regrown z0c q.d q.os
        replace z1c := fun q : Regrown => cell_regrown z1c q.d q.os
        replace y0c := fun q : Regrown => cell_regrown y0c q.d q.os
        replace y1c := fun q : Regrown => cell_regrown y1c q.d q.os
        rcases e4 with ⟨h0, _, _⟩ | ⟨_, h1⟩ | ⟨_, h1, h2⟩
        · cases h0
        all_goals
          refine wp_region_quiet_below (by kernel_rfl) (by kernel_rfl) ?_
          repeat (first | go_big_quiet_step (fail) | quiet_step (fail))
          refine wpQuiet_nil ?_
          rintro _ ⟨pq, rfl⟩
          have hb9 := below_regrown wr pq.d pq.os
          replace HB := Lib.hid (bthen HB.out hb9)
          replace HB1 := Lib.hid (bthen HB1.out hb9)
          clear hb9 z0c z1c y0c y1c
          go_wp2_with fail
          go_roundw
          case rel => exact ⟨k + 1, HLK.out, by go_num, HB.out, HB1.out⟩
          case measure =>
            have := HLK.out
            simp [intOf]
            omega
      · obtain rfl : k = i := by omega
        have hlkI : ¬ (k : Int) < (k : Int) := by omega
        have HB := Lib.hid hB; have HB1 := Lib.hid hB1
        clear hB hB1 hk hlk
        go_wp2_with fail
        go_roundw
        case rel => exact ⟨k + 1, HJ.out, by go_num, HB.out, HB1.out⟩
        case measure =>
          have := HJ.out
          simp [intOf]
          omega
set_option maxRecDepth 100000 in
set_option maxHeartbeats 8000000 in
/-- Where the word doesn't fit. -/
theorem each_no (G : World → Prop) (hA : AskCount G) (a : Option Addr) (n c : Nat) (d dim miss : Int) (w : World) (hG : G w) (e1 : dim.tmod 2 = d) (hd : d = 0 ∨ d = 1)
    (h : ¬ (fitsV n (2 * (1 + d)) = true ∧ 4 ≤ n ∧ 1 + d < ((n / 2 : Nat) : Int))) :
    Calls Tryd.prog 5 #[.slice a n c, .int .u8 dim, .int .u8 miss] w fun e w' => e = .returned (.bool true) ∧ Below w.heap.size w w' := by
  have HB := Lib.hid (Below.refl w.heap.size w)
  have aw := fun W (h : Below w.heap.size w W) => cntawake G hA W (hA.keep hG h)
  clear hA hG
  cases hf : fitsV n (2 * (1 + d))
  · clear h
    rcases hd with rfl | rfl <;>
    · have ks := fun W => cfits a n c _ false W hf
      clear hf
      simp only [Int.reduceMul, Int.reduceAdd] at ks
      go_enter Tryd.func5, Tryd.ntmps5
      go_wp2_with (first
        | (go_at_call 7; (with_reducible refine (ks _).mono ?_); rintro e w1 ⟨rfl, hb⟩; replace HB := Lib.hid (bthen HB.out hb); clear hb)
        | (go_at_call 8; (with_reducible refine (aw _ HB.out).mono ?_); rintro e w1 ⟨rfl, hb⟩; replace HB := Lib.hid (bthen HB.out hb); clear hb))
      go_ret
      exact ⟨rfl, HB.out⟩
  · have hn : n = 2 ∨ n = 4 ∨ n = 8 ∨ n = 16 := (of_decide_eq_true hf).1
    rcases hn with rfl | rfl | rfl | rfl <;> rcases hd with rfl | rfl <;> first
      | (exfalso; exact h ⟨hf, by decide, by decide⟩)
      | (exfalso; exact absurd hf (by decide))
      | (have ks := fun W => cfits a _ c _ true W hf
         clear hf h
         simp only [Int.reduceMul, Int.reduceAdd] at ks
         go_enter Tryd.func5, Tryd.ntmps5
         go_wp2_with (first
           | (go_at_call 7; (with_reducible refine (ks _).mono ?_); rintro e w1 ⟨rfl, hb⟩; replace HB := Lib.hid (bthen HB.out hb); clear hb)
           | (go_at_call 8; (with_reducible refine (aw _ HB.out).mono ?_); rintro e w1 ⟨rfl, hb⟩; replace HB := Lib.hid (bthen HB.out hb); clear hb))
         go_ret
         exact ⟨rfl, HB.out⟩)
theorem rem_nat {m : Int} {k : Nat} (hm : 0 ≤ m) (hk : 0 < k) : ∃ r : Nat, r < k ∧ m.tmod (k : Int) = (r : Int) := by
  refine ⟨(m.tmod (k : Int)).toNat, ?_, ?_⟩ <;> rw [Int.tmod_eq_emod_of_nonneg hm]
  · have h1 := Int.emod_lt_of_pos m (show (0 : Int) < k by omega)
    have h2 := Int.emod_nonneg m (show (k : Int) ≠ 0 by omega)
    omega
  · have h2 := Int.emod_nonneg m (show (k : Int) ≠ 0 by omega)
    omega
set_option maxHeartbeats 4000000 in
theorem count_each (G : World → Prop) (hA : AskCount G) (a : Option Addr) (n c : Nat) (word : QL) (dim miss : Int) (w : World) (hG : G w) (hw : QRowA w a n word) (hu : UsR word) (hc : n ≤ c) (hd : 0 ≤ dim) (hm : 0 ≤ miss) (hm1 : miss ≤ 255) :
    Calls Tryd.prog 5 #[.slice a n c, .int .u8 dim, .int .u8 miss] w fun e w' => e = .returned (.bool true) ∧ Below w.heap.size w w' := by
  have hd2 : dim.tmod 2 = 0 ∨ dim.tmod 2 = 1 := by rw [Int.tmod_eq_emod_of_nonneg hd]; omega
  by_cases h : fitsV n (2 * (1 + dim.tmod 2)) = true ∧ 4 ≤ n ∧ 1 + dim.tmod 2 < ((n / 2 : Nat) : Int)
  · obtain ⟨hf, h4, h5⟩ := h
    have hn : n = 2 ∨ n = 4 ∨ n = 8 ∨ n = 16 := (of_decide_eq_true hf).1
    rcases hd2 with e1 | e1 <;> rw [e1] at hf h5 <;> rcases hn with rfl | rfl | rfl | rfl
    · exact absurd h4 (by decide)
    · obtain ⟨r, hr, e2⟩ := rem_nat (k := 1) hm (by decide)
      exact each_4_1 G hA a c word dim miss r w hG hw hu hc hm hm1 e1 e2 hr
    · obtain ⟨r, hr, e2⟩ := rem_nat (k := 3) hm (by decide)
      exact each_8_1 G hA a c word dim miss r w hG hw hu hc hm hm1 e1 e2 hr
    · obtain ⟨r, hr, e2⟩ := rem_nat (k := 7) hm (by decide)
      exact each_16_1 G hA a c word dim miss r w hG hw hu hc hm hm1 e1 e2 hr
    · exact absurd h4 (by decide)
    · exact absurd h5 (by decide)
    · obtain ⟨r, hr, e2⟩ := rem_nat (k := 2) hm (by decide)
      exact each_8_2 G hA a c word dim miss r w hG hw hu hc hm hm1 e1 e2 hr
    · exact absurd hf (by decide)
  · exact each_no G hA a n c _ dim miss w hG rfl hd2 h
end Go.Proofs.YthfkfgjhgicfeaaDoor
