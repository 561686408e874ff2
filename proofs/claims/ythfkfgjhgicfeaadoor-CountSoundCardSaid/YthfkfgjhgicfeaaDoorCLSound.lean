/-
  The body of CountSound, where the program's calls do what is asked of them. (Written by gen_clsound.py.)
-/
import Derived.Test.YthfkfgjhgicfeaaDoorCountW
import Derived.Test.YthfkfgjhgicfeaaDoorCountFit
import Derived.Test.YthfkfgjhgicfeaaDoorCountAw
import Derived.Test.YthfkfgjhgicfeaaDoorCLEach
import Derived.BigQuiet
namespace Go.Proofs.YthfkfgjhgicfeaaDoor
open Go Go.RowKit Go.Sort Go.BigFrame
set_option linter.unusedVariables false

theorem sound_facts {word fin : QL} {m d s k bl : Nat} (h : word.length = 2 ^ (m + 1)) (h1 : 1 ≤ m) (h3 : m ≤ 3) (hds : d < s) (hs : s ≤ 2 ^ m) (hkb : k + bl = m + 1) (hk : 1 ≤ k) (hk2 : k ≤ 10) (hbl : 1 ≤ bl) (hbl2 : bl ≤ 4) (hf : fin.length = 2 ^ (k - 1)) (hd : d = 2 ^ (k - 1)) (y : F2) {l : List F2} {all : Bool} (hl : badV word 0 (d : Int) (s : Int) = (l, all)) :
    acceptsV (k : Int) (bl : Int) 1 [(enc y.a, enc y.b)] [word] fin ≤ 2 ^ m ∧ (¬ y ∈ l → all = false → acceptsV (k : Int) (bl : Int) 1 [(enc y.a, enc y.b)] [word] fin < s) := by
  have hB : BadW word m d s l all := ⟨h, h1, h3, hds, hs, hl⟩
  refine ⟨?_, fun hy ha => hB.sound hkb hk hk2 hbl hbl2 hf hd (p := (enc y.a, enc y.b)) (by rw [show toQ (enc y.a, enc y.b) = y from toQ_encP y]; exact hy) ha⟩
  have := accepts_le (k : Int) (bl : Int) 1 [(enc y.a, enc y.b)] [word] fin
  rwa [show ((k : Int) + (bl : Int) - 1).toNat = m by omega] at this
theorem tabq_any {W : World} {a : Option Addr} {n c : Nat} {word : QL} {t : TypeId} (h : QRowA W a n word) : TabQ (W.alloc (.cells #[.slice a n c] t)) (some ⟨W.heap.size, 0, none⟩) 1 [word] := by
  obtain rfl := h.1
  exact ⟨rfl, by unfold maxLen; omega, fun k hk => ⟨W.heap.size, 0, rfl, a, c, by
    obtain rfl : k = 0 := by omega
    simp [go_sem], by
    obtain rfl : k = 0 := by omega
    exact h.keep ((Below.refl _ _).alloc (Nat.le_refl _) _)⟩⟩
def SdLog (w w0 : World) (M : Nat) (i : Value) (W : World) : Prop := ∃ k : Nat, k ≤ M ∧ i = .int .i64 (k : Int) ∧ Below w.heap.size w W ∧ Below w0.heap.size w0 W
def SdRel (w w1 : World) (l : List F2) (y : F2) (i : Value) (W : World) : Prop := ∃ k : Nat, k ≤ l.length ∧ i = .int .i64 (k : Int) ∧ Below w.heap.size w W ∧ Below w1.heap.size w1 W ∧ ∀ j, j < k → cq l j ≠ y
theorem not_mem_cq {l : List F2} {y : F2} (h : ∀ j, j < l.length → cq l j ≠ y) : ¬ y ∈ l := fun hm => by
  obtain ⟨j, hj, e⟩ := List.mem_iff_getElem.1 hm
  exact h j hj (by rw [← e]; simp [cq, List.getD, hj])
set_option maxRecDepth 100000 in
set_option maxHeartbeats 8000000 in
theorem sound_1_4 (G : World → Prop) (hA : AskCount G) (a : Option Addr) (c : Nat) (word : QL) (fa : Option Addr) (fc : Nat) (fin : QL) (y0 y1 kk miss : Int) (r : Nat) (w : World) (hG : G w) (hw : QRowA w a 4 word) (hu : UsR word) (hc : 4 ≤ c) (hf : QRowA w fa 1 fin) (hfu : UsR fin) (hy0 : U y0) (hy1 : U y1) (hm0 : 0 ≤ miss) (hm1 : miss ≤ 255) (e1 : kk.tmod 2 = 0) (e2 : miss.tmod 1 = (r : Int)) (hr : r < 1) :
    Calls Tryd.prog 4 #[.slice a 4 c, .slice fa 1 fc, .agg #[.int .u64 y0, .int .u64 y1, .int .u8 kk, .int .u8 miss]] w fun e w' => e = .returned (.bool true) ∧ Below w.heap.size w w' := by
  have HB := Lib.hid (Below.refl w.heap.size w)
  have aw := fun W (h : Below w.heap.size w W) => cntawake G hA W (hA.keep hG h)
  have ks := fun W => cfits a 4 c 2 true W (by decide)
  obtain ⟨P, hP⟩ : ∃ P, 2 - r = P := ⟨_, rfl⟩
  have hP1 : 1 < P := by omega
  have hP2 : P ≤ 2 := by omega
  have g1 : IntKind.i64.wrap (2 - (r : Int)) = (P : Int) := by rw [IntWalk.i64_in _ (by omega)]; omega
  have g2 : wrap64 (2 - (r : Int)) = (P : Int) := by rw [IntWalk.wrap64_in _ (by omega)]; omega
  obtain ⟨l, all, hl⟩ : ∃ l all, badV word 0 1 (P : Int) = (l, all) := ⟨_, _, rfl⟩
  obtain ⟨y, hy⟩ : ∃ y : F2, (⟨toF y0, toF y1⟩ : F2) = y := ⟨_, rfl⟩
  have ry : Rep y0 y1 y := by rw [← hy]; exact rep_raw hy0 hy1
  obtain ⟨F1, F2'⟩ := sound_facts (fin := fin) (m := 1) (d := 1) (s := P) (k := 1) (bl := 1) hw.1 (by decide) (by decide) hP1 hP2 (by decide) (by decide) (by decide) (by decide) (by decide) hf.1 (by decide) y hl
  have k1 := fun W (h : Below w.heap.size w W) => hA.bad a 4 c word 0 1 (P : Int) W (hw.keep h) hu (by decide) hc (by decide) (by unfold I64; decide) (by decide) (by unfold I64; omega) (hA.keep hG h)
  unfold BadPost at k1
  rw [hl] at k1
  have d1 := fun W => radd_q y0 y1 0 0 y 0 y ry rep_zero (F2.add_zero y) W
  have k3 := fun W ba ta (h : Below w.heap.size w W) (h1 : QRowA W ba 1 [(enc y.a, enc y.b)]) (h2 : TabQ W ta 1 [word]) => hA.accepts 1 1 1 1 0 ba 1 1 [(enc y.a, enc y.b)] ta 1 1 [word] fa 1 fc fin W (by decide) (by decide) (by unfold I64; decide) h1 (fun n hn => by rw [List.mem_singleton.1 hn]; exact ⟨enc_U _, enc_U _⟩) h2 (fun r' hr' => by rw [List.mem_singleton.1 hr']; exact hu) (by decide) (fun r' hr' => by rw [List.mem_singleton.1 hr', hw.1]; decide) (hf.keep h) hfu (hA.keep hG h)
  unfold IntPost at k3
  obtain ⟨AV, hAV⟩ : ∃ q, acceptsV 1 1 1 [(enc y.a, enc y.b)] [word] fin = q := ⟨_, rfl⟩
  rw [show acceptsV ((1 : Nat) : Int) ((1 : Nat) : Int) 1 [(enc y.a, enc y.b)] [word] fin = AV from hAV] at F1 F2'
  rw [hAV] at k3
  have HF1 := Lib.hid F1; have HF2 := Lib.hid F2'; have HP := Lib.hid (And.intro hP1 hP2); have HK3 := Lib.hid k3; have HW := Lib.hid hw
  clear hA hG hw hu hc hf hfu hy0 hy1 hP hP1 hP2 hl F1 F2' k3 hAV hy ry
  obtain ⟨L, hL⟩ : ∃ L, l.length = L := ⟨_, rfl⟩
  have HL := Lib.hid hL
  simp only [hL] at k1
  clear hL
  have hm : wrap64 miss = miss := IntWalk.wrap64_in _ (by omega)
  go_enter Tryd.func4, Tryd.ntmps4
  go_upto_region 1 with fail
  obtain ⟨g, hg⟩ : ∃ g, w.heap.size = g := ⟨_, rfl⟩
  refine wp_gen (fun W => Below w.heap.size w W ∧ (W.cell? ⟨g, 0, none⟩ = some (.int .u64 y0) ∧ W.cell? ⟨g, 1, none⟩ = some (.int .u64 y1)) ∧ W.cell? ⟨g, 2, none⟩ = some (.int .u8 kk) ∧ W.cell? ⟨g, 3, none⟩ = some (.int .u8 miss)) ⟨(Below.refl _ _).alloc (Nat.le_refl _) _, ⟨by subst hg; simp [go_sem], by subst hg; simp [go_sem]⟩, by subst hg; simp [go_sem], by subst hg; simp [go_sem]⟩ ?_
  rintro w0 ⟨hB0, hy01, c2, c3⟩
  simp only [hg]
  replace HB := Lib.hid hB0
  have HY01 := Lib.hid hy01; have HC3 := Lib.hid c3
  have HZ := Lib.hid (Below.refl w0.heap.size w0)
  clear hB0 hg hy01 c3
  go_upto_region 5 with (go_at_call 7; (with_reducible refine (ks _).mono ?_); rintro e w1 ⟨rfl, hb⟩; replace HB := Lib.hid (bthen HB.out hb); replace c2 := bkeep hb c2; replace HZ := Lib.hid (bthen HZ.out hb); clear hb)
  clear ks e1 c2
  go_loopw [8] (SdLog w w0 2) (fun i _ => 2 - (intOf i).toNat)
  case atStart => exact ⟨0, by decide, rfl, HB.out, HZ.out⟩
  case round =>
    clear HB HZ
    obtain ⟨q, hq, rfl, hB, hZ⟩ := hrel
    obtain rfl | rfl | rfl : q = 0 ∨ q = 1 ∨ q = 2 := by omega
    · have HB := Lib.hid hB; have HZ := Lib.hid hZ
      clear hB hZ
      go_wp2_with fail
      go_roundw
      case rel => exact ⟨1, by decide, rfl, HB.out, HZ.out⟩
      case measure => simp [intOf]
    · have HB := Lib.hid hB; have HZ := Lib.hid hZ
      clear hB hZ
      go_wp2_with fail
      go_roundw
      case rel => exact ⟨2, by decide, rfl, HB.out, HZ.out⟩
      case measure => simp [intOf]
    · have HB := Lib.hid hB; have HZ := Lib.hid hZ
      have c3 := bkeep hZ HC3.out
      clear hB hZ
      have hMM : ((2 : Nat) : Int) = 2 := rfl
      simp only [hMM]
      go_upto_region 9 with fail
      clear e2 hm hm0 hm1 g1 g2 hr c3 hMM
      go_upto_region 10 with (go_at_call 9; (with_reducible refine (k1 _ HB.out).mono ?_); rintro e wb ⟨hb, ba, bc, rfl, hq⟩; have HQ := Lib.hid hq; replace HB := Lib.hid (bthen HB.out hb); replace HZ := Lib.hid (bthen HZ.out hb); clear hb hq)
      clear k1
      go_upto_region 11 with fail
      obtain ⟨gp, hgp⟩ : ∃ q, wb.heap.size = q := ⟨_, rfl⟩
      have hal : Below wb.heap.size wb (wb.alloc (.cells #[.int .i64 1, .int .i64 1, .int .i64 1, .int .i64 0] 36)) := (Below.refl _ _).alloc (Nat.le_refl _) _
      refine wp_gen (fun W => Below w.heap.size w W ∧ Below w0.heap.size w0 W ∧ QRowA W ba L (encL l) ∧ RjBox W gp 1 1 1 0) ⟨bthen HB.out hal, bthen HZ.out hal, HQ.out.keep hal, by subst hgp; simp [RjBox, go_sem]⟩ ?_
      clear HB HZ HQ hal
      rintro wp ⟨hB, hZ, hQ, hP⟩
      simp only [hgp]
      have HB := Lib.hid hB; have HZ := Lib.hid hZ; have HQ := Lib.hid hQ; have HPB := Lib.hid hP
      obtain ⟨p0, p1, p2, p3⟩ := hP
      have b0 := bkeep hZ HY01.out.1
      have b1 := bkeep hZ HY01.out.2
      clear hB hZ hQ hgp
      go_upto_region 14 with (go_at_call 11; (with_reducible refine (d1 _).mono ?_); rintro e wd ⟨rfl, hb⟩; replace HB := Lib.hid (bthen HB.out hb); replace HZ := Lib.hid (bthen HZ.out hb); replace HQ := Lib.hid (HQ.out.keep hb); replace HPB := Lib.hid (HPB.out.keep hb); clear hb)
      obtain ⟨gb, hgb⟩ : ∃ q, wd.heap.size = q := ⟨_, rfl⟩
      refine wp_gen (fun W => Below w.heap.size w W ∧ Below w0.heap.size w0 W ∧ QRowA W ba L (encL l) ∧ RjBox W gp 1 1 1 0 ∧ Duo W gb (.int .u64 (enc y.a)) (.int .u64 (enc y.b)))
        ⟨HB.out.alloc HB.out.size _, HZ.out.alloc HZ.out.size _, HQ.out.keep ((Below.refl _ _).alloc (Nat.le_refl _) _), HPB.out.keep ((Below.refl _ _).alloc (Nat.le_refl _) _), by rw [← hgb]; simp [Duo, go_sem]⟩ ?_
      clear HB HZ HQ HPB p0 p1 p2 p3 b0 b1 d1
      rintro w5 ⟨hB, hZ, hQ, hP, hD⟩
      simp only [hgb]
      have HB := Lib.hid hB; have HQ := Lib.hid hQ; have HD := Lib.hid hD
      obtain ⟨p0, p1, p2, p3⟩ := hP
      obtain ⟨v0, v1, _, _⟩ := hD
      have hal1 : Below w5.heap.size w5 (w5.alloc (.cells #[.int .u64 (enc y.a), .int .u64 (enc y.b)] 31)) := (Below.refl _ _).alloc (Nat.le_refl _) _
      have kA := HK3.out ((w5.alloc (.cells #[.int .u64 (enc y.a), .int .u64 (enc y.b)] 31)).alloc (.cells #[.slice a 4 c] 22)) (some ⟨w5.heap.size, 0, none⟩) (some ⟨w5.heap.size + 1, 0, none⟩)
        (bthen (bthen hB hal1) ((Below.refl _ _).alloc (Nat.le_refl _) _)) ((cq_one w5 _ _ _).keep ((Below.refl _ _).alloc (Nat.le_refl _) _))
        (by
          have := tabq_any (t := 22) (c := c) (HW.out.keep (bthen hB hal1))
          rwa [show (w5.alloc (.cells #[.int .u64 (enc y.a), .int .u64 (enc y.b)] 31)).heap.size = w5.heap.size + 1 by simp] at this)
      have HAL := Lib.hid (bthen hal1 ((Below.refl _ _).alloc (Nat.le_refl _) (.cells #[.slice a 4 c] 22)))
      clear hB hZ hQ hgb hal1
      go_upto_region 15 with (go_at_call 12; (with_reducible refine kA.mono ?_); rintro e w6 ⟨rfl, hb⟩; replace HAL := Lib.hid (bthen HAL.out hb); clear hb)
      clear kA p0 p1 p2 p3 v0 v1
      replace HB := Lib.hid (bthen HB.out HAL.out)
      replace HQ := Lib.hid (HQ.out.keep HAL.out)
      replace HD := Lib.hid (HD.out.keep HAL.out)
      have HB1 := Lib.hid (Below.refl w6.heap.size w6)
      clear HAL
      go_upto_region 16 with fail
      go_loopw [17] (SdRel w w6 l y) (fun i _ => L - (intOf i).toNat)
      case atStart => exact ⟨0, Nat.zero_le _, rfl, HB.out, HB1.out, fun j hj => absurd hj (Nat.not_lt_zero j)⟩
      case round =>
        clear HB HB1
        obtain ⟨i, hi, rfl, hB, hB1, hne⟩ := hrel
        rw [HL.out] at hi
        have hi0 : (0 : Int) ≤ (i : Int) := Int.natCast_nonneg i
        have HB := Lib.hid hB; have HB1 := Lib.hid hB1; have HNE := Lib.hid hne
        by_cases hlt : i < L
        case neg =>
          obtain rfl : i = L := by omega
          have hltI : ¬ (i : Int) < (i : Int) := by omega
          have hny := not_mem_cq (l := l) (y := y) (fun j hj => hne j (by rw [HL.out] at hj; exact hj))
          cases all
          · have hA2 := HF2.out hny rfl
            have hA3 : (AV : Int) < (P : Int) := Int.ofNat_lt.2 hA2
            clear hB hB1 hi hlt hne hny hA2
            go_wp2_with (go_at_call 8; (with_reducible refine (aw _ HB.out).mono ?_); rintro e w1 ⟨rfl, hb⟩; replace HB := Lib.hid (bthen HB.out hb); clear hb)
            go_ret
            exact ⟨rfl, HB.out⟩
          · clear hB hB1 hi hlt hne hny
            go_wp2_with (go_at_call 8; (with_reducible refine (aw _ HB.out).mono ?_); rintro e w1 ⟨rfl, hb⟩; replace HB := Lib.hid (bthen HB.out hb); clear hb)
            go_ret
            exact ⟨rfl, HB.out⟩
        have hltI : (i : Int) < (L : Int) := Int.ofNat_lt.2 hlt
        have hLm : (L : Int) ≤ 9223372036854775807 := by have := HQ.out.2.1; unfold maxLen at this; omega
        obtain ⟨lb, lo, rfl, y0c, y1c⟩ := (HQ.out.keep hB1).2.2 i hlt
        obtain ⟨v0, v1, _, _⟩ := HD.out.keep hB1
        rw [encL_at] at y0c y1c
        simp only at y0c y1c
        have e4 := eqB_enc (cq l i) y (decide (cq l i = y)) rfl
        obtain ⟨rr, hrr⟩ : ∃ b, decide (cq l i = y) = b := ⟨_, rfl⟩
        rw [hrr] at e4
        have HRR := Lib.hid hrr; have HLT := Lib.hid hlt
        have hA1 : (AV : Int) ≤ 2 := Int.ofNat_le.2 HF1.out
        clear hB hB1 hi hlt hne hrr
        generalize enc (cq l i).a = x0 at *
        generalize enc (cq l i).b = x1 at *
        generalize enc y.a = u0 at *
        generalize enc y.b = u1 at *
        go_upto_region 18 with fail
        replace y0c := fun q : Regrown => cell_regrown y0c q.d q.os
        replace y1c := fun q : Regrown => cell_regrown y1c q.d q.os
        replace v0 := fun q : Regrown => cell_regrown v0 q.d q.os
        replace v1 := fun q : Regrown => cell_regrown v1 q.d q.os
        rcases e4 with ⟨rfl, h0, h1⟩ | ⟨rfl, h1⟩ | ⟨rfl, h1, h2⟩
        all_goals
          refine wp_region_quiet_below (by kernel_rfl) (by kernel_rfl) ?_
          repeat (first | go_big_quiet_step (fail) | quiet_step (fail))
          refine wpQuiet_nil ?_
          rintro _ ⟨pq, rfl⟩
          have hb9 := below_regrown wr pq.d pq.os
          replace HB := Lib.hid (bthen HB.out hb9)
          replace HB1 := Lib.hid (bthen HB1.out hb9)
          clear hb9 y0c y1c v0 v1
        · go_wp2_with (go_at_call 8; (with_reducible refine (aw _ HB.out).mono ?_); rintro e w1 ⟨rfl, hb⟩; replace HB := Lib.hid (bthen HB.out hb); clear hb)
          go_ret
          exact ⟨rfl, HB.out⟩
        all_goals
          go_wp2_with fail
          go_roundw
          case rel => exact ⟨i + 1, by rw [HL.out]; exact HLT.out, by go_num, HB.out, HB1.out, fun j hj => by
            by_cases c : j = i
            · rw [c]; exact of_decide_eq_false HRR.out
            · exact HNE.out j (by omega)⟩
          case measure =>
            have := HLT.out
            simp [intOf]
            omega
set_option maxRecDepth 100000 in
set_option maxHeartbeats 8000000 in
theorem sound_1_8 (G : World → Prop) (hA : AskCount G) (a : Option Addr) (c : Nat) (word : QL) (fa : Option Addr) (fc : Nat) (fin : QL) (y0 y1 kk miss : Int) (r : Nat) (w : World) (hG : G w) (hw : QRowA w a 8 word) (hu : UsR word) (hc : 8 ≤ c) (hf : QRowA w fa 1 fin) (hfu : UsR fin) (hy0 : U y0) (hy1 : U y1) (hm0 : 0 ≤ miss) (hm1 : miss ≤ 255) (e1 : kk.tmod 2 = 0) (e2 : miss.tmod 3 = (r : Int)) (hr : r < 3) :
    Calls Tryd.prog 4 #[.slice a 8 c, .slice fa 1 fc, .agg #[.int .u64 y0, .int .u64 y1, .int .u8 kk, .int .u8 miss]] w fun e w' => e = .returned (.bool true) ∧ Below w.heap.size w w' := by
  have HB := Lib.hid (Below.refl w.heap.size w)
  have aw := fun W (h : Below w.heap.size w W) => cntawake G hA W (hA.keep hG h)
  have ks := fun W => cfits a 8 c 2 true W (by decide)
  obtain ⟨P, hP⟩ : ∃ P, 4 - r = P := ⟨_, rfl⟩
  have hP1 : 1 < P := by omega
  have hP2 : P ≤ 4 := by omega
  have g1 : IntKind.i64.wrap (4 - (r : Int)) = (P : Int) := by rw [IntWalk.i64_in _ (by omega)]; omega
  have g2 : wrap64 (4 - (r : Int)) = (P : Int) := by rw [IntWalk.wrap64_in _ (by omega)]; omega
  obtain ⟨l, all, hl⟩ : ∃ l all, badV word 0 1 (P : Int) = (l, all) := ⟨_, _, rfl⟩
  obtain ⟨y, hy⟩ : ∃ y : F2, (⟨toF y0, toF y1⟩ : F2) = y := ⟨_, rfl⟩
  have ry : Rep y0 y1 y := by rw [← hy]; exact rep_raw hy0 hy1
  obtain ⟨F1, F2'⟩ := sound_facts (fin := fin) (m := 2) (d := 1) (s := P) (k := 1) (bl := 2) hw.1 (by decide) (by decide) hP1 hP2 (by decide) (by decide) (by decide) (by decide) (by decide) hf.1 (by decide) y hl
  have k1 := fun W (h : Below w.heap.size w W) => hA.bad a 8 c word 0 1 (P : Int) W (hw.keep h) hu (by decide) hc (by decide) (by unfold I64; decide) (by decide) (by unfold I64; omega) (hA.keep hG h)
  unfold BadPost at k1
  rw [hl] at k1
  have d1 := fun W => radd_q y0 y1 0 0 y 0 y ry rep_zero (F2.add_zero y) W
  have k3 := fun W ba ta (h : Below w.heap.size w W) (h1 : QRowA W ba 1 [(enc y.a, enc y.b)]) (h2 : TabQ W ta 1 [word]) => hA.accepts 1 2 1 1 0 ba 1 1 [(enc y.a, enc y.b)] ta 1 1 [word] fa 1 fc fin W (by decide) (by decide) (by unfold I64; decide) h1 (fun n hn => by rw [List.mem_singleton.1 hn]; exact ⟨enc_U _, enc_U _⟩) h2 (fun r' hr' => by rw [List.mem_singleton.1 hr']; exact hu) (by decide) (fun r' hr' => by rw [List.mem_singleton.1 hr', hw.1]; decide) (hf.keep h) hfu (hA.keep hG h)
  unfold IntPost at k3
  obtain ⟨AV, hAV⟩ : ∃ q, acceptsV 1 2 1 [(enc y.a, enc y.b)] [word] fin = q := ⟨_, rfl⟩
  rw [show acceptsV ((1 : Nat) : Int) ((2 : Nat) : Int) 1 [(enc y.a, enc y.b)] [word] fin = AV from hAV] at F1 F2'
  rw [hAV] at k3
  have HF1 := Lib.hid F1; have HF2 := Lib.hid F2'; have HP := Lib.hid (And.intro hP1 hP2); have HK3 := Lib.hid k3; have HW := Lib.hid hw
  clear hA hG hw hu hc hf hfu hy0 hy1 hP hP1 hP2 hl F1 F2' k3 hAV hy ry
  obtain ⟨L, hL⟩ : ∃ L, l.length = L := ⟨_, rfl⟩
  have HL := Lib.hid hL
  simp only [hL] at k1
  clear hL
  have hm : wrap64 miss = miss := IntWalk.wrap64_in _ (by omega)
  go_enter Tryd.func4, Tryd.ntmps4
  go_upto_region 1 with fail
  obtain ⟨g, hg⟩ : ∃ g, w.heap.size = g := ⟨_, rfl⟩
  refine wp_gen (fun W => Below w.heap.size w W ∧ (W.cell? ⟨g, 0, none⟩ = some (.int .u64 y0) ∧ W.cell? ⟨g, 1, none⟩ = some (.int .u64 y1)) ∧ W.cell? ⟨g, 2, none⟩ = some (.int .u8 kk) ∧ W.cell? ⟨g, 3, none⟩ = some (.int .u8 miss)) ⟨(Below.refl _ _).alloc (Nat.le_refl _) _, ⟨by subst hg; simp [go_sem], by subst hg; simp [go_sem]⟩, by subst hg; simp [go_sem], by subst hg; simp [go_sem]⟩ ?_
  rintro w0 ⟨hB0, hy01, c2, c3⟩
  simp only [hg]
  replace HB := Lib.hid hB0
  have HY01 := Lib.hid hy01; have HC3 := Lib.hid c3
  have HZ := Lib.hid (Below.refl w0.heap.size w0)
  clear hB0 hg hy01 c3
  go_upto_region 5 with (go_at_call 7; (with_reducible refine (ks _).mono ?_); rintro e w1 ⟨rfl, hb⟩; replace HB := Lib.hid (bthen HB.out hb); replace c2 := bkeep hb c2; replace HZ := Lib.hid (bthen HZ.out hb); clear hb)
  clear ks e1 c2
  go_loopw [8] (SdLog w w0 3) (fun i _ => 3 - (intOf i).toNat)
  case atStart => exact ⟨0, by decide, rfl, HB.out, HZ.out⟩
  case round =>
    clear HB HZ
    obtain ⟨q, hq, rfl, hB, hZ⟩ := hrel
    obtain rfl | rfl | rfl | rfl : q = 0 ∨ q = 1 ∨ q = 2 ∨ q = 3 := by omega
    · have HB := Lib.hid hB; have HZ := Lib.hid hZ
      clear hB hZ
      go_wp2_with fail
      go_roundw
      case rel => exact ⟨1, by decide, rfl, HB.out, HZ.out⟩
      case measure => simp [intOf]
    · have HB := Lib.hid hB; have HZ := Lib.hid hZ
      clear hB hZ
      go_wp2_with fail
      go_roundw
      case rel => exact ⟨2, by decide, rfl, HB.out, HZ.out⟩
      case measure => simp [intOf]
    · have HB := Lib.hid hB; have HZ := Lib.hid hZ
      clear hB hZ
      go_wp2_with fail
      go_roundw
      case rel => exact ⟨3, by decide, rfl, HB.out, HZ.out⟩
      case measure => simp [intOf]
    · have HB := Lib.hid hB; have HZ := Lib.hid hZ
      have c3 := bkeep hZ HC3.out
      clear hB hZ
      have hMM : ((3 : Nat) : Int) = 3 := rfl
      simp only [hMM]
      go_upto_region 9 with fail
      clear e2 hm hm0 hm1 g1 g2 hr c3 hMM
      go_upto_region 10 with (go_at_call 9; (with_reducible refine (k1 _ HB.out).mono ?_); rintro e wb ⟨hb, ba, bc, rfl, hq⟩; have HQ := Lib.hid hq; replace HB := Lib.hid (bthen HB.out hb); replace HZ := Lib.hid (bthen HZ.out hb); clear hb hq)
      clear k1
      go_upto_region 11 with fail
      obtain ⟨gp, hgp⟩ : ∃ q, wb.heap.size = q := ⟨_, rfl⟩
      have hal : Below wb.heap.size wb (wb.alloc (.cells #[.int .i64 2, .int .i64 1, .int .i64 1, .int .i64 0] 36)) := (Below.refl _ _).alloc (Nat.le_refl _) _
      refine wp_gen (fun W => Below w.heap.size w W ∧ Below w0.heap.size w0 W ∧ QRowA W ba L (encL l) ∧ RjBox W gp 2 1 1 0) ⟨bthen HB.out hal, bthen HZ.out hal, HQ.out.keep hal, by subst hgp; simp [RjBox, go_sem]⟩ ?_
      clear HB HZ HQ hal
      rintro wp ⟨hB, hZ, hQ, hP⟩
      simp only [hgp]
      have HB := Lib.hid hB; have HZ := Lib.hid hZ; have HQ := Lib.hid hQ; have HPB := Lib.hid hP
      obtain ⟨p0, p1, p2, p3⟩ := hP
      have b0 := bkeep hZ HY01.out.1
      have b1 := bkeep hZ HY01.out.2
      clear hB hZ hQ hgp
      go_upto_region 14 with (go_at_call 11; (with_reducible refine (d1 _).mono ?_); rintro e wd ⟨rfl, hb⟩; replace HB := Lib.hid (bthen HB.out hb); replace HZ := Lib.hid (bthen HZ.out hb); replace HQ := Lib.hid (HQ.out.keep hb); replace HPB := Lib.hid (HPB.out.keep hb); clear hb)
      obtain ⟨gb, hgb⟩ : ∃ q, wd.heap.size = q := ⟨_, rfl⟩
      refine wp_gen (fun W => Below w.heap.size w W ∧ Below w0.heap.size w0 W ∧ QRowA W ba L (encL l) ∧ RjBox W gp 2 1 1 0 ∧ Duo W gb (.int .u64 (enc y.a)) (.int .u64 (enc y.b)))
        ⟨HB.out.alloc HB.out.size _, HZ.out.alloc HZ.out.size _, HQ.out.keep ((Below.refl _ _).alloc (Nat.le_refl _) _), HPB.out.keep ((Below.refl _ _).alloc (Nat.le_refl _) _), by rw [← hgb]; simp [Duo, go_sem]⟩ ?_
      clear HB HZ HQ HPB p0 p1 p2 p3 b0 b1 d1
      rintro w5 ⟨hB, hZ, hQ, hP, hD⟩
      simp only [hgb]
      have HB := Lib.hid hB; have HQ := Lib.hid hQ; have HD := Lib.hid hD
      obtain ⟨p0, p1, p2, p3⟩ := hP
      obtain ⟨v0, v1, _, _⟩ := hD
      have hal1 : Below w5.heap.size w5 (w5.alloc (.cells #[.int .u64 (enc y.a), .int .u64 (enc y.b)] 31)) := (Below.refl _ _).alloc (Nat.le_refl _) _
      have kA := HK3.out ((w5.alloc (.cells #[.int .u64 (enc y.a), .int .u64 (enc y.b)] 31)).alloc (.cells #[.slice a 8 c] 22)) (some ⟨w5.heap.size, 0, none⟩) (some ⟨w5.heap.size + 1, 0, none⟩)
        (bthen (bthen hB hal1) ((Below.refl _ _).alloc (Nat.le_refl _) _)) ((cq_one w5 _ _ _).keep ((Below.refl _ _).alloc (Nat.le_refl _) _))
        (by
          have := tabq_any (t := 22) (c := c) (HW.out.keep (bthen hB hal1))
          rwa [show (w5.alloc (.cells #[.int .u64 (enc y.a), .int .u64 (enc y.b)] 31)).heap.size = w5.heap.size + 1 by simp] at this)
      have HAL := Lib.hid (bthen hal1 ((Below.refl _ _).alloc (Nat.le_refl _) (.cells #[.slice a 8 c] 22)))
      clear hB hZ hQ hgb hal1
      go_upto_region 15 with (go_at_call 12; (with_reducible refine kA.mono ?_); rintro e w6 ⟨rfl, hb⟩; replace HAL := Lib.hid (bthen HAL.out hb); clear hb)
      clear kA p0 p1 p2 p3 v0 v1
      replace HB := Lib.hid (bthen HB.out HAL.out)
      replace HQ := Lib.hid (HQ.out.keep HAL.out)
      replace HD := Lib.hid (HD.out.keep HAL.out)
      have HB1 := Lib.hid (Below.refl w6.heap.size w6)
      clear HAL
      go_upto_region 16 with fail
      go_loopw [17] (SdRel w w6 l y) (fun i _ => L - (intOf i).toNat)
      case atStart => exact ⟨0, Nat.zero_le _, rfl, HB.out, HB1.out, fun j hj => absurd hj (Nat.not_lt_zero j)⟩
      case round =>
        clear HB HB1
        obtain ⟨i, hi, rfl, hB, hB1, hne⟩ := hrel
        rw [HL.out] at hi
        have hi0 : (0 : Int) ≤ (i : Int) := Int.natCast_nonneg i
        have HB := Lib.hid hB; have HB1 := Lib.hid hB1; have HNE := Lib.hid hne
        by_cases hlt : i < L
        case neg =>
          obtain rfl : i = L := by omega
          have hltI : ¬ (i : Int) < (i : Int) := by omega
          have hny := not_mem_cq (l := l) (y := y) (fun j hj => hne j (by rw [HL.out] at hj; exact hj))
          cases all
          · have hA2 := HF2.out hny rfl
            have hA3 : (AV : Int) < (P : Int) := Int.ofNat_lt.2 hA2
            clear hB hB1 hi hlt hne hny hA2
            go_wp2_with (go_at_call 8; (with_reducible refine (aw _ HB.out).mono ?_); rintro e w1 ⟨rfl, hb⟩; replace HB := Lib.hid (bthen HB.out hb); clear hb)
            go_ret
            exact ⟨rfl, HB.out⟩
          · clear hB hB1 hi hlt hne hny
            go_wp2_with (go_at_call 8; (with_reducible refine (aw _ HB.out).mono ?_); rintro e w1 ⟨rfl, hb⟩; replace HB := Lib.hid (bthen HB.out hb); clear hb)
            go_ret
            exact ⟨rfl, HB.out⟩
        have hltI : (i : Int) < (L : Int) := Int.ofNat_lt.2 hlt
        have hLm : (L : Int) ≤ 9223372036854775807 := by have := HQ.out.2.1; unfold maxLen at this; omega
        obtain ⟨lb, lo, rfl, y0c, y1c⟩ := (HQ.out.keep hB1).2.2 i hlt
        obtain ⟨v0, v1, _, _⟩ := HD.out.keep hB1
        rw [encL_at] at y0c y1c
        simp only at y0c y1c
        have e4 := eqB_enc (cq l i) y (decide (cq l i = y)) rfl
        obtain ⟨rr, hrr⟩ : ∃ b, decide (cq l i = y) = b := ⟨_, rfl⟩
        rw [hrr] at e4
        have HRR := Lib.hid hrr; have HLT := Lib.hid hlt
        have hA1 : (AV : Int) ≤ 4 := Int.ofNat_le.2 HF1.out
        clear hB hB1 hi hlt hne hrr
        generalize enc (cq l i).a = x0 at *
        generalize enc (cq l i).b = x1 at *
        generalize enc y.a = u0 at *
        generalize enc y.b = u1 at *
        go_upto_region 18 with fail
        replace y0c := fun q : Regrown => cell_regrown y0c q.d q.os
        replace y1c := fun q : Regrown => cell_regrown y1c q.d q.os
        replace v0 := fun q : Regrown => cell_regrown v0 q.d q.os
        replace v1 := fun q : Regrown => cell_regrown v1 q.d q.os
        rcases e4 with ⟨rfl, h0, h1⟩ | ⟨rfl, h1⟩ | ⟨rfl, h1, h2⟩
        all_goals
          refine wp_region_quiet_below (by kernel_rfl) (by kernel_rfl) ?_
          repeat (first | go_big_quiet_step (fail) | quiet_step (fail))
          refine wpQuiet_nil ?_
          rintro _ ⟨pq, rfl⟩
          have hb9 := below_regrown wr pq.d pq.os
          replace HB := Lib.hid (bthen HB.out hb9)
          replace HB1 := Lib.hid (bthen HB1.out hb9)
          clear hb9 y0c y1c v0 v1
        · go_wp2_with (go_at_call 8; (with_reducible refine (aw _ HB.out).mono ?_); rintro e w1 ⟨rfl, hb⟩; replace HB := Lib.hid (bthen HB.out hb); clear hb)
          go_ret
          exact ⟨rfl, HB.out⟩
        all_goals
          go_wp2_with fail
          go_roundw
          case rel => exact ⟨i + 1, by rw [HL.out]; exact HLT.out, by go_num, HB.out, HB1.out, fun j hj => by
            by_cases c : j = i
            · rw [c]; exact of_decide_eq_false HRR.out
            · exact HNE.out j (by omega)⟩
          case measure =>
            have := HLT.out
            simp [intOf]
            omega
set_option maxRecDepth 100000 in
set_option maxHeartbeats 8000000 in
theorem sound_1_16 (G : World → Prop) (hA : AskCount G) (a : Option Addr) (c : Nat) (word : QL) (fa : Option Addr) (fc : Nat) (fin : QL) (y0 y1 kk miss : Int) (r : Nat) (w : World) (hG : G w) (hw : QRowA w a 16 word) (hu : UsR word) (hc : 16 ≤ c) (hf : QRowA w fa 1 fin) (hfu : UsR fin) (hy0 : U y0) (hy1 : U y1) (hm0 : 0 ≤ miss) (hm1 : miss ≤ 255) (e1 : kk.tmod 2 = 0) (e2 : miss.tmod 7 = (r : Int)) (hr : r < 7) :
    Calls Tryd.prog 4 #[.slice a 16 c, .slice fa 1 fc, .agg #[.int .u64 y0, .int .u64 y1, .int .u8 kk, .int .u8 miss]] w fun e w' => e = .returned (.bool true) ∧ Below w.heap.size w w' := by
  have HB := Lib.hid (Below.refl w.heap.size w)
  have aw := fun W (h : Below w.heap.size w W) => cntawake G hA W (hA.keep hG h)
  have ks := fun W => cfits a 16 c 2 true W (by decide)
  obtain ⟨P, hP⟩ : ∃ P, 8 - r = P := ⟨_, rfl⟩
  have hP1 : 1 < P := by omega
  have hP2 : P ≤ 8 := by omega
  have g1 : IntKind.i64.wrap (8 - (r : Int)) = (P : Int) := by rw [IntWalk.i64_in _ (by omega)]; omega
  have g2 : wrap64 (8 - (r : Int)) = (P : Int) := by rw [IntWalk.wrap64_in _ (by omega)]; omega
  obtain ⟨l, all, hl⟩ : ∃ l all, badV word 0 1 (P : Int) = (l, all) := ⟨_, _, rfl⟩
  obtain ⟨y, hy⟩ : ∃ y : F2, (⟨toF y0, toF y1⟩ : F2) = y := ⟨_, rfl⟩
  have ry : Rep y0 y1 y := by rw [← hy]; exact rep_raw hy0 hy1
  obtain ⟨F1, F2'⟩ := sound_facts (fin := fin) (m := 3) (d := 1) (s := P) (k := 1) (bl := 3) hw.1 (by decide) (by decide) hP1 hP2 (by decide) (by decide) (by decide) (by decide) (by decide) hf.1 (by decide) y hl
  have k1 := fun W (h : Below w.heap.size w W) => hA.bad a 16 c word 0 1 (P : Int) W (hw.keep h) hu (by decide) hc (by decide) (by unfold I64; decide) (by decide) (by unfold I64; omega) (hA.keep hG h)
  unfold BadPost at k1
  rw [hl] at k1
  have d1 := fun W => radd_q y0 y1 0 0 y 0 y ry rep_zero (F2.add_zero y) W
  have k3 := fun W ba ta (h : Below w.heap.size w W) (h1 : QRowA W ba 1 [(enc y.a, enc y.b)]) (h2 : TabQ W ta 1 [word]) => hA.accepts 1 3 1 1 0 ba 1 1 [(enc y.a, enc y.b)] ta 1 1 [word] fa 1 fc fin W (by decide) (by decide) (by unfold I64; decide) h1 (fun n hn => by rw [List.mem_singleton.1 hn]; exact ⟨enc_U _, enc_U _⟩) h2 (fun r' hr' => by rw [List.mem_singleton.1 hr']; exact hu) (by decide) (fun r' hr' => by rw [List.mem_singleton.1 hr', hw.1]; decide) (hf.keep h) hfu (hA.keep hG h)
  unfold IntPost at k3
  obtain ⟨AV, hAV⟩ : ∃ q, acceptsV 1 3 1 [(enc y.a, enc y.b)] [word] fin = q := ⟨_, rfl⟩
  rw [show acceptsV ((1 : Nat) : Int) ((3 : Nat) : Int) 1 [(enc y.a, enc y.b)] [word] fin = AV from hAV] at F1 F2'
  rw [hAV] at k3
  have HF1 := Lib.hid F1; have HF2 := Lib.hid F2'; have HP := Lib.hid (And.intro hP1 hP2); have HK3 := Lib.hid k3; have HW := Lib.hid hw
  clear hA hG hw hu hc hf hfu hy0 hy1 hP hP1 hP2 hl F1 F2' k3 hAV hy ry
  obtain ⟨L, hL⟩ : ∃ L, l.length = L := ⟨_, rfl⟩
  have HL := Lib.hid hL
  simp only [hL] at k1
  clear hL
  have hm : wrap64 miss = miss := IntWalk.wrap64_in _ (by omega)
  go_enter Tryd.func4, Tryd.ntmps4
  go_upto_region 1 with fail
  obtain ⟨g, hg⟩ : ∃ g, w.heap.size = g := ⟨_, rfl⟩
  refine wp_gen (fun W => Below w.heap.size w W ∧ (W.cell? ⟨g, 0, none⟩ = some (.int .u64 y0) ∧ W.cell? ⟨g, 1, none⟩ = some (.int .u64 y1)) ∧ W.cell? ⟨g, 2, none⟩ = some (.int .u8 kk) ∧ W.cell? ⟨g, 3, none⟩ = some (.int .u8 miss)) ⟨(Below.refl _ _).alloc (Nat.le_refl _) _, ⟨by subst hg; simp [go_sem], by subst hg; simp [go_sem]⟩, by subst hg; simp [go_sem], by subst hg; simp [go_sem]⟩ ?_
  rintro w0 ⟨hB0, hy01, c2, c3⟩
  simp only [hg]
  replace HB := Lib.hid hB0
  have HY01 := Lib.hid hy01; have HC3 := Lib.hid c3
  have HZ := Lib.hid (Below.refl w0.heap.size w0)
  clear hB0 hg hy01 c3
  go_upto_region 5 with (go_at_call 7; (with_reducible refine (ks _).mono ?_); rintro e w1 ⟨rfl, hb⟩; replace HB := Lib.hid (bthen HB.out hb); replace c2 := bkeep hb c2; replace HZ := Lib.hid (bthen HZ.out hb); clear hb)
  clear ks e1 c2
  go_loopw [8] (SdLog w w0 4) (fun i _ => 4 - (intOf i).toNat)
  case atStart => exact ⟨0, by decide, rfl, HB.out, HZ.out⟩
  case round =>
    clear HB HZ
    obtain ⟨q, hq, rfl, hB, hZ⟩ := hrel
    obtain rfl | rfl | rfl | rfl | rfl : q = 0 ∨ q = 1 ∨ q = 2 ∨ q = 3 ∨ q = 4 := by omega
    · have HB := Lib.hid hB; have HZ := Lib.hid hZ
      clear hB hZ
      go_wp2_with fail
      go_roundw
      case rel => exact ⟨1, by decide, rfl, HB.out, HZ.out⟩
      case measure => simp [intOf]
    · have HB := Lib.hid hB; have HZ := Lib.hid hZ
      clear hB hZ
      go_wp2_with fail
      go_roundw
      case rel => exact ⟨2, by decide, rfl, HB.out, HZ.out⟩
      case measure => simp [intOf]
    · have HB := Lib.hid hB; have HZ := Lib.hid hZ
      clear hB hZ
      go_wp2_with fail
      go_roundw
      case rel => exact ⟨3, by decide, rfl, HB.out, HZ.out⟩
      case measure => simp [intOf]
    · have HB := Lib.hid hB; have HZ := Lib.hid hZ
      clear hB hZ
      go_wp2_with fail
      go_roundw
      case rel => exact ⟨4, by decide, rfl, HB.out, HZ.out⟩
      case measure => simp [intOf]
    · have HB := Lib.hid hB; have HZ := Lib.hid hZ
      have c3 := bkeep hZ HC3.out
      clear hB hZ
      have hMM : ((4 : Nat) : Int) = 4 := rfl
      simp only [hMM]
      go_upto_region 9 with fail
      clear e2 hm hm0 hm1 g1 g2 hr c3 hMM
      go_upto_region 10 with (go_at_call 9; (with_reducible refine (k1 _ HB.out).mono ?_); rintro e wb ⟨hb, ba, bc, rfl, hq⟩; have HQ := Lib.hid hq; replace HB := Lib.hid (bthen HB.out hb); replace HZ := Lib.hid (bthen HZ.out hb); clear hb hq)
      clear k1
      go_upto_region 11 with fail
      obtain ⟨gp, hgp⟩ : ∃ q, wb.heap.size = q := ⟨_, rfl⟩
      have hal : Below wb.heap.size wb (wb.alloc (.cells #[.int .i64 3, .int .i64 1, .int .i64 1, .int .i64 0] 36)) := (Below.refl _ _).alloc (Nat.le_refl _) _
      refine wp_gen (fun W => Below w.heap.size w W ∧ Below w0.heap.size w0 W ∧ QRowA W ba L (encL l) ∧ RjBox W gp 3 1 1 0) ⟨bthen HB.out hal, bthen HZ.out hal, HQ.out.keep hal, by subst hgp; simp [RjBox, go_sem]⟩ ?_
      clear HB HZ HQ hal
      rintro wp ⟨hB, hZ, hQ, hP⟩
      simp only [hgp]
      have HB := Lib.hid hB; have HZ := Lib.hid hZ; have HQ := Lib.hid hQ; have HPB := Lib.hid hP
      obtain ⟨p0, p1, p2, p3⟩ := hP
      have b0 := bkeep hZ HY01.out.1
      have b1 := bkeep hZ HY01.out.2
      clear hB hZ hQ hgp
      go_upto_region 14 with (go_at_call 11; (with_reducible refine (d1 _).mono ?_); rintro e wd ⟨rfl, hb⟩; replace HB := Lib.hid (bthen HB.out hb); replace HZ := Lib.hid (bthen HZ.out hb); replace HQ := Lib.hid (HQ.out.keep hb); replace HPB := Lib.hid (HPB.out.keep hb); clear hb)
      obtain ⟨gb, hgb⟩ : ∃ q, wd.heap.size = q := ⟨_, rfl⟩
      refine wp_gen (fun W => Below w.heap.size w W ∧ Below w0.heap.size w0 W ∧ QRowA W ba L (encL l) ∧ RjBox W gp 3 1 1 0 ∧ Duo W gb (.int .u64 (enc y.a)) (.int .u64 (enc y.b)))
        ⟨HB.out.alloc HB.out.size _, HZ.out.alloc HZ.out.size _, HQ.out.keep ((Below.refl _ _).alloc (Nat.le_refl _) _), HPB.out.keep ((Below.refl _ _).alloc (Nat.le_refl _) _), by rw [← hgb]; simp [Duo, go_sem]⟩ ?_
      clear HB HZ HQ HPB p0 p1 p2 p3 b0 b1 d1
      rintro w5 ⟨hB, hZ, hQ, hP, hD⟩
      simp only [hgb]
      have HB := Lib.hid hB; have HQ := Lib.hid hQ; have HD := Lib.hid hD
      obtain ⟨p0, p1, p2, p3⟩ := hP
      obtain ⟨v0, v1, _, _⟩ := hD
      have hal1 : Below w5.heap.size w5 (w5.alloc (.cells #[.int .u64 (enc y.a), .int .u64 (enc y.b)] 31)) := (Below.refl _ _).alloc (Nat.le_refl _) _
      have kA := HK3.out ((w5.alloc (.cells #[.int .u64 (enc y.a), .int .u64 (enc y.b)] 31)).alloc (.cells #[.slice a 16 c] 22)) (some ⟨w5.heap.size, 0, none⟩) (some ⟨w5.heap.size + 1, 0, none⟩)
        (bthen (bthen hB hal1) ((Below.refl _ _).alloc (Nat.le_refl _) _)) ((cq_one w5 _ _ _).keep ((Below.refl _ _).alloc (Nat.le_refl _) _))
        (by
          have := tabq_any (t := 22) (c := c) (HW.out.keep (bthen hB hal1))
          rwa [show (w5.alloc (.cells #[.int .u64 (enc y.a), .int .u64 (enc y.b)] 31)).heap.size = w5.heap.size + 1 by simp] at this)
      have HAL := Lib.hid (bthen hal1 ((Below.refl _ _).alloc (Nat.le_refl _) (.cells #[.slice a 16 c] 22)))
      clear hB hZ hQ hgb hal1
      go_upto_region 15 with (go_at_call 12; (with_reducible refine kA.mono ?_); rintro e w6 ⟨rfl, hb⟩; replace HAL := Lib.hid (bthen HAL.out hb); clear hb)
      clear kA p0 p1 p2 p3 v0 v1
      replace HB := Lib.hid (bthen HB.out HAL.out)
      replace HQ := Lib.hid (HQ.out.keep HAL.out)
      replace HD := Lib.hid (HD.out.keep HAL.out)
      have HB1 := Lib.hid (Below.refl w6.heap.size w6)
      clear HAL
      go_upto_region 16 with fail
      go_loopw [17] (SdRel w w6 l y) (fun i _ => L - (intOf i).toNat)
      case atStart => exact ⟨0, Nat.zero_le _, rfl, HB.out, HB1.out, fun j hj => absurd hj (Nat.not_lt_zero j)⟩
      case round =>
        clear HB HB1
        obtain ⟨i, hi, rfl, hB, hB1, hne⟩ := hrel
        rw [HL.out] at hi
        have hi0 : (0 : Int) ≤ (i : Int) := Int.natCast_nonneg i
        have HB := Lib.hid hB; have HB1 := Lib.hid hB1; have HNE := Lib.hid hne
        by_cases hlt : i < L
        case neg =>
          obtain rfl : i = L := by omega
          have hltI : ¬ (i : Int) < (i : Int) := by omega
          have hny := not_mem_cq (l := l) (y := y) (fun j hj => hne j (by rw [HL.out] at hj; exact hj))
          cases all
          · have hA2 := HF2.out hny rfl
            have hA3 : (AV : Int) < (P : Int) := Int.ofNat_lt.2 hA2
            clear hB hB1 hi hlt hne hny hA2
            go_wp2_with (go_at_call 8; (with_reducible refine (aw _ HB.out).mono ?_); rintro e w1 ⟨rfl, hb⟩; replace HB := Lib.hid (bthen HB.out hb); clear hb)
            go_ret
            exact ⟨rfl, HB.out⟩
          · clear hB hB1 hi hlt hne hny
            go_wp2_with (go_at_call 8; (with_reducible refine (aw _ HB.out).mono ?_); rintro e w1 ⟨rfl, hb⟩; replace HB := Lib.hid (bthen HB.out hb); clear hb)
            go_ret
            exact ⟨rfl, HB.out⟩
        have hltI : (i : Int) < (L : Int) := Int.ofNat_lt.2 hlt
        have hLm : (L : Int) ≤ 9223372036854775807 := by have := HQ.out.2.1; unfold maxLen at this; omega
        obtain ⟨lb, lo, rfl, y0c, y1c⟩ := (HQ.out.keep hB1).2.2 i hlt
        obtain ⟨v0, v1, _, _⟩ := HD.out.keep hB1
        rw [encL_at] at y0c y1c
        simp only at y0c y1c
        have e4 := eqB_enc (cq l i) y (decide (cq l i = y)) rfl
        obtain ⟨rr, hrr⟩ : ∃ b, decide (cq l i = y) = b := ⟨_, rfl⟩
        rw [hrr] at e4
        have HRR := Lib.hid hrr; have HLT := Lib.hid hlt
        have hA1 : (AV : Int) ≤ 8 := Int.ofNat_le.2 HF1.out
        clear hB hB1 hi hlt hne hrr
        generalize enc (cq l i).a = x0 at *
        generalize enc (cq l i).b = x1 at *
        generalize enc y.a = u0 at *
        generalize enc y.b = u1 at *
        go_upto_region 18 with fail
        replace y0c := fun q : Regrown => cell_regrown y0c q.d q.os
        replace y1c := fun q : Regrown => cell_regrown y1c q.d q.os
        replace v0 := fun q : Regrown => cell_regrown v0 q.d q.os
        replace v1 := fun q : Regrown => cell_regrown v1 q.d q.os
        rcases e4 with ⟨rfl, h0, h1⟩ | ⟨rfl, h1⟩ | ⟨rfl, h1, h2⟩
        all_goals
          refine wp_region_quiet_below (by kernel_rfl) (by kernel_rfl) ?_
          repeat (first | go_big_quiet_step (fail) | quiet_step (fail))
          refine wpQuiet_nil ?_
          rintro _ ⟨pq, rfl⟩
          have hb9 := below_regrown wr pq.d pq.os
          replace HB := Lib.hid (bthen HB.out hb9)
          replace HB1 := Lib.hid (bthen HB1.out hb9)
          clear hb9 y0c y1c v0 v1
        · go_wp2_with (go_at_call 8; (with_reducible refine (aw _ HB.out).mono ?_); rintro e w1 ⟨rfl, hb⟩; replace HB := Lib.hid (bthen HB.out hb); clear hb)
          go_ret
          exact ⟨rfl, HB.out⟩
        all_goals
          go_wp2_with fail
          go_roundw
          case rel => exact ⟨i + 1, by rw [HL.out]; exact HLT.out, by go_num, HB.out, HB1.out, fun j hj => by
            by_cases c : j = i
            · rw [c]; exact of_decide_eq_false HRR.out
            · exact HNE.out j (by omega)⟩
          case measure =>
            have := HLT.out
            simp [intOf]
            omega
set_option maxRecDepth 100000 in
set_option maxHeartbeats 8000000 in
theorem sound_2_8 (G : World → Prop) (hA : AskCount G) (a : Option Addr) (c : Nat) (word : QL) (fa : Option Addr) (fc : Nat) (fin : QL) (y0 y1 kk miss : Int) (r : Nat) (w : World) (hG : G w) (hw : QRowA w a 8 word) (hu : UsR word) (hc : 8 ≤ c) (hf : QRowA w fa 2 fin) (hfu : UsR fin) (hy0 : U y0) (hy1 : U y1) (hm0 : 0 ≤ miss) (hm1 : miss ≤ 255) (e1 : kk.tmod 2 = 1) (e2 : miss.tmod 2 = (r : Int)) (hr : r < 2) :
    Calls Tryd.prog 4 #[.slice a 8 c, .slice fa 2 fc, .agg #[.int .u64 y0, .int .u64 y1, .int .u8 kk, .int .u8 miss]] w fun e w' => e = .returned (.bool true) ∧ Below w.heap.size w w' := by
  have HB := Lib.hid (Below.refl w.heap.size w)
  have aw := fun W (h : Below w.heap.size w W) => cntawake G hA W (hA.keep hG h)
  have ks := fun W => cfits a 8 c 4 true W (by decide)
  obtain ⟨P, hP⟩ : ∃ P, 4 - r = P := ⟨_, rfl⟩
  have hP1 : 2 < P := by omega
  have hP2 : P ≤ 4 := by omega
  have g1 : IntKind.i64.wrap (4 - (r : Int)) = (P : Int) := by rw [IntWalk.i64_in _ (by omega)]; omega
  have g2 : wrap64 (4 - (r : Int)) = (P : Int) := by rw [IntWalk.wrap64_in _ (by omega)]; omega
  obtain ⟨l, all, hl⟩ : ∃ l all, badV word 0 2 (P : Int) = (l, all) := ⟨_, _, rfl⟩
  obtain ⟨y, hy⟩ : ∃ y : F2, (⟨toF y0, toF y1⟩ : F2) = y := ⟨_, rfl⟩
  have ry : Rep y0 y1 y := by rw [← hy]; exact rep_raw hy0 hy1
  obtain ⟨F1, F2'⟩ := sound_facts (fin := fin) (m := 2) (d := 2) (s := P) (k := 2) (bl := 1) hw.1 (by decide) (by decide) hP1 hP2 (by decide) (by decide) (by decide) (by decide) (by decide) hf.1 (by decide) y hl
  have k1 := fun W (h : Below w.heap.size w W) => hA.bad a 8 c word 0 2 (P : Int) W (hw.keep h) hu (by decide) hc (by decide) (by unfold I64; decide) (by decide) (by unfold I64; omega) (hA.keep hG h)
  unfold BadPost at k1
  rw [hl] at k1
  have d1 := fun W => radd_q y0 y1 0 0 y 0 y ry rep_zero (F2.add_zero y) W
  have k3 := fun W ba ta (h : Below w.heap.size w W) (h1 : QRowA W ba 1 [(enc y.a, enc y.b)]) (h2 : TabQ W ta 1 [word]) => hA.accepts 2 1 1 1 0 ba 1 1 [(enc y.a, enc y.b)] ta 1 1 [word] fa 2 fc fin W (by decide) (by decide) (by unfold I64; decide) h1 (fun n hn => by rw [List.mem_singleton.1 hn]; exact ⟨enc_U _, enc_U _⟩) h2 (fun r' hr' => by rw [List.mem_singleton.1 hr']; exact hu) (by decide) (fun r' hr' => by rw [List.mem_singleton.1 hr', hw.1]; decide) (hf.keep h) hfu (hA.keep hG h)
  unfold IntPost at k3
  obtain ⟨AV, hAV⟩ : ∃ q, acceptsV 2 1 1 [(enc y.a, enc y.b)] [word] fin = q := ⟨_, rfl⟩
  rw [show acceptsV ((2 : Nat) : Int) ((1 : Nat) : Int) 1 [(enc y.a, enc y.b)] [word] fin = AV from hAV] at F1 F2'
  rw [hAV] at k3
  have HF1 := Lib.hid F1; have HF2 := Lib.hid F2'; have HP := Lib.hid (And.intro hP1 hP2); have HK3 := Lib.hid k3; have HW := Lib.hid hw
  clear hA hG hw hu hc hf hfu hy0 hy1 hP hP1 hP2 hl F1 F2' k3 hAV hy ry
  obtain ⟨L, hL⟩ : ∃ L, l.length = L := ⟨_, rfl⟩
  have HL := Lib.hid hL
  simp only [hL] at k1
  clear hL
  have hm : wrap64 miss = miss := IntWalk.wrap64_in _ (by omega)
  go_enter Tryd.func4, Tryd.ntmps4
  go_upto_region 1 with fail
  obtain ⟨g, hg⟩ : ∃ g, w.heap.size = g := ⟨_, rfl⟩
  refine wp_gen (fun W => Below w.heap.size w W ∧ (W.cell? ⟨g, 0, none⟩ = some (.int .u64 y0) ∧ W.cell? ⟨g, 1, none⟩ = some (.int .u64 y1)) ∧ W.cell? ⟨g, 2, none⟩ = some (.int .u8 kk) ∧ W.cell? ⟨g, 3, none⟩ = some (.int .u8 miss)) ⟨(Below.refl _ _).alloc (Nat.le_refl _) _, ⟨by subst hg; simp [go_sem], by subst hg; simp [go_sem]⟩, by subst hg; simp [go_sem], by subst hg; simp [go_sem]⟩ ?_
  rintro w0 ⟨hB0, hy01, c2, c3⟩
  simp only [hg]
  replace HB := Lib.hid hB0
  have HY01 := Lib.hid hy01; have HC3 := Lib.hid c3
  have HZ := Lib.hid (Below.refl w0.heap.size w0)
  clear hB0 hg hy01 c3
  go_upto_region 5 with (go_at_call 7; (with_reducible refine (ks _).mono ?_); rintro e w1 ⟨rfl, hb⟩; replace HB := Lib.hid (bthen HB.out hb); replace c2 := bkeep hb c2; replace HZ := Lib.hid (bthen HZ.out hb); clear hb)
  clear ks e1 c2
  go_loopw [8] (SdLog w w0 3) (fun i _ => 3 - (intOf i).toNat)
  case atStart => exact ⟨0, by decide, rfl, HB.out, HZ.out⟩
  case round =>
    clear HB HZ
    obtain ⟨q, hq, rfl, hB, hZ⟩ := hrel
    obtain rfl | rfl | rfl | rfl : q = 0 ∨ q = 1 ∨ q = 2 ∨ q = 3 := by omega
    · have HB := Lib.hid hB; have HZ := Lib.hid hZ
      clear hB hZ
      go_wp2_with fail
      go_roundw
      case rel => exact ⟨1, by decide, rfl, HB.out, HZ.out⟩
      case measure => simp [intOf]
    · have HB := Lib.hid hB; have HZ := Lib.hid hZ
      clear hB hZ
      go_wp2_with fail
      go_roundw
      case rel => exact ⟨2, by decide, rfl, HB.out, HZ.out⟩
      case measure => simp [intOf]
    · have HB := Lib.hid hB; have HZ := Lib.hid hZ
      clear hB hZ
      go_wp2_with fail
      go_roundw
      case rel => exact ⟨3, by decide, rfl, HB.out, HZ.out⟩
      case measure => simp [intOf]
    · have HB := Lib.hid hB; have HZ := Lib.hid hZ
      have c3 := bkeep hZ HC3.out
      clear hB hZ
      have hMM : ((3 : Nat) : Int) = 3 := rfl
      simp only [hMM]
      go_upto_region 9 with fail
      clear e2 hm hm0 hm1 g1 g2 hr c3 hMM
      go_upto_region 10 with (go_at_call 9; (with_reducible refine (k1 _ HB.out).mono ?_); rintro e wb ⟨hb, ba, bc, rfl, hq⟩; have HQ := Lib.hid hq; replace HB := Lib.hid (bthen HB.out hb); replace HZ := Lib.hid (bthen HZ.out hb); clear hb hq)
      clear k1
      go_upto_region 11 with fail
      obtain ⟨gp, hgp⟩ : ∃ q, wb.heap.size = q := ⟨_, rfl⟩
      have hal : Below wb.heap.size wb (wb.alloc (.cells #[.int .i64 1, .int .i64 1, .int .i64 1, .int .i64 0] 36)) := (Below.refl _ _).alloc (Nat.le_refl _) _
      refine wp_gen (fun W => Below w.heap.size w W ∧ Below w0.heap.size w0 W ∧ QRowA W ba L (encL l) ∧ RjBox W gp 1 1 1 0) ⟨bthen HB.out hal, bthen HZ.out hal, HQ.out.keep hal, by subst hgp; simp [RjBox, go_sem]⟩ ?_
      clear HB HZ HQ hal
      rintro wp ⟨hB, hZ, hQ, hP⟩
      simp only [hgp]
      have HB := Lib.hid hB; have HZ := Lib.hid hZ; have HQ := Lib.hid hQ; have HPB := Lib.hid hP
      obtain ⟨p0, p1, p2, p3⟩ := hP
      have b0 := bkeep hZ HY01.out.1
      have b1 := bkeep hZ HY01.out.2
      clear hB hZ hQ hgp
      go_upto_region 14 with (go_at_call 11; (with_reducible refine (d1 _).mono ?_); rintro e wd ⟨rfl, hb⟩; replace HB := Lib.hid (bthen HB.out hb); replace HZ := Lib.hid (bthen HZ.out hb); replace HQ := Lib.hid (HQ.out.keep hb); replace HPB := Lib.hid (HPB.out.keep hb); clear hb)
      obtain ⟨gb, hgb⟩ : ∃ q, wd.heap.size = q := ⟨_, rfl⟩
      refine wp_gen (fun W => Below w.heap.size w W ∧ Below w0.heap.size w0 W ∧ QRowA W ba L (encL l) ∧ RjBox W gp 1 1 1 0 ∧ Duo W gb (.int .u64 (enc y.a)) (.int .u64 (enc y.b)))
        ⟨HB.out.alloc HB.out.size _, HZ.out.alloc HZ.out.size _, HQ.out.keep ((Below.refl _ _).alloc (Nat.le_refl _) _), HPB.out.keep ((Below.refl _ _).alloc (Nat.le_refl _) _), by rw [← hgb]; simp [Duo, go_sem]⟩ ?_
      clear HB HZ HQ HPB p0 p1 p2 p3 b0 b1 d1
      rintro w5 ⟨hB, hZ, hQ, hP, hD⟩
      simp only [hgb]
      have HB := Lib.hid hB; have HQ := Lib.hid hQ; have HD := Lib.hid hD
      obtain ⟨p0, p1, p2, p3⟩ := hP
      obtain ⟨v0, v1, _, _⟩ := hD
      have hal1 : Below w5.heap.size w5 (w5.alloc (.cells #[.int .u64 (enc y.a), .int .u64 (enc y.b)] 31)) := (Below.refl _ _).alloc (Nat.le_refl _) _
      have kA := HK3.out ((w5.alloc (.cells #[.int .u64 (enc y.a), .int .u64 (enc y.b)] 31)).alloc (.cells #[.slice a 8 c] 22)) (some ⟨w5.heap.size, 0, none⟩) (some ⟨w5.heap.size + 1, 0, none⟩)
        (bthen (bthen hB hal1) ((Below.refl _ _).alloc (Nat.le_refl _) _)) ((cq_one w5 _ _ _).keep ((Below.refl _ _).alloc (Nat.le_refl _) _))
        (by
          have := tabq_any (t := 22) (c := c) (HW.out.keep (bthen hB hal1))
          rwa [show (w5.alloc (.cells #[.int .u64 (enc y.a), .int .u64 (enc y.b)] 31)).heap.size = w5.heap.size + 1 by simp] at this)
      have HAL := Lib.hid (bthen hal1 ((Below.refl _ _).alloc (Nat.le_refl _) (.cells #[.slice a 8 c] 22)))
      clear hB hZ hQ hgb hal1
      go_upto_region 15 with (go_at_call 12; (with_reducible refine kA.mono ?_); rintro e w6 ⟨rfl, hb⟩; replace HAL := Lib.hid (bthen HAL.out hb); clear hb)
      clear kA p0 p1 p2 p3 v0 v1
      replace HB := Lib.hid (bthen HB.out HAL.out)
      replace HQ := Lib.hid (HQ.out.keep HAL.out)
      replace HD := Lib.hid (HD.out.keep HAL.out)
      have HB1 := Lib.hid (Below.refl w6.heap.size w6)
      clear HAL
      go_upto_region 16 with fail
      go_loopw [17] (SdRel w w6 l y) (fun i _ => L - (intOf i).toNat)
      case atStart => exact ⟨0, Nat.zero_le _, rfl, HB.out, HB1.out, fun j hj => absurd hj (Nat.not_lt_zero j)⟩
      case round =>
        clear HB HB1
        obtain ⟨i, hi, rfl, hB, hB1, hne⟩ := hrel
        rw [HL.out] at hi
        have hi0 : (0 : Int) ≤ (i : Int) := Int.natCast_nonneg i
        have HB := Lib.hid hB; have HB1 := Lib.hid hB1; have HNE := Lib.hid hne
        by_cases hlt : i < L
        case neg =>
          obtain rfl : i = L := by omega
          have hltI : ¬ (i : Int) < (i : Int) := by omega
          have hny := not_mem_cq (l := l) (y := y) (fun j hj => hne j (by rw [HL.out] at hj; exact hj))
          cases all
          · have hA2 := HF2.out hny rfl
            have hA3 : (AV : Int) < (P : Int) := Int.ofNat_lt.2 hA2
            clear hB hB1 hi hlt hne hny hA2
            go_wp2_with (go_at_call 8; (with_reducible refine (aw _ HB.out).mono ?_); rintro e w1 ⟨rfl, hb⟩; replace HB := Lib.hid (bthen HB.out hb); clear hb)
            go_ret
            exact ⟨rfl, HB.out⟩
          · clear hB hB1 hi hlt hne hny
            go_wp2_with (go_at_call 8; (with_reducible refine (aw _ HB.out).mono ?_); rintro e w1 ⟨rfl, hb⟩; replace HB := Lib.hid (bthen HB.out hb); clear hb)
            go_ret
            exact ⟨rfl, HB.out⟩
        have hltI : (i : Int) < (L : Int) := Int.ofNat_lt.2 hlt
        have hLm : (L : Int) ≤ 9223372036854775807 := by have := HQ.out.2.1; unfold maxLen at this; omega
        obtain ⟨lb, lo, rfl, y0c, y1c⟩ := (HQ.out.keep hB1).2.2 i hlt
        obtain ⟨v0, v1, _, _⟩ := HD.out.keep hB1
        rw [encL_at] at y0c y1c
        simp only at y0c y1c
        have e4 := eqB_enc (cq l i) y (decide (cq l i = y)) rfl
        obtain ⟨rr, hrr⟩ : ∃ b, decide (cq l i = y) = b := ⟨_, rfl⟩
        rw [hrr] at e4
        have HRR := Lib.hid hrr; have HLT := Lib.hid hlt
        have hA1 : (AV : Int) ≤ 4 := Int.ofNat_le.2 HF1.out
        clear hB hB1 hi hlt hne hrr
        generalize enc (cq l i).a = x0 at *
        generalize enc (cq l i).b = x1 at *
        generalize enc y.a = u0 at *
        generalize enc y.b = u1 at *
        go_upto_region 18 with fail
        replace y0c := fun q : Regrown => cell_regrown y0c q.d q.os
        replace y1c := fun q : Regrown => cell_regrown y1c q.d q.os
        replace v0 := fun q : Regrown => cell_regrown v0 q.d q.os
        replace v1 := fun q : Regrown => cell_regrown v1 q.d q.os
        rcases e4 with ⟨rfl, h0, h1⟩ | ⟨rfl, h1⟩ | ⟨rfl, h1, h2⟩
        all_goals
          refine wp_region_quiet_below (by kernel_rfl) (by kernel_rfl) ?_
          repeat (first | go_big_quiet_step (fail) | quiet_step (fail))
          refine wpQuiet_nil ?_
          rintro _ ⟨pq, rfl⟩
          have hb9 := below_regrown wr pq.d pq.os
          replace HB := Lib.hid (bthen HB.out hb9)
          replace HB1 := Lib.hid (bthen HB1.out hb9)
          clear hb9 y0c y1c v0 v1
        · go_wp2_with (go_at_call 8; (with_reducible refine (aw _ HB.out).mono ?_); rintro e w1 ⟨rfl, hb⟩; replace HB := Lib.hid (bthen HB.out hb); clear hb)
          go_ret
          exact ⟨rfl, HB.out⟩
        all_goals
          go_wp2_with fail
          go_roundw
          case rel => exact ⟨i + 1, by rw [HL.out]; exact HLT.out, by go_num, HB.out, HB1.out, fun j hj => by
            by_cases c : j = i
            · rw [c]; exact of_decide_eq_false HRR.out
            · exact HNE.out j (by omega)⟩
          case measure =>
            have := HLT.out
            simp [intOf]
            omega
set_option maxRecDepth 100000 in
set_option maxHeartbeats 8000000 in
/-- Where the last polynomial or the word doesn't fit. -/
theorem sound_no (G : World → Prop) (hA : AskCount G) (a : Option Addr) (n c : Nat) (fa : Option Addr) (fn fc : Nat) (y0 y1 kk miss k0 : Int) (w : World) (hG : G w) (e1 : kk.tmod 2 = k0) (hk : k0 = 0 ∨ k0 = 1)
    (h : ¬ (fn = 2 ^ k0.toNat ∧ fitsV n (2 ^ (k0.toNat + 1) : Nat) = true ∧ 2 * 2 ^ (k0.toNat + 1) ≤ n)) :
    Calls Tryd.prog 4 #[.slice a n c, .slice fa fn fc, .agg #[.int .u64 y0, .int .u64 y1, .int .u8 kk, .int .u8 miss]] w fun e w' => e = .returned (.bool true) ∧ Below w.heap.size w w' := by
  have HB := Lib.hid (Below.refl w.heap.size w)
  have aw := fun W (h : Below w.heap.size w W) => cntawake G hA W (hA.keep hG h)
  clear hA hG
  rcases hk with rfl | rfl
  · have hk1 : (((0 : Int)).toNat) = 0 := rfl
    rw [hk1] at h
    by_cases h1 : fn = 1
    case neg =>
      have h1I : ((fn : Int) == 1) = false := beq_eq_false_iff_ne.2 (fun e => h1 (by omega))
      have h1J : ¬ (fn : Int) = 1 := fun e => h1 (by omega)
      clear h h1
      go_enter Tryd.func4, Tryd.ntmps4
      go_upto_region 1 with fail
      obtain ⟨g, hg⟩ : ∃ g, w.heap.size = g := ⟨_, rfl⟩
      refine wp_gen (fun W => Below w.heap.size w W ∧ (W.cell? ⟨g, 0, none⟩ = some (.int .u64 y0) ∧ W.cell? ⟨g, 1, none⟩ = some (.int .u64 y1)) ∧ W.cell? ⟨g, 2, none⟩ = some (.int .u8 kk) ∧ W.cell? ⟨g, 3, none⟩ = some (.int .u8 miss)) ⟨(Below.refl _ _).alloc (Nat.le_refl _) _, ⟨by subst hg; simp [go_sem], by subst hg; simp [go_sem]⟩, by subst hg; simp [go_sem], by subst hg; simp [go_sem]⟩ ?_
      rintro w0 ⟨hB0, hy01, c2, c3⟩
      simp only [hg]
      replace HB := Lib.hid hB0
      have HY01 := Lib.hid hy01; have HC3 := Lib.hid c3
      have HZ := Lib.hid (Below.refl w0.heap.size w0)
      clear hB0 hg hy01 c3
      go_wp2_with (go_at_call 8; (with_reducible refine (aw _ HB.out).mono ?_); rintro e w1 ⟨rfl, hb⟩; replace HB := Lib.hid (bthen HB.out hb); clear hb)
      go_ret
      exact ⟨rfl, HB.out⟩
    subst h1
    cases hf : fitsV n 2
    · have ks := fun W => cfits a n c 2 false W hf
      clear h hf
      go_enter Tryd.func4, Tryd.ntmps4
      go_upto_region 1 with fail
      obtain ⟨g, hg⟩ : ∃ g, w.heap.size = g := ⟨_, rfl⟩
      refine wp_gen (fun W => Below w.heap.size w W ∧ (W.cell? ⟨g, 0, none⟩ = some (.int .u64 y0) ∧ W.cell? ⟨g, 1, none⟩ = some (.int .u64 y1)) ∧ W.cell? ⟨g, 2, none⟩ = some (.int .u8 kk) ∧ W.cell? ⟨g, 3, none⟩ = some (.int .u8 miss)) ⟨(Below.refl _ _).alloc (Nat.le_refl _) _, ⟨by subst hg; simp [go_sem], by subst hg; simp [go_sem]⟩, by subst hg; simp [go_sem], by subst hg; simp [go_sem]⟩ ?_
      rintro w0 ⟨hB0, hy01, c2, c3⟩
      simp only [hg]
      replace HB := Lib.hid hB0
      have HY01 := Lib.hid hy01; have HC3 := Lib.hid c3
      have HZ := Lib.hid (Below.refl w0.heap.size w0)
      clear hB0 hg hy01 c3
      go_wp2_with (first
        | (go_at_call 7; (with_reducible refine (ks _).mono ?_); rintro e w1 ⟨rfl, hb⟩; replace HB := Lib.hid (bthen HB.out hb); replace c2 := bkeep hb c2; replace HZ := Lib.hid (bthen HZ.out hb); clear hb)
        | (go_at_call 8; (with_reducible refine (aw _ HB.out).mono ?_); rintro e w1 ⟨rfl, hb⟩; replace HB := Lib.hid (bthen HB.out hb); clear hb))
      go_ret
      exact ⟨rfl, HB.out⟩
    · have h3 : ¬ 4 ≤ n := fun e => h ⟨rfl, hf, e⟩
      have h3I : (n : Int) < 4 := by omega
      have ks := fun W => cfits a n c 2 true W hf
      clear h hf h3
      go_enter Tryd.func4, Tryd.ntmps4
      go_upto_region 1 with fail
      obtain ⟨g, hg⟩ : ∃ g, w.heap.size = g := ⟨_, rfl⟩
      refine wp_gen (fun W => Below w.heap.size w W ∧ (W.cell? ⟨g, 0, none⟩ = some (.int .u64 y0) ∧ W.cell? ⟨g, 1, none⟩ = some (.int .u64 y1)) ∧ W.cell? ⟨g, 2, none⟩ = some (.int .u8 kk) ∧ W.cell? ⟨g, 3, none⟩ = some (.int .u8 miss)) ⟨(Below.refl _ _).alloc (Nat.le_refl _) _, ⟨by subst hg; simp [go_sem], by subst hg; simp [go_sem]⟩, by subst hg; simp [go_sem], by subst hg; simp [go_sem]⟩ ?_
      rintro w0 ⟨hB0, hy01, c2, c3⟩
      simp only [hg]
      replace HB := Lib.hid hB0
      have HY01 := Lib.hid hy01; have HC3 := Lib.hid c3
      have HZ := Lib.hid (Below.refl w0.heap.size w0)
      clear hB0 hg hy01 c3
      go_wp2_with (first
        | (go_at_call 7; (with_reducible refine (ks _).mono ?_); rintro e w1 ⟨rfl, hb⟩; replace HB := Lib.hid (bthen HB.out hb); replace c2 := bkeep hb c2; replace HZ := Lib.hid (bthen HZ.out hb); clear hb)
        | (go_at_call 8; (with_reducible refine (aw _ HB.out).mono ?_); rintro e w1 ⟨rfl, hb⟩; replace HB := Lib.hid (bthen HB.out hb); clear hb))
      go_ret
      exact ⟨rfl, HB.out⟩
  
  · have hk1 : (((1 : Int)).toNat) = 1 := rfl
    rw [hk1] at h
    by_cases h1 : fn = 2
    case neg =>
      have h1I : ((fn : Int) == 2) = false := beq_eq_false_iff_ne.2 (fun e => h1 (by omega))
      have h1J : ¬ (fn : Int) = 2 := fun e => h1 (by omega)
      clear h h1
      go_enter Tryd.func4, Tryd.ntmps4
      go_upto_region 1 with fail
      obtain ⟨g, hg⟩ : ∃ g, w.heap.size = g := ⟨_, rfl⟩
      refine wp_gen (fun W => Below w.heap.size w W ∧ (W.cell? ⟨g, 0, none⟩ = some (.int .u64 y0) ∧ W.cell? ⟨g, 1, none⟩ = some (.int .u64 y1)) ∧ W.cell? ⟨g, 2, none⟩ = some (.int .u8 kk) ∧ W.cell? ⟨g, 3, none⟩ = some (.int .u8 miss)) ⟨(Below.refl _ _).alloc (Nat.le_refl _) _, ⟨by subst hg; simp [go_sem], by subst hg; simp [go_sem]⟩, by subst hg; simp [go_sem], by subst hg; simp [go_sem]⟩ ?_
      rintro w0 ⟨hB0, hy01, c2, c3⟩
      simp only [hg]
      replace HB := Lib.hid hB0
      have HY01 := Lib.hid hy01; have HC3 := Lib.hid c3
      have HZ := Lib.hid (Below.refl w0.heap.size w0)
      clear hB0 hg hy01 c3
      go_wp2_with (go_at_call 8; (with_reducible refine (aw _ HB.out).mono ?_); rintro e w1 ⟨rfl, hb⟩; replace HB := Lib.hid (bthen HB.out hb); clear hb)
      go_ret
      exact ⟨rfl, HB.out⟩
    subst h1
    cases hf : fitsV n 4
    · have ks := fun W => cfits a n c 4 false W hf
      clear h hf
      go_enter Tryd.func4, Tryd.ntmps4
      go_upto_region 1 with fail
      obtain ⟨g, hg⟩ : ∃ g, w.heap.size = g := ⟨_, rfl⟩
      refine wp_gen (fun W => Below w.heap.size w W ∧ (W.cell? ⟨g, 0, none⟩ = some (.int .u64 y0) ∧ W.cell? ⟨g, 1, none⟩ = some (.int .u64 y1)) ∧ W.cell? ⟨g, 2, none⟩ = some (.int .u8 kk) ∧ W.cell? ⟨g, 3, none⟩ = some (.int .u8 miss)) ⟨(Below.refl _ _).alloc (Nat.le_refl _) _, ⟨by subst hg; simp [go_sem], by subst hg; simp [go_sem]⟩, by subst hg; simp [go_sem], by subst hg; simp [go_sem]⟩ ?_
      rintro w0 ⟨hB0, hy01, c2, c3⟩
      simp only [hg]
      replace HB := Lib.hid hB0
      have HY01 := Lib.hid hy01; have HC3 := Lib.hid c3
      have HZ := Lib.hid (Below.refl w0.heap.size w0)
      clear hB0 hg hy01 c3
      go_wp2_with (first
        | (go_at_call 7; (with_reducible refine (ks _).mono ?_); rintro e w1 ⟨rfl, hb⟩; replace HB := Lib.hid (bthen HB.out hb); replace c2 := bkeep hb c2; replace HZ := Lib.hid (bthen HZ.out hb); clear hb)
        | (go_at_call 8; (with_reducible refine (aw _ HB.out).mono ?_); rintro e w1 ⟨rfl, hb⟩; replace HB := Lib.hid (bthen HB.out hb); clear hb))
      go_ret
      exact ⟨rfl, HB.out⟩
    · have h3 : ¬ 8 ≤ n := fun e => h ⟨rfl, hf, e⟩
      have h3I : (n : Int) < 8 := by omega
      have ks := fun W => cfits a n c 4 true W hf
      clear h hf h3
      go_enter Tryd.func4, Tryd.ntmps4
      go_upto_region 1 with fail
      obtain ⟨g, hg⟩ : ∃ g, w.heap.size = g := ⟨_, rfl⟩
      refine wp_gen (fun W => Below w.heap.size w W ∧ (W.cell? ⟨g, 0, none⟩ = some (.int .u64 y0) ∧ W.cell? ⟨g, 1, none⟩ = some (.int .u64 y1)) ∧ W.cell? ⟨g, 2, none⟩ = some (.int .u8 kk) ∧ W.cell? ⟨g, 3, none⟩ = some (.int .u8 miss)) ⟨(Below.refl _ _).alloc (Nat.le_refl _) _, ⟨by subst hg; simp [go_sem], by subst hg; simp [go_sem]⟩, by subst hg; simp [go_sem], by subst hg; simp [go_sem]⟩ ?_
      rintro w0 ⟨hB0, hy01, c2, c3⟩
      simp only [hg]
      replace HB := Lib.hid hB0
      have HY01 := Lib.hid hy01; have HC3 := Lib.hid c3
      have HZ := Lib.hid (Below.refl w0.heap.size w0)
      clear hB0 hg hy01 c3
      go_wp2_with (first
        | (go_at_call 7; (with_reducible refine (ks _).mono ?_); rintro e w1 ⟨rfl, hb⟩; replace HB := Lib.hid (bthen HB.out hb); replace c2 := bkeep hb c2; replace HZ := Lib.hid (bthen HZ.out hb); clear hb)
        | (go_at_call 8; (with_reducible refine (aw _ HB.out).mono ?_); rintro e w1 ⟨rfl, hb⟩; replace HB := Lib.hid (bthen HB.out hb); clear hb))
      go_ret
      exact ⟨rfl, HB.out⟩
set_option maxHeartbeats 4000000 in
theorem count_sound (G : World → Prop) (hA : AskCount G) (a : Option Addr) (n c : Nat) (word : QL) (fa : Option Addr) (fn fc : Nat) (fin : QL) (y0 y1 kk miss : Int) (w : World) (hG : G w) (hw : QRowA w a n word) (hu : UsR word) (hc : n ≤ c) (hf : QRowA w fa fn fin) (hfu : UsR fin) (hy0 : U y0) (hy1 : U y1) (hd : 0 ≤ kk) (hm : 0 ≤ miss) (hm1 : miss ≤ 255) :
    Calls Tryd.prog 4 #[.slice a n c, .slice fa fn fc, .agg #[.int .u64 y0, .int .u64 y1, .int .u8 kk, .int .u8 miss]] w fun e w' => e = .returned (.bool true) ∧ Below w.heap.size w w' := by
  have hd2 : kk.tmod 2 = 0 ∨ kk.tmod 2 = 1 := by rw [Int.tmod_eq_emod_of_nonneg hd]; omega
  by_cases h : fn = 2 ^ (kk.tmod 2).toNat ∧ fitsV n (2 ^ ((kk.tmod 2).toNat + 1) : Nat) = true ∧ 2 * 2 ^ ((kk.tmod 2).toNat + 1) ≤ n
  · obtain ⟨hfn, hf4, h5⟩ := h
    have hn : n = 2 ∨ n = 4 ∨ n = 8 ∨ n = 16 := (of_decide_eq_true hf4).1
    rcases hd2 with e1 | e1 <;> rw [e1] at hfn hf4 h5 <;> (have hfn2 := hfn; simp only [Int.toNat_zero, Int.toNat_one, Nat.pow_zero, Nat.pow_one] at hfn2; subst hfn2) <;> rcases hn with rfl | rfl | rfl | rfl
    · exact absurd h5 (by decide)
    · obtain ⟨r, hr, e2⟩ := rem_nat (k := 1) hm (by decide)
      exact sound_1_4 G hA a c word fa fc fin y0 y1 kk miss r w hG hw hu hc hf hfu hy0 hy1 hm hm1 e1 e2 hr
    · obtain ⟨r, hr, e2⟩ := rem_nat (k := 3) hm (by decide)
      exact sound_1_8 G hA a c word fa fc fin y0 y1 kk miss r w hG hw hu hc hf hfu hy0 hy1 hm hm1 e1 e2 hr
    · obtain ⟨r, hr, e2⟩ := rem_nat (k := 7) hm (by decide)
      exact sound_1_16 G hA a c word fa fc fin y0 y1 kk miss r w hG hw hu hc hf hfu hy0 hy1 hm hm1 e1 e2 hr
    · exact absurd h5 (by decide)
    · exact absurd h5 (by decide)
    · obtain ⟨r, hr, e2⟩ := rem_nat (k := 2) hm (by decide)
      exact sound_2_8 G hA a c word fa fc fin y0 y1 kk miss r w hG hw hu hc hf hfu hy0 hy1 hm hm1 e1 e2 hr
    · exact absurd hf4 (by decide)
  · exact sound_no G hA a n c fa fn fc y0 y1 kk miss _ w hG rfl hd2 h
end Go.Proofs.YthfkfgjhgicfeaaDoor
