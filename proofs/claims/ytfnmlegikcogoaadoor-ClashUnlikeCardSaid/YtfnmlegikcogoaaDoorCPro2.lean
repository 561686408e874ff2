/-
  What slices.Backward of texts hands back; what the program's Unlike comes to.
-/
import Derived.Test.YtfnmlegikcogoaaDoorClashRefU
import Derived.RangeFuncNested
import Derived.RangeFuncBound
import Derived.RangeFuncCalls
import Derived.RangeFuncLeaves
import Derived.RangeFuncBox
import Derived.Shelf.Abstract
import Derived.Shelf.RegionOpen
import Derived.BigRegionIn
import Derived.WalkKit
import Derived.OwnWalkIn
import Derived.TacticsInMore
import Derived.LoopNIn
import Derived.LoopIn
namespace Go.Proofs.YtfnmlegikcogoaaDoor
open Go Go.RowKit Go.Shelf
set_option linter.unusedVariables false
attribute [local go_sem] Oper.semAt_some

def BackRel (n : Nat) (w0 : World) (J : List (Fin n) → World → Prop) (i : Value) (W : World) : Prop :=
  ∃ (k : Nat) (pre : List (Fin n)), k ≤ n ∧ i = .int .i64 ((k : Int) - 1) ∧ pre.length + k = n ∧ (∀ j : Fin n, k ≤ j.1 → j ∈ pre) ∧ J pre W ∧ Below w0.heap.size w0 W
/-- All have come; a part has come, the last one's place below those of all that have not. -/
def BackAll (n : Nat) (ys : List (Fin n)) : Prop := ∀ j : Fin n, j ∈ ys
def BackPart (n : Nat) (pre : List (Fin n)) : Prop := ∃ (ini : List (Fin n)) (x : Fin n), pre = ini ++ [x] ∧ ∀ j : Fin n, x.1 < j.1 → j ∈ ini
set_option maxRecDepth 100000 in
set_option maxHeartbeats 2000000 in
/-- slices.Backward's closure, at any body that keeps what lay. -/
theorem gback1_in (F : Fence) (N : Nat) (hf : F.fn 38) (hro : F.round = none) (hN : 1 ≤ N) (l Bs : Nat) (a : Option Addr) (n c : Nat) (f : Nat → ByteArray) (w0 : World) (hS : StrA w0 a n f) (hn : n ≤ 100) (J Jx : List (Fin n) → World → Prop)
    (hY : ∀ pre (x : Fin n) W, J pre W → pre.length < n → YieldAt F (N - 1) Tryd.prog l #[.int .i64 ((x.1 : Nat) : Int), .string (f x.1)] W fun e W' =>
      (e = .returned (.bool true) ∧ J (pre ++ [x]) W' ∧ Below w0.heap.size W W') ∨ (e = .returned (.bool false) ∧ Jx (pre ++ [x]) W'))
    (W : World) (hB : Below w0.heap.size w0 W) (hBs : w0.cell? ⟨Bs, 0, none⟩ = some (.slice a n c)) (h0 : J [] W) :
    CallsIn F N Tryd.prog 38 #[.func (.yield l) #[] #[], .pointer (some ⟨Bs, 0, none⟩)] W fun e W' => (∃ v, e = .returned v) ∧
      ((∃ ys, BackAll n ys ∧ J ys W') ∨ (∃ pre, BackPart n pre ∧ Jx pre W')) := by
  have HC := Lib.hid hS.2
  have HY := Lib.hid hY
  have HBs := Lib.hid hBs
  have hc0 := bkeep hB hBs
  have hw1 : IntKind.i64.wrap ((n : Int) - 1) = (n : Int) - 1 := IntWalk.i64_in _ (by omega)
  have hw2 : wrap64 ((n : Int) - 1) = (n : Int) - 1 := IntWalk.wrap64_in _ (by omega)
  clear hS hY hBs
  refine callsIn_of_wp Tryd.func38 rfl hf ?_ hro
  simp only [Tryd.ntmps38, List.size_toArray, List.length_cons, List.length_nil, Nat.reduceAdd, Nat.reduceSub, Array.replicate_succ, Array.replicate_zero, List.push_toArray, List.append_toArray, List.nil_append, List.cons_append]
  gi_wp2
  gi_loopw [3] (BackRel n w0 J) (fun i _ => (intOf i + 1).toNat)
  case atStart => exact ⟨n, [], Nat.le_refl _, rfl, by simp, fun j hj => absurd j.2 (by omega), h0, hB⟩
  case round =>
    clear hc0 hw1 hw2 hB h0
    obtain ⟨k, pre, hk, rfl, hl, hall, hJs, hb⟩ := hrel
    have hcb := bkeep hb HBs.out
    by_cases hk0 : k = 0
    · subst hk0
      have HA := Lib.hid (show BackAll n pre from fun j => hall j (Nat.zero_le _))
      have hneg : ¬ ((0 : Nat) : Int) - 1 ≥ 0 := by omega
      clear hall
      gi_wp2
      go_end0
      exact ⟨⟨_, rfl⟩, .inl ⟨pre, HA.out, hJs⟩⟩
    · obtain ⟨i, rfl⟩ : ∃ i, k = i + 1 := ⟨k - 1, by omega⟩
      obtain ⟨b, off, rfl, g0⟩ := HC.out i (by omega)
      have c0 := bkeep hb g0
      have e : ((i + 1 : Nat) : Int) - 1 = (i : Int) := by omega
      rw [e]
      have hi0 : (i : Int) ≥ 0 := by omega
      have hil : (i : Int) < (n : Int) := by omega
      have hw3 : IntKind.i64.wrap ((i : Int) - 1) = (i : Int) - 1 := IntWalk.i64_in _ (by omega)
      have hw4 : wrap64 ((i : Int) - 1) = (i : Int) - 1 := IntWalk.wrap64_in _ (by omega)
      have HP := Lib.hid (show ∀ j : Fin n, i < j.1 → j ∈ pre from fun j hj => hall j hj)
      obtain ⟨fn, tmps, assign, body, hy, hR⟩ := HY.out pre ⟨i, by omega⟩ wr hJs (by omega)
      dsimp only at hy
      have hR' := Lib.hid hR
      clear e g0 hall hR hJs
      gi_wp2
      refine hR'.out.mono ?_
      rintro e W3 (⟨rfl, hJ3, hk3⟩ | ⟨rfl, hJx3⟩)
      · have HB3 := Lib.hid (hb.trans hk3)
        clear hR' hk3
        gi_wp2
        go_roundw
        case rel => exact ⟨i, pre ++ [⟨i, by omega⟩], by omega, by go_num, by rw [List.length_append, List.length_singleton]; omega, fun j hj => by
          by_cases ej : j.1 = i
          · exact List.mem_append.2 (.inr (List.mem_singleton.2 (Fin.ext ej)))
          · exact List.mem_append.2 (.inl (HP.out j (by omega))), hJ3, HB3.out⟩
        case measure => first | (simp [intOf]; done) | (simp [intOf]; omega)
      · clear hR'
        gi_wp2
        refine bodyPost_ret (results_none rfl _ _ _) rfl ?_
        exact ⟨⟨_, rfl⟩, .inr ⟨_, ⟨pre, _, rfl, HP.out⟩, hJx3⟩⟩
set_option maxHeartbeats 1000000 in
theorem gback_in (F : Fence) (N : Nat) (hf : F.fn 25) (hro : F.round = none) (a : Option Addr) (n c : Nat) (w : World) :
    CallsIn F N Tryd.prog 25 #[.slice a n c] w fun e w' => e = .returned (.func (.func 38) #[] #[.pointer (some ⟨w.heap.size, 0, none⟩)]) ∧ w' = w.alloc (.cells #[.slice a n c] 24) := by
  refine callsIn_of_wp Tryd.func25 rfl hf ?_ hro
  simp only [Tryd.ntmps25, List.size_toArray, List.length_cons, List.length_nil, Nat.reduceAdd, Nat.reduceSub, Array.replicate_succ, Array.replicate_zero, List.push_toArray, List.append_toArray, List.nil_append, List.cons_append]
  gi_wp2
  go_ret
  exact ⟨rfl, rfl⟩
theorem gback_stops (F : Fence) (N : Nat) (hf : F.fn 38) (hro : F.round = none) (hN : 1 ≤ N) (Bs : Nat) (a : Option Addr) (n c : Nat) (f : Nat → ByteArray) (w : World) (hS : StrA w a n f) (hn : n ≤ 100) (hBs : w.cell? ⟨Bs, 0, none⟩ = some (.slice a n c)) :
    SeqStopsK F N Tryd.prog 38 #[.pointer (some ⟨Bs, 0, none⟩)] (fun x : Fin n => #[Value.int .i64 ((x.1 : Nat) : Int), Value.string (f x.1)]) (Below w.heap.size) (BackAll n) (BackPart n) n w := fun l J Jx W hW _ _ hY h0 =>
  gback1_in F N hf hro hN l Bs a n c f w hS hn J Jx hY W hW hBs h0
theorem three_set {W : World} {h : Nat} {p q r : Value} (u v t : Value) (c0 : W.cell? ⟨h, 0, none⟩ = some p) (c1 : W.cell? ⟨h + 1, 0, none⟩ = some q) (c2 : W.cell? ⟨h + 1 + 1, 0, none⟩ = some r) :
    (((W.setCell ⟨h, 0, none⟩ u).setCell ⟨h + 1, 0, none⟩ v).setCell ⟨h + 1 + 1, 0, none⟩ t).cell? ⟨h, 0, none⟩ = some u ∧ (((W.setCell ⟨h, 0, none⟩ u).setCell ⟨h + 1, 0, none⟩ v).setCell ⟨h + 1 + 1, 0, none⟩ t).cell? ⟨h + 1, 0, none⟩ = some v ∧
    (((W.setCell ⟨h, 0, none⟩ u).setCell ⟨h + 1, 0, none⟩ v).setCell ⟨h + 1 + 1, 0, none⟩ t).cell? ⟨h + 1 + 1, 0, none⟩ = some t ∧ KeepsOthers W (((W.setCell ⟨h, 0, none⟩ u).setCell ⟨h + 1, 0, none⟩ v).setCell ⟨h + 1 + 1, 0, none⟩ t) ∧
    ∀ (B : Nat) (w0 : World), B ≤ h → Below B w0 W → Below B w0 (((W.setCell ⟨h, 0, none⟩ u).setCell ⟨h + 1, 0, none⟩ v).setCell ⟨h + 1 + 1, 0, none⟩ t) := by
  refine ⟨?_, ?_, ?_, ((KeepsOthers.setCell _ _ _).trans (KeepsOthers.setCell _ _ _)).trans (KeepsOthers.setCell _ _ _), fun B w0 hB h => ((h.setCell (p := ⟨_, 0, none⟩) hB _).setCell (p := ⟨_, 0, none⟩) (Nat.le_succ_of_le hB) _).setCell (p := ⟨_, 0, none⟩) (Nat.le_succ_of_le (Nat.le_succ_of_le hB)) _⟩
  · rw [World.cell?_setCell_far _ _ _ _ (show h + 1 + 1 ≠ h by omega), World.cell?_setCell_far _ _ _ _ (show h + 1 ≠ h by omega)]
    exact World.cell?_setCell_same' _ _ _ (by rw [c0]; rfl)
  · rw [World.cell?_setCell_far _ _ _ _ (show h + 1 + 1 ≠ h + 1 by omega)]
    exact World.cell?_setCell_same' _ _ _ (by rw [World.cell?_setCell_far _ _ _ _ (show h ≠ h + 1 by omega), c1]; rfl)
  · exact World.cell?_setCell_same' _ _ _ (by rw [World.cell?_setCell_far _ _ _ _ (show h + 1 ≠ h + 1 + 1 by omega), World.cell?_setCell_far _ _ _ _ (show h ≠ h + 1 + 1 by omega), c2]; rfl)
/-- How the loop of Unlike is left. -/
def UnEx (n h : Nat) (f g : Nat → ByteArray) (c : Code) (pre : List (Fin n)) (W : World) : Prop :=
  c = .ret ∧ ∃ (ini : List (Fin n)) (x : Fin n), pre = ini ++ [x] ∧ (∀ q ∈ ini, f q.1 = g q.1) ∧ f x.1 ≠ g x.1 ∧ W.cell? ⟨h, 0, none⟩ = some (.string (f x.1)) ∧ W.cell? ⟨h + 1, 0, none⟩ = some (.string (g x.1)) ∧ W.cell? ⟨h + 1 + 1, 0, none⟩ = some (.bool true)
theorem UnEx.own (n h : Nat) (f g : Nat → ByteArray) (c : Code) : Own (UnEx n h f g c) := fun s A B row hs hg hr => by
  obtain ⟨h1, ini, x, h2, h3, h4, h5, h6, h7⟩ := hs
  exact ⟨h1, ini, x, h2, h3, h4, cell_kept h5 hg hr, cell_kept h6 hg hr, cell_kept h7 hg hr⟩
set_option maxRecDepth 100000 in
set_option maxHeartbeats 4000000 in
theorem gunlike_yes (F : Fence) (N : Nat) (h13 : F.fn 13) (h25 : F.fn 25) (h38 : F.fn 38) (hro : F.round = none) (hN : 3 ≤ N) (a : Option Addr) (n c : Nat) (f : Nat → ByteArray) (b : Option Addr) (d : Nat) (g : Nat → ByteArray) (x y : ByteArray) (ok : Bool) (w : World) (hS1 : StrA w a n f) (hS2 : StrA w b n g) (hn : n ≤ 100) (hz : unlikeB f g n n = (x, y, ok)) :
    CallsIn F N Tryd.prog 13 #[.slice a n c, .slice b n d] w fun e w' => e = .returned (.tuple #[.string x, .string y, .bool ok]) ∧ Below w.heap.size w w' := by
  have h1 : 1 ≤ N := by omega
  have HZ := Lib.hid hz
  have HC2 := Lib.hid hS2.2
  clear hz
  refine callsIn_of_wp_marks Tryd.func13 rfl h13 ?_ hro
  simp only [Tryd.ntmps13, List.size_toArray, List.length_cons, List.length_nil, Nat.reduceAdd, Nat.reduceSub, Array.replicate_succ, Array.replicate_zero, List.push_toArray, List.append_toArray, List.nil_append, List.cons_append]
  gi_wp2_with (gi_at_call 25; refine (gback_in F (N - 1) h25 hro _ _ _ _).mono ?_; rintro e w' ⟨rfl, rfl⟩)
  obtain ⟨wL, hwL⟩ : ∃ wL, (((((w.alloc (.cells #[.slice b n d] 24)).alloc (.cells #[.string ⟨#[]⟩] 9)).alloc (.cells #[.string ⟨#[]⟩] 9)).alloc (.cells #[.bool false] 4)).alloc (.cells #[.slice a n c] 24)) = wL := ⟨_, rfl⟩
  rw [hwL]
  have hsz : wL.heap.size = w.heap.size + 5 := by rw [← hwL]; simp
  have hBL : Below w.heap.size w wL := by rw [← hwL]; exact (((((Below.refl _ w).alloc (Nat.le_refl _) _).alloc (by simp) _).alloc (by simp; omega) _).alloc (by simp; omega) _).alloc (by simp; omega) _
  have cb : wL.cell? ⟨w.heap.size, 0, none⟩ = some (.slice b n d) := by rw [← hwL]; simp [go_sem]
  have c0 : wL.cell? ⟨w.heap.size + 1, 0, none⟩ = some (.string ⟨#[]⟩) := by rw [← hwL]; simp [go_sem]
  have c1 : wL.cell? ⟨w.heap.size + 1 + 1, 0, none⟩ = some (.string ⟨#[]⟩) := by rw [← hwL]; simp [go_sem]
  have c2 : wL.cell? ⟨w.heap.size + 1 + 1 + 1, 0, none⟩ = some (.bool false) := by rw [← hwL]; simp [go_sem]
  have cx : wL.cell? ⟨w.heap.size + 1 + 1 + 1 + 1, 0, none⟩ = some (.slice a n c) := by rw [← hwL]; simp [go_sem]
  have f0 : wL.frozen? ⟨w.heap.size + 1, 0, none⟩ = false := by rw [← hwL]; simp [go_sem]
  have f1 : wL.frozen? ⟨w.heap.size + 1 + 1, 0, none⟩ = false := by rw [← hwL]; simp [go_sem]
  have f2 : wL.frozen? ⟨w.heap.size + 1 + 1 + 1, 0, none⟩ = false := by rw [← hwL]; simp [go_sem]
  have HBL := Lib.hid hBL
  have hst := hS1.keep hBL
  have HSZ := Lib.hid hsz
  clear hwL hS1 hS2
  obtain ⟨h, hh⟩ : ∃ h, w.heap.size = h := ⟨_, rfl⟩
  simp only [hh] at cb c0 c1 c2 cx f0 f1 f2 ⊢
  have HH := Lib.hid hh
  clear hh hsz
  refine wpIn_rangeFunc_ownG hro h1 (gf := 38) (lb := #[.pointer (some ⟨h + 1 + 1 + 1 + 1, 0, none⟩)]) rfl h38 (enters_of Tryd.func38 (by kernel_rfl) rfl)
    (gback_stops F (N - 1) h38 hro (by omega) (h + 1 + 1 + 1 + 1) a n c f wL hst hn cx) belowK_t (belowK_b (Nat.le_refl _)) (Below.refl _ _) (fun _ => rfl)
    (fun pre W => (∀ q ∈ pre, f q.1 = g q.1) ∧ Below wL.heap.size wL W)
    (fun k pre W => UnEx n (h + 1) f g k pre W ∧ Below w.heap.size w W)
    (OwnFrom.and (ownFrom_pure _ _) (ownFrom_below (Nat.le_refl _) (Nat.le_refl _)))
    (fun k => OwnFrom.and ((UnEx.own n (h + 1) f g k).from _) (ownFrom_below (Nat.le_refl _) (by have := HSZ.out; omega)))
    ⟨fun q hq => absurd hq List.not_mem_nil, Below.refl _ _⟩
    (fun x => { tmps := #[.slice a n c, .slice b n d, undef, .pointer (some ⟨h, 0, none⟩), .pointer (some ⟨h + 1, 0, none⟩), .pointer (some ⟨h + 1 + 1, 0, none⟩), .pointer (some ⟨h + 1 + 1 + 1, 0, none⟩), .int .i64 ((x.1 : Nat) : Int), .string (f x.1), .slice a n c, .int .i64 (n : Int), .slice b n d, .int .i64 (n : Int), .bool false, .slice a n c,
      .func (.func 38) #[] #[.pointer (some ⟨h + 1 + 1 + 1 + 1, 0, none⟩)], .int .i64 ((x.1 : Nat) : Int), .string (f x.1), undef, undef, undef, undef, undef, undef, undef, undef, undef, undef, undef], defers := [] }) ?assign ?body ?done ?stop
  case assign =>
    intro l x W K hK
    gi_wp2
    exact hK
  case body =>
    rintro l pre x W ⟨hp, hB⟩ _
    obtain ⟨bb, ob, rfl, g2⟩ := HC2.out x.1 x.2
    have cb' := bkeep hB cb
    have cg := bkeep (bthen hBL hB) g2
    have hx : ((x.1 : Nat) : Int) < (n : Int) := by have := x.2; omega
    by_cases he : f x.1 = g x.1
    · have hb := beq_of (decide_eq_true he)
      have HP : Hid (∀ q ∈ pre ++ [x], f q.1 = g q.1) := Lib.hid fun q hq => (List.mem_append.1 hq).elim (hp q) (fun e => by rw [List.mem_singleton.1 e]; exact he)
      clear he hp
      gi_wp2
      exact ⟨KeepsFrom.refl _ _, Below.refl _ _, HP.out, hB⟩
    · have hb := beq_of (decide_eq_false he)
      have HE := Lib.hid he
      have HP := Lib.hid hp
      have c0' := bkeep hB c0; have c1' := bkeep hB c1; have c2' := bkeep hB c2
      have f0' := bfree hB c0 f0; have f1' := bfree hB c1 f1; have f2' := bfree hB c2 f2
      have HB := Lib.hid hB
      have hbl : bb < h := by rw [← HH.out]; exact World.block_lt_of_cell? w _ g2
      have n1 : bb ≠ h + 1 := by omega
      have n2 : h + 1 ≠ bb := by omega
      have HT3 := Lib.hid (three_set (.string (f x.1)) (.string (g x.1)) (.bool true) c0' c1' c2')
      have HLE : Hid (w.heap.size ≤ h + 1) := Lib.hid (by rw [HH.out]; omega)
      clear he hp hB hbl
      gi_wp2
      gi_region
      all_goals gi_wp2
      all_goals exact ⟨(HT3.out.2.2.2.1.trans (KeepsOthers.drew _)).from _, ⟨rfl, pre, x, rfl, HP.out, HE.out, HT3.out.1, HT3.out.2.1, HT3.out.2.2.1⟩, (HT3.out.2.2.2.2 _ _ HLE.out (bthen hBL HB.out)).drew⟩
  case done =>
    rintro D ys W hD hall ⟨hp, hB⟩ hK
    obtain ⟨e1, e2, e3⟩ : x = ⟨#[]⟩ ∧ y = ⟨#[]⟩ ∧ ok = false := by
      have := HZ.out
      unfold unlikeB at this
      rw [if_pos rfl, lastU_none.2 (fun j hj => hp ⟨j, hj⟩ (hall ⟨j, hj⟩))] at this
      simp only [Prod.mk.injEq] at this
      exact ⟨this.1.symm, this.2.1.symm, this.2.2.symm⟩
    subst e1; subst e2; subst e3
    have c0' := bkeep hB c0; have c1' := bkeep hB c1; have c2' := bkeep hB c2
    have f0' := bfree hB c0 f0; have f1' := bfree hB c1 f1; have f2' := bfree hB c2 f2
    have HT3 := Lib.hid (three_set (.string ⟨#[]⟩) (.string ⟨#[]⟩) (.bool false) c0' c1' c2')
    have HLE : Hid (w.heap.size ≤ h + 1) := Lib.hid (by rw [HH.out]; omega)
    have HB := Lib.hid hB
    have HD := Lib.hid hD
    clear hall hp hB hD
    gi_wp2
    obtain ⟨r0, r1, r2, hk, hb3⟩ := HT3.out
    have hK' := hk.same D _ hK rfl
    refine ⟨by simp, .inl ⟨_, _, rfl, run_takeDeferred hK', ?_⟩⟩
    have s0 := cell_kept r0 (grownBy_putObj' _ D (.deferred none)) (fun r e => by cases e; exact ⟨_, hK', rfl⟩)
    have s1 := cell_kept r1 (grownBy_putObj' _ D (.deferred none)) (fun r e => by cases e; exact ⟨_, hK', rfl⟩)
    have s2 := cell_kept r2 (grownBy_putObj' _ D (.deferred none)) (fun r e => by cases e; exact ⟨_, hK', rfl⟩)
    refine ⟨.tuple #[.string ⟨#[]⟩, .string ⟨#[]⟩, .bool false], ?_, rfl, (hb3 _ _ HLE.out (bthen hBL HB.out)).trans (belowK_b (w := w) (Nat.le_refl _) _ D _ _ (by have := HD.out; have := HSZ.out; omega) hK' rfl rfl)⟩
    simp [results, Tryd.results13, go_sem, s0, s1, s2]
  case stop =>
    rintro D k pre W hD ⟨ini, x1, e0, hlast⟩ ⟨⟨rfl, ini', x2, e1, hp, hne, r0, r1, r2⟩, hB⟩ hK
    rw [e0] at e1
    obtain ⟨rfl, e5⟩ := List.append_inj' e1 rfl
    obtain rfl : x1 = x2 := by simpa using e5
    obtain ⟨e1, e2, e3⟩ : f x1.1 = x ∧ g x1.1 = y ∧ true = ok := by
      have := HZ.out
      unfold unlikeB at this
      rw [if_pos rfl, lastU_at x1.2 hne (fun q h1 h2 => hp ⟨q, h2⟩ (hlast ⟨q, h2⟩ h1))] at this
      simp only [Prod.mk.injEq] at this
      exact this
    subst e3
    rw [e1] at r0
    rw [e2] at r1
    have s0 := cell_kept r0 (grownBy_putObj' _ D (.deferred none)) (fun r e => by cases e; exact ⟨_, hK, rfl⟩)
    have s1 := cell_kept r1 (grownBy_putObj' _ D (.deferred none)) (fun r e => by cases e; exact ⟨_, hK, rfl⟩)
    have s2 := cell_kept r2 (grownBy_putObj' _ D (.deferred none)) (fun r e => by cases e; exact ⟨_, hK, rfl⟩)
    have HB := Lib.hid hB
    have HD := Lib.hid hD
    clear hB hD hlast hp hne e1 e2 e5
    gi_wp2
    refine ⟨by simp, .inl ⟨_, _, rfl, run_takeDeferred hK, ?_⟩⟩
    refine ⟨.tuple #[.string x, .string y, .bool true], ?_, rfl, HB.out.trans (belowK_b (w := w) (Nat.le_refl _) W D _ _ (by have := HD.out; have := HSZ.out; omega) hK rfl rfl)⟩
    simp [results, Tryd.results13, go_sem, s0, s1, s2]
end Go.Proofs.YtfnmlegikcogoaaDoor
