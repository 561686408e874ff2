/-
  What is asked of the program's call of layer 16; the awake of its law; the walks of ShapeChecks and ShapeMore.
-/
import Derived.Test.YtlipphmkalppiaaShapeRef
namespace Go.Proofs.Ytlipphmkalppiaa
open Go Go.RowKit
set_option linter.unusedVariables false

structure AskShape (G : World → Prop) : Prop where
  keep : ∀ {W W' : World}, G W → Below W.heap.size W W' → G W'
  check : ∀ (a : Option Addr) (len cap : Nat) (zs : List Opn) (cols : Int) (nx : Bool) (d : Nat) (e : Int) (W : World), OpA W a len zs → (∀ o ∈ zs, OkO o) → len ≤ 1000 → -9223372036854775808 ≤ cols ∧ cols ≤ 9223372036854775807 → checkB zs cols nx = (d, e) → G W →
    Calls Try.prog 7 #[.slice a len cap, .int .i64 cols, .bool nx] W fun E w' => E = .returned (.tuple #[.int .i64 (d : Int), .int .i64 e]) ∧ Below W.heap.size W w'
theorem opA_lit (W : World) (t : TypeId) (l : List Opn) (cs : Array Value) (h : cs.toList = flatO l) (hl : l.length ≤ 1000) : OpA (W.alloc (.cells cs t)) (some ⟨W.heap.size, 0, none⟩) l.length l := by
  refine ⟨rfl, by unfold maxLen; omega, fun k hk => ⟨W.heap.size, 0, rfl, ?_⟩⟩
  obtain ⟨f0, f1⟩ := flatO_at l k hk
  have e : ∀ j v, (flatO l)[j]? = some v → (W.alloc (.cells cs t)).cell? ⟨W.heap.size, j, none⟩ = some v := fun j v hv => by
    rw [← h] at hv
    have : cs[j]? = some v := by simpa using hv
    simp [go_sem, this]
  rw [Nat.zero_add]
  exact ⟨e _ _ f0, e _ _ f1⟩
abbrev opX : Opn := (1, 0)
abbrev opY : Opn := (2, 1)
abbrev opM : Opn := (6, 0)
theorem okX : ∀ o, o = opX ∨ o = opY ∨ o = opM → OkO o := by
  rintro o (rfl | rfl | rfl) <;> exact ⟨by decide, by unfold U; decide⟩
theorem tell1 : checkB [opX, opY, opM] 2 true = (2, 0) := by decide +kernel
theorem tell2 : checkB [opX, opY, opM] 2 false = (0, 3) := by decide +kernel
theorem tell3 : checkB [opX, opY] 2 true = (0, 4) := by decide +kernel
theorem tell4 : checkB [opM] 2 true = (0, 4) := by decide +kernel
theorem tell5 : checkB [opY] 1 true = (0, 3) := by decide +kernel
theorem tell6 : checkB [opX, opX, opM, opX, opM, opX, opM, opX, opM] 2 true = (0, 5) := by decide +kernel
theorem tell7 : checkB [] 2 true = (0, 4) := by decide +kernel
theorem opA_none (W : World) : OpA W none 0 [] := ⟨rfl, by unfold maxLen; omega, fun k hk => by omega⟩
set_option maxRecDepth 100000 in
set_option maxHeartbeats 8000000 in
theorem hawake (G : World → Prop) (hA : AskShape G) (w : World) (hG0 : G w) : Calls Try.prog 6 #[] w fun e w' => e = .returned (.bool true) ∧ Below w.heap.size w w' := by
  have HK := Lib.hid (fun (W W' : World) => @AskShape.keep G hA W W')
  have HG0 := Lib.hid hG0
  have hal := fun (W : World) (o : Obj) => (Below.refl W.heap.size W).alloc (Nat.le_refl _) o
  have k1 := fun W t h => hA.check (some ⟨W.heap.size, 0, none⟩) 3 3 [opX, opY, opM] 2 true _ _ _ (opA_lit W t [opX, opY, opM] #[.int .i64 1, .int .u64 0, .int .i64 2, .int .u64 1, .int .i64 6, .int .u64 0] rfl (by decide)) (fun o ho => okX o (by simpa using ho)) (by decide) (by decide) tell1 (HK.out _ _ h (hal W _))
  have k2 := fun W t h => hA.check (some ⟨W.heap.size, 0, none⟩) 3 3 [opX, opY, opM] 2 false _ _ _ (opA_lit W t [opX, opY, opM] #[.int .i64 1, .int .u64 0, .int .i64 2, .int .u64 1, .int .i64 6, .int .u64 0] rfl (by decide)) (fun o ho => okX o (by simpa using ho)) (by decide) (by decide) tell2 (HK.out _ _ h (hal W _))
  have k3 := fun W t h => hA.check (some ⟨W.heap.size, 0, none⟩) 2 2 [opX, opY] 2 true _ _ _ (opA_lit W t [opX, opY] #[.int .i64 1, .int .u64 0, .int .i64 2, .int .u64 1] rfl (by decide)) (fun o ho => okX o (by simp at ho; rcases ho with rfl | rfl <;> simp)) (by decide) (by decide) tell3 (HK.out _ _ h (hal W _))
  have k4 := fun W t h => hA.check (some ⟨W.heap.size, 0, none⟩) 1 1 [opM] 2 true _ _ _ (opA_lit W t [opM] #[.int .i64 6, .int .u64 0] rfl (by decide)) (fun o ho => okX o (by simp at ho; subst ho; simp)) (by decide) (by decide) tell4 (HK.out _ _ h (hal W _))
  have k5 := fun W t h => hA.check (some ⟨W.heap.size, 0, none⟩) 1 1 [opY] 1 true _ _ _ (opA_lit W t [opY] #[.int .i64 2, .int .u64 1] rfl (by decide)) (fun o ho => okX o (by simp at ho; subst ho; simp)) (by decide) (by decide) tell5 (HK.out _ _ h (hal W _))
  have k6 := fun W t h => hA.check (some ⟨W.heap.size, 0, none⟩) 9 9 [opX, opX, opM, opX, opM, opX, opM, opX, opM] 2 true _ _ _ (opA_lit W t [opX, opX, opM, opX, opM, opX, opM, opX, opM] #[.int .i64 1, .int .u64 0, .int .i64 1, .int .u64 0, .int .i64 6, .int .u64 0, .int .i64 1, .int .u64 0, .int .i64 6, .int .u64 0, .int .i64 1, .int .u64 0, .int .i64 6, .int .u64 0, .int .i64 1, .int .u64 0, .int .i64 6, .int .u64 0] rfl (by decide)) (fun o ho => okX o (by simp at ho; rcases ho with rfl | rfl | rfl | rfl | rfl | rfl | rfl | rfl | rfl <;> simp)) (by decide) (by decide) tell6 (HK.out _ _ h (hal W _))
  have k7 := fun W h => hA.check none 0 0 [] 2 true _ _ W (opA_none W) (fun o ho => absurd ho List.not_mem_nil) (by decide) (by decide) tell7 h
  clear hA hG0
  go_enter Try.func6, Try.ntmps6
  go_upto_region 3 with fail
  refine wp_gen (fun W => Below w.heap.size w W ∧ (W.cell? ⟨w.heap.size, 0, none⟩ = some (.int .i64 1) ∧ W.cell? ⟨w.heap.size, 1, none⟩ = some (.int .u64 0)) ∧ (W.cell? ⟨w.heap.size + 1, 0, none⟩ = some (.int .i64 2) ∧ W.cell? ⟨w.heap.size + 1, 1, none⟩ = some (.int .u64 1)) ∧ (W.cell? ⟨w.heap.size + 1 + 1, 0, none⟩ = some (.int .i64 6) ∧ W.cell? ⟨w.heap.size + 1 + 1, 1, none⟩ = some (.int .u64 0))) ⟨?_, ⟨by simp [go_sem], by simp [go_sem]⟩, ⟨by simp [go_sem], by simp [go_sem]⟩, by simp [go_sem], by simp [go_sem]⟩ ?_
  · exact (((Below.refl _ _).alloc (Nat.le_refl _) _).alloc (by simp) _).alloc (by simp; omega) _
  obtain ⟨g0, hg0⟩ : ∃ g, w.heap.size = g := ⟨_, rfl⟩
  obtain ⟨g1, hg1⟩ : ∃ g, g0 + 1 = g := ⟨_, rfl⟩
  obtain ⟨g2, hg2⟩ : ∃ g, g1 + 1 = g := ⟨_, rfl⟩
  rintro W1 ⟨hB, ⟨x0, x1⟩, ⟨y0, y1⟩, z0, z1⟩
  rw [hg0] at x0 x1 y0 y1 z0 z1
  rw [hg1] at y0 y1 z0 z1
  rw [hg2] at z0 z1
  simp only [hg0, hg1, hg2]
  have HB := Lib.hid hB
  clear hB hg0 hg1 hg2
  go_upto_region 4 with (go_at_call 7; (with_reducible refine (k1 _ _ (HK.out _ _ HG0.out HB.out)).mono ?_); rintro e w1 ⟨rfl, hb⟩)
  have hq1 := bthen (hal _ _) hb
  replace HB := Lib.hid (bthen HB.out hq1); replace x0 := bkeep hq1 x0; replace x1 := bkeep hq1 x1; replace y0 := bkeep hq1 y0; replace y1 := bkeep hq1 y1; replace z0 := bkeep hq1 z0; replace z1 := bkeep hq1 z1
  clear hb hq1 k1
  go_upto_region 5 with (go_at_call 7; (with_reducible refine (k2 _ _ (HK.out _ _ HG0.out HB.out)).mono ?_); rintro e w1 ⟨rfl, hb⟩)
  have hq2 := bthen (hal _ _) hb
  replace HB := Lib.hid (bthen HB.out hq2); replace x0 := bkeep hq2 x0; replace x1 := bkeep hq2 x1; replace y0 := bkeep hq2 y0; replace y1 := bkeep hq2 y1; replace z0 := bkeep hq2 z0; replace z1 := bkeep hq2 z1
  clear hb hq2 k2
  go_upto_region 6 with (go_at_call 7; (with_reducible refine (k3 _ _ (HK.out _ _ HG0.out HB.out)).mono ?_); rintro e w1 ⟨rfl, hb⟩)
  have hq3 := bthen (hal _ _) hb
  replace HB := Lib.hid (bthen HB.out hq3); replace x0 := bkeep hq3 x0; replace x1 := bkeep hq3 x1; replace y0 := bkeep hq3 y0; replace y1 := bkeep hq3 y1; replace z0 := bkeep hq3 z0; replace z1 := bkeep hq3 z1
  clear hb hq3 k3
  go_upto_region 7 with (go_at_call 7; (with_reducible refine (k4 _ _ (HK.out _ _ HG0.out HB.out)).mono ?_); rintro e w1 ⟨rfl, hb⟩)
  have hq4 := bthen (hal _ _) hb
  replace HB := Lib.hid (bthen HB.out hq4); replace x0 := bkeep hq4 x0; replace x1 := bkeep hq4 x1; replace y0 := bkeep hq4 y0; replace y1 := bkeep hq4 y1; replace z0 := bkeep hq4 z0; replace z1 := bkeep hq4 z1
  clear hb hq4 k4
  go_upto_region 8 with (go_at_call 7; (with_reducible refine (k5 _ _ (HK.out _ _ HG0.out HB.out)).mono ?_); rintro e w1 ⟨rfl, hb⟩)
  have hq5 := bthen (hal _ _) hb
  replace HB := Lib.hid (bthen HB.out hq5); replace x0 := bkeep hq5 x0; replace x1 := bkeep hq5 x1; replace y0 := bkeep hq5 y0; replace y1 := bkeep hq5 y1; replace z0 := bkeep hq5 z0; replace z1 := bkeep hq5 z1
  clear hb hq5 k5
  go_upto_region 9 with (go_at_call 7; (with_reducible refine (k6 _ _ (HK.out _ _ HG0.out HB.out)).mono ?_); rintro e w1 ⟨rfl, hb⟩)
  have hq6 := bthen (hal _ _) hb
  replace HB := Lib.hid (bthen HB.out hq6); replace x0 := bkeep hq6 x0; replace x1 := bkeep hq6 x1; replace y0 := bkeep hq6 y0; replace y1 := bkeep hq6 y1; replace z0 := bkeep hq6 z0; replace z1 := bkeep hq6 z1
  clear hb hq6 k6
  go_upto_region 10 with (go_at_call 7; (with_reducible refine (k7 _ (HK.out _ _ HG0.out HB.out)).mono ?_); rintro e w1 ⟨rfl, hb⟩)
  replace HB := Lib.hid (bthen HB.out hb)
  go_wp2_with fail
  go_ret
  exact ⟨rfl, HB.out⟩
set_option maxRecDepth 100000 in
set_option maxHeartbeats 8000000 in
theorem hchecks_body (G : World → Prop) (hA : AskShape G) (aw : ∀ W, G W → Calls Try.prog 6 #[] W fun e w' => e = .returned (.bool true) ∧ Below W.heap.size W w') (a : Option Addr) (n cap : Nat) (zs : List Opn) (cols : Int) (nx : Bool) (w : World) (hG0 : G w) (hO : OpA w a n zs) (hu : ∀ o ∈ zs, OkO o) (hc : -9223372036854775808 ≤ cols ∧ cols ≤ 9223372036854775807) :
    Calls Try.prog 3 #[.slice a n cap, .int .i64 cols, .bool nx] w fun e w' => e = .returned (.bool true) ∧ Below w.heap.size w w' := by
  have HK := Lib.hid (fun (W W' : World) => @AskShape.keep G hA W W')
  have HG0 := Lib.hid hG0
  have hmax := hO.2.1
  unfold maxLen at hmax
  obtain rfl := hO.1
  have HB : Hid (Below w.heap.size w w) := Lib.hid (Below.refl _ _)
  by_cases b1 : (300 : Int) < (zs.length : Int)
  · clear hO hu
    go_enter Try.func3, Try.ntmps3
    go_wp2_with (go_at_call 6; (with_reducible refine (aw _ (HK.out _ _ HG0.out HB.out)).mono ?_); rintro e w1 ⟨rfl, hb⟩; replace HB := Lib.hid (bthen HB.out hb); clear hb)
    go_ret
    exact ⟨rfl, HB.out⟩
  obtain ⟨d, e, hz⟩ : ∃ d e, checkB zs cols nx = (d, e) := ⟨_, _, rfl⟩
  have k1 := fun (W : World) (hb : Below w.heap.size w W) => hA.check a zs.length cap zs cols nx d e W (hO.keep hb) hu (by omega) hc hz (HK.out _ _ HG0.out hb)
  have k2 := fun (W : World) (hb : Below w.heap.size w W) => rscheck_is a cap zs cols nx d e W (hO.keep hb) hu hc hz
  clear hO hu hz
  go_enter Try.func3, Try.ntmps3
  go_wp2_with (first
    | (go_at_call 7; (with_reducible refine (k1 _ HB.out).mono ?_); rintro e w1 ⟨rfl, hb⟩; replace HB := Lib.hid (bthen HB.out hb); clear hb)
    | (go_at_call 8; (with_reducible refine (k2 _ HB.out).mono ?_); rintro e w1 ⟨rfl, hb⟩; replace HB := Lib.hid (bthen HB.out hb); clear hb)
    | (go_at_call 6; (with_reducible refine (aw _ (HK.out _ _ HG0.out HB.out)).mono ?_); rintro e w1 ⟨rfl, hb⟩; replace HB := Lib.hid (bthen HB.out hb); clear hb))
  go_ret
  exact ⟨rfl, HB.out⟩
set_option maxRecDepth 100000 in
set_option maxHeartbeats 8000000 in
theorem hmore_body (G : World → Prop) (hA : AskShape G) (aw : ∀ W, G W → Calls Try.prog 6 #[] W fun e w' => e = .returned (.bool true) ∧ Below W.heap.size W w') (a : Option Addr) (n cap : Nat) (zs : List Opn) (cols : Int) (nx : Bool) (w : World) (hG0 : G w) (hO : OpA w a n zs) (hu : ∀ o ∈ zs, OkO o) (hc : 0 ≤ cols ∧ cols ≤ 255) :
    Calls Try.prog 4 #[.slice a n cap, .int .u8 cols, .bool nx] w fun e w' => e = .returned (.bool true) ∧ Below w.heap.size w w' := by
  have HK := Lib.hid (fun (W W' : World) => @AskShape.keep G hA W W')
  have HG0 := Lib.hid hG0
  have hmax := hO.2.1
  unfold maxLen at hmax
  obtain rfl := hO.1
  have HB : Hid (Below w.heap.size w w) := Lib.hid (Below.refl _ _)
  by_cases b1 : (300 : Int) < (zs.length : Int)
  · clear hO hu
    go_enter Try.func4, Try.ntmps4
    go_wp2_with (go_at_call 6; (with_reducible refine (aw _ (HK.out _ _ HG0.out HB.out)).mono ?_); rintro e w1 ⟨rfl, hb⟩; replace HB := Lib.hid (bthen HB.out hb); clear hb)
    go_ret
    exact ⟨rfl, HB.out⟩
  obtain ⟨d, e, hz⟩ : ∃ d e, checkB zs cols nx = (d, e) := ⟨_, _, rfl⟩
  have k1 := fun (W : World) (hb : Below w.heap.size w W) => hA.check a zs.length cap zs cols nx d e W (hO.keep hb) hu (by omega) (by omega) hz (HK.out _ _ HG0.out hb)
  have hw1 : IntKind.i64.wrap cols = cols := IntWalk.i64_in _ (by omega)
  by_cases he : e = 0
  · subst he
    obtain ⟨_, _, _, _, hd4, hodd⟩ := checkB_ok hz
    have k2 := fun (W : World) (hb : Below w.heap.size w W) => hA.check a zs.length cap zs (cols + 1) true d 0 W (hO.keep hb) hu (by omega) (by omega) (checkB_more (by omega) hz) (HK.out _ _ HG0.out hb)
    have hw2 : IntKind.i64.wrap (cols + 1) = cols + 1 := IntWalk.i64_in _ (by omega)
    have hw3 : wrap64 (cols + 1) = cols + 1 := IntWalk.wrap64_in _ (by omega)
    have hm : (zs.length : Int).tmod 2 = 1 := by rw [Int.tmod_eq_emod_of_nonneg (by omega)]; omega
    have hd0 : (0 : Int) ≤ (d : Int) := by omega
    have hd4' : (d : Int) ≤ 4 := by omega
    have hodd' := Lib.hid hodd
    clear hO hu hz hodd
    go_enter Try.func4, Try.ntmps4
    go_wp2_with (first
      | (go_at_call 7; (first | with_reducible refine (k1 _ HB.out).mono ?_ | with_reducible refine (k2 _ HB.out).mono ?_); rintro e w1 ⟨rfl, hb⟩; replace HB := Lib.hid (bthen HB.out hb); clear hb)
      | (go_at_call 6; (with_reducible refine (aw _ (HK.out _ _ HG0.out HB.out)).mono ?_); rintro e w1 ⟨rfl, hb⟩; replace HB := Lib.hid (bthen HB.out hb); clear hb))
    go_ret
    exact ⟨rfl, HB.out⟩
  · obtain rfl := checkB_zero hz he
    have he' : (e != 0) = true := by simp [he]
    clear hO hu hz
    go_enter Try.func4, Try.ntmps4
    go_wp2_with (first
      | (go_at_call 7; (with_reducible refine (k1 _ HB.out).mono ?_); rintro e w1 ⟨rfl, hb⟩; replace HB := Lib.hid (bthen HB.out hb); clear hb)
      | (go_at_call 6; (with_reducible refine (aw _ (HK.out _ _ HG0.out HB.out)).mono ?_); rintro e w1 ⟨rfl, hb⟩; replace HB := Lib.hid (bthen HB.out hb); clear hb))
    go_ret
    exact ⟨rfl, HB.out⟩
end Go.Proofs.Ytlipphmkalppiaa
