/-
  The body of CountFew, where the program's calls do what is asked of them. (Written by gen_clfew.py.)
-/
import Derived.Test.YthfkfgjhgicfeaaDoorCountW
import Derived.Test.YthfkfgjhgicfeaaDoorCountFit
import Derived.Test.YthfkfgjhgicfeaaDoorCountAw
namespace Go.Proofs.YthfkfgjhgicfeaaDoor
open Go Go.RowKit
set_option linter.unusedVariables false

theorem few_facts {word : QL} {m d s : Nat} (h : word.length = 2 ^ (m + 1)) (h1 : 1 ≤ m) (h3 : m ≤ 3) (hds : d < s) (hs : s ≤ 2 ^ m) (hd : 2 * d ≤ 2 ^ (m + 1)) (hm : 3 * (2 ^ m - s) < 2 ^ m - d) :
    (badV word 0 (d : Int) (s : Int)).2 = decide (s ≤ bestV word 0 ((2 * d : Nat) : Int) true) ∧ ((badV word 0 (d : Int) (s : Int)).2 = true ∨ (badV word 0 (d : Int) (s : Int)).1.length ≤ word.length) := by
  have hB : BadW word m d s (badV word 0 (d : Int) (s : Int)).1 (badV word 0 (d : Int) (s : Int)).2 := ⟨h, h1, h3, hds, hs, rfl⟩
  exact ⟨hB.best hd, hB.few hm⟩
set_option maxRecDepth 100000 in
set_option maxHeartbeats 8000000 in
theorem few_4_1_0 (G : World → Prop) (hA : AskCount G) (a : Option Addr) (c : Nat) (word : QL) (dim miss : Int) (w : World) (hG : G w) (hw : QRowA w a 4 word) (hu : UsR word) (hc : 4 ≤ c) (e1 : dim.tmod 2 = 0) (e2 : miss.tmod 3 = 0) :
    Calls Tryd.prog 3 #[.slice a 4 c, .int .u8 dim, .int .u8 miss] w fun e w' => e = .returned (.bool true) ∧ Below w.heap.size w w' := by
  have HB := Lib.hid (Below.refl w.heap.size w)
  have aw := fun W (h : Below w.heap.size w W) => cntawake G hA W (hA.keep hG h)
  have ks := fun W => cfits a 4 c 2 true W (by decide)
  have F : (badV word 0 1 2).2 = decide (2 ≤ bestV word 0 2 true) ∧ ((badV word 0 1 2).2 = true ∨ (badV word 0 1 2).1.length ≤ word.length) := few_facts (m := 1) (d := 1) (s := 2) hw.1 (by decide) (by decide) (by decide) (by decide) (by decide) (by decide)
  have k1 := fun W (h : Below w.heap.size w W) => hA.bad a 4 c word 0 1 2 W (hw.keep h) hu (by decide) hc (by decide) (by unfold I64; decide) (by decide) (by unfold I64; decide) (hA.keep hG h)
  have k2 := fun W (h : Below w.heap.size w W) => hA.best a 4 c word 0 2 true W (hw.keep h) hu (by decide) (by decide) (by decide) (hA.keep hG h)
  rw [hw.1] at F
  generalize badV word 0 1 2 = r at *
  generalize bestV word 0 2 true = b at *
  clear hA hG hw hu hc
  obtain ⟨l, all⟩ := r
  go_enter Tryd.func3, Tryd.ntmps3
  cases all
  · have f1 : ¬ (2 : Int) ≤ (b : Int) := fun h => absurd F.1 (by simp; omega)
    have f2 : (l.length : Int) ≤ 4 := F.2.elim (fun h => by cases h) (fun h => Int.ofNat_le.2 h)
    clear F
    go_wp2_with (first
      | (go_at_call 7; (with_reducible refine (ks _).mono ?_); rintro e w1 ⟨rfl, hb⟩; replace HB := Lib.hid (bthen HB.out hb); clear hb)
      | (go_at_call 9; (with_reducible refine (k1 _ HB.out).mono ?_); rintro e w1 ⟨hb, ba, bc, rfl, _⟩; replace HB := Lib.hid (bthen HB.out hb); clear hb)
      | (go_at_call 10; (with_reducible refine (k2 _ HB.out).mono ?_); rintro e w1 ⟨rfl, hb⟩; replace HB := Lib.hid (bthen HB.out hb); clear hb)
      | (go_at_call 8; (with_reducible refine (aw _ HB.out).mono ?_); rintro e w1 ⟨rfl, hb⟩; replace HB := Lib.hid (bthen HB.out hb); clear hb))
    go_ret
    exact ⟨by simp [f1], HB.out⟩
  · have f1 : (2 : Int) ≤ (b : Int) := by
      have := of_decide_eq_true F.1.symm
      omega
    clear F
    go_wp2_with (first
      | (go_at_call 7; (with_reducible refine (ks _).mono ?_); rintro e w1 ⟨rfl, hb⟩; replace HB := Lib.hid (bthen HB.out hb); clear hb)
      | (go_at_call 9; (with_reducible refine (k1 _ HB.out).mono ?_); rintro e w1 ⟨hb, ba, bc, rfl, _⟩; replace HB := Lib.hid (bthen HB.out hb); clear hb)
      | (go_at_call 10; (with_reducible refine (k2 _ HB.out).mono ?_); rintro e w1 ⟨rfl, hb⟩; replace HB := Lib.hid (bthen HB.out hb); clear hb)
      | (go_at_call 8; (with_reducible refine (aw _ HB.out).mono ?_); rintro e w1 ⟨rfl, hb⟩; replace HB := Lib.hid (bthen HB.out hb); clear hb))
    go_ret
    exact ⟨rfl, HB.out⟩
set_option maxRecDepth 100000 in
set_option maxHeartbeats 8000000 in
theorem few_8_1_0 (G : World → Prop) (hA : AskCount G) (a : Option Addr) (c : Nat) (word : QL) (dim miss : Int) (w : World) (hG : G w) (hw : QRowA w a 8 word) (hu : UsR word) (hc : 8 ≤ c) (e1 : dim.tmod 2 = 0) (e2 : miss.tmod 3 = 0) :
    Calls Tryd.prog 3 #[.slice a 8 c, .int .u8 dim, .int .u8 miss] w fun e w' => e = .returned (.bool true) ∧ Below w.heap.size w w' := by
  have HB := Lib.hid (Below.refl w.heap.size w)
  have aw := fun W (h : Below w.heap.size w W) => cntawake G hA W (hA.keep hG h)
  have ks := fun W => cfits a 8 c 2 true W (by decide)
  have F : (badV word 0 1 4).2 = decide (4 ≤ bestV word 0 2 true) ∧ ((badV word 0 1 4).2 = true ∨ (badV word 0 1 4).1.length ≤ word.length) := few_facts (m := 2) (d := 1) (s := 4) hw.1 (by decide) (by decide) (by decide) (by decide) (by decide) (by decide)
  have k1 := fun W (h : Below w.heap.size w W) => hA.bad a 8 c word 0 1 4 W (hw.keep h) hu (by decide) hc (by decide) (by unfold I64; decide) (by decide) (by unfold I64; decide) (hA.keep hG h)
  have k2 := fun W (h : Below w.heap.size w W) => hA.best a 8 c word 0 2 true W (hw.keep h) hu (by decide) (by decide) (by decide) (hA.keep hG h)
  rw [hw.1] at F
  generalize badV word 0 1 4 = r at *
  generalize bestV word 0 2 true = b at *
  clear hA hG hw hu hc
  obtain ⟨l, all⟩ := r
  go_enter Tryd.func3, Tryd.ntmps3
  cases all
  · have f1 : ¬ (4 : Int) ≤ (b : Int) := fun h => absurd F.1 (by simp; omega)
    have f2 : (l.length : Int) ≤ 8 := F.2.elim (fun h => by cases h) (fun h => Int.ofNat_le.2 h)
    clear F
    go_wp2_with (first
      | (go_at_call 7; (with_reducible refine (ks _).mono ?_); rintro e w1 ⟨rfl, hb⟩; replace HB := Lib.hid (bthen HB.out hb); clear hb)
      | (go_at_call 9; (with_reducible refine (k1 _ HB.out).mono ?_); rintro e w1 ⟨hb, ba, bc, rfl, _⟩; replace HB := Lib.hid (bthen HB.out hb); clear hb)
      | (go_at_call 10; (with_reducible refine (k2 _ HB.out).mono ?_); rintro e w1 ⟨rfl, hb⟩; replace HB := Lib.hid (bthen HB.out hb); clear hb)
      | (go_at_call 8; (with_reducible refine (aw _ HB.out).mono ?_); rintro e w1 ⟨rfl, hb⟩; replace HB := Lib.hid (bthen HB.out hb); clear hb))
    go_ret
    exact ⟨by simp [f1], HB.out⟩
  · have f1 : (4 : Int) ≤ (b : Int) := by
      have := of_decide_eq_true F.1.symm
      omega
    clear F
    go_wp2_with (first
      | (go_at_call 7; (with_reducible refine (ks _).mono ?_); rintro e w1 ⟨rfl, hb⟩; replace HB := Lib.hid (bthen HB.out hb); clear hb)
      | (go_at_call 9; (with_reducible refine (k1 _ HB.out).mono ?_); rintro e w1 ⟨hb, ba, bc, rfl, _⟩; replace HB := Lib.hid (bthen HB.out hb); clear hb)
      | (go_at_call 10; (with_reducible refine (k2 _ HB.out).mono ?_); rintro e w1 ⟨rfl, hb⟩; replace HB := Lib.hid (bthen HB.out hb); clear hb)
      | (go_at_call 8; (with_reducible refine (aw _ HB.out).mono ?_); rintro e w1 ⟨rfl, hb⟩; replace HB := Lib.hid (bthen HB.out hb); clear hb))
    go_ret
    exact ⟨rfl, HB.out⟩
set_option maxRecDepth 100000 in
set_option maxHeartbeats 8000000 in
theorem few_8_2_0 (G : World → Prop) (hA : AskCount G) (a : Option Addr) (c : Nat) (word : QL) (dim miss : Int) (w : World) (hG : G w) (hw : QRowA w a 8 word) (hu : UsR word) (hc : 8 ≤ c) (e1 : dim.tmod 2 = 1) (e2 : miss.tmod 3 = 0) :
    Calls Tryd.prog 3 #[.slice a 8 c, .int .u8 dim, .int .u8 miss] w fun e w' => e = .returned (.bool true) ∧ Below w.heap.size w w' := by
  have HB := Lib.hid (Below.refl w.heap.size w)
  have aw := fun W (h : Below w.heap.size w W) => cntawake G hA W (hA.keep hG h)
  have ks := fun W => cfits a 8 c 4 true W (by decide)
  have F : (badV word 0 2 4).2 = decide (4 ≤ bestV word 0 4 true) ∧ ((badV word 0 2 4).2 = true ∨ (badV word 0 2 4).1.length ≤ word.length) := few_facts (m := 2) (d := 2) (s := 4) hw.1 (by decide) (by decide) (by decide) (by decide) (by decide) (by decide)
  have k1 := fun W (h : Below w.heap.size w W) => hA.bad a 8 c word 0 2 4 W (hw.keep h) hu (by decide) hc (by decide) (by unfold I64; decide) (by decide) (by unfold I64; decide) (hA.keep hG h)
  have k2 := fun W (h : Below w.heap.size w W) => hA.best a 8 c word 0 4 true W (hw.keep h) hu (by decide) (by decide) (by decide) (hA.keep hG h)
  rw [hw.1] at F
  generalize badV word 0 2 4 = r at *
  generalize bestV word 0 4 true = b at *
  clear hA hG hw hu hc
  obtain ⟨l, all⟩ := r
  go_enter Tryd.func3, Tryd.ntmps3
  cases all
  · have f1 : ¬ (4 : Int) ≤ (b : Int) := fun h => absurd F.1 (by simp; omega)
    have f2 : (l.length : Int) ≤ 8 := F.2.elim (fun h => by cases h) (fun h => Int.ofNat_le.2 h)
    clear F
    go_wp2_with (first
      | (go_at_call 7; (with_reducible refine (ks _).mono ?_); rintro e w1 ⟨rfl, hb⟩; replace HB := Lib.hid (bthen HB.out hb); clear hb)
      | (go_at_call 9; (with_reducible refine (k1 _ HB.out).mono ?_); rintro e w1 ⟨hb, ba, bc, rfl, _⟩; replace HB := Lib.hid (bthen HB.out hb); clear hb)
      | (go_at_call 10; (with_reducible refine (k2 _ HB.out).mono ?_); rintro e w1 ⟨rfl, hb⟩; replace HB := Lib.hid (bthen HB.out hb); clear hb)
      | (go_at_call 8; (with_reducible refine (aw _ HB.out).mono ?_); rintro e w1 ⟨rfl, hb⟩; replace HB := Lib.hid (bthen HB.out hb); clear hb))
    go_ret
    exact ⟨by simp [f1], HB.out⟩
  · have f1 : (4 : Int) ≤ (b : Int) := by
      have := of_decide_eq_true F.1.symm
      omega
    clear F
    go_wp2_with (first
      | (go_at_call 7; (with_reducible refine (ks _).mono ?_); rintro e w1 ⟨rfl, hb⟩; replace HB := Lib.hid (bthen HB.out hb); clear hb)
      | (go_at_call 9; (with_reducible refine (k1 _ HB.out).mono ?_); rintro e w1 ⟨hb, ba, bc, rfl, _⟩; replace HB := Lib.hid (bthen HB.out hb); clear hb)
      | (go_at_call 10; (with_reducible refine (k2 _ HB.out).mono ?_); rintro e w1 ⟨rfl, hb⟩; replace HB := Lib.hid (bthen HB.out hb); clear hb)
      | (go_at_call 8; (with_reducible refine (aw _ HB.out).mono ?_); rintro e w1 ⟨rfl, hb⟩; replace HB := Lib.hid (bthen HB.out hb); clear hb))
    go_ret
    exact ⟨rfl, HB.out⟩
set_option maxRecDepth 100000 in
set_option maxHeartbeats 8000000 in
theorem few_16_1_0 (G : World → Prop) (hA : AskCount G) (a : Option Addr) (c : Nat) (word : QL) (dim miss : Int) (w : World) (hG : G w) (hw : QRowA w a 16 word) (hu : UsR word) (hc : 16 ≤ c) (e1 : dim.tmod 2 = 0) (e2 : miss.tmod 3 = 0) :
    Calls Tryd.prog 3 #[.slice a 16 c, .int .u8 dim, .int .u8 miss] w fun e w' => e = .returned (.bool true) ∧ Below w.heap.size w w' := by
  have HB := Lib.hid (Below.refl w.heap.size w)
  have aw := fun W (h : Below w.heap.size w W) => cntawake G hA W (hA.keep hG h)
  have ks := fun W => cfits a 16 c 2 true W (by decide)
  have F : (badV word 0 1 8).2 = decide (8 ≤ bestV word 0 2 true) ∧ ((badV word 0 1 8).2 = true ∨ (badV word 0 1 8).1.length ≤ word.length) := few_facts (m := 3) (d := 1) (s := 8) hw.1 (by decide) (by decide) (by decide) (by decide) (by decide) (by decide)
  have k1 := fun W (h : Below w.heap.size w W) => hA.bad a 16 c word 0 1 8 W (hw.keep h) hu (by decide) hc (by decide) (by unfold I64; decide) (by decide) (by unfold I64; decide) (hA.keep hG h)
  have k2 := fun W (h : Below w.heap.size w W) => hA.best a 16 c word 0 2 true W (hw.keep h) hu (by decide) (by decide) (by decide) (hA.keep hG h)
  rw [hw.1] at F
  generalize badV word 0 1 8 = r at *
  generalize bestV word 0 2 true = b at *
  clear hA hG hw hu hc
  obtain ⟨l, all⟩ := r
  go_enter Tryd.func3, Tryd.ntmps3
  cases all
  · have f1 : ¬ (8 : Int) ≤ (b : Int) := fun h => absurd F.1 (by simp; omega)
    have f2 : (l.length : Int) ≤ 16 := F.2.elim (fun h => by cases h) (fun h => Int.ofNat_le.2 h)
    clear F
    go_wp2_with (first
      | (go_at_call 7; (with_reducible refine (ks _).mono ?_); rintro e w1 ⟨rfl, hb⟩; replace HB := Lib.hid (bthen HB.out hb); clear hb)
      | (go_at_call 9; (with_reducible refine (k1 _ HB.out).mono ?_); rintro e w1 ⟨hb, ba, bc, rfl, _⟩; replace HB := Lib.hid (bthen HB.out hb); clear hb)
      | (go_at_call 10; (with_reducible refine (k2 _ HB.out).mono ?_); rintro e w1 ⟨rfl, hb⟩; replace HB := Lib.hid (bthen HB.out hb); clear hb)
      | (go_at_call 8; (with_reducible refine (aw _ HB.out).mono ?_); rintro e w1 ⟨rfl, hb⟩; replace HB := Lib.hid (bthen HB.out hb); clear hb))
    go_ret
    exact ⟨by simp [f1], HB.out⟩
  · have f1 : (8 : Int) ≤ (b : Int) := by
      have := of_decide_eq_true F.1.symm
      omega
    clear F
    go_wp2_with (first
      | (go_at_call 7; (with_reducible refine (ks _).mono ?_); rintro e w1 ⟨rfl, hb⟩; replace HB := Lib.hid (bthen HB.out hb); clear hb)
      | (go_at_call 9; (with_reducible refine (k1 _ HB.out).mono ?_); rintro e w1 ⟨hb, ba, bc, rfl, _⟩; replace HB := Lib.hid (bthen HB.out hb); clear hb)
      | (go_at_call 10; (with_reducible refine (k2 _ HB.out).mono ?_); rintro e w1 ⟨rfl, hb⟩; replace HB := Lib.hid (bthen HB.out hb); clear hb)
      | (go_at_call 8; (with_reducible refine (aw _ HB.out).mono ?_); rintro e w1 ⟨rfl, hb⟩; replace HB := Lib.hid (bthen HB.out hb); clear hb))
    go_ret
    exact ⟨rfl, HB.out⟩
set_option maxRecDepth 100000 in
set_option maxHeartbeats 8000000 in
theorem few_16_1_1 (G : World → Prop) (hA : AskCount G) (a : Option Addr) (c : Nat) (word : QL) (dim miss : Int) (w : World) (hG : G w) (hw : QRowA w a 16 word) (hu : UsR word) (hc : 16 ≤ c) (e1 : dim.tmod 2 = 0) (e2 : miss.tmod 3 = 1) :
    Calls Tryd.prog 3 #[.slice a 16 c, .int .u8 dim, .int .u8 miss] w fun e w' => e = .returned (.bool true) ∧ Below w.heap.size w w' := by
  have HB := Lib.hid (Below.refl w.heap.size w)
  have aw := fun W (h : Below w.heap.size w W) => cntawake G hA W (hA.keep hG h)
  have ks := fun W => cfits a 16 c 2 true W (by decide)
  have F : (badV word 0 1 7).2 = decide (7 ≤ bestV word 0 2 true) ∧ ((badV word 0 1 7).2 = true ∨ (badV word 0 1 7).1.length ≤ word.length) := few_facts (m := 3) (d := 1) (s := 7) hw.1 (by decide) (by decide) (by decide) (by decide) (by decide) (by decide)
  have k1 := fun W (h : Below w.heap.size w W) => hA.bad a 16 c word 0 1 7 W (hw.keep h) hu (by decide) hc (by decide) (by unfold I64; decide) (by decide) (by unfold I64; decide) (hA.keep hG h)
  have k2 := fun W (h : Below w.heap.size w W) => hA.best a 16 c word 0 2 true W (hw.keep h) hu (by decide) (by decide) (by decide) (hA.keep hG h)
  rw [hw.1] at F
  generalize badV word 0 1 7 = r at *
  generalize bestV word 0 2 true = b at *
  clear hA hG hw hu hc
  obtain ⟨l, all⟩ := r
  go_enter Tryd.func3, Tryd.ntmps3
  cases all
  · have f1 : ¬ (7 : Int) ≤ (b : Int) := fun h => absurd F.1 (by simp; omega)
    have f2 : (l.length : Int) ≤ 16 := F.2.elim (fun h => by cases h) (fun h => Int.ofNat_le.2 h)
    clear F
    go_wp2_with (first
      | (go_at_call 7; (with_reducible refine (ks _).mono ?_); rintro e w1 ⟨rfl, hb⟩; replace HB := Lib.hid (bthen HB.out hb); clear hb)
      | (go_at_call 9; (with_reducible refine (k1 _ HB.out).mono ?_); rintro e w1 ⟨hb, ba, bc, rfl, _⟩; replace HB := Lib.hid (bthen HB.out hb); clear hb)
      | (go_at_call 10; (with_reducible refine (k2 _ HB.out).mono ?_); rintro e w1 ⟨rfl, hb⟩; replace HB := Lib.hid (bthen HB.out hb); clear hb)
      | (go_at_call 8; (with_reducible refine (aw _ HB.out).mono ?_); rintro e w1 ⟨rfl, hb⟩; replace HB := Lib.hid (bthen HB.out hb); clear hb))
    go_ret
    exact ⟨by simp [f1], HB.out⟩
  · have f1 : (7 : Int) ≤ (b : Int) := by
      have := of_decide_eq_true F.1.symm
      omega
    clear F
    go_wp2_with (first
      | (go_at_call 7; (with_reducible refine (ks _).mono ?_); rintro e w1 ⟨rfl, hb⟩; replace HB := Lib.hid (bthen HB.out hb); clear hb)
      | (go_at_call 9; (with_reducible refine (k1 _ HB.out).mono ?_); rintro e w1 ⟨hb, ba, bc, rfl, _⟩; replace HB := Lib.hid (bthen HB.out hb); clear hb)
      | (go_at_call 10; (with_reducible refine (k2 _ HB.out).mono ?_); rintro e w1 ⟨rfl, hb⟩; replace HB := Lib.hid (bthen HB.out hb); clear hb)
      | (go_at_call 8; (with_reducible refine (aw _ HB.out).mono ?_); rintro e w1 ⟨rfl, hb⟩; replace HB := Lib.hid (bthen HB.out hb); clear hb))
    go_ret
    exact ⟨rfl, HB.out⟩
set_option maxRecDepth 100000 in
set_option maxHeartbeats 8000000 in
theorem few_16_1_2 (G : World → Prop) (hA : AskCount G) (a : Option Addr) (c : Nat) (word : QL) (dim miss : Int) (w : World) (hG : G w) (hw : QRowA w a 16 word) (hu : UsR word) (hc : 16 ≤ c) (e1 : dim.tmod 2 = 0) (e2 : miss.tmod 3 = 2) :
    Calls Tryd.prog 3 #[.slice a 16 c, .int .u8 dim, .int .u8 miss] w fun e w' => e = .returned (.bool true) ∧ Below w.heap.size w w' := by
  have HB := Lib.hid (Below.refl w.heap.size w)
  have aw := fun W (h : Below w.heap.size w W) => cntawake G hA W (hA.keep hG h)
  have ks := fun W => cfits a 16 c 2 true W (by decide)
  have F : (badV word 0 1 6).2 = decide (6 ≤ bestV word 0 2 true) ∧ ((badV word 0 1 6).2 = true ∨ (badV word 0 1 6).1.length ≤ word.length) := few_facts (m := 3) (d := 1) (s := 6) hw.1 (by decide) (by decide) (by decide) (by decide) (by decide) (by decide)
  have k1 := fun W (h : Below w.heap.size w W) => hA.bad a 16 c word 0 1 6 W (hw.keep h) hu (by decide) hc (by decide) (by unfold I64; decide) (by decide) (by unfold I64; decide) (hA.keep hG h)
  have k2 := fun W (h : Below w.heap.size w W) => hA.best a 16 c word 0 2 true W (hw.keep h) hu (by decide) (by decide) (by decide) (hA.keep hG h)
  rw [hw.1] at F
  generalize badV word 0 1 6 = r at *
  generalize bestV word 0 2 true = b at *
  clear hA hG hw hu hc
  obtain ⟨l, all⟩ := r
  go_enter Tryd.func3, Tryd.ntmps3
  cases all
  · have f1 : ¬ (6 : Int) ≤ (b : Int) := fun h => absurd F.1 (by simp; omega)
    have f2 : (l.length : Int) ≤ 16 := F.2.elim (fun h => by cases h) (fun h => Int.ofNat_le.2 h)
    clear F
    go_wp2_with (first
      | (go_at_call 7; (with_reducible refine (ks _).mono ?_); rintro e w1 ⟨rfl, hb⟩; replace HB := Lib.hid (bthen HB.out hb); clear hb)
      | (go_at_call 9; (with_reducible refine (k1 _ HB.out).mono ?_); rintro e w1 ⟨hb, ba, bc, rfl, _⟩; replace HB := Lib.hid (bthen HB.out hb); clear hb)
      | (go_at_call 10; (with_reducible refine (k2 _ HB.out).mono ?_); rintro e w1 ⟨rfl, hb⟩; replace HB := Lib.hid (bthen HB.out hb); clear hb)
      | (go_at_call 8; (with_reducible refine (aw _ HB.out).mono ?_); rintro e w1 ⟨rfl, hb⟩; replace HB := Lib.hid (bthen HB.out hb); clear hb))
    go_ret
    exact ⟨by simp [f1], HB.out⟩
  · have f1 : (6 : Int) ≤ (b : Int) := by
      have := of_decide_eq_true F.1.symm
      omega
    clear F
    go_wp2_with (first
      | (go_at_call 7; (with_reducible refine (ks _).mono ?_); rintro e w1 ⟨rfl, hb⟩; replace HB := Lib.hid (bthen HB.out hb); clear hb)
      | (go_at_call 9; (with_reducible refine (k1 _ HB.out).mono ?_); rintro e w1 ⟨hb, ba, bc, rfl, _⟩; replace HB := Lib.hid (bthen HB.out hb); clear hb)
      | (go_at_call 10; (with_reducible refine (k2 _ HB.out).mono ?_); rintro e w1 ⟨rfl, hb⟩; replace HB := Lib.hid (bthen HB.out hb); clear hb)
      | (go_at_call 8; (with_reducible refine (aw _ HB.out).mono ?_); rintro e w1 ⟨rfl, hb⟩; replace HB := Lib.hid (bthen HB.out hb); clear hb))
    go_ret
    exact ⟨rfl, HB.out⟩
set_option maxRecDepth 100000 in
set_option maxHeartbeats 8000000 in
/-- Where the word doesn't fit, or too many places may be missing. -/
theorem few_no (G : World → Prop) (hA : AskCount G) (a : Option Addr) (n c : Nat) (d ms dim miss : Int) (w : World) (hG : G w) (e1 : dim.tmod 2 = d) (e2 : miss.tmod 3 = ms) (hd : d = 0 ∨ d = 1) (hm : ms = 0 ∨ ms = 1 ∨ ms = 2)
    (h : ¬ (fitsV n (2 * (1 + d)) = true ∧ 4 ≤ n ∧ 3 * ms + (1 + d) < ((n / 2 : Nat) : Int))) :
    Calls Tryd.prog 3 #[.slice a n c, .int .u8 dim, .int .u8 miss] w fun e w' => e = .returned (.bool true) ∧ Below w.heap.size w w' := by
  have HB := Lib.hid (Below.refl w.heap.size w)
  have aw := fun W (h : Below w.heap.size w W) => cntawake G hA W (hA.keep hG h)
  clear hA hG
  cases hf : fitsV n (2 * (1 + d))
  · clear h
    rcases hd with rfl | rfl <;>
    · have ks := fun W => cfits a n c _ false W hf
      clear hf hm e2
      simp only [Int.reduceMul, Int.reduceAdd] at ks
      go_enter Tryd.func3, Tryd.ntmps3
      go_wp2_with (first
        | (go_at_call 7; (with_reducible refine (ks _).mono ?_); rintro e w1 ⟨rfl, hb⟩; replace HB := Lib.hid (bthen HB.out hb); clear hb)
        | (go_at_call 8; (with_reducible refine (aw _ HB.out).mono ?_); rintro e w1 ⟨rfl, hb⟩; replace HB := Lib.hid (bthen HB.out hb); clear hb))
      go_ret
      exact ⟨rfl, HB.out⟩
  · have hn : n = 2 ∨ n = 4 ∨ n = 8 ∨ n = 16 := (of_decide_eq_true hf).1
    rcases hn with rfl | rfl | rfl | rfl <;> rcases hd with rfl | rfl <;> rcases hm with rfl | rfl | rfl <;> first
      | (exfalso; exact h ⟨hf, by decide, by decide⟩)
      | (exfalso; exact absurd hf (by decide))
      | (have ks := fun W => cfits a _ c _ true W hf
         clear hf h
         simp only [Int.reduceMul, Int.reduceAdd] at ks
         go_enter Tryd.func3, Tryd.ntmps3
         go_wp2_with (first
           | (go_at_call 7; (with_reducible refine (ks _).mono ?_); rintro e w1 ⟨rfl, hb⟩; replace HB := Lib.hid (bthen HB.out hb); clear hb)
           | (go_at_call 8; (with_reducible refine (aw _ HB.out).mono ?_); rintro e w1 ⟨rfl, hb⟩; replace HB := Lib.hid (bthen HB.out hb); clear hb))
         go_ret
         exact ⟨rfl, HB.out⟩)
set_option maxRecDepth 100000 in
set_option maxHeartbeats 8000000 in
theorem count_few (G : World → Prop) (hA : AskCount G) (a : Option Addr) (n c : Nat) (word : QL) (dim miss : Int) (w : World) (hG : G w) (hw : QRowA w a n word) (hu : UsR word) (hc : n ≤ c) (hd : 0 ≤ dim) (hm : 0 ≤ miss) :
    Calls Tryd.prog 3 #[.slice a n c, .int .u8 dim, .int .u8 miss] w fun e w' => e = .returned (.bool true) ∧ Below w.heap.size w w' := by
  have hd2 : dim.tmod 2 = 0 ∨ dim.tmod 2 = 1 := by rw [Int.tmod_eq_emod_of_nonneg hd]; omega
  have hm2 : miss.tmod 3 = 0 ∨ miss.tmod 3 = 1 ∨ miss.tmod 3 = 2 := by rw [Int.tmod_eq_emod_of_nonneg hm]; omega
  by_cases h : fitsV n (2 * (1 + dim.tmod 2)) = true ∧ 4 ≤ n ∧ 3 * miss.tmod 3 + (1 + dim.tmod 2) < ((n / 2 : Nat) : Int)
  · obtain ⟨hf, h4, h5⟩ := h
    have hn : n = 2 ∨ n = 4 ∨ n = 8 ∨ n = 16 := (of_decide_eq_true hf).1
    rcases hd2 with e1 | e1 <;> rcases hm2 with e2 | e2 | e2 <;> rw [e1] at hf h5 <;> rw [e2] at h5 <;> rcases hn with rfl | rfl | rfl | rfl
    · exact absurd h4 (by decide)
    · exact few_4_1_0 G hA a c word dim miss w hG hw hu hc e1 e2
    · exact few_8_1_0 G hA a c word dim miss w hG hw hu hc e1 e2
    · exact few_16_1_0 G hA a c word dim miss w hG hw hu hc e1 e2
    · exact absurd h4 (by decide)
    · exact absurd h5 (by decide)
    · exact absurd h5 (by decide)
    · exact few_16_1_1 G hA a c word dim miss w hG hw hu hc e1 e2
    · exact absurd h4 (by decide)
    · exact absurd h5 (by decide)
    · exact absurd h5 (by decide)
    · exact few_16_1_2 G hA a c word dim miss w hG hw hu hc e1 e2
    · exact absurd h4 (by decide)
    · exact absurd h5 (by decide)
    · exact few_8_2_0 G hA a c word dim miss w hG hw hu hc e1 e2
    · exact absurd hf (by decide)
    · exact absurd h4 (by decide)
    · exact absurd h5 (by decide)
    · exact absurd h5 (by decide)
    · exact absurd hf (by decide)
    · exact absurd h4 (by decide)
    · exact absurd h5 (by decide)
    · exact absurd h5 (by decide)
    · exact absurd hf (by decide)
  · exact few_no G hA a n c _ _ dim miss w hG rfl rfl hd2 hm2 h
end Go.Proofs.YthfkfgjhgicfeaaDoor
