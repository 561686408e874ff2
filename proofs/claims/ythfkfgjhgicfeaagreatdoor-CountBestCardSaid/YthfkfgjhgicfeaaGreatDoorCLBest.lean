/-
  The body of CountBest, where the program's calls do what is asked of them. (Written by gen_cl2.py.)
-/
import Derived.Test.YthfkfgjhgicfeaaGreatDoorCountW
import Derived.Test.YthfkfgjhgicfeaaGreatDoorCountFit
import Derived.Test.YthfkfgjhgicfeaaGreatDoorCountAw
import Derived.Test.YthfkfgjhgicfeaaGreatDoorGCntRef
import Derived.BigQuiet
namespace Go.Proofs.YthfkfgjhgicfeaaGreatDoor
open Go Go.RowKit Go.Sort Go.BigFrame
set_option linter.unusedVariables false

def CbRel (w w0 : World) (i : Value) (W : World) : Prop := ∃ k : Nat, k ≤ 2 ∧ i = .int .i64 (k : Int) ∧ Below w.heap.size w W ∧ Below w0.heap.size w0 W
set_option maxRecDepth 100000 in
set_option maxHeartbeats 8000000 in
theorem count_best (G : World → Prop) (hA : AskCount G) (a : Option Addr) (n c : Nat) (word : QL) (la : Option Addr) (ln lc : Nat) (line : QL) (d0 d1 : Int) (w : World) (hG : G w) (hw : QRowA w a n word) (hu : UsR word) (hl : QRowA w la ln line) (hlu : UsR line) :
    Calls Tryz.prog 4 #[.slice a n c, .slice la ln lc, .agg #[.int .i64 d0, .int .i64 d1]] w fun e w' => e = .returned (.bool true) ∧ Below w.heap.size w w' := by
  have HB := Lib.hid (Below.refl w.heap.size w)
  have aw := fun W (h : Below w.heap.size w W) => cntawake G hA W (hA.keep hG h)
  cases hf : fitsV n d1
  · have ks := fun W => cfits a n c d1 false W hf
    clear hA hG hw hu hl hlu hf
    go_enter Tryz.func4, Tryz.ntmps4
    go_upto_region 1 with fail
    obtain ⟨g, hg⟩ : ∃ g, w.heap.size = g := ⟨_, rfl⟩
    refine wp_gen (fun W => Below w.heap.size w W ∧ W.cell? ⟨g, 0, none⟩ = some (.int .i64 d0) ∧ W.cell? ⟨g, 1, none⟩ = some (.int .i64 d1)) ⟨(Below.refl _ _).alloc (Nat.le_refl _) _, by subst hg; simp [go_sem], by subst hg; simp [go_sem]⟩ ?_
    rintro w0 ⟨hB0, c0, c1⟩
    simp only [hg]
    replace HB := Lib.hid hB0
    clear hB0 hg
    go_wp2_with (first
      | (go_at_call 14; (with_reducible refine (ks _).mono ?_); rintro e w1 ⟨rfl, hb⟩; replace HB := Lib.hid (bthen HB.out hb); replace c0 := bkeep hb c0; replace c1 := bkeep hb c1; clear hb)
      | (go_at_call 6; (with_reducible refine (aw _ HB.out).mono ?_); rintro e w1 ⟨rfl, hb⟩; replace HB := Lib.hid (bthen HB.out hb); clear hb))
    go_ret
    exact ⟨rfl, HB.out⟩
  · have hv := of_decide_eq_true hf
    have ks := fun W => cfits a n c d1 true W hf
    by_cases f2 : 20 < (ln : Int)
    · clear hA hG hw hu hl hlu hf hv
      go_enter Tryz.func4, Tryz.ntmps4
      go_upto_region 1 with fail
      obtain ⟨g, hg⟩ : ∃ g, w.heap.size = g := ⟨_, rfl⟩
      refine wp_gen (fun W => Below w.heap.size w W ∧ W.cell? ⟨g, 0, none⟩ = some (.int .i64 d0) ∧ W.cell? ⟨g, 1, none⟩ = some (.int .i64 d1)) ⟨(Below.refl _ _).alloc (Nat.le_refl _) _, by subst hg; simp [go_sem], by subst hg; simp [go_sem]⟩ ?_
      rintro w0 ⟨hB0, c0, c1⟩
      simp only [hg]
      replace HB := Lib.hid hB0
      clear hB0 hg
      go_wp2_with (first
        | (go_at_call 14; (with_reducible refine (ks _).mono ?_); rintro e w1 ⟨rfl, hb⟩; replace HB := Lib.hid (bthen HB.out hb); replace c0 := bkeep hb c0; replace c1 := bkeep hb c1; clear hb)
        | (go_at_call 6; (with_reducible refine (aw _ HB.out).mono ?_); rintro e w1 ⟨rfl, hb⟩; replace HB := Lib.hid (bthen HB.out hb); clear hb))
      go_ret
      exact ⟨rfl, HB.out⟩
    by_cases f0 : d0 < 0
    · clear hA hG hw hu hl hlu hf hv
      go_enter Tryz.func4, Tryz.ntmps4
      go_upto_region 1 with fail
      obtain ⟨g, hg⟩ : ∃ g, w.heap.size = g := ⟨_, rfl⟩
      refine wp_gen (fun W => Below w.heap.size w W ∧ W.cell? ⟨g, 0, none⟩ = some (.int .i64 d0) ∧ W.cell? ⟨g, 1, none⟩ = some (.int .i64 d1)) ⟨(Below.refl _ _).alloc (Nat.le_refl _) _, by subst hg; simp [go_sem], by subst hg; simp [go_sem]⟩ ?_
      rintro w0 ⟨hB0, c0, c1⟩
      simp only [hg]
      replace HB := Lib.hid hB0
      clear hB0 hg
      go_wp2_with (first
        | (go_at_call 14; (with_reducible refine (ks _).mono ?_); rintro e w1 ⟨rfl, hb⟩; replace HB := Lib.hid (bthen HB.out hb); replace c0 := bkeep hb c0; replace c1 := bkeep hb c1; clear hb)
        | (go_at_call 6; (with_reducible refine (aw _ HB.out).mono ?_); rintro e w1 ⟨rfl, hb⟩; replace HB := Lib.hid (bthen HB.out hb); clear hb))
      go_ret
      exact ⟨rfl, HB.out⟩
    by_cases f1 : 40 < d0
    · clear hA hG hw hu hl hlu hf hv
      go_enter Tryz.func4, Tryz.ntmps4
      go_upto_region 1 with fail
      obtain ⟨g, hg⟩ : ∃ g, w.heap.size = g := ⟨_, rfl⟩
      refine wp_gen (fun W => Below w.heap.size w W ∧ W.cell? ⟨g, 0, none⟩ = some (.int .i64 d0) ∧ W.cell? ⟨g, 1, none⟩ = some (.int .i64 d1)) ⟨(Below.refl _ _).alloc (Nat.le_refl _) _, by subst hg; simp [go_sem], by subst hg; simp [go_sem]⟩ ?_
      rintro w0 ⟨hB0, c0, c1⟩
      simp only [hg]
      replace HB := Lib.hid hB0
      clear hB0 hg
      go_wp2_with (first
        | (go_at_call 14; (with_reducible refine (ks _).mono ?_); rintro e w1 ⟨rfl, hb⟩; replace HB := Lib.hid (bthen HB.out hb); replace c0 := bkeep hb c0; replace c1 := bkeep hb c1; clear hb)
        | (go_at_call 6; (with_reducible refine (aw _ HB.out).mono ?_); rintro e w1 ⟨rfl, hb⟩; replace HB := Lib.hid (bthen HB.out hb); clear hb))
      go_ret
      exact ⟨rfl, HB.out⟩
    have hn : n ≤ 16 := by have := hv.1; omega
    have hd4 : 0 ≤ d1 ∧ d1 ≤ 4 := ⟨hv.2.1, hv.2.2.1⟩
    have ka := fun two W (h : Below w.heap.size w W) => hA.agree a n c word d0 la ln lc line two W (hw.keep h) hu (by omega) ⟨by omega, by omega⟩ (hl.keep h) hlu (by omega) (hA.keep hG h)
    have kra := fun two W (h : Below w.heap.size w W) => ragree_is a n c word d0 la ln lc line two W (hw.keep h) hu (by omega) (hl.keep h) hlu (by omega)
    have kb := fun two W (h : Below w.heap.size w W) => hA.best a n c word d0 d1 two W (hw.keep h) hu hn ⟨by omega, by omega⟩ hd4 (hA.keep hG h)
    have krb := fun two W (h : Below w.heap.size w W) => rbest_is a n c word d0 d1 two W (hw.keep h) hu hn
    unfold IntPost at ka kra kb krb
    clear hA hG hw hu hl hlu hf hv hd4 hn
    go_enter Tryz.func4, Tryz.ntmps4
    go_upto_region 1 with fail
    obtain ⟨g, hg⟩ : ∃ g, w.heap.size = g := ⟨_, rfl⟩
    refine wp_gen (fun W => Below w.heap.size w W ∧ W.cell? ⟨g, 0, none⟩ = some (.int .i64 d0) ∧ W.cell? ⟨g, 1, none⟩ = some (.int .i64 d1)) ⟨(Below.refl _ _).alloc (Nat.le_refl _) _, by subst hg; simp [go_sem], by subst hg; simp [go_sem]⟩ ?_
    rintro w0 ⟨hB0, c0, c1⟩
    simp only [hg]
    replace HB := Lib.hid hB0
    clear hB0 hg
    go_upto_region 3 with (go_at_call 14; (with_reducible refine (ks _).mono ?_); rintro e w1 ⟨rfl, hb⟩; replace HB := Lib.hid (bthen HB.out hb); replace c0 := bkeep hb c0; replace c1 := bkeep hb c1; clear hb)
    clear ks f0 f1 f2
    obtain ⟨wb, hwb⟩ : ∃ W, W = w1 := ⟨_, rfl⟩
    rw [← hwb] at HB c0 c1 ⊢
    clear hwb
    go_upto_region 4 with fail
    go_loopw [7] (CbRel w wb) (fun i _ => 2 - (intOf i).toNat)
    case atStart => exact ⟨0, by omega, rfl, HB.out, Below.refl _ _⟩
    case round =>
      obtain ⟨k, hk, rfl, hB, hBw⟩ := hrel
      obtain rfl | rfl | rfl : k = 0 ∨ k = 1 ∨ k = 2 := by omega
      · simp only [Int.natCast_zero] at *
        have A1 := fun W (h : Below wr.heap.size wr W) => ka false W (bthen hB h)
        have A2 := fun W (h : Below wr.heap.size wr W) => kra false W (bthen hB h)
        have B1 := fun W (h : Below wr.heap.size wr W) => kb false W (bthen hB h)
        have B2 := fun W (h : Below wr.heap.size wr W) => krb false W (bthen hB h)
        generalize agreeV word d0 (line.map toQ) false = va at *
        generalize bestV word d0 d1 false = vb at *
        have HBB := Lib.hid hB; have HBW := Lib.hid hBw
        replace c0 := bkeep hBw c0
        replace c1 := bkeep hBw c1
        clear hB hBw ka kra kb krb HB aw
        go_upto_region 6 with fail
        replace c0 := fun q : Regrown => cell_regrown c0 q.d q.os
        replace c1 := fun q : Regrown => cell_regrown c1 q.d q.os
        refine wp_region_quiet_below (by kernel_rfl) (by kernel_rfl) ?_
        repeat (first | go_big_quiet_step (first
          | (go_at_call 15; with_reducible exact Calls.regrown_of (A1 _ (below_regrown wr _ _)))
          | (go_at_call 16; with_reducible exact Calls.regrown_of (A2 _ (below_regrown wr _ _)))
          | (go_at_call 17; with_reducible exact Calls.regrown_of (B1 _ (below_regrown wr _ _)))
          | (go_at_call 18; with_reducible exact Calls.regrown_of (B2 _ (below_regrown wr _ _)))) | quiet_step (fail))
        refine wpQuiet_nil ?_
        rintro _ ⟨pq, rfl⟩
        have hbq := below_regrown wr pq.d pq.os
        replace HBB := Lib.hid (bthen HBB.out hbq)
        replace HBW := Lib.hid (bthen HBW.out hbq)
        clear c0 c1 A1 A2 B1 B2 hbq
        go_wp2_with fail
        go_roundw
        case rel => exact ⟨1, by omega, rfl, HBB.out, HBW.out⟩
        case measure => simp [intOf]
      · simp only [Int.natCast_one] at *
        have A1 := fun W (h : Below wr.heap.size wr W) => ka true W (bthen hB h)
        have A2 := fun W (h : Below wr.heap.size wr W) => kra true W (bthen hB h)
        have B1 := fun W (h : Below wr.heap.size wr W) => kb true W (bthen hB h)
        have B2 := fun W (h : Below wr.heap.size wr W) => krb true W (bthen hB h)
        generalize agreeV word d0 (line.map toQ) true = va at *
        generalize bestV word d0 d1 true = vb at *
        have HBB := Lib.hid hB; have HBW := Lib.hid hBw
        replace c0 := bkeep hBw c0
        replace c1 := bkeep hBw c1
        clear hB hBw ka kra kb krb HB aw
        go_upto_region 6 with fail
        replace c0 := fun q : Regrown => cell_regrown c0 q.d q.os
        replace c1 := fun q : Regrown => cell_regrown c1 q.d q.os
        refine wp_region_quiet_below (by kernel_rfl) (by kernel_rfl) ?_
        repeat (first | go_big_quiet_step (first
          | (go_at_call 15; with_reducible exact Calls.regrown_of (A1 _ (below_regrown wr _ _)))
          | (go_at_call 16; with_reducible exact Calls.regrown_of (A2 _ (below_regrown wr _ _)))
          | (go_at_call 17; with_reducible exact Calls.regrown_of (B1 _ (below_regrown wr _ _)))
          | (go_at_call 18; with_reducible exact Calls.regrown_of (B2 _ (below_regrown wr _ _)))) | quiet_step (fail))
        refine wpQuiet_nil ?_
        rintro _ ⟨pq, rfl⟩
        have hbq := below_regrown wr pq.d pq.os
        replace HBB := Lib.hid (bthen HBB.out hbq)
        replace HBW := Lib.hid (bthen HBW.out hbq)
        clear c0 c1 A1 A2 B1 B2 hbq
        go_wp2_with fail
        go_roundw
        case rel => exact ⟨2, by omega, rfl, HBB.out, HBW.out⟩
        case measure => simp [intOf]
      · replace HB := Lib.hid hB
        clear hB hBw c0 c1 ka kra kb krb
        go_wp2_with (go_at_call 6; (with_reducible refine (aw _ HB.out).mono ?_); rintro e w1 ⟨rfl, hb⟩; replace HB := Lib.hid (bthen HB.out hb); clear hb)
        go_ret
        exact ⟨rfl, HB.out⟩
end Go.Proofs.YthfkfgjhgicfeaaGreatDoor
