/-
  The body of CountBad, where the program's calls do what is asked of them. (Written by gen_cl2.py.)
-/
import Derived.Test.YthfkfgjhgicfeaaGreatDoorCountW
import Derived.Test.YthfkfgjhgicfeaaGreatDoorCountFit
import Derived.Test.YthfkfgjhgicfeaaGreatDoorCountAw
import Derived.Test.YthfkfgjhgicfeaaGreatDoorCountR6
namespace Go.Proofs.YthfkfgjhgicfeaaGreatDoor
open Go Go.RowKit
set_option linter.unusedVariables false

theorem sameq_below (a1 a2 : Option Addr) (l1 l2 c1 c2 : Nat) (xs : QL) (w : World) (h1 : QRowA w a1 l1 xs) (h2 : QRowA w a2 l2 xs) :
    Calls Tryz.prog 11 #[.slice a1 l1 c1, .slice a2 l2 c2] w fun e w' => e = .returned (.bool true) ∧ Below w.heap.size w w' :=
  (sameq_is a1 a2 l1 l2 c1 c2 xs xs w h1 h2 rfl).mono fun e w' ⟨h, n, hn⟩ => ⟨h, by subst hn; exact below_drewN (Below.refl _ _) n⟩
set_option maxRecDepth 100000 in
set_option maxHeartbeats 8000000 in
theorem count_bad (G : World → Prop) (hA : AskCount G) (a : Option Addr) (n c : Nat) (word : QL) (d0 d1 f : Int) (w : World) (hG : G w) (hw : QRowA w a n word) (hu : UsR word) (hc : n ≤ c) (hd0 : I64 d0) (hd1 : I64 d1) :
    Calls Tryz.prog 5 #[.slice a n c, .agg #[.int .i64 d0, .int .i64 d1], .int .i64 f] w fun e w' => e = .returned (.bool true) ∧ Below w.heap.size w w' := by
  have HB := Lib.hid (Below.refl w.heap.size w)
  have aw := fun W (h : Below w.heap.size w W) => cntawake G hA W (hA.keep hG h)
  cases hf : fitsV n (max d0 0)
  · have ks := fun W => cfits a n c (max d0 0) false W hf
    clear hA hG hw hu hc hd0 hd1 hf
    go_enter Tryz.func5, Tryz.ntmps5
    go_upto_region 1 with fail
    obtain ⟨g, hg⟩ : ∃ g, w.heap.size = g := ⟨_, rfl⟩
    refine wp_gen (fun W => Below w.heap.size w W ∧ W.cell? ⟨g, 0, none⟩ = some (.int .i64 d0) ∧ W.cell? ⟨g, 1, none⟩ = some (.int .i64 d1)) ⟨(Below.refl _ _).alloc (Nat.le_refl _) _, by subst hg; simp [go_sem], by subst hg; simp [go_sem]⟩ ?_
    rintro w0 ⟨hB0, c0, c1⟩
    simp only [hg]
    replace HB := Lib.hid hB0
    clear hB0 hg
    go_wp2_with (first
      | (go_at_call 14; (with_reducible refine (ks _).mono ?_); rintro e w1 ⟨rfl, hb⟩; replace HB := Lib.hid (bthen HB.out hb); replace c0 := bkeep hb c0; replace c1 := bkeep hb c1; clear hb)
      | (go_at_call 6; (with_reducible refine (aw _ HB.out).mono ?_); rintro e w1 ⟨rfl, hb⟩; replace HB := Lib.hid (bthen HB.out hb); clear hb))
    go_ret
    exact ⟨rfl, HB.out⟩
  · have hv := of_decide_eq_true hf
    have ks := fun W => cfits a n c (max d0 0) true W hf
    by_cases f0 : f < 0
    · clear hA hG hw hu hc hd0 hd1 hf hv
      go_enter Tryz.func5, Tryz.ntmps5
      go_upto_region 1 with fail
      obtain ⟨g, hg⟩ : ∃ g, w.heap.size = g := ⟨_, rfl⟩
      refine wp_gen (fun W => Below w.heap.size w W ∧ W.cell? ⟨g, 0, none⟩ = some (.int .i64 d0) ∧ W.cell? ⟨g, 1, none⟩ = some (.int .i64 d1)) ⟨(Below.refl _ _).alloc (Nat.le_refl _) _, by subst hg; simp [go_sem], by subst hg; simp [go_sem]⟩ ?_
      rintro w0 ⟨hB0, c0, c1⟩
      simp only [hg]
      replace HB := Lib.hid hB0
      clear hB0 hg
      go_wp2_with (first
        | (go_at_call 14; (with_reducible refine (ks _).mono ?_); rintro e w1 ⟨rfl, hb⟩; replace HB := Lib.hid (bthen HB.out hb); replace c0 := bkeep hb c0; replace c1 := bkeep hb c1; clear hb)
        | (go_at_call 6; (with_reducible refine (aw _ HB.out).mono ?_); rintro e w1 ⟨rfl, hb⟩; replace HB := Lib.hid (bthen HB.out hb); clear hb))
      go_ret
      exact ⟨rfl, HB.out⟩
    by_cases f1 : 40 < f
    · clear hA hG hw hu hc hd0 hd1 hf hv
      go_enter Tryz.func5, Tryz.ntmps5
      go_upto_region 1 with fail
      obtain ⟨g, hg⟩ : ∃ g, w.heap.size = g := ⟨_, rfl⟩
      refine wp_gen (fun W => Below w.heap.size w W ∧ W.cell? ⟨g, 0, none⟩ = some (.int .i64 d0) ∧ W.cell? ⟨g, 1, none⟩ = some (.int .i64 d1)) ⟨(Below.refl _ _).alloc (Nat.le_refl _) _, by subst hg; simp [go_sem], by subst hg; simp [go_sem]⟩ ?_
      rintro w0 ⟨hB0, c0, c1⟩
      simp only [hg]
      replace HB := Lib.hid hB0
      clear hB0 hg
      go_wp2_with (first
        | (go_at_call 14; (with_reducible refine (ks _).mono ?_); rintro e w1 ⟨rfl, hb⟩; replace HB := Lib.hid (bthen HB.out hb); replace c0 := bkeep hb c0; replace c1 := bkeep hb c1; clear hb)
        | (go_at_call 6; (with_reducible refine (aw _ HB.out).mono ?_); rintro e w1 ⟨rfl, hb⟩; replace HB := Lib.hid (bthen HB.out hb); clear hb))
      go_ret
      exact ⟨rfl, HB.out⟩
    have hn : n ≤ 16 := by have := hv.1; omega
    have hd4 : d0 ≤ 4 := by have := hv.2.2.1; omega
    have k1 := fun W (h : Below w.heap.size w W) => hA.bad a n c word f d0 d1 W (hw.keep h) hu hn hc ⟨by omega, by omega⟩ hd0 hd4 hd1 (hA.keep hG h)
    have k2 := fun W (h : Below w.heap.size w W) => rbad_is a n c word f d0 d1 W (hw.keep h) hu hn ⟨by omega, by omega⟩ hd0 hd1
    unfold BadPost at k1 k2
    generalize badV word f d0 d1 = r at *
    obtain ⟨l, all⟩ := r
    simp only at k1 k2
    have k3 := fun a1 a2 c1 c2 W h1 h2 => sameq_below a1 a2 l.length l.length c1 c2 (encL l) W h1 h2
    generalize l.length = L at *
    generalize encL l = zs at *
    clear hA hG hw hu hc hf hv hd0 hd1 hd4 hn
    go_enter Tryz.func5, Tryz.ntmps5
    go_upto_region 1 with fail
    obtain ⟨g, hg⟩ : ∃ g, w.heap.size = g := ⟨_, rfl⟩
    refine wp_gen (fun W => Below w.heap.size w W ∧ W.cell? ⟨g, 0, none⟩ = some (.int .i64 d0) ∧ W.cell? ⟨g, 1, none⟩ = some (.int .i64 d1)) ⟨(Below.refl _ _).alloc (Nat.le_refl _) _, by subst hg; simp [go_sem], by subst hg; simp [go_sem]⟩ ?_
    rintro w0 ⟨hB0, c0, c1⟩
    simp only [hg]
    replace HB := Lib.hid hB0
    clear hB0 hg
    go_upto_region 3 with (go_at_call 14; (with_reducible refine (ks _).mono ?_); rintro e w1 ⟨rfl, hb⟩; replace HB := Lib.hid (bthen HB.out hb); replace c0 := bkeep hb c0; replace c1 := bkeep hb c1; clear hb)
    go_upto_region 4 with (go_at_call 19; (with_reducible refine (k1 _ HB.out).mono ?_); rintro e w1 ⟨hb, ba, bc, rfl, hq⟩; have HQ1 := Lib.hid hq; replace HB := Lib.hid (bthen HB.out hb); replace c0 := bkeep hb c0; replace c1 := bkeep hb c1; clear hb hq)
    go_upto_region 5 with (go_at_call 20; (with_reducible refine (k2 _ HB.out).mono ?_); rintro e w1 ⟨hb, ra, rc, rfl, hq⟩; have HQ2 := Lib.hid hq; replace HQ1 := Lib.hid (HQ1.out.keep hb); replace HB := Lib.hid (bthen HB.out hb); clear hb hq)
    clear c0 c1 k1 k2 ks f0 f1
    cases all <;>
    · go_wp2_with (first
        | (go_at_call 6; (with_reducible refine (aw _ HB.out).mono ?_); rintro e w1 ⟨rfl, hb⟩; replace HQ1 := Lib.hid (HQ1.out.keep hb); replace HQ2 := Lib.hid (HQ2.out.keep hb); replace HB := Lib.hid (bthen HB.out hb); clear hb)
        | (go_at_call 11; (with_reducible refine (k3 _ _ _ _ _ HQ1.out HQ2.out).mono ?_); rintro e w1 ⟨rfl, hb⟩; replace HB := Lib.hid (bthen HB.out hb); clear hb))
      go_ret
      exact ⟨rfl, HB.out⟩
end Go.Proofs.YthfkfgjhgicfeaaGreatDoor
