/-
  The walk of FoldWords: it answers true, where the program's calls do what is asked of them. (Written by gen_flaws.py.)
-/
import Derived.Test.YtepfdhcdalkddaaDoorGFold
import Derived.Test.YtepfdhcdalkddaaDoorSame
import Derived.BigQuiet
namespace Go.Proofs.YtepfdhcdalkddaaDoor
open Go Go.RowKit Go.Sort Go.BigFrame
set_option linter.unusedVariables false

set_option maxRecDepth 100000 in
set_option maxHeartbeats 8000000 in
theorem fwords_body (G : World → Prop) (hAk : AskFold G) (aw : ∀ W, G W → Calls Tryd.prog 8 #[] W fun e w' => e = .returned (.bool true) ∧ Below W.heap.size W w') (a : Option Addr) (n cap : Nat) (l : List (Int × Int)) (y0 y1 f : Int) (w : World) (hG : G w) (ha : QRowA w a n l) (hrm : n ≤ cap) (hu : ∀ n ∈ l, U n.1 ∧ U n.2) (h0 : U y0) (h1 : U y1) (hf : I64 f) :
    Calls Tryd.prog 4 #[.slice a n cap, .agg #[.int .u64 y0, .int .u64 y1], .int .i64 f] w fun e w' => e = .returned (.bool true) ∧ Below w.heap.size w w' := by
  obtain rfl := ha.1
  have hm := ha.2.1
  unfold maxLen at hm
  have HK := Lib.hid (fun (W W' : World) => @AskFold.keep G hAk W W')
  have HG0 := Lib.hid hG
  clear hG
  have HA0 := Lib.hid ha
  have hy := rep_raw h0 h1
  clear ha h0 h1
  go_enter Tryd.func4, Tryd.ntmps4
  go_upto_region 1 with fail
  obtain ⟨g, hg⟩ : ∃ g, w.heap.size = g := ⟨_, rfl⟩
  refine wp_gen (fun W => Below w.heap.size w W ∧ Duo W g (.int .u64 y0) (.int .u64 y1)) ⟨(Below.refl _ _).alloc (Nat.le_refl _) _, by rw [← hg]; simp [Duo, go_sem]⟩ ?_
  rintro w0 ⟨hB0, hY⟩
  simp only [hg]
  have HB0 := Lib.hid hB0
  have HA := Lib.hid (HA0.out.keep hB0); have HG := Lib.hid (HK.out _ _ HG0.out hB0)
  have HB : Hid (Below w0.heap.size w0 w0) := Lib.hid (Below.refl _ _)
  obtain ⟨x0, x1, _, _⟩ := hY
  clear hB0 hg HA0 HG0
  have aw := fun W (h : Below w0.heap.size w0 W) => aw W (HK.out _ _ HG.out h)
  by_cases h70 : (70 : Int) < (l.length : Int)
  · go_wp2_with (go_at_call 8; (with_reducible refine (aw _ HB.out).mono ?_); rintro e w1 ⟨rfl, hb⟩; replace x0 := bkeep hb x0; replace x1 := bkeep hb x1; replace HB := Lib.hid (bthen HB.out hb); clear hb)
    go_ret
    exact ⟨rfl, bthen HB0.out HB.out⟩
  by_cases h100 : 100 < f
  · go_wp2_with (go_at_call 8; (with_reducible refine (aw _ HB.out).mono ?_); rintro e w1 ⟨rfl, hb⟩; replace x0 := bkeep hb x0; replace x1 := bkeep hb x1; replace HB := Lib.hid (bthen HB.out hb); clear hb)
    go_ret
    exact ⟨rfl, bthen HB0.out HB.out⟩
  obtain ⟨r, ok, hr⟩ : ∃ r ok, wordV l ⟨toF y0, toF y1⟩ f = (r, ok) := ⟨_, _, rfl⟩
  have k1 := fun W (h : Below w0.heap.size w0 W) => hAk.word a l.length cap l y0 y1 f ⟨toF y0, toF y1⟩ r ok W (HA.out.keep h) hrm hu (by omega) hy hf hr (HK.out _ _ HG.out h)
  have k2 := fun W (h : Below w0.heap.size w0 W) => rfword_is a l.length cap l y0 y1 f ⟨toF y0, toF y1⟩ r ok W (HA.out.keep h) hu hy hr
  have k3 := fun W a1 c1 a2 c2 (q1 : QRowA W a1 r.length r) (q2 : QRowA W a2 r.length r) => sameq_is a1 a2 r.length r.length c1 c2 r r W q1 q2 rfl
  unfold WordPost at k1 k2
  clear hr
  go_upto_region 5 with (first
      | (go_at_call 15; (with_reducible refine (k1 _ HB.out).mono ?_); rintro e w1 ⟨hb, a1, c1, rfl, hq1⟩; replace x0 := bkeep hb x0; replace x1 := bkeep hb x1; have HQ1 := Lib.hid (And.intro hq1 (Below.refl w1.heap.size w1)); clear hq1; replace HB := Lib.hid (bthen HB.out hb); clear hb)
      | (go_at_call 16; (with_reducible refine (k2 _ HB.out).mono ?_); rintro e w2 ⟨hb, a2, c2, rfl, hq2⟩; replace x0 := bkeep hb x0; replace x1 := bkeep hb x1; have HQ2 := Lib.hid hq2; replace HQ1 := Lib.hid (And.intro (HQ1.out.1.keep hb) True.intro); clear hq2; replace HB := Lib.hid (bthen HB.out hb); clear hb))
  replace HQ1 := Lib.hid HQ1.out.1
  clear k1 k2 x0 x1
  cases ok
  all_goals
    go_wp2_with (first
        | (go_at_call 8; (with_reducible refine (aw _ HB.out).mono ?_); rintro e w1 ⟨rfl, hb⟩; skip; replace HQ1 := Lib.hid (HQ1.out.keep hb); replace HQ2 := Lib.hid (HQ2.out.keep hb); replace HB := Lib.hid (bthen HB.out hb); clear hb)
        | (go_at_call 17; (with_reducible refine (k3 _ _ _ _ _ HQ1.out HQ2.out).mono ?_); rintro e w3 ⟨rfl, nq, rfl⟩; replace HB := Lib.hid (below_drewN HB.out nq)))
    go_ret
    exact ⟨rfl, bthen HB0.out HB.out⟩
end Go.Proofs.YtepfdhcdalkddaaDoor
