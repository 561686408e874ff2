/-
  The walk of ChainFinal: it answers true, where the program's calls do what is asked of them. (Written by gen_cn.py.)
-/
import Derived.Test.YtpckjlfnhfelkaaDoorGChain
import Derived.Test.YtpckjlfnhfelkaaDoorSame
import Derived.Test.YtpckjlfnhfelkaaDoorGRows
import Derived.BigQuiet
namespace Go.Proofs.YtpckjlfnhfelkaaDoor
open Go Go.RowKit Go.Sort Go.BigFrame
set_option linter.unusedVariables false

set_option maxRecDepth 100000 in
set_option maxHeartbeats 8000000 in
theorem cnfinal_body (G : World → Prop) (hAk : AskChain G) (aw : ∀ W, G W → Calls Tryd.prog 8 #[] W fun e w' => e = .returned (.bool true) ∧ Below W.heap.size W w') (a1 : Option Addr) (n1 cp1 : Nat) (l : QL) (f s : Int) (w : World) (hG : G w) (ha : QRowA w a1 n1 l) (hu : ∀ n ∈ l, U n.1 ∧ U n.2) (hf : I64 f) (hs : I64 s) :
    Calls Tryd.prog 4 #[.slice a1 n1 cp1, .int .i64 f, .int .i64 s] w fun e w' => e = .returned (.bool true) ∧ Below w.heap.size w w' := by
  have HK := Lib.hid (fun (W W' : World) => @AskChain.keep G hAk W W')
  have HG := Lib.hid hG
  have hl1 := ha.1
  have hm1 := ha.2.1
  unfold maxLen at hm1
  have HA1 := Lib.hid ha
  have HB : Hid (Below w.heap.size w w) := Lib.hid (Below.refl _ _)
  clear hG ha
  have aw := fun W (h : Below w.heap.size w W) => aw W (HK.out _ _ HG.out h)
  go_enter Tryd.func4, Tryd.ntmps4
  by_cases h70 : (70 : Int) < (n1 : Int)
  · go_wp2_with (go_at_call 8; (with_reducible refine (aw _ HB.out).mono ?_); rintro e w1 ⟨rfl, hb⟩; replace HB := Lib.hid (bthen HB.out hb); clear hb)
    go_ret
    exact ⟨rfl, HB.out⟩
  by_cases h60 : 60 < f
  · go_wp2_with (go_at_call 8; (with_reducible refine (aw _ HB.out).mono ?_); rintro e w1 ⟨rfl, hb⟩; replace HB := Lib.hid (bthen HB.out hb); clear hb)
    go_ret
    exact ⟨rfl, HB.out⟩
  obtain ⟨r, ok, hr⟩ : ∃ r ok, finV l f s = (r, ok) := ⟨_, _, rfl⟩
  have k1 := fun W (h : Below w.heap.size w W) => hAk.final a1 n1 cp1 l f s r ok W (HA1.out.keep h) hu (by omega) hf hs hr (HK.out _ _ HG.out h)
  have k2 := fun W (h : Below w.heap.size w W) => rcfinal_is a1 n1 cp1 l f s r ok W (HA1.out.keep h) hu (by omega) hs hr
  have k3 := fun W a1 c1 a2 c2 (q1 : QRowA W a1 r.length r) (q2 : QRowA W a2 r.length r) => sameq_is a1 a2 r.length r.length c1 c2 r r W q1 q2 rfl
  unfold WordPost at k1 k2
  clear hr hu
  go_upto_region 5 with (first
      | (go_at_call 12; (with_reducible refine (k1 _ HB.out).mono ?_); rintro e w1 ⟨hb, b1, d1, rfl, hq1⟩; have HQ1 := Lib.hid (And.intro hq1 (Below.refl w1.heap.size w1)); clear hq1; replace HB := Lib.hid (bthen HB.out hb); clear hb)
      | (go_at_call 13; (with_reducible refine (k2 _ HB.out).mono ?_); rintro e w2 ⟨hb, b2, d2, rfl, hq2⟩; replace HQ1 := Lib.hid (HQ1.out.1.keep hb); have HQ2 := Lib.hid hq2; clear hq2; replace HB := Lib.hid (bthen HB.out hb); clear hb))
  clear k1 k2
  cases ok
  all_goals
    go_wp2_with (first
      | (go_at_call 8; (with_reducible refine (aw _ HB.out).mono ?_); rintro e w1 ⟨rfl, hb⟩; replace HQ1 := Lib.hid (HQ1.out.keep hb); replace HQ2 := Lib.hid (HQ2.out.keep hb); replace HB := Lib.hid (bthen HB.out hb); clear hb)
      | (go_at_call 11; (with_reducible refine (k3 _ _ _ _ _ HQ1.out HQ2.out).mono ?_); rintro e w3 ⟨rfl, nq, rfl⟩; replace HB := Lib.hid (below_drewN HB.out nq)))
    go_ret
    exact ⟨rfl, HB.out⟩
end Go.Proofs.YtpckjlfnhfelkaaDoor
