/-
  The walk of NttPairs: it answers true, where the program's calls do what is asked of them.
-/
import Derived.Test.YtflabonifbhmnaaDoorNAwake
namespace Go.Proofs.YtflabonifbhmnaaDoor
open Go.RowKit Go.Sort Go.BigFrame
set_option linter.unusedVariables false

set_option maxHeartbeats 8000000 in
theorem npairs_body (hF : AskForth) (hBk : AskBack) (hP : AskPoints) (hFQ : AskForthQ) (hBQ : AskBackQ) (a : Option Addr) (len cap : Nat) (zs : List (Int × Int)) (zi k : Int) (hz : U zi) (hk : I64 k) (w : World) (ht : Tab w) (hr : QRow w (.slice a len cap) zs) (hu : ∀ n ∈ zs, U n.1 ∧ U n.2) :
    Calls Tryd.prog 4 #[.slice a len cap, .int .u64 zi, .int .i64 k] w fun e w' => e = .returned (.bool true) ∧ Below w.heap.size w w' := by
  have hlm := hr.at.2.1
  unfold maxLen at hlm
  have aw := fun W t => nawake_any hF hBk hP W t
  have hB := Below.refl w.heap.size w
  by_cases hc : len ≤ 70 ∧ k ≤ 6
  · obtain ⟨l1, l2⟩ := hc
    have k1 := fun W h t => hFQ a len cap zs zi (toF zi) k W hz rfl hk h hu (by omega) t
    have k2 := fun W h => refforthq_one a len cap zs zi hz (toF zi) rfl k W h hu (by omega)
    have k3 := fun W h t => hBQ a len cap zs zi (toF zi) W hz rfl h hu (by omega) t
    have k4 := fun W h => refbackq_one a len cap zs zi hz (toF zi) rfl W h hu (by omega)
    unfold OneLQ at k1 k2 k3 k4
    generalize errF zs.length k = e1 at *
    generalize errB zs.length (toF zi) = e2 at *
    generalize resFQ zs (toF zi) k = xs at *
    generalize resBQ zs (toF zi) = ys at *
    clear hu hF hBk hP hz hFQ hBQ
    go_enter Tryd.func4, Tryd.ntmps4
    go_upto_region 4 with ((go_at_call 17; ((with_reducible refine (k1 _ hr ht).mono ?_); rintro e w1 ⟨a1, n1, c1, rfl, hb, h1⟩; replace hr := hr.keep hb; replace ht := ht.keep hb; replace hB := bthen hB hb; clear hb)))
    go_upto_region 5 with ((go_at_call 18; ((with_reducible refine (k2 _ hr).mono ?_); rintro e w2 ⟨a2, n2, c2, rfl, hb, h2⟩; replace hr := hr.keep hb; replace ht := ht.keep hb; replace h1 := h1.keep hb; replace hB := bthen hB hb; clear hb)))
    go_upto_region 6 with ((go_at_call 19; ((with_reducible refine (k3 _ hr ht).mono ?_); rintro e w3 ⟨a3, n3, c3, rfl, hb, h3⟩; replace hr := hr.keep hb; replace ht := ht.keep hb; replace h1 := h1.keep hb; replace h2 := h2.keep hb; replace hB := bthen hB hb; clear hb)))
    go_upto_region 7 with ((go_at_call 20; ((with_reducible refine (k4 _ hr).mono ?_); rintro e w4 ⟨a4, n4, c4, rfl, hb, h4⟩; replace ht := ht.keep hb; replace h1 := h1.keep hb; replace h2 := h2.keep hb; replace h3 := h3.keep hb; replace hB := bthen hB hb; clear hb hr)))
    go_wp2_with (first
      | (go_at_call 9; ((with_reducible refine (aw _ ht).mono ?_); rintro e w5 ⟨rfl, hb⟩; replace h1 := h1.keep hb; replace h2 := h2.keep hb; replace h3 := h3.keep hb; replace h4 := h4.keep hb; replace hB := bthen hB hb; clear hb))
      | (go_at_call 21; ((with_reducible refine (sameq_is a1 a2 n1 n2 c1 c2 xs xs _ h1.at h2.at rfl).mono ?_); rintro e w6 ⟨rfl, nq, rfl⟩; replace h3 := h3.keep (below_drewN (Below.refl _ _) nq); replace h4 := h4.keep (below_drewN (Below.refl _ _) nq)))
      | (go_at_call 21; ((with_reducible refine (sameq_is a3 a4 n3 n4 c3 c4 ys ys _ h3.at h4.at rfl).mono ?_); rintro e w6 ⟨rfl, nq2, rfl⟩)))
    go_ret
    exact ⟨rfl, below_drewN hB _⟩
  · clear hr hu hF hBk hP hFQ hBQ
    by_cases c1 : len ≤ 70
    · have c2 : 6 < k := by omega
      clear hc
      go_enter Tryd.func4, Tryd.ntmps4
      go_wp2_with (go_at_call 9; ((with_reducible refine (aw _ ht).mono ?_); rintro e w1 ⟨rfl, hb⟩))
      go_ret
      exact ⟨rfl, hb⟩
    · have c2 : 70 < len := by omega
      clear hc
      go_enter Tryd.func4, Tryd.ntmps4
      go_wp2_with (go_at_call 9; ((with_reducible refine (aw _ ht).mono ?_); rintro e w1 ⟨rfl, hb⟩))
      go_ret
      exact ⟨rfl, hb⟩
end Go.Proofs.YtflabonifbhmnaaDoor
