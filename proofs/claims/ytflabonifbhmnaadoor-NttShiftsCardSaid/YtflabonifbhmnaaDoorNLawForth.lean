/-
  The walk of NttForth: it answers true, where the program's calls do what is asked of them.
-/
import Derived.Test.YtflabonifbhmnaaDoorNAwake
namespace Go.Proofs.YtflabonifbhmnaaDoor
open Go.RowKit Go.Sort Go.BigFrame
set_option linter.unusedVariables false

theorem tab_drewN {w : World} (h : Tab w) (n : Nat) : Tab (w.drewN n) := h

set_option maxHeartbeats 8000000 in
theorem nforth_body (hF : AskForth) (hBk : AskBack) (hP : AskPoints) (a : Option Addr) (len cap : Nat) (zs : List Int) (zi k : Int) (hz : U zi) (hk : I64 k) (w : World) (ht : Tab w) (hr : Row w (.slice a len cap) zs) (hu : ∀ n ∈ zs, U n) :
    Calls Tryd.prog 3 #[.slice a len cap, .int .u64 zi, .int .i64 k] w fun e w' => e = .returned (.bool true) ∧ Below w.heap.size w w' := by
  have hlm := hr.at.2.1
  unfold maxLen at hlm
  have aw := fun W t => nawake_any hF hBk hP W t
  have hB := Below.refl w.heap.size w
  by_cases hc : len ≤ 70 ∧ k ≤ 6
  · obtain ⟨l1, l2⟩ := hc
    have k1 := fun W h t => hF a len cap zs zi (toF zi) k W hz rfl hk h hu (by omega) t
    have k2 := fun W h => refforth_one a len cap zs zi hz (toF zi) rfl k W h hu
    have k3 := fun W h t => hBk a len cap zs zi (toF zi) W hz rfl h hu (by omega) t
    have k4 := fun W h => refback_one a len cap zs zi hz (toF zi) rfl W h hu
    have k5 := fun (m : Nat) (hm : m ≤ 20) W t => hP zi (toF zi) m W hz rfl hm t
    have k6 := fun (m : Nat) (hm : m ≤ 20) W => refpoints_any zi hz (toF zi) rfl m hm W
    unfold OneL at k1 k2 k3 k4
    unfold NewRow at k5 k6
    generalize errF zs.length k = e1 at *
    generalize errB zs.length (toF zi) = e2 at *
    generalize resF zs (toF zi) k = xs at *
    generalize resB zs (toF zi) = ys at *
    clear hu hF hBk hP hz
    by_cases k0 : k < 0
    · clear k5 k6
      go_enter Tryd.func3, Tryd.ntmps3
      go_upto_region 4 with ((go_at_call 10; ((with_reducible refine (k1 _ hr ht).mono ?_); rintro e w1 ⟨a1, n1, c1, rfl, hb, h1⟩; replace hr := hr.below hb; replace ht := ht.keep hb; replace hB := bthen hB hb; clear hb)))
      go_upto_region 5 with ((go_at_call 11; ((with_reducible refine (k2 _ hr).mono ?_); rintro e w2 ⟨a2, n2, c2, rfl, hb, h2⟩; replace hr := hr.below hb; replace ht := ht.keep hb; replace h1 := h1.below hb; replace hB := bthen hB hb; clear hb)))
      go_upto_region 6 with ((go_at_call 12; ((with_reducible refine (k3 _ hr ht).mono ?_); rintro e w3 ⟨a3, n3, c3, rfl, hb, h3⟩; replace hr := hr.below hb; replace ht := ht.keep hb; replace h1 := h1.below hb; replace h2 := h2.below hb; replace hB := bthen hB hb; clear hb)))
      go_upto_region 7 with ((go_at_call 13; ((with_reducible refine (k4 _ hr).mono ?_); rintro e w4 ⟨a4, n4, c4, rfl, hb, h4⟩; replace ht := ht.keep hb; replace h1 := h1.below hb; replace h2 := h2.below hb; replace h3 := h3.below hb; replace hB := bthen hB hb; clear hb hr)))
      go_wp2_with (first
        | (go_at_call 9; ((with_reducible refine (aw _ ht).mono ?_); rintro e w5 ⟨rfl, hb⟩; replace h1 := h1.below hb; replace h2 := h2.below hb; replace h3 := h3.below hb; replace h4 := h4.below hb; replace hB := bthen hB hb; clear hb))
        | (go_at_call 14; ((with_reducible refine (same_is a1 a2 n1 n2 c1 c2 xs xs _ h1.at h2.at rfl).mono ?_); rintro e w6 ⟨rfl, nq, rfl⟩; replace h3 := h3.below (below_drewN (Below.refl _ _) nq); replace h4 := h4.below (below_drewN (Below.refl _ _) nq)))
        | (go_at_call 14; ((with_reducible refine (same_is a3 a4 n3 n4 c3 c4 ys ys _ h3.at h4.at rfl).mono ?_); rintro e w6 ⟨rfl, nq2, rfl⟩)))
      go_ret
      exact ⟨rfl, below_drewN hB _⟩
    · obtain ⟨m, rfl⟩ := Int.eq_ofNat_of_zero_le (by omega : 0 ≤ k)
      replace k5 := k5 m (by omega)
      replace k6 := k6 m (by omega)
      generalize 2 ^ m = n at *
      generalize pts (toF zi) m = ps at *
      have l3 : (m : Int) ≤ 6 := by omega
      go_enter Tryd.func3, Tryd.ntmps3
      go_upto_region 4 with ((go_at_call 10; ((with_reducible refine (k1 _ hr ht).mono ?_); rintro e w1 ⟨a1, n1, c1, rfl, hb, h1⟩; replace hr := hr.below hb; replace ht := ht.keep hb; replace hB := bthen hB hb; clear hb)))
      go_upto_region 5 with ((go_at_call 11; ((with_reducible refine (k2 _ hr).mono ?_); rintro e w2 ⟨a2, n2, c2, rfl, hb, h2⟩; replace hr := hr.below hb; replace ht := ht.keep hb; replace h1 := h1.below hb; replace hB := bthen hB hb; clear hb)))
      go_upto_region 6 with ((go_at_call 12; ((with_reducible refine (k3 _ hr ht).mono ?_); rintro e w3 ⟨a3, n3, c3, rfl, hb, h3⟩; replace hr := hr.below hb; replace ht := ht.keep hb; replace h1 := h1.below hb; replace h2 := h2.below hb; replace hB := bthen hB hb; clear hb)))
      go_upto_region 7 with ((go_at_call 13; ((with_reducible refine (k4 _ hr).mono ?_); rintro e w4 ⟨a4, n4, c4, rfl, hb, h4⟩; replace ht := ht.keep hb; replace h1 := h1.below hb; replace h2 := h2.below hb; replace h3 := h3.below hb; replace hB := bthen hB hb; clear hb hr)))
      go_wp2_with (first
        | (go_at_call 9; ((with_reducible refine (aw _ ht).mono ?_); rintro e w5 ⟨rfl, hb⟩; replace ht := ht.keep hb; replace h1 := h1.below hb; replace h2 := h2.below hb; replace h3 := h3.below hb; replace h4 := h4.below hb; replace hB := bthen hB hb; clear hb))
        | (go_at_call 14; ((with_reducible refine (same_is a1 a2 n1 n2 c1 c2 xs xs _ h1.at h2.at rfl).mono ?_); rintro e w6 ⟨rfl, nq, rfl⟩; replace h3 := h3.below (below_drewN (Below.refl _ _) nq); replace h4 := h4.below (below_drewN (Below.refl _ _) nq)))
        | (go_at_call 14; ((with_reducible refine (same_is a3 a4 n3 n4 c3 c4 ys ys _ h3.at h4.at rfl).mono ?_); rintro e w6 ⟨rfl, nq2, rfl⟩))
        | (go_at_call 15; ((with_reducible refine (k5 _ (tab_drewN ht _)).mono ?_); rintro e w7 ⟨a5, c5, rfl, hb, h5⟩; replace hB := bthen (below_drewN hB _) hb; clear hb ht))
        | (go_at_call 16; ((with_reducible refine (k6 _).mono ?_); rintro e w8 ⟨a6, c6, rfl, hb, h6⟩; replace h5 := h5.below hb; replace hB := bthen hB hb; clear hb))
        | (go_at_call 14; ((with_reducible refine (same_is a5 a6 n n c5 c6 ps ps _ h5.at h6.at rfl).mono ?_); rintro e w6 ⟨rfl, nq3, rfl⟩)))
      go_ret
      exact ⟨rfl, below_drewN hB _⟩
  · clear hr hu hF hBk hP
    by_cases c1 : len ≤ 70
    · have c2 : 6 < k := by omega
      clear hc
      go_enter Tryd.func3, Tryd.ntmps3
      go_wp2_with (go_at_call 9; ((with_reducible refine (aw _ ht).mono ?_); rintro e w1 ⟨rfl, hb⟩))
      go_ret
      exact ⟨rfl, hb⟩
    · have c2 : 70 < len := by omega
      clear hc
      go_enter Tryd.func3, Tryd.ntmps3
      go_wp2_with (go_at_call 9; ((with_reducible refine (aw _ ht).mono ?_); rintro e w1 ⟨rfl, hb⟩))
      go_ret
      exact ⟨rfl, hb⟩
end Go.Proofs.YtflabonifbhmnaaDoor
