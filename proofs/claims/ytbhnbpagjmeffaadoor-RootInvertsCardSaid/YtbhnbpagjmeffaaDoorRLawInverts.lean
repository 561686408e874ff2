/-
  The walk of RootInverts: it answers true.
-/
import Derived.Test.YtbhnbpagjmeffaaDoorRAwake
import Derived.Test.YtbhnbpagjmeffaaDoorRefInvert
import Derived.Test.YtbhnbpagjmeffaaDoorRefInvertQ
import Derived.Test.YtbhnbpagjmeffaaDoorSame
import Derived.Test.YtbhnbpagjmeffaaDoorOpenPairs
namespace Go.Proofs.YtbhnbpagjmeffaaDoor
open Go.RowKit Go.Sort Go.BigFrame
set_option linter.unusedVariables false

/-- What is told of a row: what gives 1 with each; none, if one is 0. -/
noncomputable def outs (zs : List Int) : List Int := open Classical in if Nil0 zs then invs zs else []
noncomputable def okU (zs : List Int) : Bool := open Classical in decide (Nil0 zs)
noncomputable def outsq (zs : List (Int × Int)) : List (Int × Int) := open Classical in if Nil0Q zs then invsq zs else []
noncomputable def okQ (zs : List (Int × Int)) : Bool := open Classical in decide (Nil0Q zs)
theorem outs_yes {zs : List Int} (h : Nil0 zs) : outs zs = invs zs ∧ okU zs = true := by simp [outs, okU, h]
theorem outs_no {zs : List Int} (h : ¬ Nil0 zs) : outs zs = [] ∧ okU zs = false := by simp [outs, okU, h]
theorem outsq_yes {zs : List (Int × Int)} (h : Nil0Q zs) : outsq zs = invsq zs ∧ okQ zs = true := by simp [outsq, okQ, h]
theorem outsq_no {zs : List (Int × Int)} (h : ¬ Nil0Q zs) : outsq zs = [] ∧ okQ zs = false := by simp [outsq, okQ, h]

def OneU (zs : List Int) (w : World) (e : Ending) (w' : World) : Prop := ∃ a n c, e = .returned (.tuple #[.slice a n c, .bool (okU zs)]) ∧ Below w.heap.size w w' ∧ Row w' (.slice a n c) (outs zs)
def OneQ (zs : List (Int × Int)) (w : World) (e : Ending) (w' : World) : Prop := ∃ a n c, e = .returned (.tuple #[.slice a n c, .bool (okQ zs)]) ∧ Below w.heap.size w w' ∧ QRow w' (.slice a n c) (outsq zs)

theorem one_invert (a : Option Addr) (len cap : Nat) (zs : List Int) (w : World) (hr : Row w (.slice a len cap) zs) (hu : ∀ n ∈ zs, U n) (hl : len ≤ 4294967296) :
    Calls Tryd.prog 16 #[.slice a len cap] w (OneU zs w) := by
  by_cases h : Nil0 zs
  · refine (rinvert_yes a len cap zs w hr.at hu hl h).mono ?_
    rintro e w' ⟨g, he, hb, hrow⟩
    exact ⟨_, _, _, by rw [(outs_yes h).2]; exact he, hb, by rw [(outs_yes h).1]; exact hrow⟩
  · refine (rinvert_no a len cap zs w hr.at hu hl h).mono ?_
    rintro e w' ⟨he, hb⟩
    exact ⟨none, 0, 0, by rw [(outs_no h).2]; exact he, hb, by rw [(outs_no h).1]; exact Or.inl ⟨rfl, rfl⟩⟩
theorem one_refinvert (a : Option Addr) (len cap : Nat) (zs : List Int) (w : World) (hr : Row w (.slice a len cap) zs) (hu : ∀ n ∈ zs, U n) (hl : len ≤ 4294967296) :
    Calls Tryd.prog 17 #[.slice a len cap] w (OneU zs w) := by
  refine (refinvert_any a len cap zs w hr.at hu hl).mono ?_
  rintro e w' ⟨hb, ⟨h, he⟩ | ⟨h, a', c', he, hrow⟩⟩
  · exact ⟨none, 0, 0, by rw [(outs_no h).2]; exact he, hb, by rw [(outs_no h).1]; exact Or.inl ⟨rfl, rfl⟩⟩
  · exact ⟨_, _, _, by rw [(outs_yes h).2]; exact he, hb, by rw [(outs_yes h).1]; exact hrow⟩
theorem one_invertq (a : Option Addr) (len cap : Nat) (zs : List (Int × Int)) (w : World) (hr : QRow w (.slice a len cap) zs) (hu : ∀ n ∈ zs, U n.1 ∧ U n.2) (hl : len ≤ 4294967296) :
    Calls Tryd.prog 18 #[.slice a len cap] w (OneQ zs w) := by
  by_cases h : Nil0Q zs
  · refine (rinvertq_yes a len cap zs w hr.at hu hl h).mono ?_
    rintro e w' ⟨g, he, hb, hrow⟩
    exact ⟨_, _, _, by rw [(outsq_yes h).2]; exact he, hb, by rw [(outsq_yes h).1]; exact hrow⟩
  · refine (rinvertq_no a len cap zs w hr.at hu hl h).mono ?_
    rintro e w' ⟨he, hb⟩
    exact ⟨none, 0, 0, by rw [(outsq_no h).2]; exact he, hb, by rw [(outsq_no h).1]; exact Or.inl ⟨rfl, rfl⟩⟩
theorem one_refinvertq (a : Option Addr) (len cap : Nat) (zs : List (Int × Int)) (w : World) (hr : QRow w (.slice a len cap) zs) (hu : ∀ n ∈ zs, U n.1 ∧ U n.2) (hl : len ≤ 4294967296) :
    Calls Tryd.prog 19 #[.slice a len cap] w (OneQ zs w) := by
  refine (refinvertq_any a len cap zs w hr.at hu hl).mono ?_
  rintro e w' ⟨hb, ⟨h, he⟩ | ⟨h, a', c', he, hrow⟩⟩
  · exact ⟨none, 0, 0, by rw [(outsq_no h).2]; exact he, hb, by rw [(outsq_no h).1]; exact Or.inl ⟨rfl, rfl⟩⟩
  · exact ⟨_, _, _, by rw [(outsq_yes h).2]; exact he, hb, by rw [(outsq_yes h).1]; exact hrow⟩

theorem row_keep {w w' : World} {v : Value} {zs : List Int} (h : Row w v zs) (hb : Below w.heap.size w w') : Row w' v zs := h.below hb

set_option maxHeartbeats 4000000 in
theorem rinverts_body (a : Option Addr) (len cap : Nat) (zs : List Int) (b : Option Addr) (lenb capb : Nat) (ys : List (Int × Int)) (w : World) (ht : Tab w)
    (hr : Row w (.slice a len cap) zs) (hu : ∀ n ∈ zs, U n) (hq : QRow w (.slice b lenb capb) ys) (hv : ∀ n ∈ ys, U n.1 ∧ U n.2) (hlm : len ≤ maxLen) (hlm2 : lenb ≤ maxLen) :
    Calls Tryd.prog 4 #[.slice a len cap, .slice b lenb capb] w fun e w' => e = .returned (.bool true) ∧ Below w.heap.size w w' := by
  unfold maxLen at hlm hlm2
  have hB := Below.refl w.heap.size w
  by_cases hc : len ≤ 100 ∧ lenb ≤ 100
  · obtain ⟨l1, l2⟩ := hc
    have k1 := fun W h => one_invert a len cap zs W h hu (by omega)
    have k2 := fun W h => one_refinvert a len cap zs W h hu (by omega)
    have k3 := fun W h => one_invertq b lenb capb ys W h hv (by omega)
    have k4 := fun W h => one_refinvertq b lenb capb ys W h hv (by omega)
    unfold OneU at k1 k2
    unfold OneQ at k3 k4
    generalize okU zs = o1 at *
    generalize okQ ys = o2 at *
    generalize outs zs = xs at *
    generalize outsq ys = qs at *
    clear hu hv
    go_enter Tryd.func4, Tryd.ntmps4
    go_upto_region 4 with ((go_at_call 16; ((with_reducible refine (k1 _ hr).mono ?_); rintro e w1 ⟨a1, n1, c1, rfl, hb, h1⟩; replace hr := hr.below hb; replace hq := hq.keep hb; replace ht := ht.keep hb; replace hB := bthen hB hb; clear hb)))
    go_upto_region 5 with ((go_at_call 17; ((with_reducible refine (k2 _ hr).mono ?_); rintro e w2 ⟨a2, n2, c2, rfl, hb, h2⟩; replace hr := hr.below hb; replace hq := hq.keep hb; replace ht := ht.keep hb; replace h1 := h1.below hb; replace hB := bthen hB hb; clear hb)))
    clear hr
    go_upto_region 6 with ((go_at_call 18; ((with_reducible refine (k3 _ hq).mono ?_); rintro e w3 ⟨a3, n3, c3, rfl, hb, h3⟩; replace hq := hq.keep hb; replace ht := ht.keep hb; replace h1 := h1.below hb; replace h2 := h2.below hb; replace hB := bthen hB hb; clear hb)))
    go_upto_region 7 with ((go_at_call 19; ((with_reducible refine (k4 _ hq).mono ?_); rintro e w4 ⟨a4, n4, c4, rfl, hb, h4⟩; replace ht := ht.keep hb; replace h1 := h1.below hb; replace h2 := h2.below hb; replace h3 := h3.keep hb; replace hB := bthen hB hb; clear hb hq)))
    go_wp2_with (first
      | (go_at_call 9; ((with_reducible refine (rawake_any _ ht).mono ?_); rintro e w5 ⟨rfl, hb⟩; replace h1 := h1.below hb; replace h2 := h2.below hb; replace h3 := h3.keep hb; replace h4 := h4.keep hb; replace hB := bthen hB hb; clear hb))
      | (go_at_call 20; ((with_reducible refine (same_is a1 a2 n1 n2 c1 c2 xs xs _ h1.at h2.at rfl).mono ?_); rintro e w6 ⟨rfl, nq, rfl⟩; replace h3 := h3.keep (below_drewN (Below.refl _ _) nq); replace h4 := h4.keep (below_drewN (Below.refl _ _) nq)))
      | (go_at_call 21; ((with_reducible refine (sameq_is a3 a4 n3 n4 c3 c4 qs qs _ h3.at h4.at rfl).mono ?_); rintro e w6 ⟨rfl, nq2, rfl⟩)))
    go_ret
    exact ⟨rfl, below_drewN hB _⟩
  · clear hr hq hu hv
    by_cases c1 : len ≤ 100
    · have c2 : 100 < lenb := by omega
      clear hc
      go_enter Tryd.func4, Tryd.ntmps4
      go_wp2_with (go_at_call 9; ((with_reducible refine (rawake_any _ ht).mono ?_); rintro e w1 ⟨rfl, hb⟩))
      go_ret
      exact ⟨rfl, hb⟩
    · have c2 : 100 < len := by omega
      clear hc
      go_enter Tryd.func4, Tryd.ntmps4
      go_wp2_with (go_at_call 9; ((with_reducible refine (rawake_any _ ht).mono ?_); rintro e w1 ⟨rfl, hb⟩))
      go_ret
      exact ⟨rfl, hb⟩

theorem rinverts_walk (a : Option Addr) (len cap : Nat) (z0 : List Int) (b : Option Addr) (lenb capb : Nat) (ys : List (Int × Int)) (w : World)
    (h : (a = none ∧ len = 0 ∧ cap = 0 ∧ z0 = []) ∨ ∃ x, a = some x ∧ len ≤ cap ∧ cap ≤ maxLen ∧ z0.length = cap ∧ (∀ i, i < z0.length → w.cell? (x.add i) = some (.int .u64 (z0.getD i 0))) ∧ ∀ n ∈ z0, (Lit.int .u64 n).wf = true)
    (hp : IsPairs w b lenb capb ys) (ht : Tab w) :
    Calls Tryd.prog 4 #[.slice a len cap, .slice b lenb capb] w fun e w' => e = .returned (.bool true) ∧ Below w.heap.size w w' := by
  obtain ⟨hr, hlen, hwf⟩ := Row.came h
  obtain ⟨hq, hzl, hv⟩ := hp.row
  exact rinverts_body a len cap _ b lenb capb ys w ht hr (fun n hn => U_wf (hwf n hn)) hq hv hr.at.2.1 hq.at.2.1
end Go.Proofs.YtbhnbpagjmeffaaDoor
