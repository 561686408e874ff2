/-
  The walk of DrawOut: it answers true, where the program's calls do what is asked of them. (Written by gen_dlaws.py.)
-/
import Derived.Test.YtgnnliablgbgkaaDoorDrawRef3
import Derived.Test.YtgnnliablgbgkaaDoorDrawRef4
import Derived.Test.YtgnnliablgbgkaaDoorVars
import Derived.Test.YtgnnliablgbgkaaDoorGNum
import Derived.Test.YtgnnliablgbgkaaDoorSame
namespace Go.Proofs.YtgnnliablgbgkaaDoor
open Go Go.RowKit Go.Sort Go.BigFrame
set_option linter.unusedVariables false

set_option maxRecDepth 100000 in
set_option maxHeartbeats 8000000 in
theorem dout_body (G : World → Prop) (hA : AskDraw G) (aw : ∀ W, G W → Calls Tryd.prog 7 #[] W fun e w' => e = .returned (.bool true) ∧ Below W.heap.size W w') (s : ByteArray) (c k m : Int) (w : World) (hG0 : G w) (hs : s.size ≤ maxLen) (hc : -9223372036854775808 ≤ c ∧ c ≤ 9223372036854775807) :
    Calls Tryd.prog 4 #[.agg #[.string s, .int .i64 c], .int .i64 k, .int .i64 m] w fun e w' => e = .returned (.bool true) ∧ Below w.heap.size w w' := by
  have HK := Lib.hid (fun (W W' : World) => @AskDraw.keep G hA W W')
  have HG0 := Lib.hid hG0
  have hAh := Lib.hid hA
  unfold maxLen at hs
  clear hA hG0
  go_enter Tryd.func4, Tryd.ntmps4
  go_upto_region 1 with fail
  refine wp_gen (fun W => Below w.heap.size w W ∧ Duo W w.heap.size (.string s) (.int .i64 c)) ⟨(Below.refl _ _).alloc (Nat.le_refl _) _, by simp [Duo, go_sem]⟩ ?_
  obtain ⟨g3, hg⟩ : ∃ g, w.heap.size = g := ⟨_, rfl⟩
  rintro W1 ⟨hB, hS⟩
  rw [hg] at hS
  simp only [hg]
  have HB := Lib.hid hB; have HS := Lib.hid hS; have HV : Hid (Vars W1 []) := Lib.hid trivial
  obtain ⟨x0, x1, _, _⟩ := hS
  have hgl : w.heap.size ≤ g3 := by omega
  clear hB hg
  by_cases b0 : (200 : Int) < (s.size : Int)
  · go_wp2_with (go_at_call 7; (with_reducible refine (aw _ (HK.out _ _ HG0.out HB.out)).mono ?_); rintro e w1 ⟨rfl, hb⟩; replace HB := Lib.hid (bthen HB.out hb); clear hb)
    go_ret
    exact ⟨rfl, HB.out⟩
  by_cases b1 : k < 0
  · go_wp2_with (go_at_call 7; (with_reducible refine (aw _ (HK.out _ _ HG0.out HB.out)).mono ?_); rintro e w1 ⟨rfl, hb⟩; replace HB := Lib.hid (bthen HB.out hb); clear hb)
    go_ret
    exact ⟨rfl, HB.out⟩
  by_cases b2 : (30 : Int) < k
  · go_wp2_with (go_at_call 7; (with_reducible refine (aw _ (HK.out _ _ HG0.out HB.out)).mono ?_); rintro e w1 ⟨rfl, hb⟩; replace HB := Lib.hid (bthen HB.out hb); clear hb)
    go_ret
    exact ⟨rfl, HB.out⟩
  by_cases b3 : m < 0
  · go_wp2_with (go_at_call 7; (with_reducible refine (aw _ (HK.out _ _ HG0.out HB.out)).mono ?_); rintro e w1 ⟨rfl, hb⟩; replace HB := Lib.hid (bthen HB.out hb); clear hb)
    go_ret
    exact ⟨rfl, HB.out⟩
  by_cases b4 : (30 : Int) < m
  · go_wp2_with (go_at_call 7; (with_reducible refine (aw _ (HK.out _ _ HG0.out HB.out)).mono ?_); rintro e w1 ⟨rfl, hb⟩; replace HB := Lib.hid (bthen HB.out hb); clear hb)
    go_ret
    exact ⟨rfl, HB.out⟩
  obtain ⟨K, rfl⟩ := Int.eq_ofNat_of_zero_le (show 0 ≤ k by omega)
  obtain ⟨M, rfl⟩ := Int.eq_ofNat_of_zero_le (show 0 ≤ m by omega)
  obtain ⟨r, x, y, ok, hp⟩ := drawn_eta (outD (pairD (sqB s) 16) K M 16 c)
  have k1 := fun W hg => hAh.out.out s c K M r x y ok W (by omega) hc (by omega) (by omega) hp hg
  have k2 := fun W => rout_is s c K M r x y ok W (by omega) hc (by omega) (by omega) hp
  have hft := outD_fit (pairD (sqB s) 16) (fun c => pairD_fit (sqB s) 16 c) K M 16 c
  have hoo := outD_out (pairD (sqB s) 16) K M 16 c
  rw [hp] at hft hoo
  have hft : (0 ≤ x ∧ x < 18446744069414584321) ∧ (0 ≤ y ∧ y < 18446744069414584321) := hft
  have hoo : ok = true → outv (q2 x y) K M = true := hoo
  clear hp x0 x1
  obtain ⟨x0, x1, _, _⟩ := HS.out
  go_upto_region 4 with (go_at_call 15; (with_reducible refine (k1 _ (HK.out _ _ HG0.out HB.out)).mono ?_); rintro e w1 ⟨rfl, hb⟩)
  have hb' := bthen HB.out hb
  have hs := HS.out.keep hb; have hv := Vars.keep hb HV.out
  have hb2 := ((Below.refl w1.heap.size w1).alloc (Nat.le_refl _) (.cells #[.string s, .int .i64 r] 23)).alloc (by simp) (.cells #[.int .u64 x, .int .u64 y] 27)
  refine wp_gen (fun W => Below w.heap.size w W ∧ Duo W g3 (.string s) (.int .i64 c) ∧ Vars W [(w1.heap.size, .string s, .int .i64 r), (w1.heap.size + 1, .int .u64 x, .int .u64 y)]) ⟨bthen hb' hb2, hs.keep hb2, ⟨by simp [Duo, go_sem], by simp [Duo, go_sem], Vars.keep hb2 hv⟩⟩ ?_
  obtain ⟨g7, hg7⟩ : ∃ g, w1.heap.size = g := ⟨_, rfl⟩
  obtain ⟨g8, hg8⟩ : ∃ h, g7 + 1 = h := ⟨_, rfl⟩
  rintro W2 ⟨hB, hS, hV⟩
  simp only [hg7] at hV ⊢
  simp only [hg8] at hV ⊢
  clear HB HS HV x0 x1 hb hb' hs hv hb2 hg7 hg8
  have HB := Lib.hid hB; have HS := Lib.hid hS; have HV := Lib.hid hV
  clear hB hS hV
  obtain ⟨x0, x1, _, _⟩ := HS.out
  go_upto_region 5 with (go_at_call 16; (with_reducible refine (k2 _).mono ?_); rintro e w1 ⟨rfl, hb⟩)
  have hb' := bthen HB.out hb
  have hs := HS.out.keep hb; have hv := Vars.keep hb HV.out
  have hb2 := ((Below.refl w1.heap.size w1).alloc (Nat.le_refl _) (.cells #[.string s, .int .i64 r] 23)).alloc (by simp) (.cells #[.int .u64 x, .int .u64 y] 27)
  refine wp_gen (fun W => Below w.heap.size w W ∧ Duo W g3 (.string s) (.int .i64 c) ∧ Vars W [(w1.heap.size, .string s, .int .i64 r), (w1.heap.size + 1, .int .u64 x, .int .u64 y), (g7, .string s, .int .i64 r), (g8, .int .u64 x, .int .u64 y)]) ⟨bthen hb' hb2, hs.keep hb2, ⟨by simp [Duo, go_sem], by simp [Duo, go_sem], Vars.keep hb2 hv⟩⟩ ?_
  obtain ⟨g10, hg10⟩ : ∃ g, w1.heap.size = g := ⟨_, rfl⟩
  obtain ⟨g11, hg11⟩ : ∃ h, g10 + 1 = h := ⟨_, rfl⟩
  rintro W2 ⟨hB, hS, hV⟩
  simp only [hg10] at hV ⊢
  simp only [hg11] at hV ⊢
  clear HB HS HV x0 x1 hb hb' hs hv hb2 hg10 hg11
  have HB := Lib.hid hB; have HS := Lib.hid hS; have HV := Lib.hid hV
  clear hB hS hV
  obtain ⟨⟨a0, a1, _, _⟩, ⟨b0, b1, _, _⟩, ⟨d0, d1, _, _⟩, ⟨e0, e1, _, _⟩, _⟩ := HV.out
  clear HV HS k1 k2
  cases ok with
  | false =>
    clear hoo
    go_wp2_with (go_at_call 7; (with_reducible refine (aw _ (HK.out _ _ HG0.out HB.out)).mono ?_); rintro e w1 ⟨rfl, hb⟩; replace HB := Lib.hid (bthen HB.out hb); replace a0 := bkeep hb a0; replace a1 := bkeep hb a1; replace b0 := bkeep hb b0; replace b1 := bkeep hb b1; replace d0 := bkeep hb d0; replace d1 := bkeep hb d1; replace e0 := bkeep hb e0; replace e1 := bkeep hb e1; clear hb)
    go_ret
    exact ⟨rfl, HB.out⟩
  | true =>
    have z1 := fun W => rzout_is K M x y (q2 x y) true (by omega) (by omega) (rep_raw (by unfold U; omega) (by unfold U; omega)) (hoo rfl) W
    clear hoo
    go_wp2_with (first
      | (go_at_call 7; (with_reducible refine (aw _ (HK.out _ _ HG0.out HB.out)).mono ?_); rintro e w1 ⟨rfl, hb⟩; replace HB := Lib.hid (bthen HB.out hb); replace a0 := bkeep hb a0; replace a1 := bkeep hb a1; replace b0 := bkeep hb b0; replace b1 := bkeep hb b1; replace d0 := bkeep hb d0; replace d1 := bkeep hb d1; replace e0 := bkeep hb e0; replace e1 := bkeep hb e1; clear hb)
      | (go_at_call 17; (with_reducible refine (z1 _).mono ?_); rintro e w1 ⟨rfl, hb⟩; replace HB := Lib.hid (bthen HB.out hb); replace a0 := bkeep hb a0; replace a1 := bkeep hb a1; replace b0 := bkeep hb b0; replace b1 := bkeep hb b1; replace d0 := bkeep hb d0; replace d1 := bkeep hb d1; replace e0 := bkeep hb e0; replace e1 := bkeep hb e1; clear hb))
    go_ret
    exact ⟨rfl, HB.out⟩
end Go.Proofs.YtgnnliablgbgkaaDoor
