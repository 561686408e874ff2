/-
  The walk of SpongeSqueezes: it answers true, where the program's calls do what is asked of them. (Written by gen_slaws.py.)
-/
import Derived.Test.YtbfbfpanhonieaaDoorSLPlays
namespace Go.Proofs.YtbfbfpanhonieaaDoor
open Go Go.RowKit Go.Sort Go.BigFrame
set_option linter.unusedVariables false

def SqzRel (w : World) (g2 g5 r : Nat) (s : ByteArray) (c : Int) (i : Value) (W : World) : Prop := ∃ k : Nat, k ≤ r ∧ i = .int .i64 k ∧ Below w.heap.size w W ∧ Duo W g2 (.string s) (.int .i64 c) ∧ Duo W g5 (.string s) (.int .i64 (c + k))
theorem rem20 (n : Int) (h : 0 ≤ n ∧ n < 256) : ∃ r : Nat, r ≤ 19 ∧ n.tmod 20 = (r : Int) ∧ n % 20 = (r : Int) := by
  refine ⟨(n % 20).toNat, by omega, ?_, by omega⟩
  rw [Int.tmod_eq_emod_of_nonneg h.1]
  omega
set_option maxRecDepth 100000 in
set_option maxHeartbeats 8000000 in
theorem ssqz_body (G : World → Prop) (hA : AskSponge G) (aw : ∀ W, G W → Calls Tryd.prog 6 #[] W fun e w' => e = .returned (.bool true) ∧ Below W.heap.size W w') (s : ByteArray) (c n : Int) (w : World) (hG0 : G w) (hs : s.size ≤ maxLen) (hc : -9223372036854775808 ≤ c ∧ c ≤ 9223372036854775807) (hn : 0 ≤ n ∧ n < 256) :
    Calls Tryd.prog 5 #[.agg #[.string s, .int .i64 c], .int .u8 n] w fun e w' => e = .returned (.bool true) ∧ Below w.heap.size w w' := by
  have HK := Lib.hid (fun (W W' : World) => @AskSponge.keep G hA W W')
  have HG0 := Lib.hid hG0
  have hAh := Lib.hid hA
  obtain ⟨r, hr, hm, hm'⟩ := rem20 n hn
  unfold maxLen at hs
  clear hA hG0 hn
  go_enter Tryd.func5, Tryd.ntmps5
  go_upto_region 1 with fail
  refine wp_gen (fun W => Below w.heap.size w W ∧ Duo W w.heap.size (.string s) (.int .i64 c)) ⟨(Below.refl _ _).alloc (Nat.le_refl _) _, by simp [Duo, go_sem]⟩ ?_
  obtain ⟨g2, hg2⟩ : ∃ g, w.heap.size = g := ⟨_, rfl⟩
  rintro W1 ⟨hB, hD⟩
  rw [hg2] at hD
  simp only [hg2]
  have hlt2 := hD.lt
  have HB := Lib.hid hB; have HD := Lib.hid hD
  obtain ⟨z0, z1, _, _⟩ := hD
  have hg2' : w.heap.size ≤ g2 := by omega
  clear hB hg2
  by_cases b1 : (200 : Int) < (s.size : Int)
  · go_wp2_with (go_at_call 6; (with_reducible refine (aw _ (HK.out _ _ HG0.out HB.out)).mono ?_); rintro e w1 ⟨rfl, hb⟩; replace HB := Lib.hid (bthen HB.out hb); clear hb)
    go_ret
    exact ⟨rfl, HB.out⟩
  by_cases b2 : (1152921504606846976 : Int) < c
  · go_wp2_with (go_at_call 6; (with_reducible refine (aw _ (HK.out _ _ HG0.out HB.out)).mono ?_); rintro e w1 ⟨rfl, hb⟩; replace HB := Lib.hid (bthen HB.out hb); clear hb)
    go_ret
    exact ⟨rfl, HB.out⟩
  go_upto_region 5 with fail
  refine wp_gen (fun W => Below w.heap.size w W ∧ Duo W g2 (.string s) (.int .i64 c) ∧ Duo W W1.heap.size (.string s) (.int .i64 (c + (0 : Nat)))) ⟨HB.out.alloc HB.out.size _, HD.out.keep ((Below.refl _ _).alloc (Nat.le_refl _) _), by simp [Duo, go_sem]⟩ ?_
  obtain ⟨g5, hg5⟩ : ∃ g, W1.heap.size = g := ⟨_, rfl⟩
  have hs1 := HB.out.size
  rintro W2 ⟨hB, hD2, hD5⟩
  rw [hg5] at hD5 hlt2 hs1
  simp only [hg5]
  have hne : g5 ≠ g2 := by omega
  have hg5' : w.heap.size ≤ g5 := by omega
  clear hg5 HB HD z0 z1
  go_loopw [6] (SqzRel w g2 g5 r s c) (fun i _ => r - (intOf i).toNat)
  case atStart => exact ⟨0, Nat.zero_le _, rfl, hB, hD2, hD5⟩
  case round =>
    clear hB hD2 hD5
    obtain ⟨k, hk, rfl, hB, hD2, hD5⟩ := hrel
    have HB := Lib.hid hB; have HD2 := Lib.hid hD2; have HD5 := Lib.hid hD5
    clear hB hD2
    by_cases hlt : k < r
    · have hlt' : (k : Int) < (r : Int) := by omega
      obtain ⟨x0, x1, x2, x3⟩ := hD5
      have q1 := fun W hg => hAh.out.squeeze s (c + k) W (by omega) (by omega) hg
      rw [IntWalk.i64_in (c + k + 1) (by omega)] at q1
      obtain ⟨X, hX⟩ : ∃ X, sqB s (c + k) = X := ⟨_, rfl⟩
      rw [hX] at q1
      clear hX
      go_upto_region 6 with (go_at_call 7; (with_reducible refine (q1 _ (HK.out _ _ HG0.out HB.out)).mono ?_); rintro e w1 ⟨rfl, hb⟩; replace x2 := bfree hb x0 x2; replace x3 := bfree hb x1 x3; replace x0 := bkeep hb x0; replace x1 := bkeep hb x1)
      refine wp_gen (fun W => Below w.heap.size w W ∧ Duo W g2 (.string s) (.int .i64 c) ∧ Duo W g5 (.string s) (.int .i64 (c + k + 1))) ⟨((bthen HB.out hb).setCell hg5' _).setCell hg5' _, ((HD2.out.keep hb).far hne _ _).far hne _ _, (HD5.out.keep hb).set _ _⟩ ?_
      clear HB HD2 HD5 x0 x1 x2 x3 hb
      rintro W3 ⟨hB, hD2, hD5⟩
      have HB := Lib.hid hB; have HD2 := Lib.hid hD2; have HD5 := Lib.hid hD5
      clear hB hD2 hD5
      go_wp2_with fail
      go_roundw
      case rel => exact ⟨k + 1, by omega, by go_num, HB.out, HD2.out, by rw [show c + ((k + 1 : Nat) : Int) = c + k + 1 by omega]; exact HD5.out⟩
      case measure => simp [intOf]; omega
    · obtain rfl : k = r := by omega
      have q1 := fun W hg => hAh.out.squeeze s (c + k) W (by omega) (by omega) hg
      have hw : IntKind.i64.wrap (c + k) = c + k := IntWalk.i64_in _ (by omega)
      have hw' : wrap64 (c + k) = c + k := (IntWalk.i64_left _).symm.trans hw
      have hX : (sqB s (c + k)).size = 32 := sqB_size _ _
      have hXI : ((sqB s (c + k)).size : Int) = 32 := by omega
      generalize sqB s (c + k) = X at *
      generalize IntKind.i64.wrap (c + k + 1) = c1 at *
      have HW := Lib.hid hw; have HW' := Lib.hid hw'
      clear hw hw' hX
      obtain ⟨x0, x1, x2, x3⟩ := hD5
      go_upto_region 9 with (go_at_call 7; (with_reducible refine (q1 _ (HK.out _ _ HG0.out HB.out)).mono ?_); rintro e w1 ⟨rfl, hb⟩)
      have hb' := (bthen HB.out hb)
      have hd2 := HD2.out.keep hb; have hd5 := HD5.out.keep hb
      refine wp_gen (fun W => Below w.heap.size w W ∧ Duo W g2 (.string s) (.int .i64 c) ∧ Duo W g5 (.string s) (.int .i64 (c + k))) ⟨hb'.alloc hb'.size _, hd2.keep ((Below.refl _ _).alloc (Nat.le_refl _) _), hd5.keep ((Below.refl _ _).alloc (Nat.le_refl _) _)⟩ ?_
      generalize w1.heap.size = g7
      clear HB HD2 HD5 x0 x1 x2 x3 hb hb' hd2 hd5
      rintro W3 ⟨hB, hD2, hD5⟩
      have HB := Lib.hid hB; have HD2 := Lib.hid hD2; have HD5 := Lib.hid hD5
      obtain ⟨x0, x1, _, _⟩ := hD2
      clear hB hD5
      have hw' := HW'.out
      go_upto_region 10 with (go_at_call 7; (with_reducible refine (q1 _ (HK.out _ _ HG0.out HB.out)).mono ?_); rintro e w1 ⟨rfl, hb⟩)
      have hb' := (bthen HB.out hb)
      have hd2 := HD2.out.keep hb; have hd5 := HD5.out.keep hb
      refine wp_gen (fun W => Below w.heap.size w W ∧ Duo W g2 (.string s) (.int .i64 c) ∧ Duo W g5 (.string s) (.int .i64 (c + k))) ⟨hb'.alloc hb'.size _, hd2.keep ((Below.refl _ _).alloc (Nat.le_refl _) _), hd5.keep ((Below.refl _ _).alloc (Nat.le_refl _) _)⟩ ?_
      generalize w1.heap.size = g9
      clear HB HD2 HD5 x0 x1 hb hb' hd2 hd5
      rintro W4 ⟨hB, ⟨x0, x1, _, _⟩, ⟨y0, y1, _, _⟩⟩
      have HB := Lib.hid hB
      clear hB
      go_wp2_with (go_at_call 6; (with_reducible refine (aw _ (HK.out _ _ HG0.out HB.out)).mono ?_); rintro e w1 ⟨rfl, hb⟩; replace HB := Lib.hid (bthen HB.out hb); replace x0 := bkeep hb x0; replace x1 := bkeep hb x1; replace y0 := bkeep hb y0; replace y1 := bkeep hb y1; clear hb)
      go_ret
      exact ⟨rfl, HB.out⟩
end Go.Proofs.YtbfbfpanhonieaaDoor
