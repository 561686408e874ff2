/-
  The walk of AirParses: it answers true, where the program's calls do what is asked of them. (Written by gen_alaws.py.)
-/
import Derived.Test.YtckipfcjgmiacaaALShort
import Derived.Test.YtckipfcjgmiacaaAirRefC
import Derived.Test.YtckipfcjgmiacaaAirRefP
import Derived.BigQuiet
namespace Go.Proofs.Ytckipfcjgmiacaa
open Go Go.RowKit
set_option linter.unusedVariables false

set_option maxRecDepth 100000 in
set_option maxHeartbeats 8000000 in
theorem aparses_body (G : World → Prop) (hAk : AskAir G) (aw : ∀ W, G W → Calls Try.prog 9 #[] W fun e w' => e = .returned (.bool true) ∧ Below W.heap.size W w') (s : ByteArray) (A : AirP) (p : AirAt) (w : World) (hG : G w) (hA : AirA w A p) (hk : OkAir A) (hs : s.size ≤ maxLen) :
    Calls Try.prog 4 #[.string s, A.val p] w fun e w' => e = .returned (.bool true) ∧ Below w.heap.size w w' := by
  have HK := Lib.hid (fun (W W' : World) => @AskAir.keep G hAk W W')
  have HG0 := Lib.hid hG
  have HA0 := Lib.hid hA
  clear hG hA
  by_cases h3 : (3000 : Int) < (s.size : Int)
  · go_enter Try.func4, Try.ntmps4
    go_upto_region 1 with fail
    obtain ⟨g, hg⟩ : ∃ g, w.heap.size = g := ⟨_, rfl⟩
    refine wp_gen (fun W => Below w.heap.size w W ∧ AirC W g A p) ⟨(Below.refl _ _).alloc (Nat.le_refl _) _, by rw [← hg]; exact AirC.new _ _ _ _⟩ ?_
    rintro w0 ⟨hB0, hC⟩
    simp only [hg]
    have HB0 := Lib.hid hB0; have HC := Lib.hid hC
    have HA := Lib.hid (HA0.out.keep hB0)
    have HG := Lib.hid (HK.out _ _ HG0.out hB0)
    have HB : Hid (Below w0.heap.size w0 w0) := Lib.hid (Below.refl _ _)
    clear hB0 hg HA0 HG0 hC
    obtain ⟨x0, x1, x2, x3, x4⟩ := HC.out
    have aw := fun W (h : Below w0.heap.size w0 W) => aw W (HK.out _ _ HG.out h)
    go_wp2_with (go_at_call 9; (with_reducible refine (aw _ HB.out).mono ?_); rintro e w1 ⟨rfl, hb⟩; replace x0 := bkeep hb x0; replace x1 := bkeep hb x1; replace x2 := bkeep hb x2; replace x3 := bkeep hb x3; replace x4 := bkeep hb x4; replace HB := Lib.hid (bthen HB.out hb); clear hb)
    go_ret
    exact ⟨rfl, bthen HB0.out HB.out⟩
  by_cases hsh : shortB A = true
  case neg =>
    have hsh : shortB A = false := by simpa using hsh
    have ks := fun W (h : AirA W A p) => rashort_is A p false W h hsh
    clear hsh
    go_enter Try.func4, Try.ntmps4
    go_upto_region 1 with fail
    obtain ⟨g, hg⟩ : ∃ g, w.heap.size = g := ⟨_, rfl⟩
    refine wp_gen (fun W => Below w.heap.size w W ∧ AirC W g A p) ⟨(Below.refl _ _).alloc (Nat.le_refl _) _, by rw [← hg]; exact AirC.new _ _ _ _⟩ ?_
    rintro w0 ⟨hB0, hC⟩
    simp only [hg]
    have HB0 := Lib.hid hB0; have HC := Lib.hid hC
    have HA := Lib.hid (HA0.out.keep hB0)
    have HG := Lib.hid (HK.out _ _ HG0.out hB0)
    have HB : Hid (Below w0.heap.size w0 w0) := Lib.hid (Below.refl _ _)
    clear hB0 hg HA0 HG0 hC
    obtain ⟨x0, x1, x2, x3, x4⟩ := HC.out
    have ks := fun W (h : Below w0.heap.size w0 W) => ks W (HA.out.keep h)
    have aw := fun W (h : Below w0.heap.size w0 W) => aw W (HK.out _ _ HG.out h)
    go_wp2_with (first
        | (go_at_call 8; (with_reducible refine (ks _ HB.out).mono ?_); rintro e w1 ⟨rfl, hb⟩; replace x0 := bkeep hb x0; replace x1 := bkeep hb x1; replace x2 := bkeep hb x2; replace x3 := bkeep hb x3; replace x4 := bkeep hb x4; replace HB := Lib.hid (bthen HB.out hb); clear hb)
        | (go_at_call 9; (with_reducible refine (aw _ HB.out).mono ?_); rintro e w1 ⟨rfl, hb⟩; replace x0 := bkeep hb x0; replace x1 := bkeep hb x1; replace x2 := bkeep hb x2; replace x3 := bkeep hb x3; replace x4 := bkeep hb x4; replace HB := Lib.hid (bthen HB.out hb); clear hb))
    go_ret
    exact ⟨rfl, bthen HB0.out HB.out⟩
  have hf := short_few hsh
  have ks := fun W (h : AirA W A p) => rashort_is A p true W h hsh
  obtain ⟨Z, r, hz⟩ : ∃ Z r, parseA s = (Z, r) := ⟨_, _, rfl⟩
  have hs1 : s.size ≤ 3000 := by omega
  obtain ⟨e, he⟩ : ∃ e, A.check = e := ⟨_, rfl⟩
  have HE := Lib.hid he
  have hfz := parse_few hz
  go_enter Try.func4, Try.ntmps4
  go_upto_region 1 with fail
  obtain ⟨g, hg⟩ : ∃ g, w.heap.size = g := ⟨_, rfl⟩
  refine wp_gen (fun W => Below w.heap.size w W ∧ AirC W g A p) ⟨(Below.refl _ _).alloc (Nat.le_refl _) _, by rw [← hg]; exact AirC.new _ _ _ _⟩ ?_
  rintro w0 ⟨hB0, hC⟩
  simp only [hg]
  have HB0 := Lib.hid hB0; have HC := Lib.hid hC
  have HA := Lib.hid (HA0.out.keep hB0)
  have HG := Lib.hid (HK.out _ _ HG0.out hB0)
  have HB : Hid (Below w0.heap.size w0 w0) := Lib.hid (Below.refl _ _)
  clear hB0 hg HA0 HG0 hC
  obtain ⟨x0, x1, x2, x3, x4⟩ := HC.out
  have ks := fun W (h : Below w0.heap.size w0 W) => ks W (HA.out.keep h)
  have q1 := fun W (h : Below w0.heap.size w0 W) => hAk.parse s Z r W (by omega) hz (HK.out _ _ HG.out h)
  have q2 := fun W (h : Below w0.heap.size w0 W) => raparse_is s Z r W (by omega) hz
  unfold AirPost at q1 q2
  clear he hsh hz
  go_upto_region 4 with (first
      | (go_at_call 8; (with_reducible refine (ks _ HB.out).mono ?_); rintro e w1 ⟨rfl, hb⟩; replace x0 := bkeep hb x0; replace x1 := bkeep hb x1; replace x2 := bkeep hb x2; replace x3 := bkeep hb x3; replace x4 := bkeep hb x4; replace HB := Lib.hid (bthen HB.out hb); clear hb)
      | (go_at_call 21; (with_reducible refine (q1 _ HB.out).mono ?_); rintro E w1 ⟨hb, p1, rfl, o1⟩; replace x0 := bkeep hb x0; replace x1 := bkeep hb x1; replace x2 := bkeep hb x2; replace x3 := bkeep hb x3; replace x4 := bkeep hb x4; have HP1 := Lib.hid o1; clear o1; replace HB := Lib.hid (bthen HB.out hb); clear hb))
  obtain ⟨g5, hg5⟩ : ∃ g, w1.heap.size = g := ⟨_, rfl⟩
  refine wp_gen (fun W => Below w0.heap.size w0 W ∧ AirC W g5 Z p1 ∧ AirA W Z p1) ⟨bthen HB.out ((Below.refl _ _).alloc (Nat.le_refl _) _), by rw [← hg5]; exact AirC.new _ _ _ _, HP1.out.keep ((Below.refl _ _).alloc (Nat.le_refl _) _)⟩ ?_
  rintro w2 ⟨hB2, hC2, hZ2⟩
  simp only [hg5]
  clear HB HP1 x0 x1 x2 x3 x4 ks q1 hg5
  have HB := Lib.hid hB2; have HC2 := Lib.hid hC2; have HZ2 := Lib.hid hZ2
  clear hB2 hC2 hZ2
  obtain ⟨y0, y1, y2, y3, y4⟩ := HC2.out
  go_upto_region 5 with (go_at_call 22; (with_reducible refine (q2 _ HB.out).mono ?_); rintro E w3 ⟨hb, p2, rfl, o2⟩; replace y0 := bkeep hb y0; replace y1 := bkeep hb y1; replace y2 := bkeep hb y2; replace y3 := bkeep hb y3; replace y4 := bkeep hb y4; have HP2 := Lib.hid o2; clear o2; replace HC2 := Lib.hid (HC2.out.keep hb); replace HZ2 := Lib.hid (HZ2.out.keep hb); replace HB := Lib.hid (bthen HB.out hb); clear hb)
  obtain ⟨g7, hg7⟩ : ∃ g, w3.heap.size = g := ⟨_, rfl⟩
  have hal := fun o => (Below.refl w3.heap.size w3).alloc (Nat.le_refl _) o
  refine wp_gen (fun W => Below w0.heap.size w0 W ∧ (AirC W g5 Z p1 ∧ AirA W Z p1) ∧ AirC W g7 Z p2 ∧ AirA W Z p2) ⟨bthen HB.out (hal _), ⟨HC2.out.keep (hal _), HZ2.out.keep (hal _)⟩, by rw [← hg7]; exact AirC.new _ _ _ _, HP2.out.keep (hal _)⟩ ?_
  rintro w4 ⟨hB4, ⟨hC2, hZ2⟩, hC3, hZ3⟩
  simp only [hg7]
  clear HB HP2 y0 y1 y2 y3 y4 q2 hg7 hal HC2 HZ2
  have HB := Lib.hid hB4; have HZ2 := Lib.hid hZ2; have HZ3 := Lib.hid hZ3
  have kS := fun W (h : Below w4.heap.size w4 W) => rasame_is Z p1 p2 W hfz (HZ2.out.keep h) (HZ3.out.keep h)
  have hx := HC.out.keep hB4
  clear hB4 hZ2 hZ3
  obtain ⟨x0, x1, x2, x3, x4⟩ := hx
  obtain ⟨y0, y1, y2, y3, y4⟩ := hC2
  obtain ⟨z0, z1, z2, z3, z4⟩ := hC3
  go_upto_region 7 with (go_at_call 23; (with_reducible refine (kS _ (Below.refl _ _)).mono ?_); rintro e w5 ⟨rfl, hb⟩; replace x0 := bkeep hb x0; replace x1 := bkeep hb x1; replace x2 := bkeep hb x2; replace x3 := bkeep hb x3; replace x4 := bkeep hb x4; replace HB := Lib.hid (bthen HB.out hb); clear hb)
  refine wp_gen (fun W => Below w0.heap.size w0 W) HB.out ?_
  clear HB HZ2 HZ3 kS x0 x1 x2 x3 x4 y0 y1 y2 y3 y4 z0 z1 z2 z3 z4
  rintro w6 hB6
  obtain ⟨x0, x1, x2, x3, x4⟩ := HC.out.keep hB6
  have HB := Lib.hid hB6
  clear hB6
  have aw' := fun W (h : Below w6.heap.size w6 W) => aw W (HK.out _ _ HG.out (bthen HB.out h))
  have c2 := fun W (h : Below w6.heap.size w6 W) => racheck_is A p e W (HA.out.keep (bthen HB.out h)) hk hf HE.out
  by_cases hE : e = 0
  · subst hE
    have d1 := fun W (h : Below w6.heap.size w6 W) => hAk.print A p W (HA.out.keep (bthen HB.out h)) hk hf HE.out (HK.out _ _ HG.out (bthen HB.out h))
    have d2 := fun W (h : Below w6.heap.size w6 W) => raprint_is A p W (HA.out.keep (bthen HB.out h)) hk HE.out
    generalize A.print = P at *
    replace x0 := fun q : Regrown => cell_regrown x0 q.d q.os
    replace x1 := fun q : Regrown => cell_regrown x1 q.d q.os
    replace x2 := fun q : Regrown => cell_regrown x2 q.d q.os
    replace x3 := fun q : Regrown => cell_regrown x3 q.d q.os
    replace x4 := fun q : Regrown => cell_regrown x4 q.d q.os
    refine wp_region_quiet_below (by kernel_rfl) (by kernel_rfl) ?_
    repeat (first | go_big_quiet_step (first
      | (go_at_call 9; with_reducible exact Calls.regrown_of (aw' _ (below_regrown w6 _ _)))
      | (go_at_call 13; with_reducible exact Calls.regrown_of (c2 _ (below_regrown w6 _ _)))
      | (go_at_call 24; with_reducible exact Calls.regrown_of (d1 _ (below_regrown w6 _ _)))
      | (go_at_call 25; with_reducible exact Calls.regrown_of (d2 _ (below_regrown w6 _ _)))) | quiet_step (fail))
    refine wpQuiet_nil ?_
    rintro _ ⟨pq, rfl⟩
    have HBE := Lib.hid (bthen HB0.out (bthen HB.out (below_regrown w6 pq.d pq.os)))
    clear x0 x1 x2 x3 x4
    go_wp2_with fail
    go_ret
    exact ⟨rfl, HBE.out⟩
  · replace x0 := fun q : Regrown => cell_regrown x0 q.d q.os
    replace x1 := fun q : Regrown => cell_regrown x1 q.d q.os
    replace x2 := fun q : Regrown => cell_regrown x2 q.d q.os
    replace x3 := fun q : Regrown => cell_regrown x3 q.d q.os
    replace x4 := fun q : Regrown => cell_regrown x4 q.d q.os
    refine wp_region_quiet_below (by kernel_rfl) (by kernel_rfl) ?_
    repeat (first | go_big_quiet_step (first
      | (go_at_call 9; with_reducible exact Calls.regrown_of (aw' _ (below_regrown w6 _ _)))
      | (go_at_call 13; with_reducible exact Calls.regrown_of (c2 _ (below_regrown w6 _ _)))) | quiet_step (fail))
    refine wpQuiet_nil ?_
    rintro _ ⟨pq, rfl⟩
    have HBE := Lib.hid (bthen HB0.out (bthen HB.out (below_regrown w6 pq.d pq.os)))
    clear x0 x1 x2 x3 x4
    go_wp2_with fail
    go_ret
    exact ⟨rfl, HBE.out⟩
end Go.Proofs.Ytckipfcjgmiacaa
