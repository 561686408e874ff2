/-
  The walk of AirBack: it answers true, where the program's calls do what is asked of them. (Written by gen_alaws.py.)
-/
import Derived.Test.YtckipfcjgmiacaaALShort
import Derived.BigQuiet
namespace Go.Proofs.Ytckipfcjgmiacaa
open Go Go.RowKit
set_option linter.unusedVariables false

set_option maxRecDepth 100000 in
set_option maxHeartbeats 8000000 in
theorem aback_body (G : World → Prop) (hAk : AskAir G) (aw : ∀ W, G W → Calls Try.prog 9 #[] W fun e w' => e = .returned (.bool true) ∧ Below W.heap.size W w') (s : ByteArray) (A : AirP) (p : AirAt) (w : World) (hG : G w) (hA : AirA w A p) (hk : OkAir A) (hs : s.size ≤ maxLen) :
    Calls Try.prog 5 #[A.val p, .string s] w fun e w' => e = .returned (.bool true) ∧ Below w.heap.size w w' := by
  have HK := Lib.hid (fun (W W' : World) => @AskAir.keep G hAk W W')
  have HG0 := Lib.hid hG
  have HA0 := Lib.hid hA
  clear hG hA
  by_cases hsh : shortB A = true
  case neg =>
    have hsh : shortB A = false := by simpa using hsh
    have ks := fun W (h : AirA W A p) => rashort_is A p false W h hsh
    clear hsh
    go_enter Try.func5, Try.ntmps5
    go_upto_region 1 with fail
    obtain ⟨g, hg⟩ : ∃ g, w.heap.size = g := ⟨_, rfl⟩
    refine wp_gen (fun W => Below w.heap.size w W ∧ AirC W g A p) ⟨(Below.refl _ _).alloc (Nat.le_refl _) _, by rw [← hg]; exact AirC.new _ _ _ _⟩ ?_
    rintro w0 ⟨hB0, hC⟩
    simp only [hg]
    have HB0 := Lib.hid hB0; have HC := Lib.hid hC
    have HA := Lib.hid (HA0.out.keep hB0)
    have HG := Lib.hid (HK.out _ _ HG0.out hB0)
    have HB : Hid (Below w0.heap.size w0 w0) := Lib.hid (Below.refl _ _)
    clear hB0 hg HA0 HG0 hC
    obtain ⟨x0, x1, x2, x3, x4⟩ := HC.out
    have ks := fun W (h : Below w0.heap.size w0 W) => ks W (HA.out.keep h)
    have aw := fun W (h : Below w0.heap.size w0 W) => aw W (HK.out _ _ HG.out h)
    go_wp2_with (first
        | (go_at_call 8; (with_reducible refine (ks _ HB.out).mono ?_); rintro e w1 ⟨rfl, hb⟩; replace x0 := bkeep hb x0; replace x1 := bkeep hb x1; replace x2 := bkeep hb x2; replace x3 := bkeep hb x3; replace x4 := bkeep hb x4; replace HB := Lib.hid (bthen HB.out hb); clear hb)
        | (go_at_call 9; (with_reducible refine (aw _ HB.out).mono ?_); rintro e w1 ⟨rfl, hb⟩; replace x0 := bkeep hb x0; replace x1 := bkeep hb x1; replace x2 := bkeep hb x2; replace x3 := bkeep hb x3; replace x4 := bkeep hb x4; replace HB := Lib.hid (bthen HB.out hb); clear hb))
    go_ret
    exact ⟨rfl, bthen HB0.out HB.out⟩
  have hf := short_few hsh
  have ks := fun W (h : AirA W A p) => rashort_is A p true W h hsh
  clear hsh
  by_cases h3 : (2000 : Int) < (s.size : Int)
  · go_enter Try.func5, Try.ntmps5
    go_upto_region 1 with fail
    obtain ⟨g, hg⟩ : ∃ g, w.heap.size = g := ⟨_, rfl⟩
    refine wp_gen (fun W => Below w.heap.size w W ∧ AirC W g A p) ⟨(Below.refl _ _).alloc (Nat.le_refl _) _, by rw [← hg]; exact AirC.new _ _ _ _⟩ ?_
    rintro w0 ⟨hB0, hC⟩
    simp only [hg]
    have HB0 := Lib.hid hB0; have HC := Lib.hid hC
    have HA := Lib.hid (HA0.out.keep hB0)
    have HG := Lib.hid (HK.out _ _ HG0.out hB0)
    have HB : Hid (Below w0.heap.size w0 w0) := Lib.hid (Below.refl _ _)
    clear hB0 hg HA0 HG0 hC
    obtain ⟨x0, x1, x2, x3, x4⟩ := HC.out
    have ks := fun W (h : Below w0.heap.size w0 W) => ks W (HA.out.keep h)
    have aw := fun W (h : Below w0.heap.size w0 W) => aw W (HK.out _ _ HG.out h)
    go_wp2_with (first
        | (go_at_call 8; (with_reducible refine (ks _ HB.out).mono ?_); rintro e w1 ⟨rfl, hb⟩; replace x0 := bkeep hb x0; replace x1 := bkeep hb x1; replace x2 := bkeep hb x2; replace x3 := bkeep hb x3; replace x4 := bkeep hb x4; replace HB := Lib.hid (bthen HB.out hb); clear hb)
        | (go_at_call 9; (with_reducible refine (aw _ HB.out).mono ?_); rintro e w1 ⟨rfl, hb⟩; replace x0 := bkeep hb x0; replace x1 := bkeep hb x1; replace x2 := bkeep hb x2; replace x3 := bkeep hb x3; replace x4 := bkeep hb x4; replace HB := Lib.hid (bthen HB.out hb); clear hb))
    go_ret
    exact ⟨rfl, bthen HB0.out HB.out⟩
  obtain ⟨Z, r, hz⟩ : ∃ Z r, parseA s = (Z, r) := ⟨_, _, rfl⟩
  have hs1 : s.size ≤ 2000 := by omega
  obtain ⟨e, he⟩ : ∃ e, A.check = e := ⟨_, rfl⟩
  have HE := Lib.hid he
  have HZR : Hid (r = 0 → Z.print = s ∧ Z.check = 0) := Lib.hid fun h => print_of_parse (by rw [hz, h])
  go_enter Try.func5, Try.ntmps5
  go_upto_region 1 with fail
  obtain ⟨g, hg⟩ : ∃ g, w.heap.size = g := ⟨_, rfl⟩
  refine wp_gen (fun W => Below w.heap.size w W ∧ AirC W g A p) ⟨(Below.refl _ _).alloc (Nat.le_refl _) _, by rw [← hg]; exact AirC.new _ _ _ _⟩ ?_
  rintro w0 ⟨hB0, hC⟩
  simp only [hg]
  have HB0 := Lib.hid hB0; have HC := Lib.hid hC
  have HA := Lib.hid (HA0.out.keep hB0)
  have HG := Lib.hid (HK.out _ _ HG0.out hB0)
  have HB : Hid (Below w0.heap.size w0 w0) := Lib.hid (Below.refl _ _)
  clear hB0 hg HA0 HG0 hC
  obtain ⟨x0, x1, x2, x3, x4⟩ := HC.out
  have ks := fun W (h : Below w0.heap.size w0 W) => ks W (HA.out.keep h)
  have q1 := fun W (h : Below w0.heap.size w0 W) => hAk.parse s Z r W (by omega) hz (HK.out _ _ HG.out h)
  unfold AirPost at q1
  clear he hz
  go_upto_region 4 with (first
      | (go_at_call 8; (with_reducible refine (ks _ HB.out).mono ?_); rintro e w1 ⟨rfl, hb⟩; replace x0 := bkeep hb x0; replace x1 := bkeep hb x1; replace x2 := bkeep hb x2; replace x3 := bkeep hb x3; replace x4 := bkeep hb x4; replace HB := Lib.hid (bthen HB.out hb); clear hb)
      | (go_at_call 21; (with_reducible refine (q1 _ HB.out).mono ?_); rintro E w1 ⟨hb, p1, rfl, o1⟩; replace x0 := bkeep hb x0; replace x1 := bkeep hb x1; replace x2 := bkeep hb x2; replace x3 := bkeep hb x3; replace x4 := bkeep hb x4; have HP1 := Lib.hid o1; clear o1; replace HB := Lib.hid (bthen HB.out hb); clear hb))
  obtain ⟨g5, hg5⟩ : ∃ g, w1.heap.size = g := ⟨_, rfl⟩
  refine wp_gen (fun W => Below w0.heap.size w0 W ∧ AirC W g5 Z p1 ∧ AirA W Z p1) ⟨bthen HB.out ((Below.refl _ _).alloc (Nat.le_refl _) _), by rw [← hg5]; exact AirC.new _ _ _ _, HP1.out.keep ((Below.refl _ _).alloc (Nat.le_refl _) _)⟩ ?_
  rintro w2 ⟨hB2, hC2, hZ2⟩
  simp only [hg5]
  clear HB HP1 x0 x1 x2 x3 x4 ks q1 hg5
  have HB := Lib.hid hB2; have HZ2 := Lib.hid hZ2
  obtain ⟨x0, x1, x2, x3, x4⟩ := HC.out.keep hB2
  clear hB2 hZ2
  obtain ⟨y0, y1, y2, y3, y4⟩ := hC2
  have c1 := fun W (h : Below w0.heap.size w0 W) => hAk.check A p e W (HA.out.keep h) hk hf HE.out (HK.out _ _ HG.out h)
  have goal : ∀ W, Below w0.heap.size w0 W → True := fun _ _ => trivial
  by_cases hr0 : r = 0
  · obtain ⟨hp0, hc0⟩ := HZR.out hr0
    subst hr0
    have hfz := check_few hc0; have hkz := check_okair hc0
    have cz := fun W (h : Below w0.heap.size w0 W) (h2 : AirA W Z p1) => hAk.check Z p1 0 W h2 hkz hfz hc0 (HK.out _ _ HG.out h)
    have pz := fun W (h : Below w0.heap.size w0 W) (h2 : AirA W Z p1) => hAk.print Z p1 W h2 hkz hfz hc0 (HK.out _ _ HG.out h)
    rw [hp0] at pz
    clear hp0 hc0 hfz hkz HZR
    go_upto_region 6 with (first
        | (go_at_call 10; (with_reducible refine (cz _ HB.out HZ2.out).mono ?_); rintro e w1 ⟨rfl, hb⟩; replace x0 := bkeep hb x0; replace x1 := bkeep hb x1; replace x2 := bkeep hb x2; replace x3 := bkeep hb x3; replace x4 := bkeep hb x4; replace y0 := bkeep hb y0; replace y1 := bkeep hb y1; replace y2 := bkeep hb y2; replace y3 := bkeep hb y3; replace y4 := bkeep hb y4; replace HZ2 := Lib.hid (HZ2.out.keep hb); replace HB := Lib.hid (bthen HB.out hb); clear hb)
        | (go_at_call 24; (with_reducible refine (pz _ HB.out HZ2.out).mono ?_); rintro e w1 ⟨rfl, hb⟩; replace x0 := bkeep hb x0; replace x1 := bkeep hb x1; replace x2 := bkeep hb x2; replace x3 := bkeep hb x3; replace x4 := bkeep hb x4; replace y0 := bkeep hb y0; replace y1 := bkeep hb y1; replace y2 := bkeep hb y2; replace y3 := bkeep hb y3; replace y4 := bkeep hb y4; replace HZ2 := Lib.hid (HZ2.out.keep hb); replace HB := Lib.hid (bthen HB.out hb); clear hb))
    clear cz pz HZ2 y0 y1 y2 y3 y4
    refine wp_gen (fun W => Below w0.heap.size w0 W) HB.out ?_
    clear HB x0 x1 x2 x3 x4
    rintro w6 hB6
    obtain ⟨x0, x1, x2, x3, x4⟩ := HC.out.keep hB6
    have HB := Lib.hid hB6
    clear hB6
    by_cases hE : e = 0
    · subst hE
      have hsz := print_size HE.out
      have pa := fun W (h : Below w0.heap.size w0 W) => hAk.print A p W (HA.out.keep h) hk hf HE.out (HK.out _ _ HG.out h)
      have qa := fun W (h : Below w0.heap.size w0 W) => hAk.parse A.print A 0 W hsz (parse_of_print HE.out) (HK.out _ _ HG.out h)
      unfold AirPost at qa
      clear hsz
      generalize A.print = P at *
      go_upto_region 9 with (first
          | (go_at_call 10; (with_reducible refine (c1 _ HB.out).mono ?_); rintro e w1 ⟨rfl, hb⟩; replace x0 := bkeep hb x0; replace x1 := bkeep hb x1; replace x2 := bkeep hb x2; replace x3 := bkeep hb x3; replace x4 := bkeep hb x4; replace HB := Lib.hid (bthen HB.out hb); clear hb)
          | (go_at_call 24; (with_reducible refine (pa _ HB.out).mono ?_); rintro e w1 ⟨rfl, hb⟩; replace x0 := bkeep hb x0; replace x1 := bkeep hb x1; replace x2 := bkeep hb x2; replace x3 := bkeep hb x3; replace x4 := bkeep hb x4; replace HB := Lib.hid (bthen HB.out hb); clear hb)
          | (go_at_call 21; (with_reducible refine (qa _ HB.out).mono ?_); rintro E w7 ⟨hb, p7, rfl, o7⟩; replace x0 := bkeep hb x0; replace x1 := bkeep hb x1; replace x2 := bkeep hb x2; replace x3 := bkeep hb x3; replace x4 := bkeep hb x4; have HP7 := Lib.hid o7; clear o7; replace HB := Lib.hid (bthen HB.out hb); clear hb))
      obtain ⟨g7, hg7⟩ : ∃ g, w7.heap.size = g := ⟨_, rfl⟩
      have hal := fun o => (Below.refl w7.heap.size w7).alloc (Nat.le_refl _) o
      refine wp_gen (fun W => Below w0.heap.size w0 W ∧ AirC W g7 A p7 ∧ AirA W A p7) ⟨bthen HB.out (hal _), by rw [← hg7]; exact AirC.new _ _ _ _, HP7.out.keep (hal _)⟩ ?_
      clear HB HP7 x0 x1 x2 x3 x4 hal pa qa c1
      rintro w8 ⟨hB8, hC8, hA8⟩
      simp only [hg7]
      have HB := Lib.hid hB8; have HA8 := Lib.hid hA8
      obtain ⟨x0, x1, x2, x3, x4⟩ := HC.out.keep hB8
      obtain ⟨z0, z1, z2, z3, z4⟩ := hC8
      have aw := fun W (h : Below w0.heap.size w0 W) => aw W (HK.out _ _ HG.out h)
      have sa := fun W (h : Below w0.heap.size w0 W) (h2 : AirA W A p7) => rasame_is A p p7 W hf (HA.out.keep h) h2
      clear hB8 hA8 hg7
      go_wp2_with (first
          | (go_at_call 9; (with_reducible refine (aw _ HB.out).mono ?_); rintro e w1 ⟨rfl, hb⟩; replace x0 := bkeep hb x0; replace x1 := bkeep hb x1; replace x2 := bkeep hb x2; replace x3 := bkeep hb x3; replace x4 := bkeep hb x4; replace z0 := bkeep hb z0; replace z1 := bkeep hb z1; replace z2 := bkeep hb z2; replace z3 := bkeep hb z3; replace z4 := bkeep hb z4; replace HA8 := Lib.hid (HA8.out.keep hb); replace HB := Lib.hid (bthen HB.out hb); clear hb)
          | (go_at_call 23; (with_reducible refine (sa _ HB.out HA8.out).mono ?_); rintro e w1 ⟨rfl, hb⟩; replace x0 := bkeep hb x0; replace x1 := bkeep hb x1; replace x2 := bkeep hb x2; replace x3 := bkeep hb x3; replace x4 := bkeep hb x4; replace z0 := bkeep hb z0; replace z1 := bkeep hb z1; replace z2 := bkeep hb z2; replace z3 := bkeep hb z3; replace z4 := bkeep hb z4; replace HA8 := Lib.hid (HA8.out.keep hb); replace HB := Lib.hid (bthen HB.out hb); clear hb))
      go_ret
      exact ⟨rfl, bthen HB0.out HB.out⟩
    · have aw := fun W (h : Below w0.heap.size w0 W) => aw W (HK.out _ _ HG.out h)
      go_wp2_with (first
          | (go_at_call 10; (with_reducible refine (c1 _ HB.out).mono ?_); rintro e w1 ⟨rfl, hb⟩; replace x0 := bkeep hb x0; replace x1 := bkeep hb x1; replace x2 := bkeep hb x2; replace x3 := bkeep hb x3; replace x4 := bkeep hb x4; replace HB := Lib.hid (bthen HB.out hb); clear hb)
          | (go_at_call 9; (with_reducible refine (aw _ HB.out).mono ?_); rintro e w1 ⟨rfl, hb⟩; replace x0 := bkeep hb x0; replace x1 := bkeep hb x1; replace x2 := bkeep hb x2; replace x3 := bkeep hb x3; replace x4 := bkeep hb x4; replace HB := Lib.hid (bthen HB.out hb); clear hb))
      go_ret
      exact ⟨rfl, bthen HB0.out HB.out⟩
  · clear HZR HZ2 y0 y1 y2 y3 y4
    go_upto_region 6 with fail
    refine wp_gen (fun W => Below w0.heap.size w0 W) HB.out ?_
    clear HB x0 x1 x2 x3 x4
    rintro w6 hB6
    obtain ⟨x0, x1, x2, x3, x4⟩ := HC.out.keep hB6
    have HB := Lib.hid hB6
    clear hB6
    by_cases hE : e = 0
    · subst hE
      have hsz := print_size HE.out
      have pa := fun W (h : Below w0.heap.size w0 W) => hAk.print A p W (HA.out.keep h) hk hf HE.out (HK.out _ _ HG.out h)
      have qa := fun W (h : Below w0.heap.size w0 W) => hAk.parse A.print A 0 W hsz (parse_of_print HE.out) (HK.out _ _ HG.out h)
      unfold AirPost at qa
      clear hsz
      generalize A.print = P at *
      go_upto_region 9 with (first
          | (go_at_call 10; (with_reducible refine (c1 _ HB.out).mono ?_); rintro e w1 ⟨rfl, hb⟩; replace x0 := bkeep hb x0; replace x1 := bkeep hb x1; replace x2 := bkeep hb x2; replace x3 := bkeep hb x3; replace x4 := bkeep hb x4; replace HB := Lib.hid (bthen HB.out hb); clear hb)
          | (go_at_call 24; (with_reducible refine (pa _ HB.out).mono ?_); rintro e w1 ⟨rfl, hb⟩; replace x0 := bkeep hb x0; replace x1 := bkeep hb x1; replace x2 := bkeep hb x2; replace x3 := bkeep hb x3; replace x4 := bkeep hb x4; replace HB := Lib.hid (bthen HB.out hb); clear hb)
          | (go_at_call 21; (with_reducible refine (qa _ HB.out).mono ?_); rintro E w7 ⟨hb, p7, rfl, o7⟩; replace x0 := bkeep hb x0; replace x1 := bkeep hb x1; replace x2 := bkeep hb x2; replace x3 := bkeep hb x3; replace x4 := bkeep hb x4; have HP7 := Lib.hid o7; clear o7; replace HB := Lib.hid (bthen HB.out hb); clear hb))
      obtain ⟨g7, hg7⟩ : ∃ g, w7.heap.size = g := ⟨_, rfl⟩
      have hal := fun o => (Below.refl w7.heap.size w7).alloc (Nat.le_refl _) o
      refine wp_gen (fun W => Below w0.heap.size w0 W ∧ AirC W g7 A p7 ∧ AirA W A p7) ⟨bthen HB.out (hal _), by rw [← hg7]; exact AirC.new _ _ _ _, HP7.out.keep (hal _)⟩ ?_
      clear HB HP7 x0 x1 x2 x3 x4 hal pa qa c1
      rintro w8 ⟨hB8, hC8, hA8⟩
      simp only [hg7]
      have HB := Lib.hid hB8; have HA8 := Lib.hid hA8
      obtain ⟨x0, x1, x2, x3, x4⟩ := HC.out.keep hB8
      obtain ⟨z0, z1, z2, z3, z4⟩ := hC8
      have aw := fun W (h : Below w0.heap.size w0 W) => aw W (HK.out _ _ HG.out h)
      have sa := fun W (h : Below w0.heap.size w0 W) (h2 : AirA W A p7) => rasame_is A p p7 W hf (HA.out.keep h) h2
      clear hB8 hA8 hg7
      go_wp2_with (first
          | (go_at_call 9; (with_reducible refine (aw _ HB.out).mono ?_); rintro e w1 ⟨rfl, hb⟩; replace x0 := bkeep hb x0; replace x1 := bkeep hb x1; replace x2 := bkeep hb x2; replace x3 := bkeep hb x3; replace x4 := bkeep hb x4; replace z0 := bkeep hb z0; replace z1 := bkeep hb z1; replace z2 := bkeep hb z2; replace z3 := bkeep hb z3; replace z4 := bkeep hb z4; replace HA8 := Lib.hid (HA8.out.keep hb); replace HB := Lib.hid (bthen HB.out hb); clear hb)
          | (go_at_call 23; (with_reducible refine (sa _ HB.out HA8.out).mono ?_); rintro e w1 ⟨rfl, hb⟩; replace x0 := bkeep hb x0; replace x1 := bkeep hb x1; replace x2 := bkeep hb x2; replace x3 := bkeep hb x3; replace x4 := bkeep hb x4; replace z0 := bkeep hb z0; replace z1 := bkeep hb z1; replace z2 := bkeep hb z2; replace z3 := bkeep hb z3; replace z4 := bkeep hb z4; replace HA8 := Lib.hid (HA8.out.keep hb); replace HB := Lib.hid (bthen HB.out hb); clear hb))
      go_ret
      exact ⟨rfl, bthen HB0.out HB.out⟩
    · have aw := fun W (h : Below w0.heap.size w0 W) => aw W (HK.out _ _ HG.out h)
      go_wp2_with (first
          | (go_at_call 10; (with_reducible refine (c1 _ HB.out).mono ?_); rintro e w1 ⟨rfl, hb⟩; replace x0 := bkeep hb x0; replace x1 := bkeep hb x1; replace x2 := bkeep hb x2; replace x3 := bkeep hb x3; replace x4 := bkeep hb x4; replace HB := Lib.hid (bthen HB.out hb); clear hb)
          | (go_at_call 9; (with_reducible refine (aw _ HB.out).mono ?_); rintro e w1 ⟨rfl, hb⟩; replace x0 := bkeep hb x0; replace x1 := bkeep hb x1; replace x2 := bkeep hb x2; replace x3 := bkeep hb x3; replace x4 := bkeep hb x4; replace HB := Lib.hid (bthen HB.out hb); clear hb))
      go_ret
      exact ⟨rfl, bthen HB0.out HB.out⟩
end Go.Proofs.Ytckipfcjgmiacaa
