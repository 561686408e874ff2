/-
  The walk of TraceLonger: it answers true, where the program's calls do what is asked of them. (Written by gen_tlaws.py.)
-/
import Derived.Test.YtjcgakmhpblanaaTLShort
import Derived.Test.YtjcgakmhpblanaaTraceK
import Derived.Test.YtjcgakmhpblanaaFive
import Derived.BigQuiet
namespace Go.Proofs.Ytjcgakmhpblanaa
open Go Go.RowKit Go.Sort Go.BigFrame
set_option linter.unusedVariables false

theorem wrap_log {z : Int} (h : -9223372036854775808 ≤ z) (h5 : z ≤ 5) : IntKind.i64.wrap (z + 1) = z + 1 ∧ wrap64 (z + 1) = z + 1 := ⟨by rw [IntWalk.i64_in _ (by omega)], by rw [IntWalk.wrap64_in _ (by omega)]⟩
theorem wrap_twice {n : Nat} (h : n ≤ 1000000) : IntKind.i64.wrap (2 * (n : Int)) = ((2 * n : Nat) : Int) ∧ wrap64 (2 * (n : Int)) = ((2 * n : Nat) : Int) := ⟨by rw [IntWalk.i64_in _ (by omega)]; omega, by rw [IntWalk.wrap64_in _ (by omega)]; omega⟩
set_option maxRecDepth 100000 in
set_option maxHeartbeats 8000000 in
theorem tlonger_body (G : World → Prop) (hAk : AskTrace G) (aw : ∀ W, G W → Calls Try.prog 9 #[] W fun e w' => e = .returned (.bool true) ∧ Below W.heap.size W w') (A : AirP) (p : AirAt) (a : Option Addr) (cap : Nat) (first : List Int) (w : World) (hG : G w) (hA : AirA w A p) (hk : OkAir A) (hp : RowA w a first.length first) (hpu : UsR first) :
    Calls Try.prog 7 #[A.val p, .slice a first.length cap] w fun e w' => e = .returned (.bool true) ∧ Below w.heap.size w w' := by
  have HK := Lib.hid (fun (W W' : World) => @AskTrace.keep G hAk W W')
  have HG0 := Lib.hid hG
  have HA0 := Lib.hid hA
  clear hG hA
  have HP0 := Lib.hid hp
  have hpm := hp.2.1
  unfold maxLen at hpm
  clear hp
  go_enter Try.func7, Try.ntmps7
  go_upto_region 1 with fail
  obtain ⟨g, hg⟩ : ∃ g, w.heap.size = g := ⟨_, rfl⟩
  refine wp_gen (fun W => Below w.heap.size w W ∧ AirC W g A p) ⟨(Below.refl _ _).alloc (Nat.le_refl _) _, by rw [← hg]; exact AirC.new _ _ _ _⟩ ?_
  rintro w0 ⟨hB0, hC⟩
  simp only [hg]
  have HB0 := Lib.hid hB0; have HC := Lib.hid hC
  have HA := Lib.hid (HA0.out.keep hB0)
  have HG := Lib.hid (HK.out _ _ HG0.out hB0)
  have HB : Hid (Below w0.heap.size w0 w0) := Lib.hid (Below.refl _ _)
  clear hB0 hg HA0 HG0 hC
  obtain ⟨x0, x1, x2, x3, x4⟩ := HC.out
  have HP := Lib.hid (HP0.out.keep HB0.out)
  obtain ⟨r, hz⟩ := small_or A []
  have ks := fun W (h : Below w0.heap.size w0 W) => trsmall_is A p none 0 0 [] r W (HA.out.keep h) (RowsP.nil W) hz
  have HZ := Lib.hid hz
  clear hz
  have aw := fun W (h : Below w0.heap.size w0 W) => aw W (HK.out _ _ HG.out h)
  clear HP0
  by_cases h20 : (20 : Int) < (first.length : Int)
  · cases r with
    | true =>
      go_wp2_with (first
          | (go_at_call 8; (with_reducible refine (ks _ HB.out).mono ?_); rintro e w1 ⟨rfl, hb⟩; replace x0 := bkeep hb x0; replace x1 := bkeep hb x1; replace x2 := bkeep hb x2; replace x3 := bkeep hb x3; replace x4 := bkeep hb x4; replace HB := Lib.hid (bthen HB.out hb); clear hb)
          | (go_at_call 9; (with_reducible refine (aw _ HB.out).mono ?_); rintro e w1 ⟨rfl, hb⟩; replace x0 := bkeep hb x0; replace x1 := bkeep hb x1; replace x2 := bkeep hb x2; replace x3 := bkeep hb x3; replace x4 := bkeep hb x4; replace HB := Lib.hid (bthen HB.out hb); clear hb))
      go_ret
      exact ⟨rfl, bthen HB0.out HB.out⟩
    | false =>
      go_wp2_with (first
          | (go_at_call 8; (with_reducible refine (ks _ HB.out).mono ?_); rintro e w1 ⟨rfl, hb⟩; replace x0 := bkeep hb x0; replace x1 := bkeep hb x1; replace x2 := bkeep hb x2; replace x3 := bkeep hb x3; replace x4 := bkeep hb x4; replace HB := Lib.hid (bthen HB.out hb); clear hb)
          | (go_at_call 9; (with_reducible refine (aw _ HB.out).mono ?_); rintro e w1 ⟨rfl, hb⟩; replace x0 := bkeep hb x0; replace x1 := bkeep hb x1; replace x2 := bkeep hb x2; replace x3 := bkeep hb x3; replace x4 := bkeep hb x4; replace HB := Lib.hid (bthen HB.out hb); clear hb))
      go_ret
      exact ⟨rfl, bthen HB0.out HB.out⟩
  cases r with
  | false =>
    go_wp2_with (first
        | (go_at_call 8; (with_reducible refine (ks _ HB.out).mono ?_); rintro e w1 ⟨rfl, hb⟩; replace x0 := bkeep hb x0; replace x1 := bkeep hb x1; replace x2 := bkeep hb x2; replace x3 := bkeep hb x3; replace x4 := bkeep hb x4; replace HB := Lib.hid (bthen HB.out hb); clear hb)
        | (go_at_call 9; (with_reducible refine (aw _ HB.out).mono ?_); rintro e w1 ⟨rfl, hb⟩; replace x0 := bkeep hb x0; replace x1 := bkeep hb x1; replace x2 := bkeep hb x2; replace x3 := bkeep hb x3; replace x4 := bkeep hb x4; replace HB := Lib.hid (bthen HB.out hb); clear hb))
    go_ret
    exact ⟨rfl, bthen HB0.out HB.out⟩
  | true =>
    have hf := (HZ.out.1 rfl).few
    by_cases h5 : 5 < A.log
    · go_wp2_with (first
          | (go_at_call 8; (with_reducible refine (ks _ HB.out).mono ?_); rintro e w1 ⟨rfl, hb⟩; replace x0 := bkeep hb x0; replace x1 := bkeep hb x1; replace x2 := bkeep hb x2; replace x3 := bkeep hb x3; replace x4 := bkeep hb x4; replace HB := Lib.hid (bthen HB.out hb); clear hb)
          | (go_at_call 9; (with_reducible refine (aw _ HB.out).mono ?_); rintro e w1 ⟨rfl, hb⟩; replace x0 := bkeep hb x0; replace x1 := bkeep hb x1; replace x2 := bkeep hb x2; replace x3 := bkeep hb x3; replace x4 := bkeep hb x4; replace HB := Lib.hid (bthen HB.out hb); clear hb))
      go_ret
      exact ⟨rfl, bthen HB0.out HB.out⟩
    have hl5 : A.log ≤ 5 := by omega
    obtain ⟨e1, e2⟩ := wrap_log hk.log.1 hl5
    have hk2 : OkAir A.longer := ⟨hk.cols, ⟨by have := hk.log.1; show _ ≤ A.log + 1; omega, by show A.log + 1 ≤ _; omega⟩, hk.steps, hk.rules, hk.bounds⟩
    have kb := fun rows e (hm : A.longer.make first = (rows, e)) W (h : Below w0.heap.size w0 W) =>
      show Calls Try.prog 10 #[.agg #[.int .i64 A.cols, .int .i64 (A.log + 1), .slice p.sa A.steps.length p.sc, .slice p.ra A.rules.length p.rc, .slice p.ba A.bounds.length p.bc], .slice a first.length cap] W (MakePost W rows e) from
        hAk.make A.longer p a cap first rows e W (HA.out.keep h) hk2 hf (HP.out.keep h) hpu hm (HK.out _ _ HG.out h)
    obtain ⟨G1, hG1⟩ : ∃ G, A.log + 1 = G := ⟨_, rfl⟩
    replace e1 := e1.trans hG1
    replace e2 := e2.trans hG1
    simp only [hG1] at kb
    by_cases hmk : A.makes first
    case neg =>
      have km := fun W (h : Below w0.heap.size w0 W) => hAk.make A p a cap first [] 1 W (HA.out.keep h) hk hf (HP.out.keep h) hpu (AirP.make_no hmk) (HK.out _ _ HG.out h)
      obtain ⟨rows', e', hm'⟩ : ∃ rows e, A.longer.make first = (rows, e) := ⟨_, _, rfl⟩
      have kb := fun W h => kb rows' e' hm' W h
      unfold MakePost at km kb
      clear hmk hm' hG1
      go_upto_region 4 with (first
          | (go_at_call 8; (with_reducible refine (ks _ HB.out).mono ?_); rintro e w1 ⟨rfl, hb⟩; replace x0 := bkeep hb x0; replace x1 := bkeep hb x1; replace x2 := bkeep hb x2; replace x3 := bkeep hb x3; replace x4 := bkeep hb x4; replace HB := Lib.hid (bthen HB.out hb); clear hb)
          | (go_at_call 10; (with_reducible refine (km _ HB.out).mono ?_); rintro E w1 ⟨hb, b1, c1, rfl, hT1, hc1⟩; replace x0 := bkeep hb x0; replace x1 := bkeep hb x1; replace x2 := bkeep hb x2; replace x3 := bkeep hb x3; replace x4 := bkeep hb x4; have HC1 := Lib.hid hc1; clear hc1; have HT1 := Lib.hid (tabA_keep hT1 (Below.refl _ _)).rows; clear hT1; replace HB := Lib.hid (bthen HB.out hb); clear hb))
      have hal := fun (W : World) (o : Obj) => (Below.refl W.heap.size W).alloc (Nat.le_refl _) o
      obtain ⟨w3, hw3⟩ : ∃ W, w1 = W := ⟨_, rfl⟩
      rw [hw3] at HT1 HB x0 x1 x2 x3 x4
      simp only [hw3]
      clear hw3
      go_upto_region 5 with fail
      obtain ⟨gC, hgC⟩ : ∃ g, w3.heap.size = g := ⟨_, rfl⟩
      refine wp_gen (fun W => Below w3.heap.size w3 W ∧ Five W gC (.int .i64 A.cols) (.int .i64 A.log) (.slice p.sa A.steps.length p.sc) (.slice p.ra A.rules.length p.rc) (.slice p.ba A.bounds.length p.bc)) ⟨hal _ _, by rw [← hgC]; exact Five.new _ _⟩ ?_
      have hlc : w3.heap.size ≤ gC := by omega
      clear x0 x1 x2 x3 x4
      rintro w4 ⟨hB4, hF⟩
      simp only [hgC]
      have HB4 := Lib.hid hB4; have HF := Lib.hid hF; have HLC := Lib.hid hlc
      obtain ⟨⟨y0, y1, y2, y3, y4⟩, f0, f1, f2, f3, f4⟩ := hF
      clear hB4 hgC hlc
      go_upto_region 6 with fail
      refine wp_gen (fun W => Below w3.heap.size w3 W ∧ Five W gC (.int .i64 A.cols) (.int .i64 G1) (.slice p.sa A.steps.length p.sc) (.slice p.ra A.rules.length p.rc) (.slice p.ba A.bounds.length p.bc)) ⟨HB4.out.setCell HLC.out _, HF.out.set1 _⟩ ?_
      clear y0 y1 y2 y3 y4 f0 f1 f2 f3 f4 HF HB4 HLC
      rintro w5 ⟨hB5, hF⟩
      have HB5 := Lib.hid hB5
      obtain ⟨⟨y0, y1, y2, y3, y4⟩, _⟩ := hF
      replace HT1 := Lib.hid (rowsA_keep HT1.out hB5)
      replace HB := Lib.hid (bthen HB.out hB5)
      clear hB5 HB5
      go_wp2_with (first
          | (go_at_call 10; (with_reducible refine (kb _ HB.out).mono ?_); rintro E w6 ⟨hb, b2, c2, rfl, hT2, hc2⟩; replace y0 := bkeep hb y0; replace y1 := bkeep hb y1; replace y2 := bkeep hb y2; replace y3 := bkeep hb y3; replace y4 := bkeep hb y4; have HC2 := Lib.hid hc2; have HT2 := Lib.hid hT2.rows; clear hc2 hT2; replace HT1 := Lib.hid (rowsA_keep HT1.out hb); replace HB := Lib.hid (bthen HB.out hb); clear hb)
          | (go_at_call 9; (with_reducible refine (aw _ HB.out).mono ?_); rintro e w1 ⟨rfl, hb⟩; replace y0 := bkeep hb y0; replace y1 := bkeep hb y1; replace y2 := bkeep hb y2; replace y3 := bkeep hb y3; replace y4 := bkeep hb y4; replace HB := Lib.hid (bthen HB.out hb); clear hb))
      go_ret
      exact ⟨rfl, bthen HB0.out HB.out⟩
    obtain ⟨n, hn⟩ : ∃ n, A.size.toNat = n := ⟨_, rfl⟩
    have hnear := (AirP.check_ok hmk.1).1
    have hs2 : A.longer.size.toNat = 2 * n := by rw [AirP.longer_size hnear.1]; omega
    have hn1024 : n ≤ 1024 := by have := AirP.size_bd hnear; omega
    have hm := AirP.make_ok hmk
    have hm' := AirP.make_ok (AirP.longer_makes hmk hl5)
    have htk := AirP.rowsUp_take A first (n := n) (m := 2 * n) (by omega)
    rw [hs2, AirP.longer_rows] at hm'
    rw [hn] at hm
    have hl1 := AirP.rowsUp_len A first n
    have hl2 := AirP.rowsUp_len A first (2 * n)
    generalize A.rowsUp first n = rows at *
    generalize A.rowsUp first (2 * n) = rows2 at *
    have km := fun W (h : Below w0.heap.size w0 W) => hAk.make A p a cap first rows 0 W (HA.out.keep h) hk hf (HP.out.keep h) hpu hm (HK.out _ _ HG.out h)
    have kb := fun W h => kb rows2 0 hm' W h
    unfold MakePost at km kb
    rw [hl1] at km
    rw [hl2] at kb
    obtain ⟨q1, q2⟩ := wrap_twice (n := n) (by omega)
    have HTK := Lib.hid htk
    clear hmk hm hm' htk hG1 hs2 hn hnear hl1 hl2
    go_upto_region 4 with (first
        | (go_at_call 8; (with_reducible refine (ks _ HB.out).mono ?_); rintro e w1 ⟨rfl, hb⟩; replace x0 := bkeep hb x0; replace x1 := bkeep hb x1; replace x2 := bkeep hb x2; replace x3 := bkeep hb x3; replace x4 := bkeep hb x4; replace HB := Lib.hid (bthen HB.out hb); clear hb)
        | (go_at_call 10; (with_reducible refine (km _ HB.out).mono ?_); rintro E w1 ⟨hb, b1, c1, rfl, hT1, hc1⟩; replace x0 := bkeep hb x0; replace x1 := bkeep hb x1; replace x2 := bkeep hb x2; replace x3 := bkeep hb x3; replace x4 := bkeep hb x4; have HC1 := Lib.hid hc1; clear hc1; have HT1 := Lib.hid (tabA_keep hT1 (Below.refl _ _)).rows; clear hT1; replace HB := Lib.hid (bthen HB.out hb); clear hb))
    have hal := fun (W : World) (o : Obj) => (Below.refl W.heap.size W).alloc (Nat.le_refl _) o
    obtain ⟨w3, hw3⟩ : ∃ W, w1 = W := ⟨_, rfl⟩
    rw [hw3] at HT1 HB x0 x1 x2 x3 x4
    simp only [hw3]
    clear hw3
    go_upto_region 5 with fail
    obtain ⟨gC, hgC⟩ : ∃ g, w3.heap.size = g := ⟨_, rfl⟩
    refine wp_gen (fun W => Below w3.heap.size w3 W ∧ Five W gC (.int .i64 A.cols) (.int .i64 A.log) (.slice p.sa A.steps.length p.sc) (.slice p.ra A.rules.length p.rc) (.slice p.ba A.bounds.length p.bc)) ⟨hal _ _, by rw [← hgC]; exact Five.new _ _⟩ ?_
    have hlc : w3.heap.size ≤ gC := by omega
    clear x0 x1 x2 x3 x4
    rintro w4 ⟨hB4, hF⟩
    simp only [hgC]
    have HB4 := Lib.hid hB4; have HF := Lib.hid hF; have HLC := Lib.hid hlc
    obtain ⟨⟨y0, y1, y2, y3, y4⟩, f0, f1, f2, f3, f4⟩ := hF
    clear hB4 hgC hlc
    go_upto_region 6 with fail
    refine wp_gen (fun W => Below w3.heap.size w3 W ∧ Five W gC (.int .i64 A.cols) (.int .i64 G1) (.slice p.sa A.steps.length p.sc) (.slice p.ra A.rules.length p.rc) (.slice p.ba A.bounds.length p.bc)) ⟨HB4.out.setCell HLC.out _, HF.out.set1 _⟩ ?_
    clear y0 y1 y2 y3 y4 f0 f1 f2 f3 f4 HF HB4 HLC
    rintro w5 ⟨hB5, hF⟩
    have HB5 := Lib.hid hB5
    obtain ⟨⟨y0, y1, y2, y3, y4⟩, _⟩ := hF
    replace HT1 := Lib.hid (rowsA_keep HT1.out hB5)
    replace HB := Lib.hid (bthen HB.out hB5)
    clear hB5 HB5
    go_upto_region 7 with (go_at_call 10; (with_reducible refine (kb _ HB.out).mono ?_); rintro E w6 ⟨hb, b2, c2, rfl, hT2, hc2⟩; replace y0 := bkeep hb y0; replace y1 := bkeep hb y1; replace y2 := bkeep hb y2; replace y3 := bkeep hb y3; replace y4 := bkeep hb y4; have HC2 := Lib.hid hc2; have HT2 := Lib.hid hT2.rows; clear hc2 hT2; replace HT1 := Lib.hid (rowsA_keep HT1.out hb); replace HB := Lib.hid (bthen HB.out hb); clear hb)

    have kx := fun W (h1 : RowsA W b2 n (rows2.take n)) (h2 : RowsA W b1 n rows) => trsame_is b2 b1 n n c2 c1 (rows2.take n) rows W h1 h2 HTK.out
    have hcap : n ≤ c2 := by have := HC2.out; omega
    have hcapI : (n : Int) ≤ (c2 : Int) := cast_le hcap
    have hn0 : (0 : Int) ≤ (n : Int) := by omega
    go_wp2_with (first
        | (go_at_call 9; (with_reducible refine (aw _ HB.out).mono ?_); rintro e w1 ⟨rfl, hb⟩; replace y0 := bkeep hb y0; replace y1 := bkeep hb y1; replace y2 := bkeep hb y2; replace y3 := bkeep hb y3; replace y4 := bkeep hb y4; replace HT1 := Lib.hid (rowsA_keep HT1.out hb); replace HT2 := Lib.hid (rowsA_keep HT2.out hb); replace HB := Lib.hid (bthen HB.out hb); clear hb)
        | (go_at_call 12; (with_reducible refine (kx _ (HT2.out.take (by omega)) HT1.out).mono ?_); rintro e w1 ⟨rfl, hb⟩; replace y0 := bkeep hb y0; replace y1 := bkeep hb y1; replace y2 := bkeep hb y2; replace y3 := bkeep hb y3; replace y4 := bkeep hb y4; replace HB := Lib.hid (bthen HB.out hb); clear hb))
    go_ret
    exact ⟨rfl, bthen HB0.out HB.out⟩
end Go.Proofs.Ytjcgakmhpblanaa
