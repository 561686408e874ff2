/-
  The walk of TraceKeeps: it answers true, where the program's calls do what is asked of them. (Written by gen_tlaws.py.)
-/
import Derived.Test.YtjcgakmhpblanaaTLShort
import Derived.Test.YtjcgakmhpblanaaTraceK
import Derived.Test.YtjcgakmhpblanaaFive
import Derived.BigQuiet
namespace Go.Proofs.Ytjcgakmhpblanaa
open Go Go.RowKit Go.Sort Go.BigFrame
set_option linter.unusedVariables false

set_option maxRecDepth 100000 in
set_option maxHeartbeats 8000000 in
theorem tkeeps_body (G : World → Prop) (hAk : AskTrace G) (aw : ∀ W, G W → Calls Try.prog 9 #[] W fun e w' => e = .returned (.bool true) ∧ Below W.heap.size W w') (A : AirP) (p : AirAt) (a : Option Addr) (cap : Nat) (first : List Int) (w : World) (hG : G w) (hA : AirA w A p) (hk : OkAir A) (hp : RowA w a first.length first) (hpu : UsR first) :
    Calls Try.prog 5 #[A.val p, .slice a first.length cap] w fun e w' => e = .returned (.bool true) ∧ Below w.heap.size w w' := by
  have HK := Lib.hid (fun (W W' : World) => @AskTrace.keep G hAk W W')
  have HG0 := Lib.hid hG
  have HA0 := Lib.hid hA
  clear hG hA
  have HP0 := Lib.hid hp
  have hpm := hp.2.1
  unfold maxLen at hpm
  clear hp
  go_enter Try.func5, Try.ntmps5
  go_upto_region 1 with fail
  obtain ⟨g, hg⟩ : ∃ g, w.heap.size = g := ⟨_, rfl⟩
  refine wp_gen (fun W => Below w.heap.size w W ∧ AirC W g A p) ⟨(Below.refl _ _).alloc (Nat.le_refl _) _, by rw [← hg]; exact AirC.new _ _ _ _⟩ ?_
  rintro w0 ⟨hB0, hC⟩
  simp only [hg]
  have HB0 := Lib.hid hB0; have HC := Lib.hid hC
  have HA := Lib.hid (HA0.out.keep hB0)
  have HG := Lib.hid (HK.out _ _ HG0.out hB0)
  have HB : Hid (Below w0.heap.size w0 w0) := Lib.hid (Below.refl _ _)
  clear hB0 hg HA0 HG0 hC
  obtain ⟨x0, x1, x2, x3, x4⟩ := HC.out
  have HP := Lib.hid (HP0.out.keep HB0.out)
  obtain ⟨r, hz⟩ := small_or A []
  have ks := fun W (h : Below w0.heap.size w0 W) => trsmall_is A p none 0 0 [] r W (HA.out.keep h) (RowsP.nil W) hz
  have HZ := Lib.hid hz
  clear hz
  have aw := fun W (h : Below w0.heap.size w0 W) => aw W (HK.out _ _ HG.out h)
  clear HP0
  by_cases h20 : (20 : Int) < (first.length : Int)
  · cases r with
    | true =>
      go_wp2_with (first
          | (go_at_call 8; (with_reducible refine (ks _ HB.out).mono ?_); rintro e w1 ⟨rfl, hb⟩; replace x0 := bkeep hb x0; replace x1 := bkeep hb x1; replace x2 := bkeep hb x2; replace x3 := bkeep hb x3; replace x4 := bkeep hb x4; replace HB := Lib.hid (bthen HB.out hb); clear hb)
          | (go_at_call 9; (with_reducible refine (aw _ HB.out).mono ?_); rintro e w1 ⟨rfl, hb⟩; replace x0 := bkeep hb x0; replace x1 := bkeep hb x1; replace x2 := bkeep hb x2; replace x3 := bkeep hb x3; replace x4 := bkeep hb x4; replace HB := Lib.hid (bthen HB.out hb); clear hb))
      go_ret
      exact ⟨rfl, bthen HB0.out HB.out⟩
    | false =>
      go_wp2_with (first
          | (go_at_call 8; (with_reducible refine (ks _ HB.out).mono ?_); rintro e w1 ⟨rfl, hb⟩; replace x0 := bkeep hb x0; replace x1 := bkeep hb x1; replace x2 := bkeep hb x2; replace x3 := bkeep hb x3; replace x4 := bkeep hb x4; replace HB := Lib.hid (bthen HB.out hb); clear hb)
          | (go_at_call 9; (with_reducible refine (aw _ HB.out).mono ?_); rintro e w1 ⟨rfl, hb⟩; replace x0 := bkeep hb x0; replace x1 := bkeep hb x1; replace x2 := bkeep hb x2; replace x3 := bkeep hb x3; replace x4 := bkeep hb x4; replace HB := Lib.hid (bthen HB.out hb); clear hb))
      go_ret
      exact ⟨rfl, bthen HB0.out HB.out⟩
  cases r with
  | false =>
    go_wp2_with (first
        | (go_at_call 8; (with_reducible refine (ks _ HB.out).mono ?_); rintro e w1 ⟨rfl, hb⟩; replace x0 := bkeep hb x0; replace x1 := bkeep hb x1; replace x2 := bkeep hb x2; replace x3 := bkeep hb x3; replace x4 := bkeep hb x4; replace HB := Lib.hid (bthen HB.out hb); clear hb)
        | (go_at_call 9; (with_reducible refine (aw _ HB.out).mono ?_); rintro e w1 ⟨rfl, hb⟩; replace x0 := bkeep hb x0; replace x1 := bkeep hb x1; replace x2 := bkeep hb x2; replace x3 := bkeep hb x3; replace x4 := bkeep hb x4; replace HB := Lib.hid (bthen HB.out hb); clear hb))
    go_ret
    exact ⟨rfl, bthen HB0.out HB.out⟩
  | true =>
    have hf := (HZ.out.1 rfl).few
    by_cases hmk : A.makes first
    case neg =>
      have km := fun W (h : Below w0.heap.size w0 W) => hAk.make A p a cap first [] 1 W (HA.out.keep h) hk hf (HP.out.keep h) hpu (AirP.make_no hmk) (HK.out _ _ HG.out h)
      unfold MakePost at km
      clear hmk
      go_wp2_with (first
          | (go_at_call 8; (with_reducible refine (ks _ HB.out).mono ?_); rintro e w1 ⟨rfl, hb⟩; replace x0 := bkeep hb x0; replace x1 := bkeep hb x1; replace x2 := bkeep hb x2; replace x3 := bkeep hb x3; replace x4 := bkeep hb x4; replace HB := Lib.hid (bthen HB.out hb); clear hb)
          | (go_at_call 9; (with_reducible refine (aw _ HB.out).mono ?_); rintro e w1 ⟨rfl, hb⟩; replace x0 := bkeep hb x0; replace x1 := bkeep hb x1; replace x2 := bkeep hb x2; replace x3 := bkeep hb x3; replace x4 := bkeep hb x4; replace HB := Lib.hid (bthen HB.out hb); clear hb)
          | (go_at_call 10; (with_reducible refine (km _ HB.out).mono ?_); rintro E w1 ⟨hb, b1, c1, rfl, hT1, hc1⟩; replace x0 := bkeep hb x0; replace x1 := bkeep hb x1; replace x2 := bkeep hb x2; replace x3 := bkeep hb x3; replace x4 := bkeep hb x4; have HC1 := Lib.hid hc1; clear hc1; have HT1 := Lib.hid (tabA_keep hT1 (Below.refl _ _)).rows; clear hT1; replace HB := Lib.hid (bthen HB.out hb); clear hb))
      go_ret
      exact ⟨rfl, bthen HB0.out HB.out⟩
    have HMK := Lib.hid hmk
    obtain ⟨rows, hrows⟩ : ∃ rows, A.rowsUp first A.size.toNat = rows := ⟨_, rfl⟩
    have hm := AirP.make_ok hmk
    have hwh := AirP.make_whole hmk
    have htold := AirP.made_told hmk
    have hbare := AirP.bare_told hmk
    have hlen : (rows.length : Int) = A.size := by rw [← hrows]; exact hwh.2.1
    rw [hrows] at hm hwh htold hbare
    have hus : UsRows rows := by
      rw [← hrows]
      intro r hr
      obtain ⟨k, _, rfl⟩ := List.mem_map.1 hr
      exact AirP.rowAt_U hpu k
    have hho : A.holds rows := ⟨hwh.2.1, fun r hr => (hwh.2.2.2.2 r hr).1⟩
    obtain ⟨l, hl⟩ : ∃ l, A.shown rows = l := ⟨_, rfl⟩
    rw [hl] at hwh htold hbare
    have hnear := (AirP.check_ok hmk.1).1
    have hlu : UsR l := by
      intro x hx
      rw [← hl] at hx
      obtain ⟨b, hb, rfl⟩ := List.mem_map.1 hx
      obtain ⟨k, hkb, rfl⟩ := List.mem_iff_getElem.1 hb
      have hin := AirP.bound_in hmk.1 hkb
      rw [show A.bound k = A.bounds[k] by simp [AirP.bound, List.getD, hkb]] at hin
      have h1 : A.bounds[k].2.toNat < rows.length := by omega
      have h2 := rows_at (Q := fun r => (r.length : Int) = A.cols) hho.2 h1
      exact usR_at (rows_at hus h1) (by omega)
    have hll : l.length = A.bounds.length := by rw [← hl]; exact AirP.shown_len A rows
    have km := fun W (h : Below w0.heap.size w0 W) => hAk.make A p a cap first rows 0 W (HA.out.keep h) hk hf (HP.out.keep h) hpu hm (HK.out _ _ HG.out h)
    have kp := fun W (h : Below w0.heap.size w0 W) b1 c1 (ht : RowsA W b1 rows.length rows) => hAk.shown A p b1 rows.length c1 rows l W (HA.out.keep h) hk hf hmk.1 ht hus hho (fun r hr => (hwh.2.2.2.2 r hr).2) hl (HK.out _ _ HG.out h)
    unfold MakePost at km
    unfold RowPost at kp
    have kb := fun W (h : Below w0.heap.size w0 W) pa pc b1 c1 (hp : RowA W pa l.length l) (ht : RowsA W b1 rows.length rows) =>
      show Calls Try.prog 16 #[.agg #[.int .i64 A.cols, .int .i64 A.log, .slice p.sa A.steps.length p.sc, .slice none 0 0, .slice p.ba A.bounds.length p.bc], .slice pa l.length pc, .slice b1 rows.length c1] W fun e w' => e = .returned (.tuple #[.agg #[.int .i64 0, .int .i64 0], .int .i64 0]) ∧ Below W.heap.size W w' from
        hAk.check A.bare ⟨p.sa, p.sc, none, 0, p.ba, p.bc⟩ pa l.length pc l b1 rows.length c1 rows (0, 0) 0 W ⟨(HA.out.keep h).1, ⟨by show 0 ≤ _; omega, fun k hk => absurd hk (by simp)⟩, (HA.out.keep h).2.2⟩ ⟨hk.cols, hk.log, hk.steps, (by intro t ht; cases ht), hk.bounds⟩ ⟨hf.1, by show 0 ≤ 40; omega, hf.2.2⟩ hp hlu ht hus hbare (HK.out _ _ HG.out h)
    obtain ⟨f, e, hte⟩ : ∃ f e, A.told l rows = (f, e) := ⟨_, _, rfl⟩
    have kc := fun W (h : Below w0.heap.size w0 W) pa pc b1 c1 (hp : RowA W pa l.length l) (ht : RowsA W b1 rows.length rows) => hAk.check A p pa l.length pc l b1 rows.length c1 rows f e W (HA.out.keep h) hk hf hp hlu ht hus hte (HK.out _ _ HG.out h)
    have HTD := Lib.hid htold; have HTE := Lib.hid hte
    have hrl : rows.length ≤ 1024 := by have := AirP.size_bd hnear; omega
    have hl16 : l.length ≤ 16 := by have := hnear.2.2; omega
    have HLEN := Lib.hid hlen
    clear hmk hrows hm hwh htold hbare hus hho hl hlu hte hlen hll
    go_upto_region 7 with (first
        | (go_at_call 8; (with_reducible refine (ks _ HB.out).mono ?_); rintro e w1 ⟨rfl, hb⟩; replace x0 := bkeep hb x0; replace x1 := bkeep hb x1; replace x2 := bkeep hb x2; replace x3 := bkeep hb x3; replace x4 := bkeep hb x4; replace HB := Lib.hid (bthen HB.out hb); clear hb)
        | (go_at_call 10; (with_reducible refine (km _ HB.out).mono ?_); rintro E w1 ⟨hb, b1, c1, rfl, hT1, hc1⟩; replace x0 := bkeep hb x0; replace x1 := bkeep hb x1; replace x2 := bkeep hb x2; replace x3 := bkeep hb x3; replace x4 := bkeep hb x4; have HC1 := Lib.hid hc1; clear hc1; have HT1 := Lib.hid (tabA_keep hT1 (Below.refl _ _)).rows; clear hT1; replace HB := Lib.hid (bthen HB.out hb); clear hb)
        | (go_at_call 14; (with_reducible refine (kp _ HB.out _ _ HT1.out).mono ?_); rintro E w2 ⟨hb, b2, c2, rfl, hP2, -⟩; replace x0 := bkeep hb x0; replace x1 := bkeep hb x1; replace x2 := bkeep hb x2; replace x3 := bkeep hb x3; replace x4 := bkeep hb x4; have HP2 := Lib.hid hP2; clear hP2; replace HT1 := Lib.hid (rowsA_keep HT1.out hb); replace HB := Lib.hid (bthen HB.out hb); clear hb))
    clear ks km kp
    have hal := fun (W : World) (o : Obj) => (Below.refl W.heap.size W).alloc (Nat.le_refl _) o
    obtain ⟨w3, hw3⟩ : ∃ W, w2 = W := ⟨_, rfl⟩
    rw [hw3] at HT1 HB HP2 x0 x1 x2 x3 x4
    simp only [hw3]
    clear hw3
    go_upto_region 8 with fail
    obtain ⟨gC, hgC⟩ : ∃ g, w3.heap.size = g := ⟨_, rfl⟩
    refine wp_gen (fun W => Below w3.heap.size w3 W ∧ Five W gC (.int .i64 A.cols) (.int .i64 A.log) (.slice p.sa A.steps.length p.sc) (.slice p.ra A.rules.length p.rc) (.slice p.ba A.bounds.length p.bc)) ⟨hal _ _, by rw [← hgC]; exact Five.new _ _⟩ ?_
    have hlc : w3.heap.size ≤ gC := by omega
    clear x0 x1 x2 x3 x4
    rintro w4 ⟨hB4, hF⟩
    simp only [hgC]
    have HB4 := Lib.hid hB4; have HF := Lib.hid hF; have HLC := Lib.hid hlc
    obtain ⟨⟨y0, y1, y2, y3, y4⟩, f0, f1, f2, f3, f4⟩ := hF
    clear hB4 hgC hlc
    go_upto_region 9 with fail
    refine wp_gen (fun W => Below w3.heap.size w3 W ∧ Five W gC (.int .i64 A.cols) (.int .i64 A.log) (.slice p.sa A.steps.length p.sc) (.slice none 0 0) (.slice p.ba A.bounds.length p.bc)) ⟨HB4.out.setCell HLC.out _, HF.out.set3 _⟩ ?_
    clear y0 y1 y2 y3 y4 f0 f1 f2 f3 f4 HF HB4 HLC
    rintro w5 ⟨hB5, hF⟩
    have HB5 := Lib.hid hB5
    obtain ⟨⟨y0, y1, y2, y3, y4⟩, _⟩ := hF
    replace HT1 := Lib.hid (rowsA_keep HT1.out hB5)
    replace HP2 := Lib.hid (HP2.out.keep hB5)
    replace HB := Lib.hid (bthen HB.out hB5)
    clear hB5 HB5
    go_upto_region 10 with (go_at_call 16; (with_reducible refine (kb _ HB.out _ _ _ _ HP2.out HT1.out).mono ?_); rintro E w6 ⟨rfl, hb⟩; replace y0 := bkeep hb y0; replace y1 := bkeep hb y1; replace y2 := bkeep hb y2; replace y3 := bkeep hb y3; replace y4 := bkeep hb y4; replace HT1 := Lib.hid (rowsA_keep HT1.out hb); replace HP2 := Lib.hid (HP2.out.keep hb); replace HB := Lib.hid (bthen HB.out hb); clear hb)
    have hb6 := hal w6 (.cells #[.int .i64 0, .int .i64 0] 38)
    refine wp_gen (fun W => Below w0.heap.size w0 W ∧ RowsA W b1 rows.length rows ∧ RowA W b2 l.length l) ⟨bthen HB.out hb6, rowsA_keep HT1.out hb6, HP2.out.keep hb6⟩ ?_
    clear HB HT1 HP2 y0 y1 y2 y3 y4 hb6 kb
    rintro w7 ⟨hB7, hT7, hP7⟩
    have HB := Lib.hid hB7; have HT1 := Lib.hid hT7; have HP2 := Lib.hid hP7
    obtain ⟨x0, x1, x2, x3, x4⟩ := HC.out.keep hB7
    clear hB7 hT7 hP7
    go_upto_region 11 with (go_at_call 16; (with_reducible refine (kc _ HB.out _ _ _ _ HP2.out HT1.out).mono ?_); rintro E w8 ⟨rfl, hb⟩; replace x0 := bkeep hb x0; replace x1 := bkeep hb x1; replace x2 := bkeep hb x2; replace x3 := bkeep hb x3; replace x4 := bkeep hb x4; replace HB := Lib.hid (bthen HB.out hb); clear hb)
    obtain ⟨gX, hgX⟩ : ∃ g, w8.heap.size = g := ⟨_, rfl⟩
    refine wp_gen (fun W => Below w0.heap.size w0 W ∧ Duo W gX (.int .i64 f.1) (.int .i64 f.2)) ⟨bthen HB.out (hal _ _), by rw [← hgX]; simp [Duo, go_sem]⟩ ?_
    clear HB x0 x1 x2 x3 x4 kc HT1 HP2
    rintro w9 ⟨hB9, hX⟩
    simp only [hgX]
    have HB := Lib.hid hB9
    obtain ⟨x0, x1, x2, x3, x4⟩ := HC.out.keep hB9
    obtain ⟨z0, z1, _, _⟩ := hX
    clear hgX hB9 hal
    obtain ⟨K, hK⟩ := Int.eq_ofNat_of_zero_le hnear.1
    rw [hK] at x1
    have hKl : K ≤ 10 := by have := hnear.2.1; omega
    have e1 := wrapi_62 (k := K) (by omega)
    have e2 : IntKind.u64.wrap (K : Int) = (K : Int) := by rw [IntKind.wrap_u64]; omega
    have hsz : ((2 ^ K : Nat) : Int) = (rows.length : Int) := by rw [HLEN.out]; unfold AirP.size; rw [hK, Int.toNat_natCast]
    rw [hsz] at e1
    have HD := HTD.out
    rw [HTE.out] at HD
    clear HTD HTE HLEN hsz hnear hK
    rcases HD with hD | ⟨i, k, hD, hk1, hk2⟩
    · obtain ⟨rfl, rfl⟩ := Prod.mk.inj hD
      dsimp only at z0 z1
      clear hD
      go_wp2_with (go_at_call 9; (with_reducible refine (aw _ HB.out).mono ?_); rintro e w1 ⟨rfl, hb⟩; replace x0 := bkeep hb x0; replace x1 := bkeep hb x1; replace x2 := bkeep hb x2; replace x3 := bkeep hb x3; replace x4 := bkeep hb x4; replace z0 := bkeep hb z0; replace z1 := bkeep hb z1; replace HB := Lib.hid (bthen HB.out hb); clear hb)
      go_ret
      exact ⟨rfl, bthen HB0.out HB.out⟩
    · obtain ⟨rfl, rfl⟩ := Prod.mk.inj hD
      dsimp only at z0 z1
      have q1 : (0 : Int) < (A.rules.length : Int) := cast_lt (a := 0) (rules_some hk1 hk2)
      have q2 := cast_le hk1
      obtain ⟨e3, e4⟩ := wrap_two A.steps.length A.rules.length (Nat.le_trans hf.1 (by decide)) (Nat.le_trans hf.2.1 (by decide))
      have q3 := cast_lt hk2
      generalize A.steps.length + A.rules.length = SR at *
      clear hD hk1 hk2
      go_wp2_with (go_at_call 9; (with_reducible refine (aw _ HB.out).mono ?_); rintro e w1 ⟨rfl, hb⟩; replace x0 := bkeep hb x0; replace x1 := bkeep hb x1; replace x2 := bkeep hb x2; replace x3 := bkeep hb x3; replace x4 := bkeep hb x4; replace z0 := bkeep hb z0; replace z1 := bkeep hb z1; replace HB := Lib.hid (bthen HB.out hb); clear hb)
      go_ret
      exact ⟨rfl, bthen HB0.out HB.out⟩
end Go.Proofs.Ytjcgakmhpblanaa
