/-
  The walk of TraceMakes: it answers true, where the program's calls do what is asked of them. (Written by gen_tlaws.py.)
-/
import Derived.Test.YtjcgakmhpblanaaTLShort
import Derived.Test.YtjcgakmhpblanaaGNum
import Derived.BigQuiet
namespace Go.Proofs.Ytjcgakmhpblanaa
open Go Go.RowKit Go.Sort Go.BigFrame
set_option linter.unusedVariables false

def MksG (A : AirP) (p : AirAt) (g nr c1 c2 : Nat) (b1 b2 : Option Addr) (l : List Int) (sl : Nat) (v : Value) (W : World) : Prop :=
  match sl with
  | 41 => v = .int .i64 0
  | 42 => v = .bool false
  | 43 => v = .bool false
  | 44 => v = .agg #[.int .i64 A.cols, .int .i64 A.log, .slice p.sa A.steps.length p.sc, .slice p.ra A.rules.length p.rc, .slice p.ba A.bounds.length p.bc]
  | 45 => v = .slice b1 nr c1
  | 46 => ∃ (q : Option Addr) (qc : Nat), v = .slice q l.length qc ∧ RowA W q l.length l
  | 47 => v = .agg #[.int .i64 A.cols, .int .i64 A.log, .slice p.sa A.steps.length p.sc, .slice p.ra A.rules.length p.rc, .slice p.ba A.bounds.length p.bc]
  | 48 => v = .slice b2 nr c2
  | 49 => ∃ (q : Option Addr) (qc : Nat), v = .slice q l.length qc ∧ RowA W q l.length l
  | _ => v = .bool true
theorem MksG.keep {A : AirP} {p : AirAt} {g nr c1 c2 : Nat} {b1 b2 : Option Addr} {l : List Int} {sl : Nat} {v : Value} {W W' : World} (h : MksG A p g nr c1 c2 b1 b2 l sl v W) (hb : Below W.heap.size W W') : MksG A p g nr c1 c2 b1 b2 l sl v W' := by
  unfold MksG at *
  split at h
  all_goals first | exact h | (obtain ⟨q, qc, h1, h2⟩ := h; exact ⟨q, qc, h1, h2.keep hb⟩)
set_option maxRecDepth 100000 in
set_option maxHeartbeats 8000000 in
theorem tmakes_body (G : World → Prop) (hAk : AskTrace G) (aw : ∀ W, G W → Calls Try.prog 9 #[] W fun e w' => e = .returned (.bool true) ∧ Below W.heap.size W w') (A : AirP) (p : AirAt) (a : Option Addr) (cap : Nat) (first : List Int) (w : World) (hG : G w) (hA : AirA w A p) (hk : OkAir A) (hp : RowA w a first.length first) (hpu : UsR first) :
    Calls Try.prog 3 #[A.val p, .slice a first.length cap] w fun e w' => e = .returned (.bool true) ∧ Below w.heap.size w w' := by
  have HK := Lib.hid (fun (W W' : World) => @AskTrace.keep G hAk W W')
  have HG0 := Lib.hid hG
  have HA0 := Lib.hid hA
  clear hG hA
  have HP0 := Lib.hid hp
  have hpm := hp.2.1
  unfold maxLen at hpm
  clear hp
  go_enter Try.func3, Try.ntmps3
  go_upto_region 1 with fail
  obtain ⟨g, hg⟩ : ∃ g, w.heap.size = g := ⟨_, rfl⟩
  refine wp_gen (fun W => Below w.heap.size w W ∧ AirC W g A p) ⟨(Below.refl _ _).alloc (Nat.le_refl _) _, by rw [← hg]; exact AirC.new _ _ _ _⟩ ?_
  rintro w0 ⟨hB0, hC⟩
  simp only [hg]
  have HB0 := Lib.hid hB0; have HC := Lib.hid hC
  have HA := Lib.hid (HA0.out.keep hB0)
  have HG := Lib.hid (HK.out _ _ HG0.out hB0)
  have HB : Hid (Below w0.heap.size w0 w0) := Lib.hid (Below.refl _ _)
  clear hB0 hg HA0 HG0 hC
  obtain ⟨x0, x1, x2, x3, x4⟩ := HC.out
  have HP := Lib.hid (HP0.out.keep HB0.out)
  obtain ⟨r, hz⟩ := small_or A []
  have ks := fun W (h : Below w0.heap.size w0 W) => trsmall_is A p none 0 0 [] r W (HA.out.keep h) (RowsP.nil W) hz
  have HZ := Lib.hid hz
  clear hz
  have aw := fun W (h : Below w0.heap.size w0 W) => aw W (HK.out _ _ HG.out h)
  clear HP0
  by_cases h20 : (20 : Int) < (first.length : Int)
  · cases r with
    | true =>
      go_wp2_with (first
          | (go_at_call 8; (with_reducible refine (ks _ HB.out).mono ?_); rintro e w1 ⟨rfl, hb⟩; replace x0 := bkeep hb x0; replace x1 := bkeep hb x1; replace x2 := bkeep hb x2; replace x3 := bkeep hb x3; replace x4 := bkeep hb x4; replace HB := Lib.hid (bthen HB.out hb); clear hb)
          | (go_at_call 9; (with_reducible refine (aw _ HB.out).mono ?_); rintro e w1 ⟨rfl, hb⟩; replace x0 := bkeep hb x0; replace x1 := bkeep hb x1; replace x2 := bkeep hb x2; replace x3 := bkeep hb x3; replace x4 := bkeep hb x4; replace HB := Lib.hid (bthen HB.out hb); clear hb))
      go_ret
      exact ⟨rfl, bthen HB0.out HB.out⟩
    | false =>
      go_wp2_with (first
          | (go_at_call 8; (with_reducible refine (ks _ HB.out).mono ?_); rintro e w1 ⟨rfl, hb⟩; replace x0 := bkeep hb x0; replace x1 := bkeep hb x1; replace x2 := bkeep hb x2; replace x3 := bkeep hb x3; replace x4 := bkeep hb x4; replace HB := Lib.hid (bthen HB.out hb); clear hb)
          | (go_at_call 9; (with_reducible refine (aw _ HB.out).mono ?_); rintro e w1 ⟨rfl, hb⟩; replace x0 := bkeep hb x0; replace x1 := bkeep hb x1; replace x2 := bkeep hb x2; replace x3 := bkeep hb x3; replace x4 := bkeep hb x4; replace HB := Lib.hid (bthen HB.out hb); clear hb))
      go_ret
      exact ⟨rfl, bthen HB0.out HB.out⟩
  cases r with
  | false =>
    go_wp2_with (first
        | (go_at_call 8; (with_reducible refine (ks _ HB.out).mono ?_); rintro e w1 ⟨rfl, hb⟩; replace x0 := bkeep hb x0; replace x1 := bkeep hb x1; replace x2 := bkeep hb x2; replace x3 := bkeep hb x3; replace x4 := bkeep hb x4; replace HB := Lib.hid (bthen HB.out hb); clear hb)
        | (go_at_call 9; (with_reducible refine (aw _ HB.out).mono ?_); rintro e w1 ⟨rfl, hb⟩; replace x0 := bkeep hb x0; replace x1 := bkeep hb x1; replace x2 := bkeep hb x2; replace x3 := bkeep hb x3; replace x4 := bkeep hb x4; replace HB := Lib.hid (bthen HB.out hb); clear hb))
    go_ret
    exact ⟨rfl, bthen HB0.out HB.out⟩
  | true =>
    have hf := (HZ.out.1 rfl).few
    obtain ⟨rows, e, hm⟩ : ∃ rows e, A.make first = (rows, e) := ⟨_, _, rfl⟩
    have km := fun W (h : Below w0.heap.size w0 W) => hAk.make A p a cap first rows e W (HA.out.keep h) hk hf (HP.out.keep h) hpu hm (HK.out _ _ HG.out h)
    have kn := fun W (h : Below w0.heap.size w0 W) => rtmake_is A p a cap first rows e W (HA.out.keep h) hk hf (HP.out.keep h) hpu hm
    have kx := fun W b1 b2 c1 c2 h1 h2 => trsame_is b1 b2 rows.length rows.length c1 c2 rows rows W h1 h2 rfl
    unfold MakePost at km kn
    have HM := Lib.hid hm
    clear hm
    go_upto_region 5 with (first
        | (go_at_call 8; (with_reducible refine (ks _ HB.out).mono ?_); rintro e w1 ⟨rfl, hb⟩; replace x0 := bkeep hb x0; replace x1 := bkeep hb x1; replace x2 := bkeep hb x2; replace x3 := bkeep hb x3; replace x4 := bkeep hb x4; replace HB := Lib.hid (bthen HB.out hb); clear hb)
        | (go_at_call 10; (with_reducible refine (km _ HB.out).mono ?_); rintro E w1 ⟨hb, b1, c1, rfl, hT1, hc1⟩; replace x0 := bkeep hb x0; replace x1 := bkeep hb x1; replace x2 := bkeep hb x2; replace x3 := bkeep hb x3; replace x4 := bkeep hb x4; have HC1 := Lib.hid hc1; clear hc1; have HT1 := Lib.hid (tabA_keep hT1 (Below.refl _ _)).rows; clear hT1; replace HB := Lib.hid (bthen HB.out hb); clear hb)
        | (go_at_call 11; (with_reducible refine (kn _ HB.out).mono ?_); rintro E w2 ⟨hb, b2, c2, rfl, hT2, hc2⟩; replace x0 := bkeep hb x0; replace x1 := bkeep hb x1; replace x2 := bkeep hb x2; replace x3 := bkeep hb x3; replace x4 := bkeep hb x4; have HC2 := Lib.hid hc2; clear hc2; have HT2 := Lib.hid hT2.rows; clear hT2; replace HT1 := Lib.hid (rowsA_keep HT1.out hb); replace HB := Lib.hid (bthen HB.out hb); clear hb))
    have hrl := HT1.out.2.1
    unfold maxLen at hrl
    go_upto_region 7 with (go_at_call 12; (with_reducible refine (kx _ _ _ _ _ HT1.out HT2.out).mono ?_); rintro e w1 ⟨rfl, hb⟩; replace x0 := bkeep hb x0; replace x1 := bkeep hb x1; replace x2 := bkeep hb x2; replace x3 := bkeep hb x3; replace x4 := bkeep hb x4; replace HT1 := Lib.hid (rowsA_keep HT1.out hb); replace HT2 := Lib.hid (rowsA_keep HT2.out hb); replace HB := Lib.hid (bthen HB.out hb); clear hb)
    obtain ⟨w3, hw3⟩ : ∃ W, w1 = W := ⟨_, rfl⟩
    simp only [hw3] at *
    clear km kn kx ks
    by_cases hmk : A.makes first
    · have hm := HM.out
      rw [AirP.make_ok hmk] at hm
      obtain ⟨hrows, rfl⟩ := Prod.mk.inj hm
      have hwh := AirP.make_whole hmk
      rw [hrows] at hwh
      have hus : UsRows rows := by
        rw [← hrows]
        intro r hr
        obtain ⟨k, _, rfl⟩ := List.mem_map.1 hr
        exact AirP.rowAt_U hpu k
      have hho : A.holds rows := ⟨hwh.2.1, fun r hr => (hwh.2.2.2.2 r hr).1⟩
      obtain ⟨l, hl⟩ : ∃ l, A.shown rows = l := ⟨_, rfl⟩
      have kp := fun W (h : Below w3.heap.size w3 W) => hAk.shown A p b1 rows.length c1 rows l W (HA.out.keep (bthen HB.out h)) hk hf hmk.1 (rowsA_keep HT1.out h) hus hho (fun r hr => (hwh.2.2.2.2 r hr).2) hl (HK.out _ _ HG.out (bthen HB.out h))
      have kq := fun W (h : Below w3.heap.size w3 W) => rtpublic_is A p b2 rows.length c2 rows l W (HA.out.keep (bthen HB.out h)) hmk.1 (rowsA_keep HT2.out h) hho hl
      have aw := fun W (h : Below w3.heap.size w3 W) => aw W (bthen HB.out h)
      unfold RowPost at kp kq
      clear hm hrows hwh hus hho hl
      generalize rows.length = nr at *
      refine wp_loose [(39, []), (40, [39]), (41, [40]), (42, [40, 41]), (43, [40, 42]), (44, [43]), (45, [43]), (46, [43, 44, 45]), (47, [43]), (48, [43]), (49, [43, 47, 48]), (50, [43, 46, 49]), (51, [40, 43, 50]), (52, [40, 51])]
        (MksG A p g nr c1 c2 b1 b2 l) (fun d => false) (by kernel_rfl) (by kernel_rfl) (fun _ _ _ _ h hb => h.keep hb) ?_ ?_
      · refine opsrun_cons ?_ (opsrun_cons ?_ (opsrun_cons ?_ (opsrun_cons ?_ (opsrun_cons ?_ (opsrun_cons ?_ (opsrun_cons ?_ (opsrun_cons ?_ (opsrun_cons ?_ (opsrun_cons ?_ (opsrun_cons ?_ (opsrun_cons ?_ (opsrun_cons ?_ (opsrun_cons ?_ opsrun_nil)))))))))))))
        all_goals
          refine OpRuns.any ?_
          intro Q0 σ W' K hb hn hK
          simp only [fill, List.map, Act.put, List.setIfInBounds_toArray, List.set_cons_zero, List.set_cons_succ] at hK ⊢
        · clear hn
          go_simp
          go_at_call 9
          refine (aw W' hb).mono ?_
          rintro e w1 ⟨rfl, hb1⟩
          exact hK _ _ rfl hb1 (fun h => absurd h (by decide))
        · have h39 : σ 39 = _ := hn 39 (by decide)
          clear hn
          simp only [h39] at hK
          go_simp
          exact hK _ _ rfl (Below.refl _ _) (fun h => absurd h (by decide))
        · have h40 : σ 40 = _ := hn 40 (by decide)
          clear hn
          simp only [h40] at hK
          go_simp
          exact hK _ _ rfl (Below.refl _ _) (fun h => absurd h (by decide))
        · have h40 : σ 40 = _ := hn 40 (by decide)
          have h41 : σ 41 = _ := hn 41 (by decide)
          clear hn
          simp only [h40, h41] at hK
          go_simp
          exact hK _ _ rfl (Below.refl _ _) (fun h => absurd h (by decide))
        · have h40 : σ 40 = _ := hn 40 (by decide)
          have h42 : σ 42 = _ := hn 42 (by decide)
          clear hn
          simp only [h40, h42] at hK
          go_simp
          exact hK _ _ rfl (Below.refl _ _) (fun h => absurd h (by decide))
        · have h43 : σ 43 = _ := hn 43 (by decide)
          clear hn
          simp only [h43] at hK
          have x0' := bkeep hb x0
          have x1' := bkeep hb x1
          have x2' := bkeep hb x2
          have x3' := bkeep hb x3
          have x4' := bkeep hb x4
          clear x0 x1 x2 x3 x4
          go_simp
          exact hK _ _ rfl (Below.refl _ _) (fun h => absurd h (by decide))
        · have h43 : σ 43 = _ := hn 43 (by decide)
          clear hn
          simp only [h43] at hK
          go_simp
          exact hK _ _ rfl (Below.refl _ _) (fun h => absurd h (by decide))
        · have h43 : σ 43 = _ := hn 43 (by decide)
          have h44 : σ 44 = _ := hn 44 (by decide)
          have h45 : σ 45 = _ := hn 45 (by decide)
          clear hn
          simp only [h43, h44, h45] at hK
          go_simp
          go_at_call 14
          refine (kp W' hb).mono ?_
          rintro e w1 ⟨hb1, q, qc, rfl, hq, _⟩
          exact hK _ _ ⟨q, qc, rfl, hq⟩ hb1 (fun h => absurd h (by decide))
        · have h43 : σ 43 = _ := hn 43 (by decide)
          clear hn
          simp only [h43] at hK
          have x0' := bkeep hb x0
          have x1' := bkeep hb x1
          have x2' := bkeep hb x2
          have x3' := bkeep hb x3
          have x4' := bkeep hb x4
          clear x0 x1 x2 x3 x4
          go_simp
          exact hK _ _ rfl (Below.refl _ _) (fun h => absurd h (by decide))
        · have h43 : σ 43 = _ := hn 43 (by decide)
          clear hn
          simp only [h43] at hK
          go_simp
          exact hK _ _ rfl (Below.refl _ _) (fun h => absurd h (by decide))
        · have h43 : σ 43 = _ := hn 43 (by decide)
          have h47 : σ 47 = _ := hn 47 (by decide)
          have h48 : σ 48 = _ := hn 48 (by decide)
          clear hn
          simp only [h43, h47, h48] at hK
          go_simp
          go_at_call 15
          refine (kq W' hb).mono ?_
          rintro e w1 ⟨hb1, q, qc, rfl, hq, _⟩
          exact hK _ _ ⟨q, qc, rfl, hq⟩ hb1 (fun h => absurd h (by decide))
        · have h43 : σ 43 = _ := hn 43 (by decide)
          have p46 : ∃ (q : Option Addr) (qc : Nat), (σ 46) = .slice q l.length qc ∧ RowA W' q l.length l := hn 46 (by decide)
          have p49 : ∃ (q : Option Addr) (qc : Nat), (σ 49) = .slice q l.length qc ∧ RowA W' q l.length l := hn 49 (by decide)
          clear hn
          simp only [h43] at hK
          obtain ⟨q1, qc1, e1, hq1⟩ := p46
          obtain ⟨q2, qc2, e2, hq2⟩ := p49
          simp only [e1, e2] at hK
          go_simp
          go_at_call 13
          refine (same_is q1 q2 l.length l.length qc1 qc2 l l W' hq1 hq2 rfl).mono ?_
          rintro e w1 ⟨rfl, nq, rfl⟩
          exact hK _ _ rfl (below_drewN (Below.refl _ _) _) (fun h => absurd h (by decide))
        · have h40 : σ 40 = _ := hn 40 (by decide)
          have h43 : σ 43 = _ := hn 43 (by decide)
          have h50 : σ 50 = _ := hn 50 (by decide)
          clear hn
          simp only [h40, h43, h50] at hK
          go_simp
          exact hK _ _ rfl (Below.refl _ _) (fun h => absurd h (by decide))
        · have h40 : σ 40 = _ := hn 40 (by decide)
          have h51 : σ 51 = _ := hn 51 (by decide)
          clear hn
          simp only [h40, h51] at hK
          go_simp
          exact hK _ _ rfl (Below.refl _ _) (fun h => absurd h (by decide))
      · intro σ W' hb hR' hF
        have h52 : σ 52 = .bool true := hR' 52 (by decide)
        have HBE := Lib.hid (bthen HB.out hb)
        clear hR' hF hb x0 x1 x2 x3 x4 kp kq HB
        simp only [fill, List.map, Act.put, List.setIfInBounds_toArray, List.set_cons_zero, List.set_cons_succ, List.length_cons, List.length_nil, List.drop_succ_cons, List.drop_zero, Nat.reduceAdd, h52]
        go_wp2_with fail
        go_ret
        exact ⟨rfl, bthen HB0.out HBE.out⟩
    · have hm := HM.out
      rw [AirP.make_no hmk] at hm
      obtain ⟨rfl, rfl⟩ := Prod.mk.inj hm
      have aw := fun W (h : Below w3.heap.size w3 W) => aw W (bthen HB.out h)
      replace x0 := fun q : Regrown => cell_regrown x0 q.d q.os
      replace x1 := fun q : Regrown => cell_regrown x1 q.d q.os
      replace x2 := fun q : Regrown => cell_regrown x2 q.d q.os
      replace x3 := fun q : Regrown => cell_regrown x3 q.d q.os
      replace x4 := fun q : Regrown => cell_regrown x4 q.d q.os
      refine wp_region_quiet_below (by kernel_rfl) (by kernel_rfl) ?_
      repeat (first | go_big_quiet_step (first
        | (go_at_call 9; with_reducible exact Calls.regrown_of (aw _ (below_regrown w3 _ _)))) | quiet_step (fail))
      refine wpQuiet_nil ?_
      rintro _ ⟨pq, rfl⟩
      have HBE := Lib.hid (bthen HB.out (below_regrown w3 pq.d pq.os))
      clear x0 x1 x2 x3 x4 HB aw
      go_wp2_with fail
      go_ret
      exact ⟨rfl, bthen HB0.out HBE.out⟩
end Go.Proofs.Ytjcgakmhpblanaa
