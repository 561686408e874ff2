/-
  The walk of SpongeList: it answers true, where the program's calls do what is asked of them. (Written by gen_slaws.py.)
-/
import Derived.Test.YtbfbfpanhonieaaDoorSLPlays
namespace Go.Proofs.YtbfbfpanhonieaaDoor
open Go Go.RowKit Go.Sort Go.BigFrame
set_option linter.unusedVariables false

def LiR (g5 bp op n cap k : Nat) (s1 T Z : ByteArray) (C : Int) (sl : Nat) (v : Value) (W : World) : Prop :=
  match sl with
  | 31 => v = .agg #[.string s1, .int .i64 C]
  | 32 => v = .slice (some ⟨bp, op, none⟩) n cap
  | 33 => v = .int .i64 k
  | 34 => v = .pointer (some ⟨bp, op + k, none⟩)
  | 35 => v = .string T
  | 36 => StrL W v 1 [T]
  | 37 => v = .agg #[.string Z, .int .i64 0]
  | _ => v = .bool true
theorem LiR.keep {g5 bp op n cap k : Nat} {s1 T Z : ByteArray} {C : Int} {sl : Nat} {v : Value} {W W' : World} (h : LiR g5 bp op n cap k s1 T Z C sl v W) (hb : Below W.heap.size W W') : LiR g5 bp op n cap k s1 T Z C sl v W' := by
  unfold LiR at *
  split at h
  all_goals first | exact h | (exact StrL.keep h hb)
def ListRel (w : World) (g2 g5 n : Nat) (s : ByteArray) (c : Int) (f : Nat → ByteArray) (i : Value) (W : World) : Prop := ∃ k : Nat, k ≤ n ∧ i = .int .i64 k ∧ Below w.heap.size w W ∧ Duo W g2 (.string s) (.int .i64 c) ∧ Duo W g5 (.string (absL s f k)) (.int .i64 (if k = 0 then c else 0)) ∧ ∀ j, j < k → (f j).size ≤ 300
set_option maxRecDepth 100000 in
set_option maxHeartbeats 8000000 in
theorem slist_body (G : World → Prop) (hA : AskSponge G) (aw : ∀ W, G W → Calls Tryd.prog 6 #[] W fun e w' => e = .returned (.bool true) ∧ Below W.heap.size W w') (s : ByteArray) (c : Int) (a : Option Addr) (n cap : Nat) (f : Nat → ByteArray) (w : World) (hG0 : G w) (hs : s.size ≤ maxLen) (hc : -9223372036854775808 ≤ c ∧ c ≤ 9223372036854775807) (hL : StrA w a n f) (hcap : n ≤ cap) (hcap2 : cap ≤ maxLen) (hnil : a = none → n = 0 ∧ cap = 0) :
    Calls Tryd.prog 4 #[.agg #[.string s, .int .i64 c], .slice a n cap] w fun e w' => e = .returned (.bool true) ∧ Below w.heap.size w w' := by
  have HK := Lib.hid (fun (W W' : World) => @AskSponge.keep G hA W W')
  have HG0 := Lib.hid hG0
  have hAh := Lib.hid hA
  have HL := Lib.hid hL
  have hnm := hL.1
  have hL0 : ∀ bp op, a = some ⟨bp, op, none⟩ → 0 < n → bp < w.heap.size := by
    intro bp op e h0
    obtain ⟨b, off, e', c0⟩ := hL.2 0 h0
    rw [e] at e'
    cases e'
    exact World.block_lt_of_cell? w _ c0
  have HN := Lib.hid hnil
  unfold maxLen at hs hnm
  clear hA hG0 hL hnil
  go_enter Tryd.func4, Tryd.ntmps4
  go_upto_region 1 with fail
  refine wp_gen (fun W => Below w.heap.size w W ∧ Duo W w.heap.size (.string s) (.int .i64 c)) ⟨(Below.refl _ _).alloc (Nat.le_refl _) _, by simp [Duo, go_sem]⟩ ?_
  obtain ⟨g2, hg2⟩ : ∃ g, w.heap.size = g := ⟨_, rfl⟩
  rintro W1 ⟨hB, hD⟩
  rw [hg2] at hD
  simp only [hg2]
  have hlt2 := hD.lt
  have HB := Lib.hid hB; have HD := Lib.hid hD
  obtain ⟨z0, z1, _, _⟩ := hD
  have hg2' : w.heap.size ≤ g2 := by omega
  clear hB hg2
  by_cases b1 : (200 : Int) < (s.size : Int)
  · go_wp2_with (go_at_call 6; (with_reducible refine (aw _ (HK.out _ _ HG0.out HB.out)).mono ?_); rintro e w1 ⟨rfl, hb⟩; replace HB := Lib.hid (bthen HB.out hb); clear hb)
    go_ret
    exact ⟨rfl, HB.out⟩
  by_cases b2 : (20 : Int) < (n : Int)
  · go_wp2_with (go_at_call 6; (with_reducible refine (aw _ (HK.out _ _ HG0.out HB.out)).mono ?_); rintro e w1 ⟨rfl, hb⟩; replace HB := Lib.hid (bthen HB.out hb); clear hb)
    go_ret
    exact ⟨rfl, HB.out⟩
  go_upto_region 5 with fail
  refine wp_gen (fun W => Below w.heap.size w W ∧ Duo W g2 (.string s) (.int .i64 c) ∧ Duo W W1.heap.size (.string s) (.int .i64 c)) ⟨HB.out.alloc HB.out.size _, HD.out.keep ((Below.refl _ _).alloc (Nat.le_refl _) _), by simp [Duo, go_sem]⟩ ?_
  obtain ⟨g5, hg5⟩ : ∃ g, W1.heap.size = g := ⟨_, rfl⟩
  have hs1 := HB.out.size
  rintro W2 ⟨hB, hD2, hD5⟩
  rw [hg5] at hD5 hlt2 hs1
  simp only [hg5]
  have hne : g5 ≠ g2 := by omega
  clear hg5 HB HD z0 z1
  go_loopw [6] (ListRel w g2 g5 n s c f) (fun i _ => n - (intOf i).toNat)
  case atStart => exact ⟨0, Nat.zero_le _, rfl, hB, hD2, hD5, fun j hj => by omega⟩
  case round =>
    clear hB hD2 hD5
    obtain ⟨k, hk, rfl, hB, hD2, hD5, hf⟩ := hrel
    by_cases hlt : k < n
    · have hlt' : (k : Int) < (n : Int) := by omega
      have hk0 : (0 : Int) ≤ (k : Int) := by omega
      obtain ⟨bp, op, rfl, t00⟩ := HL.out.2 k hlt
      have t0 := bkeep hB t00
      clear t00
      have hz := absL_size s f 200 (by omega) (by decide) k
      have HA1 := Lib.hid (show absB (absL s f k) (f k) = absL s f (k + 1) from rfl)
      have HF : Hid ((f k).size ≤ 300 → ∀ j, j < k + 1 → (f j).size ≤ 300) := Lib.hid fun h j hj => by
        by_cases e : j = k
        · subst e; exact h
        · exact hf j (by omega)
      have hts := HL.out.1
      have HB := Lib.hid hB; have HD2 := Lib.hid hD2; have HD5 := Lib.hid hD5
      clear hB hD2 hD5 hf
      obtain ⟨Z, hZ⟩ : ∃ Z, absL s f (k + 1) = Z := ⟨_, rfl⟩
      rw [hZ] at HA1
      have HZ := Lib.hid hZ
      clear hZ
      generalize absL s f k = s1 at *
      generalize (if k = 0 then c else 0) = C at *
      generalize f k = T at *
      by_cases hT : (300 : Int) < (T.size : Int)
      · go_wp2_with (go_at_call 6; (with_reducible refine (aw _ (HK.out _ _ HG0.out HB.out)).mono ?_); rintro e w1 ⟨rfl, hb⟩; replace HB := Lib.hid (bthen HB.out hb); clear hb)
        go_ret
        exact ⟨rfl, HB.out⟩
      have ka := fun W b hs hg => absorb_L hAh.out s1 T C W b (by omega) (by omega) hs hg
      rw [HA1.out] at ka
      obtain ⟨x0, x1, x2, x3⟩ := HD5.out
      go_upto_region 9 with fail
      refine wp_loose [(31, []), (32, []), (33, []), (34, [32, 33]), (35, [34]), (36, [35]), (37, [31, 36])]
        (LiR g5 bp op n cap k s1 T Z C) (fun d => false) (by kernel_rfl) (by kernel_rfl) (fun _ _ _ _ h hb => h.keep hb) ?_ ?_
      · refine opsrun_cons ?_ (opsrun_cons ?_ (opsrun_cons ?_ (opsrun_cons ?_ (opsrun_cons ?_ (opsrun_cons ?_ (opsrun_cons ?_ opsrun_nil))))))
        all_goals
          refine OpRuns.any ?_
          intro Q0 σ W' K hb hn hK
          simp only [fill, List.map, Act.put, List.setIfInBounds_toArray, List.set_cons_zero, List.set_cons_succ] at hK ⊢
        · clear hn
          have x0' := bkeep hb x0
          have x1' := bkeep hb x1
          clear x0 x1
          go_simp
          exact hK _ _ rfl (Below.refl _ _) (fun h => absurd h (by decide))
        · clear hn
          go_simp
          exact hK _ _ rfl (Below.refl _ _) (fun h => absurd h (by decide))
        · clear hn
          go_simp
          exact hK _ _ rfl (Below.refl _ _) (fun h => absurd h (by decide))
        · have h32 : σ 32 = _ := hn 32 (by decide)
          have h33 : σ 33 = _ := hn 33 (by decide)
          clear hn
          simp only [h32, h33] at hK
          go_simp
          exact hK _ _ rfl (Below.refl _ _) (fun h => absurd h (by decide))
        · have h34 : σ 34 = _ := hn 34 (by decide)
          clear hn
          simp only [h34] at hK
          have t0' := bkeep hb t0
          clear t0
          go_simp
          exact hK _ _ rfl (Below.refl _ _) (fun h => absurd h (by decide))
        · have h35 : σ 35 = _ := hn 35 (by decide)
          clear hn
          simp only [h35] at hK
          go_simp
          exact hK _ _ (StrL.new _ [T] 1 _ rfl (by decide)) ((Below.refl _ _).alloc (Nat.le_refl _) _) (fun h => absurd h (by decide))
        · have h31 : σ 31 = _ := hn 31 (by decide)
          have p36 : StrL W' (σ 36) 1 [T] := hn 36 (by decide)
          clear hn
          simp only [h31] at hK
          obtain ⟨b, e, hs⟩ := p36
          simp only [e] at hK
          go_simp
          go_at_call 9
          refine (ka _ b hs (HK.out _ _ HG0.out (bthen HB.out hb))).mono ?_
          rintro e w1 ⟨rfl, hb1⟩
          exact hK _ _ rfl hb1 (fun h => absurd h (by decide))
      · intro σ W' hb hR' hF
        have h37 : σ 37 = _ := hR' 37 (by decide)
        have HB' := Lib.hid (bthen HB.out hb)
        have HD2' := Lib.hid (HD2.out.keep hb); have HD5' := Lib.hid (HD5.out.keep hb)
        replace x2 := bfree hb x0 x2; replace x3 := bfree hb x1 x3; replace x0 := bkeep hb x0; replace x1 := bkeep hb x1
        clear hR' hF hb HB HD2 HD5 t0
        simp only [fill, List.map, Act.put, List.setIfInBounds_toArray, List.set_cons_zero, List.set_cons_succ, List.length_cons, List.length_nil, List.drop_succ_cons, List.drop_zero, Nat.reduceAdd, h37]
        clear h37
        go_wp2_with fail
        go_roundw
        case rel => exact ⟨k + 1, by omega, by go_num, (HB'.out.setCell (by show w.heap.size ≤ g5; omega) _).setCell (by show w.heap.size ≤ g5; omega) _, (HD2'.out.far hne _ _).far hne _ _, by rw [if_neg (by omega), HZ.out]; exact HD5'.out.set _ _, HF.out (by omega)⟩
        case measure => simp [intOf]; omega
    · obtain rfl : k = n := by omega
      have ke := fun (W : World) (hb : Below w.heap.size w W) => hAh.out.absorb s c a k cap f W (HL.out.keep hb) hcap hcap2 HN.out (by omega) (fun j hj => by have := hf j hj; omega) (by omega) (HK.out _ _ HG0.out hb)
      have HB := Lib.hid hB
      obtain ⟨x0, x1, _, _⟩ := hD2
      obtain ⟨y0, y1, _, _⟩ := hD5
      clear hB HN HL hf
      by_cases hn0 : k = 0
      · subst hn0
        simp only [if_true] at y1 ke
        generalize absL s f 0 = Z at *
        go_upto_region 10 with fail
        have x0' := x0
        clear x0
        have x0 := fun q : Regrown => cell_regrown x0' q.d q.os
        clear x0'
        have x1' := x1
        clear x1
        have x1 := fun q : Regrown => cell_regrown x1' q.d q.os
        clear x1'
        have y0' := y0
        clear y0
        have y0 := fun q : Regrown => cell_regrown y0' q.d q.os
        clear y0'
        have y1' := y1
        clear y1
        have y1 := fun q : Regrown => cell_regrown y1' q.d q.os
        clear y1'
        refine wp_region_quiet_below (by kernel_rfl) (by kernel_rfl) ?_
        repeat (first | go_big_quiet_step (first
          | (go_at_call 9; with_reducible exact Calls.regrown_of (ke _ (bthen HB.out (below_regrown _ _ _))))
          | (go_at_call 6; with_reducible exact Calls.regrown_of (aw _ (HK.out _ _ HG0.out (bthen HB.out (below_regrown _ _ _)))))) | quiet_step (fail))
        refine wpQuiet_nil ?_
        rintro _ ⟨pq, rfl⟩
        replace HB := Lib.hid (bthen HB.out (below_regrown _ pq.d pq.os))
        go_wp2_with fail
        go_ret
        exact ⟨rfl, HB.out⟩
      · rw [if_neg hn0] at y1
        simp only [if_neg hn0] at ke
        have hZ : (absL s f k).size = 32 := by
          obtain ⟨m, rfl⟩ : ∃ m, k = m + 1 := ⟨k - 1, by omega⟩
          exact absB_size _ _
        have hZI : ((absL s f k).size : Int) = 32 := by omega
        have hn0I : ¬ (k : Int) = 0 := by omega
        generalize absL s f k = Z at *
        go_upto_region 10 with fail
        have x0' := x0
        clear x0
        have x0 := fun q : Regrown => cell_regrown x0' q.d q.os
        clear x0'
        have x1' := x1
        clear x1
        have x1 := fun q : Regrown => cell_regrown x1' q.d q.os
        clear x1'
        have y0' := y0
        clear y0
        have y0 := fun q : Regrown => cell_regrown y0' q.d q.os
        clear y0'
        have y1' := y1
        clear y1
        have y1 := fun q : Regrown => cell_regrown y1' q.d q.os
        clear y1'
        refine wp_region_quiet_below (by kernel_rfl) (by kernel_rfl) ?_
        repeat (first | go_big_quiet_step (first
          | (go_at_call 9; with_reducible exact Calls.regrown_of (ke _ (bthen HB.out (below_regrown _ _ _))))
          | (go_at_call 6; with_reducible exact Calls.regrown_of (aw _ (HK.out _ _ HG0.out (bthen HB.out (below_regrown _ _ _)))))) | quiet_step (fail))
        refine wpQuiet_nil ?_
        rintro _ ⟨pq, rfl⟩
        replace HB := Lib.hid (bthen HB.out (below_regrown _ pq.d pq.os))
        go_wp2_with fail
        go_ret
        exact ⟨rfl, HB.out⟩
end Go.Proofs.YtbfbfpanhonieaaDoor
