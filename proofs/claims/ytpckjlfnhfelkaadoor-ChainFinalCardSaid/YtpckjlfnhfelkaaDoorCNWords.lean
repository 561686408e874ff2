/-
  The walk of ChainWords: it answers true, where the program's calls do what is asked of them. (Written by gen_cn.py.)
-/
import Derived.Test.YtpckjlfnhfelkaaDoorGChain
import Derived.Test.YtpckjlfnhfelkaaDoorSame
import Derived.Test.YtpckjlfnhfelkaaDoorGRows
import Derived.BigQuiet
namespace Go.Proofs.YtpckjlfnhfelkaaDoor
open Go Go.RowKit Go.Sort Go.BigFrame
set_option linter.unusedVariables false

set_option maxRecDepth 100000 in
set_option maxHeartbeats 8000000 in
theorem cnwords_body (G : World → Prop) (hAk : AskChain G) (aw : ∀ W, G W → Calls Tryd.prog 8 #[] W fun e w' => e = .returned (.bool true) ∧ Below W.heap.size W w') (a1 : Option Addr) (n1 cp1 : Nat) (l : QL) (a2 : Option Addr) (n2 cp2 : Nat) (ys : QL) (w : World) (hG : G w) (ha : QRowA w a1 n1 l) (hu : ∀ n ∈ l, U n.1 ∧ U n.2) (ha2 : QRowA w a2 n2 ys) (hu2 : ∀ n ∈ ys, U n.1 ∧ U n.2) :
    Calls Tryd.prog 3 #[.slice a1 n1 cp1, .slice a2 n2 cp2] w fun e w' => e = .returned (.bool true) ∧ Below w.heap.size w w' := by
  have HK := Lib.hid (fun (W W' : World) => @AskChain.keep G hAk W W')
  have HG := Lib.hid hG
  have hl1 := ha.1
  have hm1 := ha.2.1
  unfold maxLen at hm1
  have HA1 := Lib.hid ha
  have HB : Hid (Below w.heap.size w w) := Lib.hid (Below.refl _ _)
  clear hG ha
  have aw := fun W (h : Below w.heap.size w W) => aw W (HK.out _ _ HG.out h)
  have hl2 := ha2.1
  have hm2 := ha2.2.1
  unfold maxLen at hm2
  have HA2 := Lib.hid ha2
  clear ha2
  go_enter Tryd.func3, Tryd.ntmps3
  by_cases h70 : (70 : Int) < (n1 : Int)
  · go_wp2_with (go_at_call 8; (with_reducible refine (aw _ HB.out).mono ?_); rintro e w1 ⟨rfl, hb⟩; replace HB := Lib.hid (bthen HB.out hb); clear hb)
    go_ret
    exact ⟨rfl, HB.out⟩
  by_cases h10 : (10 : Int) < (n2 : Int)
  · go_wp2_with (go_at_call 8; (with_reducible refine (aw _ HB.out).mono ?_); rintro e w1 ⟨rfl, hb⟩; replace HB := Lib.hid (bthen HB.out hb); clear hb)
    go_ret
    exact ⟨rfl, HB.out⟩
  obtain ⟨rows, ok, hr⟩ : ∃ rows ok, chainV l ys = (rows, ok) := ⟨_, _, rfl⟩
  have k1 := fun W (h : Below w.heap.size w W) => hAk.words a1 n1 cp1 l a2 n2 cp2 ys rows ok W (HA1.out.keep h) hu (HA2.out.keep h) hu2 (by omega) (by omega) hr (HK.out _ _ HG.out h)
  have k2 := fun W (h : Below w.heap.size w W) => rcwords_is a1 n1 cp1 l a2 n2 cp2 ys rows ok W (HA1.out.keep h) hu (HA2.out.keep h) hu2 (by omega) hr
  unfold WordsPost at k1 k2
  obtain ⟨N, hN⟩ : ∃ N, rows.length = N := ⟨_, rfl⟩
  rw [hN] at k1 k2
  clear hr hu hu2 hN
  go_upto_region 5 with (first
      | (go_at_call 9; (with_reducible refine (k1 _ HB.out).mono ?_); rintro e w1 ⟨hb, b1, d1, rfl, ht1, hd1⟩; have HT1 := Lib.hid (And.intro ht1 (Below.refl w1.heap.size w1)); clear ht1 hd1; replace HB := Lib.hid (bthen HB.out hb); clear hb)
      | (go_at_call 10; (with_reducible refine (k2 _ HB.out).mono ?_); rintro e w2 ⟨hb, b2, d2, rfl, ht2, hd2⟩; replace HT1 := Lib.hid (HT1.out.1.keep hb); have HT2 := Lib.hid ht2; clear ht2 hd2; replace HB := Lib.hid (bthen HB.out hb); clear hb))
  clear k1 k2
  cases ok
  all_goals
    have hN63 := HT1.out.2.1
    unfold maxLen at hN63
    go_upto_region 8 with fail
    go_loopw [9] (fun i W => ∃ j : Nat, j ≤ N ∧ i = .int .i64 j ∧ Below w2.heap.size w2 W) (fun i _ => N - (intOf i).toNat)
    case atStart => exact ⟨0, Nat.zero_le _, rfl, Below.refl _ _⟩
    case round =>
      obtain ⟨j, hj, rfl, hV⟩ := hrel
      by_cases hlt : j < N
      · have hltI : (j : Int) < (N : Int) := by omega
        have hj0 : (0 : Int) ≤ (j : Int) := by omega
        obtain ⟨g1, o1, e1, aj1, cj1, c1, hj1⟩ := (HT1.out.keep hV).2.2 j hlt
        obtain ⟨g2, o2, e2, aj2, cj2, c2, hj2⟩ := (HT2.out.keep hV).2.2 j hlt
        subst e1 e2
        have HJ1 := Lib.hid hj1; have HJ2 := Lib.hid hj2
        have ks := fun W (h : Below wr.heap.size wr W) => (sameq_is aj1 aj2 _ _ cj1 cj2 _ _ W (HJ1.out.keep h) (HJ2.out.keep h) rfl).mono fun e w' (q : e = .returned (.bool true) ∧ ∃ n, w' = W.drewN n) => (⟨q.1, by obtain ⟨n, hn⟩ := q.2; rw [hn]; exact below_drewN (Below.refl _ _) n⟩ : e = .returned (.bool true) ∧ Below W.heap.size W w')
        have HV := Lib.hid hV
        clear hV hj1 hj2
        generalize rows.getD j [] = rj at *
        go_upto_region 10 with fail
        replace c1 := fun q : Regrown => cell_regrown c1 q.d q.os
        replace c2 := fun q : Regrown => cell_regrown c2 q.d q.os
        refine wp_region_quiet_below (by kernel_rfl) (by kernel_rfl) ?_
        repeat (first | go_big_quiet_step (first
          | (go_at_call 11; with_reducible exact Calls.regrown_of (ks _ (below_regrown wr _ _)))) | quiet_step (fail))
        refine wpQuiet_nil ?_
        rintro _ ⟨pq, rfl⟩
        have HBE := Lib.hid (bthen HV.out (below_regrown wr pq.d pq.os))
        clear c1 c2 ks HV HJ1 HJ2
        go_wp2_with fail
        go_roundw
        case rel => exact ⟨j + 1, by omega, by go_num, HBE.out⟩
        case measure => simp [intOf]; omega
      · obtain rfl : j = N := by omega
        replace HB := Lib.hid (bthen HB.out hV)
        clear hV
        go_wp2_with (go_at_call 8; (with_reducible refine (aw _ HB.out).mono ?_); rintro e w1 ⟨rfl, hb⟩; replace HB := Lib.hid (bthen HB.out hb); clear hb)
        go_ret
        exact ⟨rfl, HB.out⟩
end Go.Proofs.YtpckjlfnhfelkaaDoor
