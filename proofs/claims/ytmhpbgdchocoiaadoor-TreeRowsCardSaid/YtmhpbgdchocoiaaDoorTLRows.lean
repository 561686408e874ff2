/-
  The walk of TreeRows: it answers true, where the program's calls do what is asked of them.
-/
import Derived.Test.YtmhpbgdchocoiaaDoorTLBuilds
namespace Go.Proofs.YtmhpbgdchocoiaaDoor
open Go Go.RowKit Go.Sort Go.BigFrame
set_option linter.unusedVariables false

theorem pow_rows : ∀ n : Nat, n ≤ 70 → 0 < n → (bits .and .i64 (n : Int) ((n : Int) - 1) = 0 ↔ rowsN n ≠ 0) := by decide +kernel
def TRRow (w : World) (M : Nat) (i : Value) (W : World) : Prop := ∃ j : Nat, j ≤ M ∧ i = .int .i64 j ∧ Below w.heap.size w W
set_option maxRecDepth 100000 in
set_option maxHeartbeats 8000000 in
theorem trows_body (G : World → Prop) (hA : AskTree G) (aw : ∀ W, G W → Calls Tryd.prog 9 #[] W fun e w' => e = .returned (.bool true) ∧ Below W.heap.size W w') (a : Option Addr) (n c : Nat) (f : Nat → ByteArray) (w : World) (hG0 : G w)
    (hS : StrS w a n c f) : Calls Tryd.prog 6 #[.slice a n c] w fun e w' => e = .returned (.bool true) ∧ Below w.heap.size w w' := by
  have HK := Lib.hid (fun (W W' : World) => @AskTree.keep G hA W W')
  have HG0 := Lib.hid hG0
  have kS := tsmall_is a n c f (smallB f n) w hS.1 rfl
  have HA := Lib.hid hA; have HS := Lib.hid hS
  clear hA hS hG0
  cases c4 : smallB f n with
  | false =>
    rw [c4] at kS
    go_enter Tryd.func6, Tryd.ntmps6
    go_wp2_with (first
      | (go_at_call 8; (with_reducible refine kS.mono ?_); rintro e w1 ⟨rfl, rfl⟩)
      | (go_at_call 9; (with_reducible refine (aw _ HG0.out).mono ?_); rintro e w1 ⟨rfl, hb⟩))
    go_ret
    exact ⟨rfl, hb⟩
  | true =>
  rw [c4] at kS
  obtain ⟨s1, s2⟩ := of_decide_eq_true c4
  have ku := HA.out.build a n c f w HS.out s1 s2 HG0.out
  have hpow := pow_rows n s1
  have hL := rowsN_le n
  have hLn : rowsN n ≠ 0 → n = 2 ^ (rowsN n - 1) := rowsN_pow
  obtain ⟨L, hLL⟩ : ∃ L, rowsN n = L := ⟨_, rfl⟩
  rw [hLL] at ku hL hLn hpow
  have hn0 : n = 0 → L = 0 := fun h => by rw [← hLL, h]; rfl
  have hwn : IntKind.i64.wrap ((n : Int) - 1) = (n : Int) - 1 := IntWalk.i64_in _ (by omega)
  have hwn2 : wrap64 ((n : Int) - 1) = (n : Int) - 1 := IntWalk.wrap64_in _ (by omega)
  have HSZ := Lib.hid s2
  clear c4 s2 hLL
  by_cases h0 : n = 0
  · have hL0 := hn0 h0
    subst h0
    subst hL0
    clear hpow hLn hn0 hwn hwn2
    go_enter Tryd.func6, Tryd.ntmps6
    go_upto_region 8 with (first
      | (go_at_call 8; (with_reducible refine kS.mono ?_); rintro e w1 ⟨rfl, rfl⟩)
      | (go_at_call 10; (with_reducible refine ku.mono ?_); rintro e w1 ⟨hb1, b1, d1, rfl, hT1⟩))
    clear hT1
    go_loopw [5] (fun i W => i = .int .i64 0 ∧ W = w1) (fun i _ => 0)
    case atStart => exact ⟨rfl, rfl⟩
    case round =>
      obtain ⟨rfl, rfl⟩ := hrel
      go_wp2_with (go_at_call 9; (with_reducible refine (aw _ (HK.out _ _ HG0.out hb1)).mono ?_); rintro e w5 ⟨rfl, hb5⟩)
      go_ret
      exact ⟨rfl, bthen hb1 hb5⟩
  have hn1 : (0 : Int) < (n : Int) := by omega
  by_cases hLz : L = 0
  · subst hLz
    have hbe : (bits .and .i64 (n : Int) ((n : Int) - 1) == 0) = false := by
      have : ¬ bits .and .i64 (n : Int) ((n : Int) - 1) = 0 := fun h => (hpow (by omega)).1 h rfl
      simpa using this
    clear hpow hLn hn0
    go_enter Tryd.func6, Tryd.ntmps6
    go_upto_region 8 with (first
      | (go_at_call 8; (with_reducible refine kS.mono ?_); rintro e w1 ⟨rfl, rfl⟩)
      | (go_at_call 10; (with_reducible refine ku.mono ?_); rintro e w1 ⟨hb1, b1, d1, rfl, hT1⟩))
    clear hT1
    go_loopw [5] (fun i W => i = .int .i64 0 ∧ W = w1) (fun i _ => 0)
    case atStart => exact ⟨rfl, rfl⟩
    case round =>
      obtain ⟨rfl, rfl⟩ := hrel
      go_wp2_with (go_at_call 9; (with_reducible refine (aw _ (HK.out _ _ HG0.out hb1)).mono ?_); rintro e w5 ⟨rfl, hb5⟩)
      go_ret
      exact ⟨rfl, bthen hb1 hb5⟩
  obtain ⟨K, rfl⟩ : ∃ K, L = K + 1 := ⟨L - 1, by omega⟩
  have HNK := Lib.hid (hLn (by omega))
  have HSL : Hid (∀ k, k ≤ K → ∀ j, j < 2 ^ (K - k) → (lev f k j).size ≤ 100) := Lib.hid fun k hk j hj => lev_size f 100 k (2 ^ (K - k)) (fun j hj => HSZ.out j (by rw [← Nat.pow_add, show K - k + k = K by omega] at hj; rw [HNK.out, show K + 1 - 1 = K by omega]; exact hj)) (by omega) j hj
  have hbe : (bits .and .i64 (n : Int) ((n : Int) - 1) == 0) = true := by
    have := (hpow (by omega)).2 (by omega)
    simpa using this
  obtain ⟨L, hLK⟩ : ∃ L, K + 1 = L := ⟨_, rfl⟩
  rw [hLK] at ku
  have hL0 : (0 : Int) < (L : Int) := by omega
  have hL1 : 0 < L := by omega
  clear hpow hLn hn0 hLz
  go_enter Tryd.func6, Tryd.ntmps6
  go_upto_region 8 with (first
    | (go_at_call 8; (with_reducible refine kS.mono ?_); rintro e w1 ⟨rfl, rfl⟩)
    | (go_at_call 10; (with_reducible refine ku.mono ?_); rintro e w1 ⟨hb1, b1, d1, rfl, hT1⟩))
  have HT := Lib.hid (hT1 0 (Nat.zero_le _) (fun _ _ => Nat.zero_le _))
  have HB := Lib.hid hb1
  clear hT1 hb1 ku kS
  go_loopw [5] (TRRow w1 K) (fun i _ => K - (intOf i).toNat)
  case atStart => exact ⟨0, Nat.zero_le _, rfl, Below.refl _ _⟩
  case round =>
    obtain ⟨k, hk, rfl, hB⟩ := hrel
    have hw1 : IntKind.i64.wrap ((k : Int) + 1) = (k : Int) + 1 := IntWalk.i64_in _ (by omega)
    have hw2 : wrap64 ((k : Int) + 1) = (k : Int) + 1 := IntWalk.wrap64_in _ (by omega)
    by_cases hlt : k < K
    · obtain ⟨g1, o1, rfl, _, ak, ck, hc1, _, _, _, hs1⟩ := HT.out.2.2.2 k (by omega)
      obtain ⟨g1', o1', e, _, ak', ck', hc2, _, _, _, hs2⟩ := HT.out.2.2.2 (k + 1) (by omega)
      cases e
      rw [show L - 1 - k = K - k by omega] at hc1 hs1
      rw [show L - 1 - (k + 1) = K - k - 1 by omega] at hc2 hs2
      have hN : 2 ^ (K - k) = 2 * 2 ^ (K - k - 1) := by
        obtain ⟨m, hm⟩ : ∃ m, K - k = m + 1 := ⟨K - k - 1, by omega⟩
        rw [hm, Nat.pow_succ, Nat.mul_comm]
        rfl
      have h64 : 2 ^ (K - k - 1) ≤ 64 := Nat.le_trans (Nat.pow_le_pow_right (by decide) (show K - k - 1 ≤ 6 by omega)) (by decide)
      rw [hN] at hc1 hs1
      generalize 2 ^ (K - k - 1) = M at *
      obtain ⟨N, hN2⟩ : ∃ N, 2 * M = N := ⟨_, rfl⟩
      rw [hN2] at hc1 hs1
      have c1 := bkeep hB hc1; have c2 := bkeep hB hc2
      have hl1 : (k : Int) + 1 < (L : Int) := by omega
      have hl2 : (k : Int) < (L : Int) := by omega
      have ht1 : ((k : Int) + 1).toNat = k + 1 := by omega
      have hp1 : 0 ≤ (k : Int) + 1 := by omega
      have hMN : IntKind.i64.wrap ((M : Int) * 2) = (N : Int) := by rw [IntWalk.i64_in _ (by omega)]; omega
      have hMN2 : wrap64 ((M : Int) * 2) = (N : Int) := by rw [IntWalk.wrap64_in _ (by omega)]; omega
      have H1 := Lib.hid hc1; have H2 := Lib.hid hc2; have S1 := Lib.hid hs1; have S2 := Lib.hid hs2
      have HN := Lib.hid hN
      clear hc1 hc2 hs1 hs2 hN
      go_upto_region 10 with fail
      go_quiet (fail)
      go_upto_region 13 with fail
      refine wp_gen (fun W => Below w1.heap.size w1 W) (below_drewN hB _) ?_
      clear hB c1 c2 hMN hMN2
      rintro W2 hB2
      go_loopw [6] (TRRow w1 M) (fun i _ => M - (intOf i).toNat)
      case atStart => exact ⟨0, Nat.zero_le _, rfl, hB2⟩
      case round =>
        clear hB2
        obtain ⟨j, hj, rfl, hB⟩ := hrel
        have c1 := bkeep hB H1.out; have c2 := bkeep hB H2.out
        by_cases hjl : j < M
        · obtain ⟨b1, off1, rfl, z1⟩ := S2.out.2 j hjl
          obtain ⟨b2, off2, rfl, z2⟩ := S1.out.2 (2 * j) (by omega)
          obtain ⟨b2', off2', e, z3⟩ := S1.out.2 (2 * j + 1) (by omega)
          cases e
          replace z1 := bkeep hB z1; replace z2 := bkeep hB z2; replace z3 := bkeep hB z3
          have kn := fun W => rlnode_is (lev f k (2 * j)) (lev f k (2 * j + 1)) W (by
            have h1 := HSL.out k (by omega) (2 * j) (by rw [HN.out]; omega)
            have h2 := HSL.out k (by omega) (2 * j + 1) (by rw [HN.out]; omega)
            omega)
          have hz : nodeB (lev f k (2 * j)) (lev f k (2 * j + 1)) = lev f (k + 1) j := rfl
          rw [hz] at kn
          clear hz
          generalize lev f (k + 1) j = z at *
          generalize lev f k (2 * j) = x at *
          generalize lev f k (2 * j + 1) = y at *
          generalize hJ : 2 * j = J at *
          have hj1 : (j : Int) < (M : Int) := by omega
          have hj2 : (J : Int) < (N : Int) := by omega
          have hj3 : (J : Int) + 1 < (N : Int) := by omega
          have hj4 : ((J : Int) + 1).toNat = J + 1 := by omega
          have hj5 : 0 ≤ (J : Int) + 1 := by omega
          have hj6 : IntKind.i64.wrap (2 * (j : Int)) = (J : Int) := by rw [IntWalk.i64_in _ (by omega)]; omega
          have hj7 : wrap64 (2 * (j : Int)) = (J : Int) := by rw [IntWalk.wrap64_in _ (by omega)]; omega
          have hj8 : IntKind.i64.wrap ((J : Int) + 1) = (J : Int) + 1 := IntWalk.i64_in _ (by omega)
          have hj9 : wrap64 ((J : Int) + 1) = (J : Int) + 1 := IntWalk.wrap64_in _ (by omega)
          go_upto_region 15 with fail
          replace c1 := fun q : Regrown => cell_regrown c1 q.d q.os
          replace c2 := fun q : Regrown => cell_regrown c2 q.d q.os
          replace z1 := fun q : Regrown => cell_regrown z1 q.d q.os
          replace z2 := fun q : Regrown => cell_regrown z2 q.d q.os
          replace z3 := fun q : Regrown => cell_regrown z3 q.d q.os
          refine wp_region_quiet_below (by kernel_rfl) (by kernel_rfl) ?_
          repeat (first | go_big_quiet_step (first | (go_at_call 23; with_reducible exact Calls.regrown_of (kn _))) | quiet_step (fail))
          refine wpQuiet_nil ?_
          rintro _ ⟨pq, rfl⟩
          replace hB := bthen hB (below_regrown wr pq.d pq.os)
          go_wp2
          go_roundw
          case rel => exact ⟨j + 1, by omega, by go_num, hB⟩
          case measure => simp [intOf]; omega
        · obtain rfl : j = M := by omega
          go_wp2
          go_roundw
          case rel => exact ⟨k + 1, by omega, by go_num, hB⟩
          case measure => simp [intOf]; omega
    · obtain rfl : k = K := by omega
      obtain ⟨g1, o1, rfl, _, ak, ck, hc1, _, _, _, hs1⟩ := HT.out.2.2.2 0 (by omega)
      obtain ⟨g1', o1', e, _, ak', ck', hc2, _, _, _, hs2⟩ := HT.out.2.2.2 k (by omega)
      cases e
      rw [Nat.add_zero, show L - 1 - 0 = k + 1 - 1 by omega, ← HNK.out] at hc1
      rw [show L - 1 - 0 = k + 1 - 1 by omega, ← HNK.out] at hs1
      rw [show L - 1 - k = 0 by omega, Nat.pow_zero] at hc2
      have c1 := bkeep hB hc1; have c2 := bkeep hB hc2
      have ks := fun W (hb : Below w1.heap.size w1 W) => tsame_is ak a n n ck c f f true W (hs1.keep hb) (HS.out.1.keep (bthen HB.out hb)) (sameB_self _ _)
      have hnl : ¬ (k : Int) + 1 < (L : Int) := by omega
      have hl0 : (k : Int) < (L : Int) := by omega
      have hw3 : IntKind.i64.wrap ((L : Int) - 1) = (k : Int) := by rw [IntWalk.i64_in _ (by omega)]; omega
      have hw4 : wrap64 ((L : Int) - 1) = (k : Int) := by rw [IntWalk.wrap64_in _ (by omega)]; omega
      have HBW := Lib.hid hB
      clear hc1 hc2 hs1 hs2 hB
      go_wp2_with (first
        | (go_at_call 9; (with_reducible refine (aw _ (HK.out _ _ HG0.out (bthen HB.out HBW.out))).mono ?_); rintro e w5 ⟨rfl, hb5⟩; replace c1 := bkeep hb5 c1; replace c2 := bkeep hb5 c2)
        | (go_at_call 14; (with_reducible refine (ks w5 (bthen HBW.out hb5)).mono ?_); rintro e w6 ⟨rfl, hb6⟩; replace c1 := bkeep hb6 c1; replace c2 := bkeep hb6 c2))
      go_ret
      exact ⟨rfl, bthen HB.out (bthen HBW.out (bthen hb5 hb6))⟩
end Go.Proofs.YtmhpbgdchocoiaaDoor
