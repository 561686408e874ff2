/-
  The walk of ChainFirst: it answers true, where the program's calls do what is asked of them. (Written by gen_cn.py.)
-/
import Derived.Test.YtpckjlfnhfelkaaDoorGChain
import Derived.Test.YtpckjlfnhfelkaaDoorSame
import Derived.Test.YtpckjlfnhfelkaaDoorGRows
import Derived.BigQuiet
namespace Go.Proofs.YtpckjlfnhfelkaaDoor
open Go Go.RowKit Go.Sort Go.BigFrame
set_option linter.unusedVariables false

theorem first_mod {c : Int} (h : 0 ≤ c) (n : Nat) : c.tmod ((n : Int) + 1) = c % ((n : Int) + 1) := Int.tmod_eq_emod_of_nonneg h
theorem wrap_succ (n : Nat) (h : n ≤ 10) : IntKind.i64.wrap ((n : Int) + 1) = (n : Int) + 1 ∧ wrap64 ((n : Int) + 1) = (n : Int) + 1 := ⟨IntWalk.i64_in _ (by omega), IntWalk.wrap64_in _ (by omega)⟩
theorem first_nat {c : Int} (h : 0 ≤ c) (n : Nat) : c.tmod ((n : Int) + 1) = (((c.tmod ((n : Int) + 1)).toNat : Nat) : Int) := by
  have := Int.emod_nonneg c (show (n : Int) + 1 ≠ 0 by omega)
  rw [first_mod h]
  omega
theorem first_lt {c : Int} (h : 0 ≤ c) (n : Nat) : (c.tmod ((n : Int) + 1)).toNat ≤ n := by
  have := Int.emod_lt_of_pos c (show (0 : Int) < (n : Int) + 1 by omega)
  rw [first_mod h]
  omega
set_option maxRecDepth 100000 in
set_option maxHeartbeats 8000000 in
theorem cnfirst_body (G : World → Prop) (hAk : AskChain G) (aw : ∀ W, G W → Calls Tryd.prog 8 #[] W fun e w' => e = .returned (.bool true) ∧ Below W.heap.size W w') (a1 : Option Addr) (n1 cp1 : Nat) (l : QL) (a2 : Option Addr) (n2 cp2 : Nat) (ys : QL) (cut : Int) (w : World) (hG : G w) (ha : QRowA w a1 n1 l) (hu : ∀ n ∈ l, U n.1 ∧ U n.2) (ha2 : QRowA w a2 n2 ys) (hu2 : ∀ n ∈ ys, U n.1 ∧ U n.2) (hcp : n2 ≤ cp2) (hcut : 0 ≤ cut ∧ cut < 256) :
    Calls Tryd.prog 7 #[.slice a1 n1 cp1, .slice a2 n2 cp2, .int .u8 cut] w fun e w' => e = .returned (.bool true) ∧ Below w.heap.size w w' := by
  have HK := Lib.hid (fun (W W' : World) => @AskChain.keep G hAk W W')
  have HG := Lib.hid hG
  have hl1 := ha.1
  have hm1 := ha.2.1
  unfold maxLen at hm1
  have HA1 := Lib.hid ha
  have HB : Hid (Below w.heap.size w w) := Lib.hid (Below.refl _ _)
  clear hG ha
  have aw := fun W (h : Below w.heap.size w W) => aw W (HK.out _ _ HG.out h)
  have hl2 := ha2.1
  have hm2 := ha2.2.1
  unfold maxLen at hm2
  have HA2 := Lib.hid ha2
  clear ha2
  go_enter Tryd.func7, Tryd.ntmps7
  by_cases h70 : (70 : Int) < (n1 : Int)
  · go_wp2_with (go_at_call 8; (with_reducible refine (aw _ HB.out).mono ?_); rintro e w1 ⟨rfl, hb⟩; replace HB := Lib.hid (bthen HB.out hb); clear hb)
    go_ret
    exact ⟨rfl, HB.out⟩
  by_cases h10 : (10 : Int) < (n2 : Int)
  · go_wp2_with (go_at_call 8; (with_reducible refine (aw _ HB.out).mono ?_); rintro e w1 ⟨rfl, hb⟩; replace HB := Lib.hid (bthen HB.out hb); clear hb)
    go_ret
    exact ⟨rfl, HB.out⟩
  obtain ⟨kk, hkk, e0⟩ : ∃ kk : Nat, kk ≤ n2 ∧ cut.tmod ((n2 : Int) + 1) = (kk : Int) := ⟨(cut.tmod ((n2 : Int) + 1)).toNat, first_lt hcut.1 n2, first_nat hcut.1 n2⟩
  have HE := Lib.hid e0
  have h10n : n2 ≤ 10 := by omega
  have hk2 : kk ≤ cp2 := Nat.le_trans hkk hcp
  have hk1 : (kk : Int) ≤ (cp2 : Int) := Int.ofNat_le.2 hk2
  clear e0
  have q1 := (wrap_succ n2 (h10n)).1
  have q2 := (wrap_succ n2 (h10n)).2
  have q3 : IntKind.i64.wrap cut = cut := IntWalk.i64_in _ (by omega)
  have q4 : IntKind.i64.wrap (kk : Int) = (kk : Int) := IntWalk.i64_in _ (by omega)
  have q5 : wrap64 (kk : Int) = (kk : Int) := IntWalk.wrap64_in _ (by omega)
  have q6 : ¬ (n2 : Int) + 1 = 0 := by omega
  have e0 := HE.out
  clear HE
  go_upto_region 4 with fail
  clear e0 q1 q2 q3 q4 q5 q6
  by_cases hc : chOk l ys ys.length = true
  case neg =>
    have k1 := fun W (h : Below w.heap.size w W) => hAk.words a1 n1 cp1 l a2 n2 cp2 ys [] false W (HA1.out.keep h) hu (HA2.out.keep h) hu2 (by omega) (by omega) (chainV_no hc) (HK.out _ _ HG.out h)
    obtain ⟨rows, ok, hr⟩ : ∃ rows ok, chainV l (ys.take kk) = (rows, ok) := ⟨_, _, rfl⟩
    have k2 := fun W (h : Below w.heap.size w W) => hAk.words a1 n1 cp1 l a2 kk cp2 (ys.take kk) rows ok W (HA1.out.keep h) hu ((HA2.out.keep h).cut hkk) (fun n hn => hu2 n (List.mem_of_mem_take hn)) (by omega) (by omega) hr (HK.out _ _ HG.out h)
    unfold WordsPost at k1 k2
    simp only [List.length_nil] at k1
    clear hu hu2 hc hr
    go_wp2_with (first
      | (go_at_call 9; (with_reducible refine (k1 _ HB.out).mono ?_); rintro e w1 ⟨hb, b1, d1, rfl, _, _⟩; replace HB := Lib.hid (bthen HB.out hb); clear hb)
      | (go_at_call 9; (with_reducible refine (k2 _ HB.out).mono ?_); rintro e w2 ⟨hb, b2, d2, rfl, _, _⟩; replace HB := Lib.hid (bthen HB.out hb); clear hb)
      | (go_at_call 8; (with_reducible refine (aw _ HB.out).mono ?_); rintro e w1 ⟨rfl, hb⟩; replace HB := Lib.hid (bthen HB.out hb); clear hb))
    go_ret
    exact ⟨rfl, HB.out⟩
  have k1 := fun W (h : Below w.heap.size w W) => hAk.words a1 n1 cp1 l a2 n2 cp2 ys _ true W (HA1.out.keep h) hu (HA2.out.keep h) hu2 (by omega) (by omega) (chainV_yes hc) (HK.out _ _ HG.out h)
  have htl : (ys.take kk).length = kk := by rw [List.length_take]; omega
  have hok2 : chOk l (ys.take kk) (ys.take kk).length = true := by rw [htl, chOk_take l ys kk kk (Nat.le_refl _)]; exact chOk_le hc (by omega)
  have k2 := fun W (h : Below w.heap.size w W) => hAk.words a1 n1 cp1 l a2 kk cp2 (ys.take kk) _ true W (HA1.out.keep h) hu ((HA2.out.keep h).cut hkk) (fun n hn => hu2 n (List.mem_of_mem_take hn)) (by omega) (by omega) (chainV_yes hok2) (HK.out _ _ HG.out h)
  unfold WordsPost at k1 k2
  have hN1 : (chRows l ys ys.length).length = n2 + 1 := by rw [chRows_len, hl2]
  have hN2 : (chRows l (ys.take kk) (ys.take kk).length).length = kk + 1 := by rw [chRows_len, htl]
  rw [hN1] at k1
  rw [hN2] at k2
  have HL2 := Lib.hid hl2; have HTL := Lib.hid htl
  have HRW : Hid (∀ j, j ≤ kk → (chRows l (ys.take kk) (ys.take kk).length).getD j [] = (chRows l ys ys.length).getD j []) := Lib.hid fun j hj => by
    rw [chRows_at _ _ (by rw [htl]; exact hj), chRows_at _ _ (by rw [hl2]; omega), chW_take l ys kk j hj]
  obtain ⟨N1, hNN1⟩ : ∃ N, n2 + 1 = N := ⟨_, rfl⟩
  obtain ⟨N2, hNN2⟩ : ∃ N, kk + 1 = N := ⟨_, rfl⟩
  rw [hNN1] at k1
  rw [hNN2] at k2
  have HNI := Lib.hid (And.intro hNN1 hNN2)
  have hI1 : (N1 : Int) = (n2 : Int) + 1 := by omega
  have hI2 : (N2 : Int) = (kk : Int) + 1 := by omega
  have q1 := (wrap_succ n2 (h10n)).1
  have q2 := (wrap_succ n2 (h10n)).2
  have q7 := (wrap_succ kk (Nat.le_trans hkk h10n)).1
  have q8 := (wrap_succ kk (Nat.le_trans hkk h10n)).2
  clear hu hu2 hc hN1 hN2 hNN1 hNN2 hl2 htl hok2
  go_upto_region 5 with (go_at_call 9; (with_reducible refine (k1 _ HB.out).mono ?_); rintro e w1 ⟨hb, b1, d1, rfl, ht1, hd1⟩; have HT1 := Lib.hid ht1; clear ht1 hd1; replace HB := Lib.hid (bthen HB.out hb); clear hb)
  clear k1
  go_upto_region 8 with (go_at_call 9; (with_reducible refine (k2 _ HB.out).mono ?_); rintro e w2 ⟨hb, b2, d2, rfl, ht2, hd2⟩; replace HT1 := Lib.hid (HT1.out.keep hb); have HT2 := Lib.hid ht2; clear ht2 hd2; replace HB := Lib.hid (bthen HB.out hb); clear hb)
  clear k2
  go_upto_region 11 with fail
  clear q1 q2 q7 q8 hI1 hI2 hk1 hk2
  go_loopw [12] (fun i W => ∃ j : Nat, j ≤ kk + 1 ∧ i = .int .i64 j ∧ Below w2.heap.size w2 W) (fun i _ => kk + 1 - (intOf i).toNat)
  case atStart => exact ⟨0, Nat.zero_le _, rfl, Below.refl _ _⟩
  case round =>
    obtain ⟨j, hj, rfl, hV⟩ := hrel
    by_cases hlt : j ≤ kk
    · have hltI : (j : Int) ≤ (kk : Int) := by omega
      have hj0 : (0 : Int) ≤ (j : Int) := by omega
      have hj1' : (j : Int) < (N1 : Int) := by have := HNI.out.1; omega
      have hj2' : (j : Int) < (N2 : Int) := by have := HNI.out.2; omega
      obtain ⟨g1, o1, e1, aj1, cj1, c1, hj1⟩ := (HT1.out.keep hV).2.2 j (by have := HNI.out.1; omega)
      obtain ⟨g2, o2, e2, aj2, cj2, c2, hj2⟩ := (HT2.out.keep hV).2.2 j (by have := HNI.out.2; omega)
      subst e1 e2
      rw [HRW.out j hlt] at c2 hj2
      have HJ1 := Lib.hid hj1; have HJ2 := Lib.hid hj2
      have ks := fun W (h : Below wr.heap.size wr W) => (sameq_is aj1 aj2 _ _ cj1 cj2 _ _ W (HJ1.out.keep h) (HJ2.out.keep h) rfl).mono fun e w' (q : e = .returned (.bool true) ∧ ∃ n, w' = W.drewN n) => (⟨q.1, by obtain ⟨n, hn⟩ := q.2; rw [hn]; exact below_drewN (Below.refl _ _) n⟩ : e = .returned (.bool true) ∧ Below W.heap.size W w')
      have HV := Lib.hid hV
      clear hV hj1 hj2
      generalize (chRows l ys ys.length).getD j [] = rj at *
      go_upto_region 13 with fail
      replace c1 := fun q : Regrown => cell_regrown c1 q.d q.os
      replace c2 := fun q : Regrown => cell_regrown c2 q.d q.os
      refine wp_region_quiet_below (by kernel_rfl) (by kernel_rfl) ?_
      repeat (first | go_big_quiet_step (first
        | (go_at_call 11; with_reducible exact Calls.regrown_of (ks _ (below_regrown wr _ _)))) | quiet_step (fail))
      refine wpQuiet_nil ?_
      rintro _ ⟨pq, rfl⟩
      have HBE := Lib.hid (bthen HV.out (below_regrown wr pq.d pq.os))
      clear c1 c2 ks HV HJ1 HJ2
      go_wp2_with fail
      go_roundw
      case rel => exact ⟨j + 1, by omega, by go_num, HBE.out⟩
      case measure => simp [intOf]; omega
    · have hltI : ¬ (j : Int) ≤ (kk : Int) := by omega
      replace HB := Lib.hid (bthen HB.out hV)
      clear hV
      go_wp2_with (go_at_call 8; (with_reducible refine (aw _ HB.out).mono ?_); rintro e w1 ⟨rfl, hb⟩; replace HB := Lib.hid (bthen HB.out hb); clear hb)
      go_ret
      exact ⟨rfl, HB.out⟩
end Go.Proofs.YtpckjlfnhfelkaaDoor
