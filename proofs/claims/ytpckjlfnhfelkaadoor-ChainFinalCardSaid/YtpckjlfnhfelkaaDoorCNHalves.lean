/-
  The walk of ChainHalves: it answers true, where the program's calls do what is asked of them. (Written by gen_cn.py.)
-/
import Derived.Test.YtpckjlfnhfelkaaDoorGChain
import Derived.Test.YtpckjlfnhfelkaaDoorSame
import Derived.Test.YtpckjlfnhfelkaaDoorGRows
import Derived.BigQuiet
namespace Go.Proofs.YtpckjlfnhfelkaaDoor
open Go Go.RowKit Go.Sort Go.BigFrame
set_option linter.unusedVariables false

def CNh11 (bb bo n2 cp2 g go N d1 j nj cj : Nat) (aj : Option Addr) (y0 y1 : Int) (r : QL) (sl : Nat) (v : Value) (W : World) : Prop :=
  match sl with
  | 55 => v = .slice (some ⟨g, go, none⟩) N d1
  | 56 => v = .int .i64 (j : Int)
  | 57 => v = .pointer (some ⟨g, go + j, none⟩)
  | 58 => v = .slice aj nj cj
  | 59 => v = .slice (some ⟨bb, bo, none⟩) n2 cp2
  | 60 => v = .int .i64 (j : Int)
  | 61 => v = .pointer (some ⟨bb, bo + j * 2, none⟩)
  | 62 => v = .agg #[.int .u64 y0, .int .u64 y1]
  | 63 => v = .int .i64 (j : Int)
  | 64 => ∃ (ar : Option Addr) (cr : Nat), v = .tuple #[.slice ar r.length cr, .bool true] ∧ QRowA W ar r.length r
  | 54 => ∃ (ar : Option Addr) (cr : Nat), v = .tuple #[.slice ar r.length cr, .bool true] ∧ QRowA W ar r.length r
  | 65 => ∃ (ar : Option Addr) (cr : Nat), v = .slice ar r.length cr ∧ QRowA W ar r.length r
  | 8 => ∃ (ar : Option Addr) (cr : Nat), v = .slice ar r.length cr ∧ QRowA W ar r.length r
  | _ => v = .bool true
theorem CNh11.keep {bb bo n2 cp2 g go N d1 j nj cj : Nat} {aj : Option Addr} {y0 y1 : Int} {r : QL} {sl : Nat} {v : Value} {W W' : World} (h : CNh11 bb bo n2 cp2 g go N d1 j nj cj aj y0 y1 r sl v W) (hb : Below W.heap.size W W') : CNh11 bb bo n2 cp2 g go N d1 j nj cj aj y0 y1 r sl v W' := by
  unfold CNh11 at *
  split at h
  all_goals first | exact h | (obtain ⟨ar, cr, e, hq⟩ := h; exact ⟨ar, cr, e, hq.keep hb⟩)
set_option maxRecDepth 100000 in
set_option maxHeartbeats 8000000 in
theorem cnhalves_body (G : World → Prop) (hAk : AskChain G) (aw : ∀ W, G W → Calls Tryd.prog 8 #[] W fun e w' => e = .returned (.bool true) ∧ Below W.heap.size W w') (a1 : Option Addr) (n1 cp1 : Nat) (l : QL) (a2 : Option Addr) (n2 cp2 : Nat) (ys : QL) (w : World) (hG : G w) (ha : QRowA w a1 n1 l) (hu : ∀ n ∈ l, U n.1 ∧ U n.2) (ha2 : QRowA w a2 n2 ys) (hu2 : ∀ n ∈ ys, U n.1 ∧ U n.2) :
    Calls Tryd.prog 6 #[.slice a1 n1 cp1, .slice a2 n2 cp2] w fun e w' => e = .returned (.bool true) ∧ Below w.heap.size w w' := by
  have HK := Lib.hid (fun (W W' : World) => @AskChain.keep G hAk W W')
  have HG := Lib.hid hG
  have hl1 := ha.1
  have hm1 := ha.2.1
  unfold maxLen at hm1
  have HA1 := Lib.hid ha
  have HB : Hid (Below w.heap.size w w) := Lib.hid (Below.refl _ _)
  clear hG ha
  have aw := fun W (h : Below w.heap.size w W) => aw W (HK.out _ _ HG.out h)
  have hl2 := ha2.1
  have hm2 := ha2.2.1
  unfold maxLen at hm2
  have HA2 := Lib.hid ha2
  clear ha2
  go_enter Tryd.func6, Tryd.ntmps6
  by_cases h70 : (70 : Int) < (n1 : Int)
  · go_wp2_with (go_at_call 8; (with_reducible refine (aw _ HB.out).mono ?_); rintro e w1 ⟨rfl, hb⟩; replace HB := Lib.hid (bthen HB.out hb); clear hb)
    go_ret
    exact ⟨rfl, HB.out⟩
  by_cases h10 : (10 : Int) < (n2 : Int)
  · go_wp2_with (go_at_call 8; (with_reducible refine (aw _ HB.out).mono ?_); rintro e w1 ⟨rfl, hb⟩; replace HB := Lib.hid (bthen HB.out hb); clear hb)
    go_ret
    exact ⟨rfl, HB.out⟩
  by_cases hc : chOk l ys ys.length = true
  case neg =>
    have k1 := fun W (h : Below w.heap.size w W) => hAk.words a1 n1 cp1 l a2 n2 cp2 ys [] false W (HA1.out.keep h) hu (HA2.out.keep h) hu2 (by omega) (by omega) (chainV_no hc) (HK.out _ _ HG.out h)
    unfold WordsPost at k1
    simp only [List.length_nil] at k1
    clear hu hu2 hc
    go_wp2_with (first
      | (go_at_call 9; (with_reducible refine (k1 _ HB.out).mono ?_); rintro e w1 ⟨hb, b1, d1, rfl, _, _⟩; replace HB := Lib.hid (bthen HB.out hb); clear hb)
      | (go_at_call 8; (with_reducible refine (aw _ HB.out).mono ?_); rintro e w1 ⟨rfl, hb⟩; replace HB := Lib.hid (bthen HB.out hb); clear hb))
    go_ret
    exact ⟨rfl, HB.out⟩
  have k1 := fun W (h : Below w.heap.size w W) => hAk.words a1 n1 cp1 l a2 n2 cp2 ys _ true W (HA1.out.keep h) hu (HA2.out.keep h) hu2 (by omega) (by omega) (chainV_yes hc) (HK.out _ _ HG.out h)
  unfold WordsPost at k1
  have hN : (chRows l ys ys.length).length = n2 + 1 := by rw [chRows_len, hl2]
  rw [hN] at k1
  have HC := Lib.hid hc; have HU := Lib.hid hu; have HU2 := Lib.hid hu2; have HL1 := Lib.hid hl1; have HL2 := Lib.hid hl2
  clear hc hu hu2 hl1 hl2 hN
  have hw1 : IntKind.i64.wrap ((n2 : Int) + 1) = (n2 : Int) + 1 := IntWalk.i64_in _ (by omega)
  have hw2 : wrap64 ((n2 : Int) + 1) = (n2 : Int) + 1 := IntWalk.wrap64_in _ (by omega)
  go_upto_region 6 with (go_at_call 9; (with_reducible refine (k1 _ HB.out).mono ?_); rintro e w1 ⟨hb, b1, d1, rfl, ht1, hd1⟩; have HT1 := Lib.hid ht1; clear ht1 hd1; replace HB := Lib.hid (bthen HB.out hb); clear hb)
  clear k1
  obtain ⟨g, go, e, aj, cj, c1, _⟩ := HT1.out.2.2 0 (by omega)
  subst e
  rw [chRows_at l ys (Nat.zero_le _)] at c1
  have hz0 : (chW l ys 0).length = n1 := HL1.out
  rw [hz0] at c1
  rw [Nat.add_zero] at c1
  have hnz : (0 : Int) < (n2 : Int) + 1 := by omega
  obtain ⟨N, hNN⟩ : ∃ N, n2 + 1 = N := ⟨_, rfl⟩
  have hNI : (N : Int) = (n2 : Int) + 1 := by omega
  rw [hNN] at HT1 ⊢
  have hNZ : (0 : Int) < (N : Int) := by omega
  rw [← hNI] at hw1 hw2 hnz
  go_upto_region 9 with fail
  have HNI := Lib.hid (And.intro hNI hNN)
  clear c1 hz0 hw1 hw2 hNI hNN hnz hNZ
  go_loopw [7] (fun i W => ∃ j : Nat, j ≤ n2 ∧ i = .int .i64 j ∧ Below w1.heap.size w1 W) (fun i _ => n2 - (intOf i).toNat)
  case atStart => exact ⟨0, Nat.zero_le _, rfl, Below.refl _ _⟩
  case round =>
    obtain ⟨j, hj, rfl, hV⟩ := hrel
    by_cases hlt : j < n2
    · have hltI : (j : Int) < (n2 : Int) := by omega
      have hj0 : (0 : Int) ≤ (j : Int) := by omega
      have hjN : (j : Int) < (N : Int) := by have := HNI.out.1; omega
      obtain ⟨g1, o1, e1, aj, cj, c1, hj1⟩ := (HT1.out.keep hV).2.2 j (by have := HNI.out.2; omega)
      cases e1
      obtain ⟨g1, o1, e1, ak, ck, c2, hj2⟩ := (HT1.out.keep hV).2.2 (j + 1) (by have := HNI.out.2; omega)
      cases e1
      rw [chRows_at l ys (by rw [HL2.out]; omega)] at c1 hj1 c2 hj2
      obtain ⟨bb, bo, rfl, y0c, y1c⟩ := (HA2.out.keep (bthen HB.out hV)).2.2 j hlt
      have ry := qAt_rep HU2.out (show j < ys.length by rw [HL2.out]; exact hlt)
      have hb := chOk_at HC.out (show j < ys.length by rw [HL2.out]; exact hlt)
      have HJ1 := Lib.hid hj1; have HJ2 := Lib.hid hj2
      have hlen := chW_le l ys j
      rw [HL1.out] at hlen
      have hhf : 2 * (chW l ys (j + 1)).length = (chW l ys j).length := wordV_half (l := chW l ys j) (by omega) hb
      have kw := fun W (h : Below wr.heap.size wr W) => rfword_is aj _ cj (chW l ys j) _ _ (j : Int) _ _ true W (HJ1.out.keep h) (chW_U HU.out j) ry (chB_word hb)
      unfold WordPost at kw
      have HV := Lib.hid hV
      clear hV hj1 hj2 ry hb
      generalize (ys.getD j (0, 0)).1 = y0 at *
      generalize (ys.getD j (0, 0)).2 = y1 at *
      generalize chW l ys (j + 1) = r at *
      generalize (chW l ys j).length = nj at *
      go_upto_region 11 with fail
      refine wp_loose [(55, []), (56, []), (57, [55, 56]), (58, [57]), (59, []), (60, []), (61, [59, 60]), (62, [61]), (63, []), (64, [58, 62, 63]), (54, [64]), (65, [54]), (66, [54]), (8, [65]), (9, [66])]
        (CNh11 bb bo n2 cp2 g go N d1 j nj cj aj y0 y1 r) (fun d => false) (by kernel_rfl) (by kernel_rfl) (fun _ _ _ _ h hb => h.keep hb) ?_ ?_
      · refine opsrun_cons ?_ (opsrun_cons ?_ (opsrun_cons ?_ (opsrun_cons ?_ (opsrun_cons ?_ (opsrun_cons ?_ (opsrun_cons ?_ (opsrun_cons ?_ (opsrun_cons ?_ (opsrun_cons ?_ (opsrun_cons ?_ (opsrun_cons ?_ (opsrun_cons ?_ (opsrun_cons ?_ (opsrun_cons ?_ opsrun_nil))))))))))))))
        all_goals
          refine OpRuns.any ?_
          intro Q0 σ W' K hb hn hK
          simp only [fill, List.map, Act.put, List.setIfInBounds_toArray, List.set_cons_zero, List.set_cons_succ] at hK ⊢
        · clear hn
          go_simp
          exact hK _ _ rfl (Below.refl _ _) (fun h => absurd h (by decide))
        · clear hn
          go_simp
          exact hK _ _ rfl (Below.refl _ _) (fun h => absurd h (by decide))
        · have h55 : σ 55 = _ := hn 55 (by decide)
          have h56 : σ 56 = _ := hn 56 (by decide)
          clear hn
          simp only [h55, h56] at hK
          go_simp
          exact hK _ _ rfl (Below.refl _ _) (fun h => absurd h (by decide))
        · have h57 : σ 57 = _ := hn 57 (by decide)
          clear hn
          simp only [h57] at hK
          have c1' := bkeep hb c1
          clear c1
          go_simp
          exact hK _ _ rfl (Below.refl _ _) (fun h => absurd h (by decide))
        · clear hn
          go_simp
          exact hK _ _ rfl (Below.refl _ _) (fun h => absurd h (by decide))
        · clear hn
          go_simp
          exact hK _ _ rfl (Below.refl _ _) (fun h => absurd h (by decide))
        · have h59 : σ 59 = _ := hn 59 (by decide)
          have h60 : σ 60 = _ := hn 60 (by decide)
          clear hn
          simp only [h59, h60] at hK
          go_simp
          exact hK _ _ rfl (Below.refl _ _) (fun h => absurd h (by decide))
        · have h61 : σ 61 = _ := hn 61 (by decide)
          clear hn
          simp only [h61] at hK
          have y0c' := bkeep hb y0c
          have y1c' := bkeep hb y1c
          clear y0c y1c
          go_simp
          exact hK _ _ rfl (Below.refl _ _) (fun h => absurd h (by decide))
        · clear hn
          go_simp
          exact hK _ _ rfl (Below.refl _ _) (fun h => absurd h (by decide))
        · have h58 : σ 58 = _ := hn 58 (by decide)
          have h62 : σ 62 = _ := hn 62 (by decide)
          have h63 : σ 63 = _ := hn 63 (by decide)
          clear hn
          simp only [h58, h62, h63] at hK
          go_simp
          go_at_call 16
          refine (kw _ hb).mono ?_
          rintro e w1 ⟨hb1, ar, cr, rfl, hq⟩
          exact hK _ _ ⟨ar, cr, rfl, hq⟩ hb1 (fun h => absurd h (by decide))
        · have p64 : ∃ (ar : Option Addr) (cr : Nat), (σ 64) = .tuple #[.slice ar r.length cr, .bool true] ∧ QRowA W' ar r.length r := hn 64 (by decide)
          clear hn
          obtain ⟨ar, cr, e, hq⟩ := p64
          simp only [e] at hK
          go_simp
          exact hK _ _ ⟨ar, cr, rfl, hq⟩ (Below.refl _ _) (fun h => absurd h (by decide))
        · have p54 : ∃ (ar : Option Addr) (cr : Nat), (σ 54) = .tuple #[.slice ar r.length cr, .bool true] ∧ QRowA W' ar r.length r := hn 54 (by decide)
          clear hn
          obtain ⟨ar, cr, e, hq⟩ := p54
          simp only [e] at hK
          go_simp
          exact hK _ _ ⟨ar, cr, rfl, hq⟩ (Below.refl _ _) (fun h => absurd h (by decide))
        · have p54 : ∃ (ar : Option Addr) (cr : Nat), (σ 54) = .tuple #[.slice ar r.length cr, .bool true] ∧ QRowA W' ar r.length r := hn 54 (by decide)
          clear hn
          obtain ⟨ar, cr, e, hq⟩ := p54
          simp only [e] at hK
          go_simp
          exact hK _ _ rfl (Below.refl _ _) (fun h => absurd h (by decide))
        · have p65 : ∃ (ar : Option Addr) (cr : Nat), (σ 65) = .slice ar r.length cr ∧ QRowA W' ar r.length r := hn 65 (by decide)
          clear hn
          obtain ⟨ar, cr, e, hq⟩ := p65
          simp only [e] at hK
          go_simp
          exact hK _ _ ⟨ar, cr, rfl, hq⟩ (Below.refl _ _) (fun h => absurd h (by decide))
        · have h66 : σ 66 = _ := hn 66 (by decide)
          clear hn
          simp only [h66] at hK
          go_simp
          exact hK _ _ rfl (Below.refl _ _) (fun h => absurd h (by decide))
      · intro σ W' hb hR' hF
        have h9 : σ 9 = .bool true := hR' 9 (by decide)
        obtain ⟨ar, cr, h8, hqr⟩ : ∃ (ar : Option Addr) (cr : Nat), σ 8 = .slice ar r.length cr ∧ QRowA W' ar r.length r := hR' 8 (by decide)
        replace c1 := bkeep hb c1; replace c2 := bkeep hb c2
        have ks := fun W (h : Below W'.heap.size W' W) => sameq_is ar ak r.length r.length cr ck r r W (hqr.keep h) ((HJ2.out.keep hb).keep h) rfl
        replace HV := Lib.hid (bthen HV.out hb)
        have HKS := ks _ (Below.refl _ _)
        clear hR' hF hb hqr y0c y1c kw ks HJ1 HJ2
        simp only [fill, List.map, Act.put, List.setIfInBounds_toArray, List.set_cons_zero, List.set_cons_succ, List.length_cons, List.length_nil, List.drop_succ_cons, List.drop_zero, Nat.reduceAdd, h8, h9]
        clear h8 h9
        have hjp : IntKind.i64.wrap ((j : Int) + 1) = (j : Int) + 1 := IntWalk.i64_in _ (by omega)
        have hjq : wrap64 ((j : Int) + 1) = (j : Int) + 1 := IntWalk.wrap64_in _ (by omega)
        have hjr : (j : Int) + 1 < (N : Int) := by have := HNI.out.1; omega
        have hjs : (0 : Int) ≤ (j : Int) + 1 := by omega
        have hjt : ((j : Int) + 1).toNat = j + 1 := by omega
        have hm1' : IntKind.i64.wrap (2 * (r.length : Int)) = (nj : Int) := by rw [IntWalk.i64_in _ (by omega)]; omega
        have hm2' : wrap64 (2 * (r.length : Int)) = (nj : Int) := by rw [IntWalk.wrap64_in _ (by omega)]; omega
        generalize r.length = nr at *
        go_wp2_with (go_at_call 11; (with_reducible refine HKS.mono ?_); rintro e w3 ⟨rfl, nq, rfl⟩; replace HV := Lib.hid (below_drewN HV.out nq))
        go_roundw
        case rel => exact ⟨j + 1, by omega, by go_num, HV.out⟩
        case measure => simp [intOf]; omega
    · obtain rfl : j = n2 := by omega
      replace HB := Lib.hid (bthen HB.out hV)
      clear hV
      go_wp2_with (go_at_call 8; (with_reducible refine (aw _ HB.out).mono ?_); rintro e w1 ⟨rfl, hb⟩; replace HB := Lib.hid (bthen HB.out hb); clear hb)
      go_ret
      exact ⟨rfl, HB.out⟩
end Go.Proofs.YtpckjlfnhfelkaaDoor
