/-
  The walk of TreeBuilds: it answers true, where the program's calls do what is asked of them.
-/
import Derived.Test.YtmhpbgdchocoiaaDoorTLLeads
import Derived.Test.YtmhpbgdchocoiaaDoorGTree
namespace Go.Proofs.YtmhpbgdchocoiaaDoor
open Go Go.RowKit Go.Sort Go.BigFrame
set_option linter.unusedVariables false

theorem sameB_self (f : Nat → ByteArray) (n : Nat) : sameB f f n n = true := decide_eq_true ⟨rfl, fun _ _ => rfl⟩
theorem sameB_nil (f g : Nat → ByteArray) : sameB f g 0 0 = true := decide_eq_true ⟨rfl, fun j hj => by omega⟩
theorem strA_nil (W : World) (a : Option Addr) (f : Nat → ByteArray) : StrA W a 0 f := ⟨by unfold maxLen; omega, fun k hk => by omega⟩
def TBRel (w : World) (L : Nat) (i : Value) (W : World) : Prop := ∃ k : Nat, k ≤ L ∧ i = .int .i64 k ∧ Below w.heap.size w W
set_option maxRecDepth 100000 in
set_option maxHeartbeats 8000000 in
theorem tbuilds_body (G : World → Prop) (hA : AskTree G) (aw : ∀ W, G W → Calls Tryd.prog 9 #[] W fun e w' => e = .returned (.bool true) ∧ Below W.heap.size W w') (a : Option Addr) (n c : Nat) (f : Nat → ByteArray) (i : Int) (w : World) (hG0 : G w)
    (hS : StrS w a n c f) (hi : -9223372036854775808 ≤ i ∧ i ≤ 9223372036854775807) : Calls Tryd.prog 3 #[.slice a n c, .int .i64 i] w fun e w' => e = .returned (.bool true) ∧ Below w.heap.size w w' := by
  have HK := Lib.hid (fun (W W' : World) => @AskTree.keep G hA W W')
  have HG0 := Lib.hid hG0
  have kS := tsmall_is a n c f (smallB f n) w hS.1 rfl
  have HA := Lib.hid hA; have HS := Lib.hid hS
  clear hA hS hG0
  cases c4 : smallB f n with
  | false =>
    rw [c4] at kS
    go_enter Tryd.func3, Tryd.ntmps3
    go_wp2_with (first
      | (go_at_call 8; (with_reducible refine kS.mono ?_); rintro e w1 ⟨rfl, rfl⟩)
      | (go_at_call 9; (with_reducible refine (aw _ HG0.out).mono ?_); rintro e w1 ⟨rfl, hb⟩))
    go_ret
    exact ⟨rfl, hb⟩
  | true =>
  rw [c4] at kS
  obtain ⟨s1, s2⟩ := of_decide_eq_true c4
  have ku := HA.out.build a n c f w HS.out s1 s2 HG0.out
  have kv := fun (W : World) (hb : Below w.heap.size w W) => rbuild_is a n c f W (HS.out.keep hb) s1 s2
  have hL := rowsN_le n
  obtain ⟨L, hLL⟩ : ∃ L, rowsN n = L := ⟨_, rfl⟩
  rw [hLL] at ku hL
  simp only [hLL] at kv
  clear c4 s1 s2
  go_enter Tryd.func3, Tryd.ntmps3
  go_upto_region 4 with (first
      | (go_at_call 8; (with_reducible refine kS.mono ?_); rintro e w1 ⟨rfl, rfl⟩)
      | (go_at_call 10; (with_reducible refine ku.mono ?_); rintro e w1 ⟨hb1, b1, d1, rfl, hT1⟩)
      | (go_at_call 11; (with_reducible refine (kv w1 hb1).mono ?_); rintro e w2 ⟨hb2, b2, d2, rfl, hT2⟩))
  have HT1 := Lib.hid ((hT1 0 (Nat.zero_le _) (fun _ _ => Nat.zero_le _)).keep hb2)
  have HT2 := Lib.hid hT2
  have HB := Lib.hid (bthen hb1 hb2)
  clear hT1 hT2 hb1 hb2 ku kv kS
  have kr := fun (W : World) (hb : Below w2.heap.size w2 W) => HA.out.root 0 b1 L d1 f W (HT1.out.keep hb) hL (HK.out _ _ HG0.out (bthen HB.out hb))
  have kq := fun (W : World) (hb : Below w2.heap.size w2 W) => rroot_is _ b2 L d2 f W (HT2.out.keep hb) hL
  generalize (if L = 0 then ⟨#[]⟩ else lev f (L - 1) 0 : ByteArray) = R at *
  go_upto_region 7 with (first
      | (go_at_call 12; (with_reducible refine (kr w2 (Below.refl _ _)).mono ?_); rintro e w3 ⟨rfl, hb3⟩)
      | (go_at_call 13; (with_reducible refine (kq w3 hb3).mono ?_); rintro e w4 ⟨rfl, rfl⟩))
  have hb0 := hb3
  clear kr kq hb3
  go_loopw [7] (TBRel w2 L) (fun i _ => L - (intOf i).toNat)
  case atStart => exact ⟨0, Nat.zero_le _, rfl, hb0⟩
  case round =>
    clear hb0
    obtain ⟨k, hk, rfl, hB⟩ := hrel
    by_cases hlt : k < L
    · obtain ⟨g1, o1, rfl, _, ak, ck, hc1, _, _, _, hs1⟩ := HT1.out.2.2.2 k hlt
      obtain ⟨g2, o2, rfl, _, ak', ck', hc2, _, _, _, hs2⟩ := HT2.out.2.2.2 k hlt
      have ks := fun W (hb : Below w2.heap.size w2 W) => tsame_is ak ak' _ _ ck ck' (lev f k) (lev f k) true W (hs1.keep hb) (hs2.keep hb) (sameB_self _ _)
      have c1 := bkeep hB hc1; have c2 := bkeep hB hc2
      have hlt' : (k : Int) < (L : Int) := by omega
      clear hc1 hc2 hs1 hs2
      generalize 2 ^ (L - 1 - k) = N at *
      go_upto_region 9 with fail
      replace c1 := fun q : Regrown => cell_regrown c1 q.d q.os
      replace c2 := fun q : Regrown => cell_regrown c2 q.d q.os
      refine wp_region_quiet_below (by kernel_rfl) (by kernel_rfl) ?_
      repeat (first | go_big_quiet_step (first | (go_at_call 14; with_reducible exact Calls.regrown_of (ks _ (bthen hB (below_regrown wr _ _))))) | quiet_step (fail))
      refine wpQuiet_nil ?_
      rintro _ ⟨pq, rfl⟩
      replace hB := bthen hB (below_regrown wr pq.d pq.os)
      go_wp2
      go_roundw
      case rel => exact ⟨k + 1, by omega, by go_num, hB⟩
      case measure => simp [intOf]; omega
    · obtain rfl : k = L := by omega
      have kp := fun (W : World) (hb : Below w2.heap.size w2 W) => HA.out.path 0 b1 k d1 f i W (HT1.out.keep hb) hL hi (HK.out _ _ HG0.out (bthen HB.out hb))
      have kq := fun (W : World) (hb : Below w2.heap.size w2 W) => rpath_is _ b2 k d2 f i W (HT2.out.keep hb) hL
      go_upto_region 12 with (go_at_call 15; (with_reducible refine (kp _ hB).mono ?_); rintro e w3 ⟨hb3, ⟨y0, y1, y2, p1, n1, rfl, hP1, _⟩ | ⟨hno, p1, n1, rfl⟩⟩)
      · have hB2 := bthen hB hb3
        go_upto_region 13 with (go_at_call 16; (with_reducible refine (kq _ hB2).mono ?_); rintro e w4 ⟨hb4, ⟨_, _, _, p2, n2, rfl, hP2, _⟩ | ⟨hno, _⟩⟩)
        · have ks := fun W (h1 : Below w3.heap.size w3 W) (h2 : Below w4.heap.size w4 W) => tsame_is p1 p2 (k - 1) (k - 1) n1 n2 (pathB f i.toNat) (pathB f i.toNat) true W (hP1.1.keep h1) (hP2.1.keep h2) (sameB_self _ _)
          have hB3 := Lib.hid (bthen hB2 hb4)
          have HX := Lib.hid hb4
          generalize k - 1 = m at *
          clear hP1 hP2 hb3 hb4 hB hB2 y0 y1 y2
          go_wp2_with (first
            | (go_at_call 9; (with_reducible refine (aw _ (HK.out _ _ HG0.out (bthen HB.out hB3.out))).mono ?_); rintro e w5 ⟨rfl, hb5⟩)
            | (go_at_call 14; (with_reducible refine (ks w5 (bthen HX.out hb5) hb5).mono ?_); rintro e w6 ⟨rfl, hb6⟩))
          go_ret
          exact ⟨rfl, bthen HB.out (bthen hB3.out (bthen hb5 hb6))⟩
      · have hB2 := bthen hB hb3
        go_upto_region 13 with (go_at_call 16; (with_reducible refine (kq _ hB2).mono ?_); rintro e w4 ⟨hb4, ⟨y0, y1, y2, _⟩ | ⟨_, p2, n2, rfl⟩⟩)
        · have ks := fun W => tsame_is p1 p2 0 0 n1 n2 f f true W (strA_nil _ _ _) (strA_nil _ _ _) (sameB_self _ _)
          have hB3 := Lib.hid (bthen hB2 hb4)
          clear hb3 hb4 hB hB2 hno
          go_wp2_with (first
            | (go_at_call 9; (with_reducible refine (aw _ (HK.out _ _ HG0.out (bthen HB.out hB3.out))).mono ?_); rintro e w5 ⟨rfl, hb5⟩)
            | (go_at_call 14; (with_reducible refine (ks w5).mono ?_); rintro e w6 ⟨rfl, hb6⟩))
          go_ret
          exact ⟨rfl, bthen HB.out (bthen hB3.out (bthen hb5 hb6))⟩
end Go.Proofs.YtmhpbgdchocoiaaDoor
