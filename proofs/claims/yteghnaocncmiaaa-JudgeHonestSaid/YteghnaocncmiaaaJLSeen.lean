/-
  What is opened of words at a place: the law's 'seen'.
-/
import Derived.Test.YteghnaocncmiaaaJudgeQ
import Derived.Test.YteghnaocncmiaaaGRows
import Derived.BigRegion
namespace Go.Proofs.Yteghnaocncmiaaa
open Go Go.RowKit Go.Sort Go.BigFrame
set_option linter.unusedVariables false

def seenAt (m pl j : Nat) : Nat := if j = 0 then pl else jAt m pl (j - 1)
def seenL (rows : List QL) (m pl k : Nat) : List Quad := (List.range k).map fun j => twoAt (rows.getD (j + 1) []) (jAt m pl (j + 1)) (2 ^ (m - 1 - (j + 1)))
theorem seenL_len (rows : List QL) (m pl k : Nat) : (seenL rows m pl k).length = k := by simp [seenL]
theorem seenL_snoc (rows : List QL) (m pl k : Nat) : seenL rows m pl (k + 1) = seenL rows m pl k ++ [twoAt (rows.getD (k + 1) []) (jAt m pl (k + 1)) (2 ^ (m - 1 - (k + 1)))] := by simp [seenL, List.range_succ]
theorem seenL_at (rows : List QL) (m pl : Nat) {k j : Nat} (h : j < k) : (seenL rows m pl k).getD j zeroQ = twoAt (rows.getD (j + 1) []) (jAt m pl (j + 1)) (2 ^ (m - 1 - (j + 1))) := by simp [seenL, List.getD, h]
structure SeenN (N H A a0 : Nat) : Prop where
  q : (N : Int).tdiv 2 = (H : Int)
  r : (a0 : Int).tmod (H : Int) = (A : Int)
  r2 : (a0 : Int) % (H : Int) = (A : Int)
  w : wrap64 (H : Int) = (H : Int)
  s : IntKind.i64.wrap ((A : Int) + (H : Int)) = ((A + H : Nat) : Int)
  t : wrap64 ((A : Int) + (H : Int)) = ((A + H : Nat) : Int)
  h0 : ¬ (H : Int) = 0
  a : (A : Int) < (N : Int)
  a2 : ((A + H : Nat) : Int) < (N : Int)
  a3 : (0 : Int) ≤ (A : Int)
  a4 : (0 : Int) ≤ ((A + H : Nat) : Int)
  n1 : A < N
  n2 : A + H < N
theorem seen_nums {m pl j N H A a0 : Nat} (hm : m ≤ 20) (hj : j < m) (hN : N = 2 ^ (m - j)) (hH : H = 2 ^ (m - 1 - j)) (hA : A = jAt m pl j) (ha : a0 = seenAt m pl j) : SeenN N H A a0 := by
  have e : N = 2 * H := by rw [hN, hH, show m - j = m - 1 - j + 1 by omega, Nat.pow_succ, Nat.mul_comm]
  have hp : 0 < H := by rw [hH]; exact Nat.two_pow_pos _
  have hb : H ≤ 2 ^ 20 := by rw [hH]; exact Nat.pow_le_pow_right (by decide) (by omega)
  rw [show (2 : Nat) ^ 20 = 1048576 by decide] at hb
  have hlt : A < H := by rw [hA, hH]; exact jAt_lt m pl j
  have hmod : a0 % H = A := by
    rw [ha, hH, hA]
    unfold seenAt
    split
    · next c => subst c; rfl
    · next c =>
      have := jAt_next m pl (j - 1) (by omega)
      rw [show m - (j - 1) - 2 = m - 1 - j by omega, show j - 1 + 1 = j by omega] at this
      exact this
  clear hN hH hA ha
  subst e
  refine ⟨?_, ?_, ?_, ?_, ?_, ?_, by omega, by omega, by omega, by omega, by omega, by omega, by omega⟩
  · rw [Int.tdiv_eq_ediv_of_nonneg (by omega)]; omega
  · rw [Int.tmod_eq_emod_of_nonneg (by omega), ← Int.natCast_emod, hmod]
  · rw [← Int.natCast_emod, hmod]
  · exact IntWalk.wrap64_in _ (by omega)
  · rw [IntWalk.i64_in _ (by omega)]; omega
  · rw [IntWalk.wrap64_in _ (by omega)]; omega
theorem own_quads' {w : World} {B n : Nat} {v : Value} {qs : List Quad} (h : w.ownsRow B 28 4 v n (flatD qs)) (hn : qs.length = n) : ∃ a c, v = .slice a n c ∧ QuadsA w a n qs := by
  subst hn
  exact own_quads h
abbrev zI : Value := .int .u64 0
def SeenRel (w : World) (g4 g6 B : Nat) (rows : List QL) (m pl n : Nat) (v at' i : Value) (W : World) : Prop :=
  ∃ j : Nat, j ≤ n ∧ i = .int .i64 j ∧ at' = .int .i64 ((seenAt m pl j : Nat) : Int) ∧ Below w.heap.size w W ∧ Quo W g4 zI zI zI zI ∧ (∃ x0 x1 x2 x3, Quo W g6 x0 x1 x2 x3 ∧ (0 < j → Value.agg #[x0, x1, x2, x3] = quadV (twoAt (rows.getD 0 []) pl (2 ^ (m - 1))))) ∧
    W.ownsRow B 28 4 v (j - 1) (flatD (seenL rows m pl (j - 1))) ∧ B ≤ W.heap.size
set_option maxRecDepth 100000 in
set_option maxHeartbeats 8000000 in
theorem seen_is (a : Option Addr) (n cap : Nat) (rows : List QL) (m pl : Nat) (w : World) (ht : TabQ w a n rows) (hn : 1 ≤ n) (hnm : n ≤ m) (hm : m ≤ 20) (hpl : pl < 2 ^ (m - 1)) (hl : ∀ j, j < n → (rows.getD j []).length = 2 ^ (m - j)) (q : Quad) (hqq : twoAt (rows.getD 0 []) pl (2 ^ (m - 1)) = q) (J : Nat) (hJ : n - 1 = J) :
    Calls Try.prog 16 #[.slice a n cap, .int .i64 (pl : Int)] w fun e w' => Below w.heap.size w w' ∧ ∃ la lc, e = .returned (.tuple #[quadV q, .slice la J lc]) ∧ QuadsA w' la J (seenL rows m pl J) := by
  obtain ⟨⟨r0, r1⟩, r2, r3⟩ := q
  have HQQ := Lib.hid hqq; have HNJ := Lib.hid hJ
  obtain ⟨i0, hi, hz0, hz1, hz2⟩ := info_parts infoD
  have HT := Lib.hid ht; have HL := Lib.hid hl; have HM := Lib.hid (And.intro hn (And.intro hnm (And.intro hm hpl)))
  have hn63 : (n : Int) ≤ 20 := by omega
  clear ht hl hn hnm hm hpl hqq hJ
  go_enter Try.func16, Try.ntmps16
  go_upto_region 2 with fail
  obtain ⟨g4, hg4⟩ : ∃ g, w.heap.size = g := ⟨_, rfl⟩
  refine wp_gen (fun W => Below w.heap.size w W ∧ Quo W g4 zI zI zI zI ∧ Quo W (g4 + 1) zI zI zI zI ∧ g4 + 1 + 1 ≤ W.heap.size) ⟨((Below.refl _ _).alloc (Nat.le_refl _) _).alloc (by simp) _, by subst hg4; simp [Quo, go_sem], by subst hg4; simp [Quo, go_sem], by subst hg4; simp⟩ ?_
  obtain ⟨g6, hg6⟩ : ∃ g, g4 + 1 = g := ⟨_, rfl⟩
  obtain ⟨B, hBB⟩ : ∃ B, g6 + 1 = B := ⟨_, rfl⟩
  rw [hg6, hBB]
  rintro w6 ⟨hB, hq4, hq6, hsz⟩
  simp only [hg4, hg6]
  have HB := Lib.hid hB; have HQ4 := Lib.hid hq4; have HQ6 := Lib.hid hq6; have HSZ := Lib.hid hsz
  have HGE := Lib.hid (show w.heap.size ≤ g4 ∧ w.heap.size ≤ g6 ∧ g4 < B ∧ g6 < B ∧ w.heap.size ≤ B by omega)
  have h46 : g4 ≠ g6 := by omega
  have h64 : g6 ≠ g4 := by omega
  clear hB hq4 hq6 hsz hg4 hg6 hBB
  go_upto_region 5 with fail
  go_loopw [7, 8, 9] (SeenRel w g4 g6 B rows m pl n) (fun _ _ i _ => n - (intOf i).toNat)
  case atStart => exact ⟨0, Nat.zero_le _, rfl, rfl, HB.out, HQ4.out, ⟨_, _, _, _, HQ6.out, fun h => absurd h (Nat.lt_irrefl 0)⟩, World.ownsRow_nil _ _ _ _, HSZ.out⟩
  case round =>
    clear HB HQ4 HQ6 HSZ
    obtain ⟨j, hj, rfl, rfl, hB, hq4, ⟨x0, x1, x2, x3, hq6, hfst⟩, hown, hsz⟩ := hrel
    obtain ⟨aO, cO, rfl⟩ := own_form hown
    by_cases hlt : j < n
    · have hltI : (j : Int) < (n : Int) := by omega
      have hj0 : (0 : Int) ≤ (j : Int) := by omega
      obtain ⟨b, off, rfl, ak, ck, hc, hr⟩ := (HT.out.keep hB).2.2 j hlt
      obtain ⟨row, hrow⟩ : ∃ r, rows.getD j [] = r := ⟨_, rfl⟩
      have hln := HL.out j hlt
      rw [hrow] at hc hr hln
      obtain ⟨N, hN⟩ : ∃ N, row.length = N := ⟨_, rfl⟩
      obtain ⟨H, hH⟩ : ∃ H, 2 ^ (m - 1 - j) = H := ⟨_, rfl⟩
      obtain ⟨A, hA⟩ : ∃ A, jAt m pl j = A := ⟨_, rfl⟩
      obtain ⟨a0, ha0⟩ : ∃ A, seenAt m pl j = A := ⟨_, rfl⟩
      have sn := seen_nums (H := H) (A := A) (a0 := a0) HM.out.2.2.1 (show j < m by have := HM.out.2.1; omega) (hN.symm.trans hln) hH.symm hA.symm ha0.symm
      rw [hN] at hc hr
      obtain ⟨b1, o1, e1, y0, y1⟩ := hr.2.2 A sn.n1
      obtain ⟨b2, o2, e2, z0, z1⟩ := hr.2.2 (A + H) sn.n2
      rw [e1] at e2
      cases e2
      subst e1
      have HTW : Hid (twoAt row A H = ((row.getD A (0, 0)), (row.getD (A + H) (0, 0)))) := Lib.hid rfl
      have HNX : Hid (seenAt m pl (j + 1) = A) := Lib.hid (by unfold seenAt; rw [if_neg (by omega), show j + 1 - 1 = j by omega]; exact hA)
      have HROW := Lib.hid (And.intro hrow (And.intro hH hA))
      rw [ha0]
      generalize (row.getD A (0, 0)) = ya at *
      generalize (row.getD (A + H) (0, 0)) = za at *
      obtain ⟨ya0, ya1⟩ := ya
      obtain ⟨za0, za1⟩ := za
      dsimp only at y0 y1 z0 z1
      obtain ⟨s1, s2, s2b, s2c, s3, s4, s5, s6, s7, s8, s9, _, _⟩ := sn
      have hb1 : b1 < wr.heap.size := World.block_lt_of_cell? _ _ y0
      have hbb : b < wr.heap.size := World.block_lt_of_cell? _ _ hc
      have n1 : ¬ b1 = wr.heap.size := by omega
      have n2 : ¬ wr.heap.size = b1 := by omega
      have n3 : ¬ b = wr.heap.size := by omega
      have n4 : ¬ wr.heap.size = b := by omega
      have hsb : w.heap.size ≤ wr.heap.size := hB.size
      obtain ⟨AH, hAH⟩ : ∃ x, A + H = x := ⟨_, rfl⟩
      rw [hAH] at s3 s4 s7 s9 z0 z1
      have HB := Lib.hid hB; have HQ4 := Lib.hid hq4; have HQ6 := Lib.hid hq6; have HO := Lib.hid hown; have HF := Lib.hid hfst; have HSZ := Lib.hid hsz
      clear hB hq4 hq6 hown hfst hsz hr hN hH hA ha0 hrow hln hAH
      go_upto_region 9 with fail
      have hl4 := HQ4.out.lt
      have hl6 := HQ6.out.lt
      have h116 : wr.heap.size ≠ g6 := by omega
      have h114 : wr.heap.size ≠ g4 := by omega
      have hszw := HSZ.out
      go_region
      go_upto_region 10 with fail
      obtain ⟨g11, hg11⟩ : ∃ g, wr.heap.size = g := ⟨_, rfl⟩
      refine wp_gen (fun W => Below w.heap.size w W ∧ Quo W g4 zI zI zI zI ∧ Quo W g6 x0 x1 x2 x3 ∧ W.ownsRow B 28 4 (.slice aO (j - 1 : Nat) cO) (j - 1) (flatD (seenL rows m pl (j - 1))) ∧ B ≤ W.heap.size ∧ Quo W g11 (.int .u64 ya0) (.int .u64 ya1) (.int .u64 za0) (.int .u64 za1)) ⟨(HB.out.alloc hsb _).drew, HQ4.out.keep (((Below.refl _ _).alloc (Nat.le_refl _) _).drew), HQ6.out.keep (((Below.refl _ _).alloc (Nat.le_refl _) _).drew), (HO.out.alloc _).drew, by simp [go_sem]; omega, by subst hg11; simp [Quo, go_sem]⟩ ?_
      clear HB HQ4 HQ6 HO HSZ hl4 hl6 hszw hsb s1 s2 s2b s2c s3 s4 s5 s6 s7 s8 s9 n1 n2 n3 n4 hb1 hbb hc y0 y1 z0 z1
      rintro W1 ⟨hB, hq4, hq6, hown, hsz, hq11⟩
      rw [hg11] at h116 h114
      simp only [hg11]
      clear hg11
      have HB := Lib.hid hB; have HQ4 := Lib.hid hq4; have HQ6 := Lib.hid hq6; have HO := Lib.hid hown; have HSZ := Lib.hid hsz; have HQ11 := Lib.hid hq11
      obtain ⟨⟨v0, v1, v2, v3⟩, _, _, _, _⟩ := hq11
      by_cases hj00 : j = 0
      · subst hj00
        obtain ⟨⟨y0, y1, y2, y3⟩, y4, y5, y6, y7⟩ := hq6
        clear hB hq4 hown hsz
        go_wp2_with fail
        go_roundw
        case rel =>
          have hge := HGE.out
          refine ⟨1, by omega, by go_num, by rw [HNX.out], (((HB.out.setCell hge.2.1 _).setCell hge.2.1 _).setCell hge.2.1 _).setCell hge.2.1 _, (((HQ4.out.far h64 _ _).far h64 _ _).far h64 _ _).far h64 _ _, ⟨_, _, _, _, HQ6.out.put _ _ _ _, fun _ => ?_⟩, own_set (own_set (own_set (own_set HO.out hge.2.2.2.1) hge.2.2.2.1) hge.2.2.2.1) hge.2.2.2.1, by have := HSZ.out; simp [go_sem]; omega⟩
          obtain ⟨e1, e2, e3⟩ := HROW.out
          rw [e1, show m - 1 = m - 1 - 0 by omega, e2, show pl = A from by rw [← e3]; exact (jAt_zero HM.out.2.2.2).symm, HTW.out]
        case measure => simp [intOf]; omega
      · have hjI : ¬ (j : Int) = 0 := by omega
        have hw16 : (j - 1 : Nat) + 1 ≤ 20 := by omega
        have hown0 := HO.out
        obtain ⟨FL, hFL⟩ : ∃ fl, flatD (seenL rows m pl (j - 1)) = fl := ⟨_, rfl⟩
        rw [hFL] at hown0
        have HFL := Lib.hid hFL
        clear hFL hq6 hB hq4 hown
        obtain ⟨J1, hJ⟩ : ∃ J, j - 1 = J := ⟨_, rfl⟩
        rw [hJ] at hown0 hw16 ⊢
        have HJ := Lib.hid hJ
        clear hJ HO
        go_upto_region 6 with (at_builtin; refine wpList_append_own _ rfl _ _ 29 rfl B 28 i0 (.agg #[.int .u64 0, .int .u64 0, .int .u64 0, .int .u64 0]) 4 32 Try.underlying29 hi hz0 hz1 hz2 rfl (by decide) _ _ _ rfl (hown0.alloc _) ⟨W1.heap.size, 0, none⟩ 1 1 [.int .u64 ya0, .int .u64 ya1, .int .u64 za0, .int .u64 za1] rfl rfl ?c1 ?c2 ?c3 ?c4 ?c5 ?_)
        case c1 => first | exact quad_src (by simp [go_sem]) (by simp [go_sem]) (by simp [go_sem]) (by simp [go_sem]) | (intro j u hu; have := quad_src (W := W1.alloc (.cells #[.int .u64 ya0, .int .u64 ya1, .int .u64 za0, .int .u64 za1] 28)) (g := W1.heap.size) (by simp [go_sem]) (by simp [go_sem]) (by simp [go_sem]) (by simp [go_sem]) j u hu; simpa [go_sem] using this)
        case c2 => first | exact ⟨rfl, rfl, rfl, rfl⟩ | (intro u hu; simp at hu; rcases hu with rfl | rfl | rfl | rfl <;> rfl)
        case c3 => unfold maxLen; omega
        case c4 => omega
        case c5 => first | omega | (simp; omega)
        intro v' w2 hown' hgrow _
        have hge := HGE.out
        have hb3 := own_row_below (hown0.alloc (.cells #[.int .u64 ya0, .int .u64 ya1, .int .u64 za0, .int .u64 za1] 28)) (HB.out.alloc HB.out.size _) hgrow hge.2.2.2.2 (by simp; omega)
        have hks : ∀ k, (Value.slice aO J1 cO).ownBlock = some k → k ≠ g4 ∧ k ≠ g6 := fun k hk => by have := own_ge hown0 k hk; omega
        have hq4' := (HQ4.out.keep ((Below.refl _ _).alloc (Nat.le_refl _) (.cells #[.int .u64 ya0, .int .u64 ya1, .int .u64 za0, .int .u64 za1] 28))).grown hgrow (fun k hk => (hks k hk).1)
        have hq6' := (HQ6.out.keep ((Below.refl _ _).alloc (Nat.le_refl _) (.cells #[.int .u64 ya0, .int .u64 ya1, .int .u64 za0, .int .u64 za1] 28))).grown hgrow (fun k hk => (hks k hk).2)
        have hsz' : B ≤ w2.heap.size := Nat.le_trans hsz (Nat.le_trans (by simp) hgrow.size)
        have HREL := Lib.hid (And.intro hb3 (And.intro hq4' (And.intro hq6' (And.intro hown' hsz'))))
        clear hb3 hq4' hq6' hown' hsz' hgrow hks hown0 hsz HB HQ4 HQ6 HSZ HQ11 v0 v1 v2 v3 hge
        go_wp2_with fail
        go_roundw
        case rel =>
          obtain ⟨r1, r2, r3, r4, r5⟩ := HREL.out
          refine ⟨j + 1, by omega, by go_num, by rw [HNX.out], r1, r2, ⟨x0, x1, x2, x3, r3, fun _ => HF.out (by omega)⟩, ?_, r5⟩
          have e : j + 1 - 1 = J1 + 1 := by have := HJ.out; omega
          obtain ⟨e1, e2, e3⟩ := HROW.out
          have hJj : J1 + 1 = j := by have := HJ.out; omega
          rw [e, seenL_snoc, flatD_app, flatD_one, hJj, e1, e2, e3, HTW.out, ← HJ.out, HFL.out]
          rw [hJj] at r4
          exact r4
        case measure => simp [intOf]; omega
    · obtain rfl : j = n := by omega
      have hx := hfst (by have := HM.out.1; omega)
      rw [HQQ.out] at hx
      cases hx
      obtain ⟨y0, y1, y2, y3⟩ := hq6.1
      have HB := Lib.hid hB; have HO := Lib.hid hown
      obtain ⟨⟨v0, v1, v2, v3⟩, v4, v5, v6, v7⟩ := hq4
      have hge := HGE.out
      have hJ := HNJ.out
      rw [hJ] at HO ⊢
      clear hB hown hfst hq6 hsz hJ
      go_wp2_with fail
      have hown4 := own_set (o := 3) (x := .int .u64 r3) (own_set (o := 2) (x := .int .u64 r2) (own_set (o := 1) (x := .int .u64 r1) (own_set (o := 0) (x := .int .u64 r0) HO.out hge.2.2.1) hge.2.2.1) hge.2.2.1) hge.2.2.1
      obtain ⟨a5, c5, e5, h5⟩ := own_quads' hown4 (seenL_len rows m pl J)
      cases e5
      refine bodyPost_ret (v := .tuple #[.agg #[.int .u64 r0, .int .u64 r1, .int .u64 r2, .int .u64 r3], .slice aO J cO]) (by simp [results, Try.results16, go_sem, v0, v1, v2, v3]) rfl ⟨(((HB.out.setCell hge.1 _).setCell hge.1 _).setCell hge.1 _).setCell hge.1 _, aO, ⟨cO, rfl⟩, h5⟩
end Go.Proofs.Yteghnaocncmiaaa
