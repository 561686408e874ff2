/-
  What the program's halved and Build come to. (Written by gen_tpro2.py.)
-/
import Derived.Test.YtmhpbgdchocoiaaDoorTPro1
import Derived.Test.YtmhpbgdchocoiaaDoorGTree
import Derived.Test.YtmhpbgdchocoiaaDoorGRoot
import Derived.Test.YtmhpbgdchocoiaaDoorGNum
import Derived.Deep.OwnRows
namespace Go.Proofs.YtmhpbgdchocoiaaDoor
open Go Go.RowKit
set_option linter.unusedVariables false

def HalvR (o i r i2 i3 p0 p1 q : Value) (x y z : ByteArray) (sl : Nat) (v : Value) (W : World) : Prop :=
  match sl with
  | 14 => v = o
  | 15 => v = i
  | 16 => v = r
  | 17 => v = i
  | 18 => v = i2
  | 19 => v = p0
  | 20 => v = .string x
  | 21 => v = r
  | 22 => v = i
  | 23 => v = i2
  | 24 => v = i3
  | 25 => v = p1
  | 26 => v = .string y
  | 27 => v = .string z
  | _ => v = q
theorem HalvR.keep {o i r i2 i3 p0 p1 q : Value} {x y z : ByteArray} {sl : Nat} {v : Value} {W W' : World} (h : HalvR o i r i2 i3 p0 p1 q x y z sl v W) (hb : Below W.heap.size W W') : HalvR o i r i2 i3 p0 p1 q x y z sl v W' := h

/-- The row above, under way. -/
def upS (f : Nat → ByteArray) (j m : Nat) : Value := .string (if m < j then nodeB (f (2 * m)) (f (2 * m + 1)) else ⟨#[]⟩)
theorem upS_step (f : Nat → ByteArray) (j m : Nat) : (if m = j then .string (nodeB (f (2 * j)) (f (2 * j + 1))) else upS f j m) = upS f (j + 1) m := by
  unfold upS
  by_cases e : m = j
  · subst e; rw [if_pos rfl, if_pos (by omega)]
  · rw [if_neg e]
    by_cases h : m < j
    · rw [if_pos h, if_pos (by omega)]
    · rw [if_neg h, if_neg (by omega)]
def HalvRel (w : World) (g M : Nat) (f : Nat → ByteArray) (i : Value) (W : World) : Prop := ∃ j : Nat, j ≤ M ∧ i = .int .i64 j ∧ Below w.heap.size w W ∧ Arr W g M (upS f j)
set_option maxRecDepth 100000 in
set_option maxHeartbeats 4000000 in
theorem halved_is (a : Option Addr) (M c : Nat) (f : Nat → ByteArray) (w : World) (h : StrA w a (2 * M) f) (hM : M ≤ 64) (hf : ∀ j, j < 2 * M → (f j).size ≤ 100) (hT : TabB w) :
    Calls Tryd.prog 26 #[.slice a (2 * M : Nat) c] w fun e w' => ∃ g, e = .returned (.slice (some ⟨g, 0, none⟩) M M) ∧ w.heap.size ≤ g ∧ Below w.heap.size w w' ∧ Arr w' g M (fun m => .string (nodeB (f (2 * m)) (f (2 * m + 1)))) := by
  have HS := Lib.hid h.2; have HF := Lib.hid hf
  obtain ⟨N, hN⟩ : ∃ N, 2 * M = N := ⟨_, rfl⟩
  have hq : (N : Int).tdiv 2 = (M : Int) := by rw [Int.tdiv_eq_ediv_of_nonneg (by omega)]; omega
  have hmk := fun W => run_make_row' (P := Tryd.prog) 22 9 (.string ⟨#[]⟩) 16 Tryd.underlying22 infoS rfl .i64 .i64 M (by omega) (by omega) W
  rw [hN] at HS HF ⊢
  have HA0 := Lib.hid (fun (W : World) (e : TypeId) => (Arr.new W #[.string ⟨#[]⟩] M e).same (f' := upS f 0) (fun j hj => by simp [upS, Nat.mod_one]))
  have HB0 := Lib.hid (fun (o : Obj) => (Below.refl w.heap.size w).alloc (Nat.le_refl _) o)
  have HT := Lib.hid hT
  clear h hf hT
  go_enter Tryd.func26, Tryd.ntmps26
  go_upto_region 3 with fail
  clear hq hmk
  go_loopw [11] (HalvRel w w.heap.size M f) (fun i _ => M - (intOf i).toNat)
  case atStart => exact ⟨0, Nat.zero_le _, rfl, HB0.out _, HA0.out _ _⟩
  case round =>
    clear HA0 HB0
    obtain ⟨j, hj, rfl, hB, hA⟩ := hrel
    by_cases hlt : j < M
    · obtain ⟨b, off, rfl, cx0⟩ := HS.out (2 * j) (by omega)
      obtain ⟨b', off', e, cy0⟩ := HS.out (2 * j + 1) (by omega)
      cases e
      have cx := bkeep hB cx0; have cy := bkeep hB cy0
      have kn := fun (W : World) (hb : Below wr.heap.size wr W) => glnode_is (f (2 * j)) (f (2 * j + 1)) W (by have h1 := HF.out (2 * j) (by omega); have h2 := HF.out (2 * j + 1) (by omega); omega) (HT.out.keep (bthen hB hb))
      have HU := Lib.hid (upS_step f j)
      clear cx0 cy0
      generalize hzz : nodeB (f (2 * j)) (f (2 * j + 1)) = z at *
      generalize f (2 * j) = x at *
      generalize f (2 * j + 1) = y at *
      have HA := Lib.hid hA; have HB := Lib.hid hB
      clear hA hB hzz
      obtain ⟨g, hg⟩ : ∃ g, w.heap.size = g := ⟨_, rfl⟩
      rw [hg] at HA ⊢
      have HG := Lib.hid hg
      clear hg
      obtain ⟨J, hJ⟩ : ∃ J, 2 * j = J := ⟨_, rfl⟩
      rw [hJ] at cx cy
      have hlt0 : (j : Int) < (M : Int) := by omega
      have hl1 : (J : Int) + 1 < (N : Int) := by omega
      have hl0 : (J : Int) < (N : Int) := by omega
      have ht1 : ((J : Int) + 1).toNat = J + 1 := by omega
      have hp1 : 0 ≤ (J : Int) + 1 := by omega
      have hw3 : wrap64 ((J : Int) + 1) = (J : Int) + 1 := IntWalk.wrap64_in _ (by omega)
      have hw4 : IntKind.i64.wrap ((J : Int) + 1) = (J : Int) + 1 := IntWalk.i64_in _ (by omega)
      have hw5 : wrap64 (2 * (j : Int)) = (J : Int) := by rw [IntWalk.wrap64_in _ (by omega)]; omega
      have hw6 : IntKind.i64.wrap (2 * (j : Int)) = (J : Int) := by rw [IntWalk.i64_in _ (by omega)]; omega
      have hw7 : 2 * (j : Int) = (J : Int) := by omega
      have hw8 : IntKind.i64.wrap (J : Int) = (J : Int) := IntWalk.i64_in _ (by omega)
      go_upto_region 5 with fail
      refine wp_loose [(14, []), (15, []), (16, []), (17, []), (18, [17]), (19, [16, 18]), (20, [19]), (21, []), (22, []), (23, [22]), (24, [23]), (25, [21, 24]), (26, [25]), (27, [20, 26]), (28, [14, 15])]
        (HalvR (.slice (some ⟨g, 0, none⟩) M M) (.int .i64 (j : Int)) (.slice (some ⟨b, off, none⟩) N c) (.int .i64 (J : Int)) (.int .i64 ((J : Int) + 1)) (.pointer (some ⟨b, off + J, none⟩)) (.pointer (some ⟨b, off + (J + 1), none⟩)) (.pointer (some ⟨g, j, none⟩)) x y z) (fun d => false) (by kernel_rfl) (by kernel_rfl) (fun _ _ _ _ h hb => h.keep hb) ?_ ?_
      · refine opsrun_cons ?_ (opsrun_cons ?_ (opsrun_cons ?_ (opsrun_cons ?_ (opsrun_cons ?_ (opsrun_cons ?_ (opsrun_cons ?_ (opsrun_cons ?_ (opsrun_cons ?_ (opsrun_cons ?_ (opsrun_cons ?_ (opsrun_cons ?_ (opsrun_cons ?_ (opsrun_cons ?_ (opsrun_cons ?_ opsrun_nil))))))))))))))
        all_goals
          refine OpRuns.any ?_
          intro Q0 σ W' K hb hn hK
          simp only [fill, List.map, Act.put, List.setIfInBounds_toArray, List.set_cons_zero, List.set_cons_succ] at hK ⊢
        · clear hn
          go_simp
          exact hK _ _ rfl (Below.refl _ _) (fun h => absurd h (by decide))
        · clear hn
          go_simp
          exact hK _ _ rfl (Below.refl _ _) (fun h => absurd h (by decide))
        · clear hn
          go_simp
          exact hK _ _ rfl (Below.refl _ _) (fun h => absurd h (by decide))
        · clear hn
          go_simp
          exact hK _ _ rfl (Below.refl _ _) (fun h => absurd h (by decide))
        · have h17 : σ 17 = _ := hn 17 (by decide)
          clear hn
          simp only [h17] at hK
          go_simp
          exact hK _ _ rfl (Below.refl _ _) (fun h => absurd h (by decide))
        · have h16 : σ 16 = _ := hn 16 (by decide)
          have h18 : σ 18 = _ := hn 18 (by decide)
          clear hn
          simp only [h16, h18] at hK
          go_simp
          exact hK _ _ rfl (Below.refl _ _) (fun h => absurd h (by decide))
        · have h19 : σ 19 = _ := hn 19 (by decide)
          clear hn
          simp only [h19] at hK
          have cx' := bkeep hb cx
          clear cx
          go_simp
          exact hK _ _ rfl (Below.refl _ _) (fun h => absurd h (by decide))
        · clear hn
          go_simp
          exact hK _ _ rfl (Below.refl _ _) (fun h => absurd h (by decide))
        · clear hn
          go_simp
          exact hK _ _ rfl (Below.refl _ _) (fun h => absurd h (by decide))
        · have h22 : σ 22 = _ := hn 22 (by decide)
          clear hn
          simp only [h22] at hK
          go_simp
          exact hK _ _ rfl (Below.refl _ _) (fun h => absurd h (by decide))
        · have h23 : σ 23 = _ := hn 23 (by decide)
          clear hn
          simp only [h23] at hK
          go_simp
          exact hK _ _ rfl (Below.refl _ _) (fun h => absurd h (by decide))
        · have h21 : σ 21 = _ := hn 21 (by decide)
          have h24 : σ 24 = _ := hn 24 (by decide)
          clear hn
          simp only [h21, h24] at hK
          go_simp
          exact hK _ _ rfl (Below.refl _ _) (fun h => absurd h (by decide))
        · have h25 : σ 25 = _ := hn 25 (by decide)
          clear hn
          simp only [h25] at hK
          have cy' := bkeep hb cy
          clear cy
          go_simp
          exact hK _ _ rfl (Below.refl _ _) (fun h => absurd h (by decide))
        · have h20 : σ 20 = _ := hn 20 (by decide)
          have h26 : σ 26 = _ := hn 26 (by decide)
          clear hn
          simp only [h20, h26] at hK
          have kn' := kn W' hb
          clear kn
          go_simp
          go_at_call 32
          refine kn'.mono ?_
          rintro e w1 ⟨rfl, hb1⟩
          exact hK _ _ rfl hb1 (fun h => absurd h (by decide))
        · have h14 : σ 14 = _ := hn 14 (by decide)
          have h15 : σ 15 = _ := hn 15 (by decide)
          clear hn
          simp only [h14, h15] at hK
          go_simp
          exact hK _ _ rfl (Below.refl _ _) (fun h => absurd h (by decide))
      intro σ W' hb hR hF
      have h27 : σ 27 = .string z := hR 27 (by decide)
      have h28 : σ 28 = .pointer (some ⟨g, j, none⟩) := hR 28 (by decide)
      have HA2 := Lib.hid (((HA.out.keep hb).set j (.string z) hlt).same fun m _ => HU.out m)
      obtain ⟨hg1, hg2⟩ := (HA.out.keep hb) j hlt
      have HB2 := Lib.hid fun v => (bthen HB.out hb).setCell (p := ⟨g, j, none⟩) (Nat.le_of_eq HG.out) v
      clear hR hF HA HB HU cx cy kn hw3 hw4 hw5 hw6 hw7 hw8 ht1 hp1
      simp only [fill, List.map, Act.put, List.setIfInBounds_toArray, List.set_cons_zero, List.set_cons_succ, List.length_cons, List.length_nil, List.drop_succ_cons, List.drop_zero, Nat.reduceAdd, h27, h28]
      go_wp2_with fail
      go_roundw
      case rel => exact ⟨j + 1, by omega, by go_num, HB2.out _, HA2.out⟩
      case measure => simp [intOf]; omega
    · obtain rfl : j = M := by omega
      have HB := Lib.hid hB
      have HR := Lib.hid (hA.same (f' := fun m => .string (nodeB (f (2 * m)) (f (2 * m + 1)))) fun m hm => by unfold upS; rw [if_pos hm])
      clear hA hB hlt
      go_wp2
      go_ret
      exact ⟨_, rfl, Nat.le_refl _, HB.out, HR.out⟩
/-- A row of a tree that the call made, from block B on. -/
def RowS (B : Nat) (W : World) (v : Value) (n : Nat) (h : Nat → ByteArray) : Prop := ∃ g c, v = .slice (some ⟨g, 0, none⟩) n c ∧ B ≤ g ∧ n ≤ c ∧ c ≤ maxLen ∧ Arr W g n (fun j => .string (h j))
theorem RowS.keep {B : Nat} {W W' : World} {v : Value} {n : Nat} {h : Nat → ByteArray} (H : RowS B W v n h) (hb : Below W.heap.size W W') : RowS B W' v n h := by
  obtain ⟨g, c, e, h1, h2, h3, h4⟩ := H
  exact ⟨g, c, e, h1, h2, h3, h4.keep hb⟩
theorem RowS.far {B : Nat} {W : World} {v : Value} {n : Nat} {h : Nat → ByteArray} (H : RowS B W v n h) {g : Nat} (hg : g < B) (o : Nat) (u : Value) : RowS B (W.setCell ⟨g, o, none⟩ u) v n h := by
  obtain ⟨g', c, e, h1, h2, h3, h4⟩ := H
  exact ⟨g', c, e, h1, h2, h3, h4.far (by omega) o u⟩
theorem Arr.strA {W : World} {g n : Nat} {h : Nat → ByteArray} (H : Arr W g n (fun j => .string (h j))) (hn : n ≤ maxLen) : StrA W (some ⟨g, 0, none⟩) n h :=
  ⟨hn, fun k hk => ⟨g, 0, rfl, by rw [Nat.zero_add]; exact (H k hk).1⟩⟩
/-- Rows of a tree under way: those up to j are there. -/
def GTree (w W : World) (g K j : Nat) (f : Nat → ByteArray) : Prop :=
  Below w.heap.size w W ∧ ∃ rs : Nat → Value, Arr W g (K + 1) (fun m => if m ≤ j then rs m else .slice none 0 0) ∧ ∀ m, m ≤ j → RowS (g + 1) W (rs m) (2 ^ (K - m)) (lev f m)
def GBuildRel (w : World) (g K : Nat) (f : Nat → ByteArray) (i : Value) (W : World) : Prop := ∃ j : Nat, j ≤ K ∧ i = .int .i64 j ∧ GTree w W g K j f
theorem GTree.first {w W : World} {g K : Nat} {f : Nat → ByteArray} {v : Value} (hg : w.heap.size ≤ g) (hB : Below w.heap.size w W) (hA : Arr W g (K + 1) (fun _ => .slice none 0 0)) (hR : RowS (g + 1) W v (2 ^ K) f) : GTree w (W.setCell ⟨g, 0, none⟩ v) g K 0 f := by
  refine ⟨hB.setCell hg _, fun _ => v, (hA.set 0 v (by omega)).same fun m _ => ?_, fun m hm => ?_⟩
  · by_cases e : m = 0
    · rw [if_pos e, if_pos (by omega)]
    · rw [if_neg e, if_neg (by omega)]
  · obtain rfl : m = 0 := by omega
    exact hR.far (Nat.lt_succ_self _) _ _
theorem GTree.more {w W W' : World} {g K j : Nat} {f : Nat → ByteArray} {v : Value} (hg : w.heap.size ≤ g) (h : GTree w W g K j f) (hj : j < K) (hb : Below W.heap.size W W') (hR : RowS (g + 1) W' v (2 ^ (K - (j + 1))) (lev f (j + 1))) : GTree w (W'.setCell ⟨g, j + 1, none⟩ v) g K (j + 1) f := by
  obtain ⟨hB, rs, hA, hr⟩ := h
  refine ⟨(bthen hB hb).setCell hg _, fun m => if m = j + 1 then v else rs m, ((hA.keep hb).set (j + 1) v (by omega)).same fun m _ => ?_, fun m hm => ?_⟩
  · by_cases e : m = j + 1
    · simp [e]
    · by_cases c : m ≤ j
      · simp [e, c, show m ≤ j + 1 by omega]
      · simp [e, c, show ¬ m ≤ j + 1 by omega]
  · by_cases e : m = j + 1
    · subst e
      simp only [if_true]
      exact hR.far (Nat.lt_succ_self _) _ _
    · simp only [if_neg e]
      exact ((hr m (by omega)).keep hb).far (Nat.lt_succ_self _) _ _
theorem GTree.tree {w W : World} {g K : Nat} {f : Nat → ByteArray} (hg : w.heap.size ≤ g) (hK : K ≤ 6) (h : GTree w W g K K f) : TreeA w.heap.size W (some ⟨g, 0, none⟩) (K + 1) (K + 1) f := by
  obtain ⟨hB, rs, hA, hr⟩ := h
  refine ⟨Nat.le_refl _, by unfold maxLen; omega, (fun e => by cases e), fun k hk => ⟨g, 0, rfl, hg, ?_⟩⟩
  obtain ⟨g', c, e, h1, h2, h3, h4⟩ := hr k (by omega)
  have hc := (hA k hk).1
  simp only [if_pos (show k ≤ K by omega), e] at hc
  rw [show K + 1 - 1 - k = K - k by omega]
  exact ⟨_, c, by rw [Nat.zero_add]; exact hc, h2, h3, fun x hx => by cases hx; show _ ≤ g'; omega, h4.strA (by omega)⟩
theorem gbuild_no (a : Option Addr) (n c : Nat) (f : Nat → ByteArray) (w : World) (hn : n ≤ 70) (h0 : rowsN n = 0) (hT : Tab w) :
    Calls Tryd.prog 10 #[.slice a n c] w fun e w' => Below w.heap.size w w' ∧ ∃ b cb, e = .returned (.slice b (rowsN n) cb) ∧ TreeA w.heap.size w' b (rowsN n) cb f := by
  have hl := lg_rows n hn
  rw [h0] at hl
  have kl := log_is (n : Int) (-1) (by unfold I64; omega) (by rw [hl]; rfl) w hT
  rw [h0]
  clear hl hT
  go_enter Tryd.func10, Tryd.ntmps10
  go_wp2_with (go_at_call 24; ((with_reducible refine kl.mono ?_); rintro e w1 ⟨rfl, rfl⟩))
  go_ret
  exact ⟨Below.refl _ _, none, 0, rfl, by omega, by unfold maxLen; omega, fun _ => ⟨rfl, rfl⟩, fun k hk => by omega⟩
set_option maxRecDepth 100000 in
set_option maxHeartbeats 4000000 in
theorem gbuild_yes (a : Option Addr) (K c : Nat) (f : Nat → ByteArray) (w : World) (hK : K ≤ 6) (hS : StrS w a (2 ^ K) c f) (hf : ∀ j, j < 2 ^ K → (f j).size ≤ 100) (hT : Tab w) (hTB : TabB w) :
    Calls Tryd.prog 10 #[.slice a (2 ^ K : Nat) c] w fun e w' => Below w.heap.size w w' ∧ ∃ b cb, e = .returned (.slice b (K + 1) cb) ∧ TreeA w.heap.size w' b (K + 1) cb f := by
  have h64 : 2 ^ K ≤ 64 := Nat.le_trans (Nat.pow_le_pow_right (by decide) hK) (by decide)
  have hl := lg_rows (2 ^ K) (by omega)
  rw [rowsN_two hK] at hl
  have HSZ : Hid (∀ k, k ≤ K → ∀ j, j < 2 ^ (K - k) → (lev f k j).size ≤ 100) := Lib.hid fun k hk j hj => lev_size f 100 k (2 ^ (K - k)) (fun j hj => hf j (by rw [← Nat.pow_add, show K - k + k = K by omega] at hj; exact hj)) (by omega) j hj
  have hpos : 0 < 2 ^ K := Nat.pow_pos (by decide)
  have kl := log_is ((2 ^ K : Nat) : Int) (K : Int) (by unfold I64; omega) (by rw [hl]; omega) w hT
  have hmk := fun W => run_make_row' (P := Tryd.prog) 25 22 (.slice none 0 0) 24 Tryd.underlying25 infoSS rfl .i64 .i64 (K + 1) (by omega) (by omega) W
  have HA0 := Lib.hid (fun (W : World) (e : TypeId) => (Arr.new W #[.slice none 0 0] (K + 1) e).same (f' := fun _ => .slice none 0 0) (fun j hj => by simp [Nat.mod_one]))
  have HB0 := Lib.hid (fun (o : Obj) => (Below.refl w.heap.size w).alloc (Nat.le_refl _) o)
  have kc := fun (W : World) (hb : Below w.heap.size w W) => clone_s a (2 ^ K) c f W (hS.keep hb) hpos (by omega)
  have HT := Lib.hid hTB
  obtain ⟨M1, hM1⟩ : ∃ M1, K + 1 = M1 := ⟨_, rfl⟩
  have hw1 : IntKind.i64.wrap ((K : Int) + 1) = (M1 : Int) := by rw [IntWalk.i64_in _ (by omega)]; omega
  have hw2 : wrap64 ((K : Int) + 1) = (M1 : Int) := by rw [IntWalk.wrap64_in _ (by omega)]; omega
  have hw3 : (K : Int) + 1 = (M1 : Int) := by omega
  have hk0 : ¬ (K : Int) < 0 := by omega
  rw [hM1] at hmk HA0
  obtain ⟨N, hN⟩ : ∃ N, 2 ^ K = N := ⟨_, rfl⟩
  rw [hN] at kl kc ⊢
  clear hl hS hf hT hTB hpos h64
  go_enter Tryd.func10, Tryd.ntmps10
  go_upto_region 5 with (go_at_call 24; ((with_reducible refine kl.mono ?_); rintro e w1 ⟨rfl, rfl⟩))
  clear kl hmk hw1 hw2 hw3
  refine wp_gen (fun W => Below w.heap.size w W ∧ Arr W w.heap.size M1 (fun _ => .slice none 0 0)) ⟨HB0.out _, HA0.out _ _⟩ ?_
  rintro W0 ⟨hB0, hA0⟩
  clear HA0 HB0
  have kc0 := kc W0 hB0
  have hlt0 : w.heap.size < W0.heap.size := hA0.lt (by omega)
  have HX := Lib.hid (fun (w1 : World) (v : Value) (hb1 : Below W0.heap.size W0 w1) (hR : RowS (w.heap.size + 1) w1 v (2 ^ K) f) => GTree.first (K := K) (f := f) (Nat.le_refl w.heap.size) (bthen hB0 hb1) (by rw [hM1]; exact hA0.keep hb1) hR)
  have HA0 := Lib.hid hA0
  have hM0 : (0 : Int) < (M1 : Int) := by omega
  have HN := Lib.hid hN
  clear kc hB0 hA0 hN
  go_upto_region 7 with (go_at_call 25; ((with_reducible refine kc0.mono ?_); rintro e w1 ⟨g1, c1, rfl, hge, hnc, hcm, hb1, hA1⟩; obtain ⟨hc0, hf0⟩ := (HA0.out.keep hb1) 0 (by omega)))
  have HT0 := Lib.hid (HX.out w1 (.slice (some ⟨g1, 0, none⟩) N c1) hb1 ⟨g1, c1, by rw [HN.out], by omega, by rw [HN.out]; exact hnc, hcm, by rw [HN.out]; exact hA1⟩)
  clear kc0 HA0 HX hc0 hf0 hA1 hb1 hnc hcm hge
  go_loopw [19] (GBuildRel w w.heap.size K f) (fun i _ => K - (intOf i).toNat)
  case atStart => exact ⟨0, Nat.zero_le _, rfl, HT0.out⟩
  case round =>
    clear HT0
    obtain ⟨j, hj, rfl, hG⟩ := hrel
    by_cases hlt : j < K
    · have HG := Lib.hid hG
      obtain ⟨hB, rs, hA, hr⟩ := hG
      obtain ⟨gj, cj, ej, hgj, hnj, hcj, hAj⟩ := hr j (Nat.le_refl _)
      obtain ⟨m, hm⟩ : ∃ m, K - j = m + 1 := ⟨K - j - 1, by omega⟩
      have hNj : 2 ^ (K - j) = 2 * 2 ^ m := by rw [hm, Nat.pow_succ, Nat.mul_comm]
      have HKm := Lib.hid (show 2 ^ (K - (j + 1)) = 2 ^ m by rw [show K - (j + 1) = m by omega])
      have hsz := HSZ.out j hj
      rw [hNj] at ej hnj hAj hsz
      have hM64 : 2 ^ m ≤ 2 ^ 6 := Nat.pow_le_pow_right (by decide) (by omega)
      have h64 : (2 : Nat) ^ 6 = 64 := rfl
      have HMP := Lib.hid (show ∀ (w1 : World) (g' : Nat), Below wr.heap.size wr w1 → wr.heap.size ≤ g' → Arr w1 g' (2 ^ m) (fun i => .string (nodeB (lev f j (2 * i)) (lev f j (2 * i + 1)))) → GTree w (w1.setCell ⟨w.heap.size, j + 1, none⟩ (.slice (some ⟨g', 0, none⟩) (2 ^ m : Nat) (2 ^ m : Nat))) w.heap.size K (j + 1) f from
        fun w1 g' hb1 hg' hA' => GTree.more (Nat.le_refl _) HG.out hlt hb1 ⟨g', 2 ^ m, by rw [HKm.out], by have := hA.lt (by omega); omega, by rw [HKm.out]; exact Nat.le_refl _, by unfold maxLen; omega, by rw [HKm.out]; exact hA'⟩)
      have kh := halved_is (some ⟨gj, 0, none⟩) (2 ^ m) cj (lev f j) wr (hAj.strA (by unfold maxLen; omega)) (by omega) hsz (HT.out.keep hB)
      have hcell := (hA j (by omega)).1
      simp only [if_pos (Nat.le_refl j), ej] at hcell
      have HAK := Lib.hid (fun (w1 : World) (hb : Below wr.heap.size wr w1) => (hA.keep hb) (j + 1) (by omega))
      generalize 2 ^ m = M at *
      obtain ⟨N2, hN2⟩ : ∃ N2, 2 * M = N2 := ⟨_, rfl⟩
      rw [hN2] at hcell kh
      have hl0 : (j : Int) < (K : Int) := by omega
      have hl1 : (j : Int) < (M1 : Int) := by omega
      have hl2 : (j : Int) + 1 < (M1 : Int) := by omega
      have ht1 : ((j : Int) + 1).toNat = j + 1 := by omega
      clear HG HKm hB hA hr hAj hsz hnj hcj hM64 h64 hNj hN2 ej
      go_wp2_with (go_at_call 26; ((with_reducible refine kh.mono ?_); rintro e w1 ⟨g', rfl, hge, hb1, hA1⟩; obtain ⟨hc1, hf1⟩ := HAK.out w1 hb1))
      have R := Lib.hid (HMP.out w1 g' hb1 hge hA1)
      clear hA1 hb1 hge hc1 hf1 HMP HAK kh
      go_roundw
      case rel => exact ⟨j + 1, by omega, by go_num, R.out⟩
      case measure => simp [intOf]; omega
    · obtain rfl : j = K := by omega
      have HB := Lib.hid hG.1
      have HR := Lib.hid (hG.tree (Nat.le_refl _) hK)
      clear hG hlt
      go_wp2
      go_ret
      exact ⟨HB.out, some ⟨w.heap.size, 0, none⟩, j + 1, by rw [hM1]; rfl, HR.out⟩
theorem gbuild_is (a : Option Addr) (n c : Nat) (f : Nat → ByteArray) (w : World) (hS : StrS w a n c f) (hn : n ≤ 70) (hf : ∀ j, j < n → (f j).size ≤ 100) (hT : Tab w) (hTB : TabB w) :
    Calls Tryd.prog 10 #[.slice a n c] w fun e w' => Below w.heap.size w w' ∧ ∃ b cb, e = .returned (.slice b (rowsN n) cb) ∧ TreeA w.heap.size w' b (rowsN n) cb f := by
  by_cases h0 : rowsN n = 0
  · exact gbuild_no a n c f w hn h0 hT
  · have e := rowsN_pow h0
    have hle := rowsN_le n
    obtain ⟨K, hK⟩ : ∃ K, rowsN n = K + 1 := ⟨rowsN n - 1, by omega⟩
    rw [hK] at e ⊢
    rw [show K + 1 - 1 = K by omega] at e
    subst e
    exact gbuild_yes a K c f w (by omega) hS hf hT hTB
end Go.Proofs.YtmhpbgdchocoiaaDoor
