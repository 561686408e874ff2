/-
  What slices.Clone of texts, and the program's Root, Climb and Path, come to.
-/
import Derived.Test.YtmhpbgdchocoiaaDoorTreeM
import Derived.Test.YtmhpbgdchocoiaaDoorGTree
import Derived.Test.YtmhpbgdchocoiaaDoorLProg
import Derived.Deep.OwnRows
import Derived.Lib.SliceRun
namespace Go.Proofs.YtmhpbgdchocoiaaDoor
open Go Go.RowKit
set_option linter.unusedVariables false

set_option maxHeartbeats 4000000 in
theorem clone_s (a : Option Addr) (n c : Nat) (f : Nat → ByteArray) (w : World) (hS : StrS w a n c f) (h0 : 0 < n) (hl : n ≤ 4294967296) :
    Calls Tryd.prog 25 #[.slice a n c] w fun e w' => ∃ g c', e = .returned (.slice (some ⟨g, 0, none⟩) n c') ∧ w.heap.size ≤ g ∧ n ≤ c' ∧ c' ≤ maxLen ∧ Below w.heap.size w w' ∧ Arr w' g n (fun j => .string (f j)) := by
  obtain ⟨i0, hi, hz0, hz1, hz2⟩ := info_parts infoS
  have q := fun (w : World) (a : Option Addr) (n c n' c' : Nat) => Lib.run_eql_slice_nil (P := Tryd.prog) w 22 9 a n c n' c' Tryd.underlying22
  obtain ⟨hstr, hnc, hcm, hnil⟩ := hS
  obtain ⟨b, off, rfl, g0⟩ := hstr.2 0 h0
  have hE : w.heap.size < (w.alloc (.cells #[] 9)).heap.size := by simp
  clear g0
  go_enter Tryd.func25, Tryd.ntmps25
  go_wp2_with (at_builtin; refine wpList_append_str rfl _ _ 22 rfl w.heap.size 9 i0 (.string ⟨#[]⟩) 16 Tryd.underlying22 hi hz0 hz1 hz2 rfl _ 0 [] rfl (own_none _ _ _ (Nat.le_refl _)) (some ⟨b, off, none⟩) n c f rfl hnil (hstr.keep ((Below.refl _ _).alloc (Nat.le_refl _) _)) (by unfold maxLen; omega) (by omega) (by simp) ?_; rintro v' w1 hown hgrow)
  simp only [Nat.zero_add, List.nil_append] at hown
  obtain ⟨g, c', rfl, hb, hnc', hcm', hA⟩ := own_arr hown h0
  have HA : Hid (Arr w1 g n (fun j => .string (f j))) := Lib.hid ((hA.same (fun j hj => by simp [strV, List.getD, show j < n by omega])).eq (Nat.mul_one _))
  have HB := Lib.hid (below_own2 ((Below.refl w.heap.size w).alloc (Nat.le_refl _) _) hgrow (fun k hk => by cases hk; exact Nat.le_refl _) (by simp))
  clear hA hown hgrow
  go_wp2
  go_ret
  exact ⟨g, c', rfl, hb, hnc', hcm', HB.out, HA.out⟩
theorem groot_is (B : Nat) (b : Option Addr) (L c : Nat) (f : Nat → ByteArray) (w : World) (h : TreeA B w b L c f) (hL : L ≤ 7) :
    Calls Tryd.prog 12 #[.slice b L c] w fun e w' => e = .returned (.string (if L = 0 then ⟨#[]⟩ else lev f (L - 1) 0)) ∧ w' = w := by
  cases L with
  | zero =>
    go_enter Tryd.func12, Tryd.ntmps12
    go_wp2
    go_ret
    exact ⟨rfl, rfl⟩
  | succ K =>
    obtain ⟨bb, off, rfl, _, ak, ck, hc, hk1, hk2, _, hS⟩ := h.2.2.2 K (by omega)
    simp only [show K + 1 - 1 - K = 0 by omega, Nat.pow_zero] at hc hS
    obtain ⟨b2, off2, rfl, hs⟩ := hS.2 0 (by omega)
    rw [Nat.add_zero] at hs
    rw [if_neg (by omega), show K + 1 - 1 = K by omega]
    have hne : ¬ (((K + 1 : Nat) : Int) = 0) := by omega
    have hw : IntKind.i64.wrap (((K + 1 : Nat) : Int) - 1) = (K : Int) := by rw [IntWalk.i64_in _ (by omega)]; omega
    have hw2 : wrap64 (((K + 1 : Nat) : Int) - 1) = (K : Int) := by rw [IntWalk.wrap64_in _ (by omega)]; omega
    have hlt : (K : Int) < ((K + 1 : Nat) : Int) := by omega
    have hge : 0 ≤ (K : Int) := by omega
    generalize lev f K 0 = z at *
    generalize hM : ((K + 1 : Nat) : Int) = M at *
    clear h
    go_enter Tryd.func12, Tryd.ntmps12
    go_wp2
    go_ret
    exact ⟨rfl, rfl⟩
def GClimbRel (w : World) (s0 : ByteArray) (i0 : Nat) (g : Nat → ByteArray) (n : Nat) (s i k : Value) (W : World) : Prop :=
  ∃ j : Nat, j ≤ n ∧ k = .int .i64 j ∧ i = .int .i64 ((i0 / 2 ^ j : Nat) : Int) ∧ s = .string (climbB s0 i0 g j) ∧ Below w.heap.size w W
set_option maxHeartbeats 1000000 in
theorem gclimb_is (s : ByteArray) (i : Nat) (a : Option Addr) (n c : Nat) (g : Nat → ByteArray) (w : World) (h : StrA w a n g) (hn : n ≤ 70) (hg : ∀ k, k < n → (g k).size ≤ 100) (hs : s.size ≤ 100) (hi : i ≤ 9223372036854775807) (hT : TabB w) :
    Calls Tryd.prog 20 #[.string s, .int .i64 i, .slice a n c] w fun e w' => e = .returned (.string (climbB s i g n)) ∧ Below w.heap.size w w' := by
  have HG := Lib.hid hg; have HS := Lib.hid h
  have hsz := Lib.hid (climb_size s i g 100 hs (by omega))
  have HT := Lib.hid hT
  clear h hg hT
  go_enter Tryd.func20, Tryd.ntmps20
  go_upto_region 2 with fail
  go_loopw [0, 1, 11] (GClimbRel w s i g n) (fun _ _ k _ => n - (intOf k).toNat)
  case atStart => exact ⟨0, Nat.zero_le _, rfl, by simp, rfl, Below.refl _ _⟩
  case round =>
    obtain ⟨j, hj, rfl, rfl, rfl, hB⟩ := hrel
    by_cases hlt : j < n
    · obtain ⟨b, off, rfl, g0⟩ := HS.out.2 j hlt
      have g1 := bkeep hB g0
      clear g0
      have hlt' : (j : Int) < (n : Int) := by omega
      have h1 := HG.out j hlt
      have h2 := hsz.out j
      have hst := Lib.hid (show climbB s i g (j + 1) = if i / 2 ^ j % 2 = 0 then nodeB (climbB s i g j) (g j) else nodeB (g j) (climbB s i g j) from rfl)
      have hh := Lib.hid (half_pow i j)
      have hq : i / 2 ^ j ≤ 9223372036854775807 := Nat.le_trans (Nat.div_le_self _ _) hi
      have hT1 := HT.out.keep hB
      generalize climbB s i g j = x at *
      generalize g j = y at *
      generalize i / 2 ^ j = q at *
      have hd : (q : Int).tdiv 2 = ((q / 2 : Nat) : Int) := by rw [Int.tdiv_eq_ediv_of_nonneg (by omega)]; omega
      have hd2 : IntKind.i64.wrap ((q / 2 : Nat) : Int) = ((q / 2 : Nat) : Int) := IntWalk.i64_in _ (by omega)
      by_cases hp : q % 2 = 0
      · have hm : (q : Int).tmod 2 = 0 := by rw [Int.tmod_eq_emod_of_nonneg (by omega)]; omega
        have kn := glnode_is x y wr (by omega) hT1
        have hz := Lib.hid (hst.out.trans (if_pos hp))
        clear hst hT1
        generalize nodeB x y = z at *
        go_wp2_with (go_at_call 32; ((with_reducible refine kn.mono ?_); rintro e w1 ⟨rfl, hb⟩; replace hB := bthen hB hb; clear hb))
        go_roundw
        case rel => exact ⟨j + 1, by omega, by go_num, by rw [hh.out]; go_num, by rw [hz.out], hB⟩
        case measure => simp [intOf]; omega
      · have hm : (q : Int).tmod 2 = 1 := by rw [Int.tmod_eq_emod_of_nonneg (by omega)]; omega
        have kn := glnode_is y x wr (by omega) hT1
        have hz := Lib.hid (hst.out.trans (if_neg hp))
        clear hst hT1
        generalize nodeB y x = z at *
        go_wp2_with (go_at_call 32; ((with_reducible refine kn.mono ?_); rintro e w1 ⟨rfl, hb⟩; replace hB := bthen hB hb; clear hb))
        go_roundw
        case rel => exact ⟨j + 1, by omega, by go_num, by rw [hh.out]; go_num, by rw [hz.out], hB⟩
        case measure => simp [intOf]; omega
    · obtain rfl : j = n := by omega
      go_wp2
      go_ret
      exact ⟨rfl, hB⟩
/-- A path under way. -/
def pathV (p : Nat → ByteArray) (j m : Nat) : Value := .string (if m < j then p m else ⟨#[]⟩)
theorem pathV_step (p : Nat → ByteArray) (j m : Nat) : (if m = j then .string (p j) else pathV p j m) = pathV p (j + 1) m := by
  unfold pathV
  by_cases e : m = j
  · subst e; rw [if_pos rfl, if_pos (by omega)]
  · rw [if_neg e]
    by_cases h : m < j
    · rw [if_pos h, if_pos (by omega)]
    · rw [if_neg h, if_neg (by omega)]
def GPathRel (w : World) (g : Nat) (f : Nat → ByteArray) (i0 K : Nat) (i k : Value) (W : World) : Prop :=
  ∃ j : Nat, j ≤ K ∧ k = .int .i64 j ∧ i = .int .i64 ((i0 / 2 ^ j : Nat) : Int) ∧ Below w.heap.size w W ∧ Arr W g K (pathV (pathB f i0) j)
theorem gpath_none (B : Nat) (b : Option Addr) (L c : Nat) (f : Nat → ByteArray) (i : Int) (w : World) (h : TreeA B w b L c f) (hL : L ≤ 7) (hno : ¬ (L ≠ 0 ∧ 0 ≤ i ∧ i < 2 ^ (L - 1))) :
    Calls Tryd.prog 15 #[.slice b L c, .int .i64 i] w (PathPost L f i w) := by
  have HNO := Lib.hid hno
  by_cases h0 : L = 0
  · subst h0
    clear hno
    go_enter Tryd.func15, Tryd.ntmps15
    go_wp2
    exact bodyPost_ret (v := .tuple #[.slice none 0 0, .bool false]) (by simp [results, Tryd.results15, go_sem]) rfl ⟨Below.refl _ _, Or.inr ⟨HNO.out, none, 0, rfl⟩⟩
  · have h0' : ¬ (L : Int) = 0 := by omega
    by_cases hi : i < 0
    · clear hno h
      go_enter Tryd.func15, Tryd.ntmps15
      go_wp2
      exact bodyPost_ret (v := .tuple #[.slice none 0 0, .bool false]) (by simp [results, Tryd.results15, go_sem]) rfl ⟨Below.refl _ _, Or.inr ⟨HNO.out, none, 0, rfl⟩⟩
    · obtain ⟨bb, off, rfl, _, ak, ck, hc, hk1, hk2, _, hS⟩ := h.2.2.2 0 (by omega)
      rw [Nat.add_zero, Nat.sub_zero] at hc
      obtain ⟨N, hN⟩ : ∃ N, 2 ^ (L - 1) = N := ⟨_, rfl⟩
      have hge : i ≥ (N : Int) := by
        rw [← hN]
        have : ¬ i < 2 ^ (L - 1) := fun c => hno ⟨h0, by omega, c⟩
        have e : ((2 ^ (L - 1) : Nat) : Int) = 2 ^ (L - 1) := by simp
        rw [e]; omega
      rw [hN] at hc
      have hl0 : (0 : Int) < (L : Int) := by omega
      clear hno h hS hk1 hN
      go_enter Tryd.func15, Tryd.ntmps15
      go_wp2
      exact bodyPost_ret (v := .tuple #[.slice none 0 0, .bool false]) (by simp [results, Tryd.results15, go_sem]) rfl ⟨Below.refl _ _, Or.inr ⟨HNO.out, none, 0, rfl⟩⟩
set_option maxRecDepth 100000 in
set_option maxHeartbeats 1000000 in
theorem gpath_some (B : Nat) (b : Option Addr) (K c : Nat) (f : Nat → ByteArray) (i : Nat) (w : World) (h : TreeA B w b (K + 1) c f) (hL : K ≤ 6) (hi : i < 2 ^ K) :
    Calls Tryd.prog 15 #[.slice b (K + 1 : Nat) c, .int .i64 i] w (PathPost (K + 1) f i w) := by
  have hyes : K + 1 ≠ 0 ∧ 0 ≤ (i : Int) ∧ (i : Int) < 2 ^ (K + 1 - 1) := ⟨by omega, by omega, by
    have e : ((2 ^ K : Nat) : Int) = 2 ^ K := by simp
    rw [show K + 1 - 1 = K by omega, ← e]; omega⟩
  have HY := Lib.hid hyes
  have HT := Lib.hid h.2.2.2
  have HI := Lib.hid hi
  obtain ⟨bb, off, rfl, _, ak, ck, hc, hk1, hk2, _, hS⟩ := h.2.2.2 0 (by omega)
  rw [Nat.add_zero, Nat.sub_zero, show K + 1 - 1 = K by omega] at hc
  have hpow : 2 ^ K ≤ 2 ^ 6 := Nat.pow_le_pow_right (by decide) hL
  obtain ⟨N, hN⟩ : ∃ N, 2 ^ K = N := ⟨_, rfl⟩
  rw [hN] at hc hi hpow
  have h64 : (2 : Nat) ^ 6 = 64 := rfl
  have hi64 : i < 64 := by omega
  have h0' : ¬ ((K + 1 : Nat) : Int) = 0 := by omega
  have hn0 : ¬ (i : Int) < 0 := by omega
  have hge : ¬ (i : Int) ≥ (N : Int) := by omega
  have hl0 : (0 : Int) < ((K + 1 : Nat) : Int) := by omega
  obtain ⟨M, hMK⟩ : ∃ M, K + 1 = M := ⟨_, rfl⟩
  rw [hMK] at h0' hl0 ⊢
  rw [hMK] at HY HT
  have hw1 : IntKind.i64.wrap ((M : Int) - 1) = (K : Int) := by rw [IntWalk.i64_in _ (by omega)]; omega
  have hw2 : wrap64 ((M : Int) - 1) = (K : Int) := by rw [IntWalk.wrap64_in _ (by omega)]; omega
  have hw3 : (M : Int) - 1 = (K : Int) := by omega
  have hmk := fun W => run_make_row' (P := Tryd.prog) 22 9 (.string ⟨#[]⟩) 16 Tryd.underlying22 infoS rfl .i64 .i64 K (by omega) (by omega) W
  have HA0 := Lib.hid (fun (W : World) (e : TypeId) => (Arr.new W #[.string ⟨#[]⟩] K e).same (f' := pathV (pathB f i) 0) (fun j hj => by simp [pathV, Nat.mod_one]))
  have HB0 := Lib.hid (fun (o : Obj) => (Below.refl w.heap.size w).alloc (Nat.le_refl _) o)
  clear h hS hk1 hN hyes
  go_enter Tryd.func15, Tryd.ntmps15
  go_upto_region 5 with fail
  clear hc hge hn0 h0' hl0 hi hmk hw1 hw2 hw3
  go_loopw [1, 30] (GPathRel w w.heap.size f i K) (fun _ k _ => K + 1 - (intOf k).toNat)
  case atStart => exact ⟨0, Nat.zero_le _, rfl, by simp, HB0.out _, HA0.out _ _⟩
  case round =>
    clear HA0 HB0
    obtain ⟨j, hj, rfl, rfl, hB, hA⟩ := hrel
    by_cases hlt : j < K
    · obtain ⟨bb', off', e, _, ak', ck', hc0, h1, h2, _, hS⟩ := HT.out j (by omega)
      cases e
      have hc := bkeep hB hc0
      rw [show M - 1 - j = K - j by omega] at hc h1 hS
      have hq : i / 2 ^ j < 2 ^ (K - j) := by
        rw [Nat.div_lt_iff_lt_mul (Nat.pow_pos (by decide)), ← Nat.pow_add, show K - j + j = K by omega]
        exact HI.out
      have hnb : nb (i / 2 ^ j) < 2 ^ (K - j) := by
        obtain ⟨m, hm⟩ : ∃ m, K - j = m + 1 := ⟨K - j - 1, by omega⟩
        rw [hm, Nat.pow_succ, Nat.mul_comm] at hq ⊢
        exact nb_lt hq
      obtain ⟨b3, off3, rfl, cs0⟩ := hS.2 _ hnb
      have cs := bkeep hB cs0
      have HP := Lib.hid (show lev f j (nb (i / 2 ^ j)) = pathB f i j from rfl)
      have HH := Lib.hid (half_pow i j)
      have hqb : i / 2 ^ j < 64 := Nat.lt_of_le_of_lt (Nat.div_le_self _ _) hi64
      have HA := Lib.hid ((hA.set j (.string (pathB f i j)) hlt).same fun m _ => pathV_step _ _ _)
      have HB := Lib.hid fun v => hB.setCell (p := ⟨w.heap.size, j, none⟩) (Nat.le_refl _) v
      obtain ⟨hg1, hg2⟩ := hA j hlt
      clear hc0 cs0 hS hq h1 h2 hA
      rw [HP.out] at cs
      generalize pathB f i j = z at *
      generalize i / 2 ^ j = q at *
      have hx := xor_one q (by omega)
      have hqd : (q : Int).tdiv 2 = ((q / 2 : Nat) : Int) := by rw [Int.tdiv_eq_ediv_of_nonneg (by omega)]; omega
      generalize nb q = t at *
      generalize 2 ^ (K - j) = N2 at *
      have hlt1 : (j : Int) < (K : Int) := by omega
      have hlt2 : (j : Int) < (M : Int) := by omega
      have hge2 : ¬ (t : Int) ≥ (N2 : Int) := by omega
      have hlt3 : (t : Int) < (N2 : Int) := by omega
      clear HP
      go_wp2
      go_roundw
      case rel => exact ⟨j + 1, by omega, by go_num, by rw [HH.out]; go_num, HB.out _, HA.out⟩
      case measure => simp [intOf]; omega
    · obtain rfl : j = K := by omega
      have HB := Lib.hid hB
      have HR := Lib.hid (hA.same (f' := fun m => .string (pathB f i m)) fun m hm => by unfold pathV; rw [if_pos hm])
      have hno : ¬ (j : Int) < (j : Int) := by omega
      clear hA hB hlt
      go_wp2
      exact bodyPost_ret (v := .tuple #[.slice (some ⟨w.heap.size, 0, none⟩) j j, .bool true]) (by simp [results, Tryd.results15, go_sem]) rfl ⟨HB.out, Or.inl ⟨HY.out.1, HY.out.2.1, HY.out.2.2, _, j, by rw [show M - 1 = j by omega], by
        rw [show M - 1 = j by omega]
        exact ⟨⟨by unfold maxLen; omega, fun k hk => ⟨_, 0, rfl, by rw [Nat.zero_add]; exact (HR.out k hk).1⟩⟩, Nat.le_refl _, by unfold maxLen; omega, fun e => by cases e⟩, fun x hx => by cases hx; exact Nat.le_refl _⟩⟩
theorem gpath_is (B : Nat) (b : Option Addr) (L c : Nat) (f : Nat → ByteArray) (i : Int) (w : World) (h : TreeA B w b L c f) (hL : L ≤ 7) :
    Calls Tryd.prog 15 #[.slice b L c, .int .i64 i] w (PathPost L f i w) := by
  by_cases hy : L ≠ 0 ∧ 0 ≤ i ∧ i < 2 ^ (L - 1)
  · obtain ⟨h0, h1, h2⟩ := hy
    obtain ⟨K, rfl⟩ : ∃ K, L = K + 1 := ⟨L - 1, by omega⟩
    obtain ⟨n, rfl⟩ := Int.eq_ofNat_of_zero_le h1
    refine gpath_some B b K c f n w h (by omega) ?_
    have e : ((2 ^ K : Nat) : Int) = 2 ^ K := by simp
    rw [show K + 1 - 1 = K by omega, ← e] at h2
    omega
  · exact gpath_none B b L c f i w h hL hy
end Go.Proofs.YtmhpbgdchocoiaaDoor
