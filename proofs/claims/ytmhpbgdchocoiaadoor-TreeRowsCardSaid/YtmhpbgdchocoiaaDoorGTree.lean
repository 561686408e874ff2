/-
  LeafBeq: Texts: alike or not. No function of the program is named.
  TreeRef: What the document's Root, Path and the law's 'same' come to.
  TreeRefP: What the document's Path comes to.
  TreeRefC: What the document's Climb comes to.
  TreeRefL: What the document's Leads comes to.
  TreeRefB: What the document's Build comes to. (Written by gen_rbuild.py.)
  BEval2: Sums reckoned by lists, of texts that are known. No function of the program is named.
  TLits: The sums of the chapter's examples, reckoned. (The literals: python's hashlib.)
-/
import Derived.Test.YtmhpbgdchocoiaaDoorGBlk
import Derived.Test.YtmhpbgdchocoiaaDoorTreeM
import Derived.Test.YtmhpbgdchocoiaaDoorGRow
import Derived.Test.YtmhpbgdchocoiaaDoorLeafRef
import Derived.Test.YtmhpbgdchocoiaaDoorGRoot
import Derived.Test.YtmhpbgdchocoiaaDoorLeafAw
import Derived.Lib.QuietBelow
import Derived.BigQuiet
import Derived.Test.YtmhpbgdchocoiaaDoorGNum
import Derived.Deep.Onto
namespace Go.Proofs.YtmhpbgdchocoiaaDoor
open Go Go.RowKit
set_option linter.unusedVariables false

theorem beq_bytes (a b : ByteArray) : (a.toList == b.toList) = decide (a = b) := by
  rw [ByteArray.toList_eq, ByteArray.toList_eq]
  by_cases h : a = b
  · subst h; simp
  · rw [decide_eq_false h]
    refine Bool.eq_false_iff.2 fun hh => h ?_
    have := beq_iff_eq.1 hh
    exact ByteArray.ext (Array.toList_inj.1 this)
theorem beq_of {a b : ByteArray} {v : Bool} (h : decide (a = b) = v) : (a.toList == b.toList) = v := (beq_bytes a b).trans h
end Go.Proofs.YtmhpbgdchocoiaaDoor
namespace Go.Proofs.YtmhpbgdchocoiaaDoor
open Go Go.RowKit
set_option linter.unusedVariables false

theorem rroot_is (B : Nat) (b : Option Addr) (L c : Nat) (f : Nat → ByteArray) (w : World) (h : TreeA B w b L c f) (hL : L ≤ 7) :
    Calls Tryd.prog 13 #[.slice b L c] w fun e w' => e = .returned (.string (if L = 0 then ⟨#[]⟩ else lev f (L - 1) 0)) ∧ w' = w := by
  cases L with
  | zero =>
    go_enter Tryd.func13, Tryd.ntmps13
    go_wp2
    go_ret
    exact ⟨rfl, rfl⟩
  | succ K =>
    obtain ⟨bb, off, rfl, _, ak, ck, hc, hk1, hk2, _, hS⟩ := h.2.2.2 K (by omega)
    simp only [show K + 1 - 1 - K = 0 by omega, Nat.pow_zero] at hc hS
    obtain ⟨b2, off2, rfl, hs⟩ := hS.2 0 (by omega)
    rw [Nat.add_zero] at hs
    rw [if_neg (by omega), show K + 1 - 1 = K by omega]
    have hne : ¬ (((K + 1 : Nat) : Int) = 0) := by omega
    have hw : IntKind.i64.wrap (((K + 1 : Nat) : Int) - 1) = (K : Int) := by rw [IntWalk.i64_in _ (by omega)]; omega
    have hw2 : wrap64 (((K + 1 : Nat) : Int) - 1) = (K : Int) := by rw [IntWalk.wrap64_in _ (by omega)]; omega
    have hlt : (K : Int) < ((K + 1 : Nat) : Int) := by omega
    have hge : 0 ≤ (K : Int) := by omega
    generalize lev f K 0 = z at *
    generalize hM : ((K + 1 : Nat) : Int) = M at *
    clear h
    go_enter Tryd.func13, Tryd.ntmps13
    go_wp2
    go_ret
    exact ⟨rfl, rfl⟩
/-- 'The same texts?' -/
def sameB (f g : Nat → ByteArray) (n m : Nat) : Bool := decide (n = m ∧ ∀ j, j < n → f j = g j)
set_option maxHeartbeats 1000000 in
theorem tsame_is (a b : Option Addr) (n m c d : Nat) (f g : Nat → ByteArray) (z : Bool) (w : World) (h1 : StrA w a n f) (h2 : StrA w b m g) (hz : sameB f g n m = z) :
    Calls Tryd.prog 14 #[.slice a n c, .slice b m d] w fun e w' => e = .returned (.bool z) ∧ Below w.heap.size w w' := by
  by_cases hnm : n = m
  · subst hnm
    obtain ⟨hm, hc1⟩ := h1
    obtain ⟨_, hc2⟩ := h2
    unfold maxLen at hm
    have HC1 := Lib.hid hc1; have HC2 := Lib.hid hc2
    clear hc1 hc2
    go_enter Tryd.func14, Tryd.ntmps14
    go_upto_region 4 with fail
    go_loopw [5] (fun i W => ∃ k : Nat, k ≤ n ∧ i = .int .i64 k ∧ (∀ j, j < k → f j = g j) ∧ Below w.heap.size w W) (fun i _ => n - (intOf i).toNat)
    case atStart => exact ⟨0, Nat.zero_le _, rfl, fun j hj => by omega, Below.refl _ _⟩
    case round =>
      obtain ⟨k, hk, rfl, hs, hB⟩ := hrel
      by_cases hlt : k < n
      · obtain ⟨b1, off1, rfl, g0⟩ := HC1.out k hlt
        obtain ⟨b2, off2, rfl, g1⟩ := HC2.out k hlt
        have hlt' : (k : Int) < (n : Int) := by omega
        replace g0 := bkeep hB g0; replace g1 := bkeep hB g1
        have HS := Lib.hid hs
        clear hs
        by_cases he : f k = g k
        · have HE := Lib.hid (show ∀ j, j < k + 1 → f j = g j from fun j hj => by
            by_cases e : j = k
            · subst e; exact he
            · exact HS.out j (by omega))
          have hb := beq_of (decide_eq_true he)
          generalize f k = x at *
          generalize g k = y at *
          go_upto_region 6 with fail
          go_quiet (fail)
          go_wp2
          go_roundw
          case rel => exact ⟨k + 1, by omega, by go_num, HE.out, below_drewN hB _⟩
          case measure => simp [intOf]; omega
        · have hb := beq_of (decide_eq_false he)
          have HZ : Hid (false = z) := Lib.hid (by rw [← hz]; exact (decide_eq_false (fun h => he (h.2 k hlt))).symm)
          clear hz
          generalize f k = x at *
          generalize g k = y at *
          go_upto_region 6 with fail
          go_quiet (fail)
          go_wp2
          go_ret
          exact ⟨by rw [← HZ.out]; rfl, below_drewN hB _⟩
      · obtain rfl : k = n := by omega
        have HZ : Hid (true = z) := Lib.hid (by rw [← hz]; exact (decide_eq_true ⟨rfl, hs⟩).symm)
        clear hs hz
        go_wp2
        go_ret
        exact ⟨by rw [← HZ.out]; rfl, hB⟩
  · have HZ : Hid (false = z) := Lib.hid (by rw [← hz]; exact (decide_eq_false (fun h => hnm h.1)).symm)
    have hnm' : ¬ (n : Int) = (m : Int) := by omega
    clear hz
    go_enter Tryd.func14, Tryd.ntmps14
    go_wp2
    go_ret
    exact ⟨by rw [← HZ.out]; simp, Below.refl _ _⟩
end Go.Proofs.YtmhpbgdchocoiaaDoor
namespace Go.Proofs.YtmhpbgdchocoiaaDoor
open Go Go.RowKit
set_option linter.unusedVariables false

theorem infoS : (Tryd.prog.info? 9).map (fun i => (i.zero, i.size, i.bytes)) = some (some (.string ⟨#[]⟩), 1, 16) := by kernel_rfl
theorem strV_snoc (f : Nat → ByteArray) (n : Nat) : strV f n ++ [.string (f n)] = strV f (n + 1) := by simp [strV, List.range_succ]
/-- What a row of texts that the call made reads as. -/
theorem MadeG.fresh {e : TypeId} {W w : World} {a : Option Addr} {n c : Nat} {xs : List Value} (h : MadeG e W w (.slice a n c) xs) : ∀ x, a = some x → W.heap.size ≤ x.block := fun x hx => own_ge h.1 x.block (by subst hx; rfl)
theorem MadeG.strs {e : TypeId} {W w : World} {v : Value} {f : Nat → ByteArray} {n : Nat} (h : MadeG e W w v (strV f n)) : ∃ a c, v = .slice a n c ∧ StrS w a n c f := by
  obtain ⟨a, c, e1, h1, h2, h3, h4⟩ := h.row
  rw [strV_len] at e1 h1 h3 h4
  refine ⟨a, c, e1, ⟨by omega, fun k hk => ?_⟩, h1, h2, h3⟩
  obtain ⟨b, off, e2, hc⟩ := h4 k hk
  refine ⟨b, off, e2, ?_⟩
  rw [hc]
  simp [strV, List.getD, hk]
theorem xor_one (j : Nat) (hj : j < 9223372036854775808) : bits .xor .i64 (j : Int) 1 = ((nb j : Nat) : Int) := by
  have e : j ^^^ 1 = nb j := by
    have h1 := Nat.xor_div_two (a := j) (b := 1)
    have h2 := Nat.xor_mod_two_pow (a := j) (b := 1) (n := 1)
    rw [show 1 / 2 = 0 from rfl, Nat.xor_zero] at h1
    rw [show 2 ^ 1 = 2 from rfl, show 1 % 2 = 1 from rfl] at h2
    unfold nb
    rcases Nat.mod_two_eq_zero_or_one j with h | h
    · rw [h, show 0 ^^^ 1 = 1 from rfl] at h2
      rw [if_pos h]; omega
    · rw [h, show 1 ^^^ 1 = 0 from rfl] at h2
      rw [if_neg (by omega)]; omega
  have h1 : (BitVec.ofInt 64 (j : Int) ^^^ BitVec.ofInt 64 1).toNat = nb j := by
    rw [BitVec.toNat_xor, BitVec.ofInt_natCast, BitVec.toNat_ofNat, Nat.mod_eq_of_lt (by omega)]
    exact e
  have hn : nb j ≤ j + 1 := by unfold nb; split <;> omega
  have hev : nb j < 9223372036854775808 := by unfold nb; split <;> omega
  unfold bits
  show IntKind.i64.wrap (((BitVec.ofInt 64 (j : Int) ^^^ BitVec.ofInt 64 1).toNat : Nat) : Int) = _
  rw [h1]
  exact IntWalk.i64_in _ (by omega)
def PathRel (w : World) (f : Nat → ByteArray) (i0 K : Nat) (i o k : Value) (W : World) : Prop :=
  ∃ j : Nat, j ≤ K ∧ k = .int .i64 j ∧ i = .int .i64 ((i0 / 2 ^ j : Nat) : Int) ∧ MadeG 9 w W o (strV (pathB f i0) j)
theorem rpath_none (B : Nat) (b : Option Addr) (L c : Nat) (f : Nat → ByteArray) (i : Int) (w : World) (h : TreeA B w b L c f) (hL : L ≤ 7) (hno : ¬ (L ≠ 0 ∧ 0 ≤ i ∧ i < 2 ^ (L - 1))) :
    Calls Tryd.prog 16 #[.slice b L c, .int .i64 i] w (PathPost L f i w) := by
  have HNO := Lib.hid hno
  by_cases h0 : L = 0
  · subst h0
    clear hno
    go_enter Tryd.func16, Tryd.ntmps16
    go_wp2
    exact bodyPost_ret (v := .tuple #[.slice none 0 0, .bool false]) (by simp [results, Tryd.results16, go_sem]) rfl ⟨Below.refl _ _, Or.inr ⟨HNO.out, none, 0, rfl⟩⟩
  · have h0' : ¬ (L : Int) = 0 := by omega
    by_cases hi : i < 0
    · clear hno h
      go_enter Tryd.func16, Tryd.ntmps16
      go_wp2
      exact bodyPost_ret (v := .tuple #[.slice none 0 0, .bool false]) (by simp [results, Tryd.results16, go_sem]) rfl ⟨Below.refl _ _, Or.inr ⟨HNO.out, none, 0, rfl⟩⟩
    · obtain ⟨bb, off, rfl, _, ak, ck, hc, hk1, hk2, _, hS⟩ := h.2.2.2 0 (by omega)
      rw [Nat.add_zero, Nat.sub_zero] at hc
      obtain ⟨N, hN⟩ : ∃ N, 2 ^ (L - 1) = N := ⟨_, rfl⟩
      have hge : i ≥ (N : Int) := by
        rw [← hN]
        have : ¬ i < 2 ^ (L - 1) := fun c => hno ⟨h0, by omega, c⟩
        have e : ((2 ^ (L - 1) : Nat) : Int) = 2 ^ (L - 1) := by simp
        rw [e]; omega
      rw [hN] at hc
      have hl0 : (0 : Int) < (L : Int) := by omega
      clear hno h hS hk1 hN
      go_enter Tryd.func16, Tryd.ntmps16
      go_wp2
      exact bodyPost_ret (v := .tuple #[.slice none 0 0, .bool false]) (by simp [results, Tryd.results16, go_sem]) rfl ⟨Below.refl _ _, Or.inr ⟨HNO.out, none, 0, rfl⟩⟩
set_option maxRecDepth 100000 in
set_option maxHeartbeats 1000000 in
theorem rpath_some (B : Nat) (b : Option Addr) (K c : Nat) (f : Nat → ByteArray) (i : Nat) (w : World) (h : TreeA B w b (K + 1) c f) (hL : K ≤ 6) (hi : i < 2 ^ K) :
    Calls Tryd.prog 16 #[.slice b (K + 1 : Nat) c, .int .i64 i] w (PathPost (K + 1) f i w) := by
  obtain ⟨i0, hi', hz0, hz1, hz2⟩ := info_parts infoS
  have hyes : K + 1 ≠ 0 ∧ 0 ≤ (i : Int) ∧ (i : Int) < 2 ^ (K + 1 - 1) := ⟨by omega, by omega, by
    have e : ((2 ^ K : Nat) : Int) = 2 ^ K := by simp
    rw [show K + 1 - 1 = K by omega, ← e]; omega⟩
  have HY := Lib.hid hyes
  have HT := Lib.hid h.2.2.2
  have HI := Lib.hid hi
  obtain ⟨bb, off, rfl, _, ak, ck, hc, hk1, hk2, _, hS⟩ := h.2.2.2 0 (by omega)
  rw [Nat.add_zero, Nat.sub_zero, show K + 1 - 1 = K by omega] at hc
  have hpow : 2 ^ K ≤ 2 ^ 6 := Nat.pow_le_pow_right (by decide) hL
  obtain ⟨N, hN⟩ : ∃ N, 2 ^ K = N := ⟨_, rfl⟩
  rw [hN] at hc hi hpow
  have h64 : (2 : Nat) ^ 6 = 64 := rfl
  have hi64 : i < 64 := by omega
  have h0' : ¬ ((K + 1 : Nat) : Int) = 0 := by omega
  have hn0 : ¬ (i : Int) < 0 := by omega
  have hge : ¬ (i : Int) ≥ (N : Int) := by omega
  have hl0 : (0 : Int) < ((K + 1 : Nat) : Int) := by omega
  obtain ⟨M, hMK⟩ : ∃ M, K + 1 = M := ⟨_, rfl⟩
  rw [hMK] at h0' hl0 ⊢
  rw [hMK] at HY HT
  clear h hS hk1 hN hyes
  go_enter Tryd.func16, Tryd.ntmps16
  go_upto_region 5 with fail
  clear hc hge hn0 h0' hl0 hi
  go_loopw [1, 6, 7] (PathRel w f i K) (fun _ _ k _ => K + 1 - (intOf k).toNat)
  case atStart => exact ⟨0, Nat.zero_le _, rfl, by simp, MadeG.start _ _⟩
  case round =>
    obtain ⟨j, hj, rfl, rfl, hM⟩ := hrel
    by_cases hlt : j < K
    · obtain ⟨bb', off', e, _, ak', ck', hc0, h1, h2, _, hS⟩ := HT.out j (by omega)
      cases e
      have hc := bkeep hM.2 hc0
      rw [show M - 1 - j = K - j by omega] at hc h1 hS
      have hq : i / 2 ^ j < 2 ^ (K - j) := by
        rw [Nat.div_lt_iff_lt_mul (Nat.pow_pos (by decide)), ← Nat.pow_add, show K - j + j = K by omega]
        exact HI.out
      have hnb : nb (i / 2 ^ j) < 2 ^ (K - j) := by
        obtain ⟨m, hm⟩ : ∃ m, K - j = m + 1 := ⟨K - j - 1, by omega⟩
        rw [hm, Nat.pow_succ, Nat.mul_comm] at hq ⊢
        exact nb_lt hq
      obtain ⟨b3, off3, rfl, cs0⟩ := hS.2 _ hnb
      have cs := bkeep hM.2 cs0
      have HP := Lib.hid (show lev f j (nb (i / 2 ^ j)) = pathB f i j from rfl)
      have HH := Lib.hid (half_pow i j)
      have HSN := Lib.hid (strV_snoc (pathB f i) j)
      have hqb : i / 2 ^ j < 64 := Nat.lt_of_le_of_lt (Nat.div_le_self _ _) hi64
      clear hc0 cs0 hS hq h1 h2
      rw [HP.out] at cs
      generalize pathB f i j = z at *
      generalize i / 2 ^ j = q at *
      have hx := xor_one q (by omega)
      have hqd : (q : Int).tdiv 2 = ((q / 2 : Nat) : Int) := by rw [Int.tdiv_eq_ediv_of_nonneg (by omega)]; omega
      generalize nb q = t at *
      generalize 2 ^ (K - j) = N2 at *
      have hlt1 : (j : Int) + 1 < (M : Int) := by omega
      have hlt2 : (j : Int) < (M : Int) := by omega
      have hge2 : ¬ (t : Int) ≥ (N2 : Int) := by omega
      have hlt3 : (t : Int) < (N2 : Int) := by omega
      clear HP
      have hown := hM.1
      have hsz := hM.2.size
      have hlen := strV_len (pathB f i) j
      have HT2 := Lib.hid (fun (o : Obj) w1 v' => @MadeG.grow 9 w _ w1 _ v' _ (.string z) (hM.keep ((Below.refl _ _).alloc (Nat.le_refl _) o)))
      clear hM
      generalize strV (pathB f i) j = xs at *
      go_upto_region 11 with (at_builtin; refine wpList_append_own _ rfl _ _ 22 rfl w.heap.size 9 i0 (.string ⟨#[]⟩) 1 16 Tryd.underlying22 hi' hz0 hz1 hz2 rfl (by decide) _ _ _ rfl (hown.alloc _) ⟨wr.heap.size, 0, none⟩ 1 1 [.string z] rfl rfl ?c1 ?c2 ?c3 ?c4 ?c5 ?_)
      case c2 => first | rfl | (intro u hu; simp at hu; subst hu; rfl)
      case c3 => unfold maxLen; omega
      case c4 => omega
      case c5 => first | omega | (simp; omega)
      · intro v' w1 hown' hgrow _
        have R := Lib.hid (HT2.out _ w1 v' (by rw [hlen]; exact hown') hgrow)
        clear hown' hgrow hown HT2
        go_wp2
        go_roundw
        case rel => exact ⟨j + 1, by omega, by go_num, by rw [HH.out]; go_num, by rw [← HSN.out]; exact R.out⟩
        case measure => simp [intOf]; omega
    · obtain rfl : j = K := by omega
      obtain ⟨ar, cr, rfl, hR⟩ := hM.strs
      have HB := Lib.hid hM.2
      have HR := Lib.hid hR
      have HFR := Lib.hid hM.fresh
      have hno : ¬ (j : Int) + 1 < (M : Int) := by omega
      clear hM hR hlt
      go_wp2
      exact bodyPost_ret (v := .tuple #[.slice ar j cr, .bool true]) (by simp [results, Tryd.results16, go_sem]) rfl ⟨HB.out, Or.inl ⟨HY.out.1, HY.out.2.1, HY.out.2.2, ar, cr, by rw [show M - 1 = j by omega], by rw [show M - 1 = j by omega]; exact HR.out, HFR.out⟩⟩
theorem rpath_is (B : Nat) (b : Option Addr) (L c : Nat) (f : Nat → ByteArray) (i : Int) (w : World) (h : TreeA B w b L c f) (hL : L ≤ 7) :
    Calls Tryd.prog 16 #[.slice b L c, .int .i64 i] w (PathPost L f i w) := by
  by_cases hy : L ≠ 0 ∧ 0 ≤ i ∧ i < 2 ^ (L - 1)
  · obtain ⟨h0, h1, h2⟩ := hy
    obtain ⟨K, rfl⟩ : ∃ K, L = K + 1 := ⟨L - 1, by omega⟩
    obtain ⟨n, rfl⟩ := Int.eq_ofNat_of_zero_le h1
    refine rpath_some B b K c f n w h (by omega) ?_
    have e : ((2 ^ K : Nat) : Int) = 2 ^ K := by simp
    rw [show K + 1 - 1 = K by omega, ← e] at h2
    omega
  · exact rpath_none B b L c f i w h hL hy
end Go.Proofs.YtmhpbgdchocoiaaDoor
namespace Go.Proofs.YtmhpbgdchocoiaaDoor
open Go Go.RowKit
set_option linter.unusedVariables false

def ClimbRel (w : World) (s0 : ByteArray) (i0 : Nat) (g : Nat → ByteArray) (n : Nat) (i s k : Value) (W : World) : Prop :=
  ∃ j : Nat, j ≤ n ∧ k = .int .i64 j ∧ i = .int .i64 ((i0 / 2 ^ j : Nat) : Int) ∧ s = .string (climbB s0 i0 g j) ∧ Below w.heap.size w W
set_option maxHeartbeats 1000000 in
theorem rclimb_is (s : ByteArray) (i : Nat) (a : Option Addr) (n c : Nat) (g : Nat → ByteArray) (w : World) (h : StrA w a n g) (hn : n ≤ 70) (hg : ∀ k, k < n → (g k).size ≤ 100) (hs : s.size ≤ 100) (hi : i ≤ 9223372036854775807) :
    Calls Tryd.prog 21 #[.string s, .int .i64 i, .slice a n c] w fun e w' => e = .returned (.string (climbB s i g n)) ∧ Below w.heap.size w w' := by
  have HG := Lib.hid hg; have HS := Lib.hid h
  have hsz := Lib.hid (climb_size s i g 100 hs (by omega))
  clear h hg
  go_enter Tryd.func21, Tryd.ntmps21
  go_upto_region 3 with fail
  go_loopw [1, 7, 8] (ClimbRel w s i g n) (fun _ _ k _ => n - (intOf k).toNat)
  case atStart => exact ⟨0, Nat.zero_le _, rfl, by simp, rfl, Below.refl _ _⟩
  case round =>
    obtain ⟨j, hj, rfl, rfl, rfl, hB⟩ := hrel
    by_cases hlt : j < n
    · obtain ⟨b, off, rfl, g0⟩ := HS.out.2 j hlt
      have g1 := bkeep hB g0
      clear g0
      have hlt' : (j : Int) < (n : Int) := by omega
      have h1 := HG.out j hlt
      have h2 := hsz.out j
      have hst := Lib.hid (show climbB s i g (j + 1) = if i / 2 ^ j % 2 = 0 then nodeB (climbB s i g j) (g j) else nodeB (g j) (climbB s i g j) from rfl)
      have hh := Lib.hid (half_pow i j)
      have hq : i / 2 ^ j ≤ 9223372036854775807 := Nat.le_trans (Nat.div_le_self _ _) hi
      generalize climbB s i g j = x at *
      generalize g j = y at *
      generalize i / 2 ^ j = q at *
      have hd : (q : Int).tdiv 2 = ((q / 2 : Nat) : Int) := by rw [Int.tdiv_eq_ediv_of_nonneg (by omega)]; omega
      have hd2 : IntKind.i64.wrap ((q / 2 : Nat) : Int) = ((q / 2 : Nat) : Int) := IntWalk.i64_in _ (by omega)
      by_cases hp : q % 2 = 0
      · have hm : (q : Int).tmod 2 = 0 := by rw [Int.tmod_eq_emod_of_nonneg (by omega)]; omega
        have kn := fun W => rlnode_is x y W (by omega)
        have hz := Lib.hid (hst.out.trans (if_pos hp))
        clear hst
        generalize nodeB x y = z at *
        go_wp2_with (go_at_call 23; ((with_reducible refine (kn _).mono ?_); rintro e w1 ⟨rfl, hb⟩; replace hB := bthen hB hb; clear hb))
        go_roundw
        case rel => exact ⟨j + 1, by omega, by go_num, by rw [hh.out]; go_num, by rw [hz.out], hB⟩
        case measure => simp [intOf]; omega
      · have hm : (q : Int).tmod 2 = 1 := by rw [Int.tmod_eq_emod_of_nonneg (by omega)]; omega
        have kn := fun W => rlnode_is y x W (by omega)
        have hz := Lib.hid (hst.out.trans (if_neg hp))
        clear hst
        generalize nodeB y x = z at *
        go_wp2_with (go_at_call 23; ((with_reducible refine (kn _).mono ?_); rintro e w1 ⟨rfl, hb⟩; replace hB := bthen hB hb; clear hb))
        go_roundw
        case rel => exact ⟨j + 1, by omega, by go_num, by rw [hh.out]; go_num, by rw [hz.out], hB⟩
        case measure => simp [intOf]; omega
    · obtain rfl : j = n := by omega
      go_wp2
      go_ret
      exact ⟨rfl, hB⟩
end Go.Proofs.YtmhpbgdchocoiaaDoor
namespace Go.Proofs.YtmhpbgdchocoiaaDoor
open Go Go.RowKit Go.Sort Go.BigFrame
set_option linter.unusedVariables false

theorem Open_alloc (W : World) (v0 v1 v2 : Value) (t : TypeId) : OpenV (W.alloc (.cells #[v0, v1, v2] t)) W.heap.size v0 v1 v2 := ⟨by simp [go_sem], by simp [go_sem], by simp [go_sem]⟩
theorem OpenV.lt {W : World} {g : Nat} {v0 v1 v2 : Value} (h : OpenV W g v0 v1 v2) : g < W.heap.size := World.block_lt_of_cell? W _ h.1
def LeadRel (w : World) (g0 : Nat) (v0 v1 v2 : Value) (g : Nat → ByteArray) (n : Nat) (i : Value) (W : World) : Prop :=
  ∃ k : Nat, k ≤ n ∧ i = .int .i64 k ∧ (∀ j, j < k → (g j).size = 32) ∧ OpenV W g0 v0 v1 v2 ∧ Below w.heap.size w W
set_option maxRecDepth 100000 in
set_option maxHeartbeats 4000000 in
theorem rleads_no (root : ByteArray) (depth i : Int) (x0 x1 : Value) (p : Option Addr) (n c : Nat) (w : World) (hd : -9223372036854775808 ≤ depth ∧ depth ≤ 9223372036854775807) (hi : -9223372036854775808 ≤ i ∧ i ≤ 9223372036854775807) (hno : ¬ (0 ≤ depth ∧ depth ≤ 40 ∧ 0 ≤ i ∧ i < 2 ^ depth.toNat ∧ (n : Int) = depth)) :
    Calls Tryd.prog 19 #[.string root, .int .i64 depth, .int .i64 i, .agg #[x0, x1, .slice p n c]] w fun e w' => e = .returned (.bool false) ∧ Below w.heap.size w w' := by
  have HB := Lib.hid (fun (t : TypeId) => (Below.refl w.heap.size w).alloc (Nat.le_refl _) (.cells #[x0, x1, .slice p n c] t))
  by_cases h1 : depth < 0
  · clear hno
    go_enter Tryd.func19, Tryd.ntmps19
    go_wp2
    go_ret
    exact ⟨rfl, HB.out _⟩
  by_cases h2 : depth > 40
  · clear hno
    go_enter Tryd.func19, Tryd.ntmps19
    go_wp2
    go_ret
    exact ⟨rfl, HB.out _⟩
  by_cases h3 : i < 0
  · clear hno
    go_enter Tryd.func19, Tryd.ntmps19
    go_wp2
    go_ret
    exact ⟨rfl, HB.out _⟩
  obtain ⟨d, rfl⟩ := Int.eq_ofNat_of_zero_le (show 0 ≤ depth by omega)
  have hw : IntKind.u64.wrap (d : Int) = (d : Int) := by rw [IntKind.wrap_u64]; omega
  have hp := wrap64_pow d (by omega)
  rw [Int.toNat_natCast] at hno
  have e : ((2 ^ d : Nat) : Int) = 2 ^ d := by simp
  rw [← e] at hno
  generalize hN : 2 ^ d = N at hp hno
  by_cases h4 : i ≥ (N : Int)
  · clear hno e
    go_enter Tryd.func19, Tryd.ntmps19
    go_wp2
    go_ret
    exact ⟨rfl, HB.out _⟩
  have h5 : ¬ (n : Int) = (d : Int) := fun c => hno ⟨by omega, by omega, by omega, by omega, c⟩
  clear hno e
  go_enter Tryd.func19, Tryd.ntmps19
  go_wp2
  go_ret
  exact ⟨rfl, HB.out _⟩
set_option maxRecDepth 100000 in
set_option maxHeartbeats 4000000 in
theorem rleads_yes (root : ByteArray) (d i : Nat) (a : Option Addr) (len cap : Nat) (zs : List Int) (b : Option Addr) (lenb capb : Nat) (qs : List (Int × Int)) (p : Option Addr) (c : Nat) (g : Nat → ByteArray) (w : World) (hr : RowA w a len zs) (hu : ∀ n ∈ zs, U n) (hq : QRowA w b lenb qs) (hv : ∀ n ∈ qs, U n.1 ∧ U n.2) (hl : len ≤ 10000) (hlb : lenb ≤ 10000)
    (hS : StrA w p d g) (hd : d ≤ 40) (hi : i < 2 ^ d) (hg : ∀ k, k < d → (g k).size ≤ 100) :
    Calls Tryd.prog 19 #[.string root, .int .i64 d, .int .i64 i, .agg #[.slice a len cap, .slice b lenb capb, .slice p d c]] w fun e w' => e = .returned (.bool (leadsB root d i (leafB (openB zs qs)) g d)) ∧ Below w.heap.size w w' := by
  obtain ⟨Z, hZ⟩ : ∃ Z, leadsB root d i (leafB (openB zs qs)) g d = Z := ⟨_, rfl⟩
  have HL : Hid (decide ((∀ k, k < d → (g k).size = 32) ∧ climbB (leafB (openB zs qs)) i g d = root) = Z) := Lib.hid (by
    rw [← hZ]
    unfold leadsB
    have e : ((2 ^ d : Nat) : Int) = 2 ^ d := by simp
    refine decide_eq_decide.2 ⟨fun h => ⟨by omega, by omega, by omega, ?_, rfl, h⟩, fun h => h.2.2.2.2.2⟩
    rw [Int.toNat_natCast, ← e]; omega)
  rw [hZ]
  clear hZ
  have ko := fun (W : World) (hb : Below w.heap.size w W) => rlof_is a len cap zs b lenb capb qs (.slice p d c) W (hr.keep hb) hu (hq.keep hb) hv hl hlb
  have hsz := leafB_size (openB zs qs)
  have hp40 : 2 ^ d ≤ 2 ^ 40 := Nat.pow_le_pow_right (by decide) hd
  have h40 : (2 : Nat) ^ 40 = 1099511627776 := rfl
  have kc := fun (W : World) (hb : Below w.heap.size w W) => rclimb_is (leafB (openB zs qs)) i p d c g W (hS.keep hb) (by omega) hg (by omega) (by omega)
  have hw : IntKind.u64.wrap (d : Int) = (d : Int) := by rw [IntKind.wrap_u64]; omega
  have hp := wrap64_pow d (by omega)
  have hd0 : ¬ (d : Int) < 0 := by omega
  have hd40 : ¬ (d : Int) > 40 := by omega
  have hi0 : ¬ (i : Int) < 0 := by omega
  have hiN : ¬ (i : Int) ≥ ((2 ^ d : Nat) : Int) := by omega
  have HSS := Lib.hid hS
  have HB0 := Lib.hid (fun (t : TypeId) => (Below.refl w.heap.size w).alloc (Nat.le_refl _) (.cells #[.slice a len cap, .slice b lenb capb, .slice p d c] t))
  clear hr hq hS hg
  generalize leafB (openB zs qs) = s0 at *
  generalize 2 ^ d = N at hp hiN
  go_enter Tryd.func19, Tryd.ntmps19
  go_upto_region 4 with fail
  refine wp_gen (fun W => Below w.heap.size w W ∧ OpenV W w.heap.size (.slice a len cap) (.slice b lenb capb) (.slice p d c)) ⟨HB0.out _, by simp [go_sem], by simp [go_sem], by simp [go_sem]⟩ ?_
  rintro W1 ⟨hB, hX⟩
  clear HB0 hd0 hd40 hi0 hiN hw hp
  go_loopw [9] (LeadRel w w.heap.size (.slice a len cap) (.slice b lenb capb) (.slice p d c) g d) (fun i _ => d - (intOf i).toNat)
  case atStart => exact ⟨0, Nat.zero_le _, rfl, fun j hj => by omega, hX, hB⟩
  case round =>
    clear hB hX
    obtain ⟨k, hk, rfl, hz, ⟨x0, x1, x2⟩, hB⟩ := hrel
    by_cases hlt : k < d
    · obtain ⟨bb, off, rfl, c0⟩ := HSS.out.2 k hlt
      have c1 := bkeep hB c0
      have hlt' : (k : Int) < (d : Int) := by omega
      by_cases h32 : (g k).size = 32
      · have HZ := Lib.hid (show ∀ j, j < k + 1 → (g j).size = 32 from fun j hj => by
          by_cases e : j = k
          · subst e; exact h32
          · exact hz j (by omega))
        have h32' : ((g k).size : Int) = 32 := by omega
        clear hz c0
        generalize g k = y at *
        go_wp2_with fail
        go_roundw
        case rel => exact ⟨k + 1, by omega, by go_num, HZ.out, ⟨x0, x1, x2⟩, hB⟩
        case measure => simp [intOf]; omega
      · have h32' : ¬ ((g k).size : Int) = 32 := by omega
        have HV : Hid (false = Z) := Lib.hid ((decide_eq_false fun h => h32 (h.1 k hlt)).symm.trans HL.out)
        clear hz c0
        generalize g k = y at *
        go_wp2_with fail
        go_ret
        exact ⟨by rw [← HV.out]; rfl, hB⟩
    · obtain rfl : k = d := by omega
      have HV : Hid ((( climbB s0 i g k).toList == root.toList) = Z) := Lib.hid ((beq_bytes _ _).trans ((decide_eq_decide.2 ⟨fun h => ⟨hz, h⟩, fun h => h.2⟩).trans HL.out))
      generalize climbB s0 i g k = cc at *
      clear hz hlt
      go_upto_region 8 with fail
      replace x0 := fun q : Regrown => cell_regrown x0 q.d q.os
      replace x1 := fun q : Regrown => cell_regrown x1 q.d q.os
      replace x2 := fun q : Regrown => cell_regrown x2 q.d q.os
      refine wp_region_quiet_below (by kernel_rfl) (by kernel_rfl) ?_
      repeat (first | go_big_quiet_step (first
        | (go_at_call 17; with_reducible exact Calls.regrown_of (ko _ (bthen hB (below_regrown wr _ _))))
        | (go_at_call 21; with_reducible exact Calls.regrown_of (kc _ (bthen hB (below_regrown wr _ _))))) | quiet_step (fail))
      refine wpQuiet_nil ?_
      rintro _ ⟨pq, rfl⟩
      replace hB := bthen hB (below_regrown wr pq.d pq.os)
      go_wp2
      go_ret
      exact ⟨by rw [← HV.out]; rfl, hB⟩
theorem leadsB_no {root : ByteArray} {depth i : Int} {s : ByteArray} {g : Nat → ByteArray} {n : Nat} (h : ¬ (0 ≤ depth ∧ depth ≤ 40 ∧ 0 ≤ i ∧ i < 2 ^ depth.toNat ∧ (n : Int) = depth)) : leadsB root depth i s g n = false := by
  unfold leadsB
  exact decide_eq_false fun x => h ⟨x.1, x.2.1, x.2.2.1, x.2.2.2.1, x.2.2.2.2.1⟩
theorem rleads_is (root : ByteArray) (depth i : Int) (a : Option Addr) (len cap : Nat) (zs : List Int) (b : Option Addr) (lenb capb : Nat) (qs : List (Int × Int)) (p : Option Addr) (n c : Nat) (g : Nat → ByteArray) (w : World) (hr : RowA w a len zs) (hu : ∀ n ∈ zs, U n) (hq : QRowA w b lenb qs) (hv : ∀ n ∈ qs, U n.1 ∧ U n.2) (hl : len ≤ 10000) (hlb : lenb ≤ 10000)
    (hS : StrA w p n g) (hg : ∀ k, k < n → (g k).size ≤ 100) (hd : -9223372036854775808 ≤ depth ∧ depth ≤ 9223372036854775807) (hi : -9223372036854775808 ≤ i ∧ i ≤ 9223372036854775807) :
    Calls Tryd.prog 19 #[.string root, .int .i64 depth, .int .i64 i, .agg #[.slice a len cap, .slice b lenb capb, .slice p n c]] w fun e w' => e = .returned (.bool (leadsB root depth i (leafB (openB zs qs)) g n)) ∧ Below w.heap.size w w' := by
  by_cases hy : 0 ≤ depth ∧ depth ≤ 40 ∧ 0 ≤ i ∧ i < 2 ^ depth.toNat ∧ (n : Int) = depth
  · obtain ⟨h1, h2, h3, h4, h5⟩ := hy
    subst h5
    obtain ⟨m, rfl⟩ := Int.eq_ofNat_of_zero_le h3
    rw [Int.toNat_natCast] at h4
    have e : ((2 ^ n : Nat) : Int) = 2 ^ n := by simp
    rw [← e] at h4
    exact rleads_yes root n m a len cap zs b lenb capb qs p c g w hr hu hq hv hl hlb hS (by omega) (by omega) hg
  · rw [leadsB_no hy]
    exact rleads_no root depth i _ _ p n c w hd hi hy
end Go.Proofs.YtmhpbgdchocoiaaDoor
namespace Go.Proofs.YtmhpbgdchocoiaaDoor
open Go Go.RowKit
set_option linter.unusedVariables false

theorem infoSS : (Tryd.prog.info? 22).map (fun i => (i.zero, i.size, i.bytes)) = some (some (.slice none 0 0), 1, 24) := by kernel_rfl
theorem MadeG.base {e : TypeId} {w W1 W : World} {v : Value} {xs : List Value} (h : MadeG e W1 W v xs) (hb : Below w.heap.size w W1) : MadeG e w W v xs := ⟨h.1.mono hb.size, bthen hb h.2⟩
def rowsV (rs : Nat → Value) (k : Nat) : List Value := (List.range k).map rs
theorem rowsV_len (rs : Nat → Value) (k : Nat) : (rowsV rs k).length = k := by simp [rowsV]
theorem rowsV_snoc (rs : Nat → Value) (v : Value) (k : Nat) : rowsV rs k ++ [v] = rowsV (fun j => if j = k then v else rs j) (k + 1) := by
  simp only [rowsV, List.range_succ, List.map_append, List.map_cons, List.map_nil, if_true]
  congr 1
  refine List.map_congr_left fun j hj => ?_
  rw [if_neg (by have := List.mem_range.1 hj; omega)]
theorem rowsV_at (rs : Nat → Value) {k j : Nat} (h : j < k) : (rowsV rs k).getD j undef = rs j := by simp [rowsV, List.getD, h]
/-- Rows of a tree under way: the first k + 1 are there. -/
def TreeUp (w W : World) (v : Value) (K k : Nat) (f : Nat → ByteArray) : Prop := ∃ rs : Nat → Value, MadeG 22 w W v (rowsV rs (k + 1)) ∧ ∀ j, j ≤ k → MadeG 9 w W (rs j) (strV (lev f j) (2 ^ (K - j)))
theorem TreeUp.keep {w W W' : World} {v : Value} {K k : Nat} {f : Nat → ByteArray} (h : TreeUp w W v K k f) (hb : Below W.heap.size W W') : TreeUp w W' v K k f := by
  obtain ⟨rs, h1, h2⟩ := h
  exact ⟨rs, h1.keep hb, fun j hj => (h2 j hj).keep hb⟩
theorem TreeUp.below {w W : World} {v : Value} {K k : Nat} {f : Nat → ByteArray} (h : TreeUp w W v K k f) : Below w.heap.size w W := by
  obtain ⟨rs, h1, h2⟩ := h
  exact h1.2
theorem TreeUp.first {w W W' : World} {v v' : Value} {K : Nat} {f : Nat → ByteArray} (h : MadeG 9 w W v (strV f (2 ^ K))) (h' : MadeG 22 w W' v' [v]) (hb : Below W.heap.size W W') : TreeUp w W' v' K 0 f :=
  ⟨fun _ => v, h', fun j hj => by
    have e : j = 0 := by omega
    subst e
    exact h.keep hb⟩
/-- One row more. -/
theorem TreeUp.more {w W W' : World} {v v' u : Value} {K k : Nat} {f : Nat → ByteArray} {rs : Nat → Value} (h1 : MadeG 22 w W v (rowsV rs (k + 1))) (h2 : ∀ j, j ≤ k → MadeG 9 w W (rs j) (strV (lev f j) (2 ^ (K - j))))
    (hu : MadeG 9 w W u (strV (lev f (k + 1)) (2 ^ (K - (k + 1))))) (hg : W.grownBy W' v.ownBlock) (h1' : MadeG 22 w W' v' (rowsV rs (k + 1) ++ [u])) : TreeUp w W' v' K (k + 1) f := by
  refine ⟨fun j => if j = k + 1 then u else rs j, by rw [← rowsV_snoc]; exact h1', fun j hj => ?_⟩
  have hge := own_ge h1.1
  by_cases e : j = k + 1
  · subst e
    simp only [if_true]
    exact hu.kept hg (own_unlike hu.1 h1.1 (by decide)) hge
  · simp only [if_neg e]
    exact (h2 j (by omega)).kept hg (own_unlike (h2 j (by omega)).1 h1.1 (by decide)) hge
def lenS : Value → Nat
  | .slice _ n _ => n
  | _ => 0
/-- What such rows read as. -/
theorem TreeUp.tree {w W : World} {v : Value} {K : Nat} {f : Nat → ByteArray} (h : TreeUp w W v K K f) : ∃ a c, v = .slice a (K + 1) c ∧ TreeA w.heap.size W a (K + 1) c f := by
  obtain ⟨rs, h1, h2⟩ := h
  obtain ⟨a, c, e1, e2, e3, e4, e5⟩ := h1.row
  rw [rowsV_len] at e1 e2 e4 e5
  subst e1
  refine ⟨a, c, rfl, e2, e3, e4, fun k hk => ?_⟩
  obtain ⟨b, off, rfl, hc⟩ := e5 k hk
  have hfr := h1.fresh _ rfl
  rw [rowsV_at rs hk] at hc
  have h2k := h2 k (by omega)
  obtain ⟨ak, ck, hv, hs⟩ := h2k.strs
  rw [hv] at hc h2k
  exact ⟨b, off, rfl, hfr, ak, ck, by rw [show K + 1 - 1 - k = K - k by omega]; exact hc, by rw [show K + 1 - 1 - k = K - k by omega]; exact hs.2.1, hs.2.2.1, h2k.fresh, by rw [show K + 1 - 1 - k = K - k by omega]; exact hs.1⟩
/-- The row that was laid last. -/
theorem TreeUp.last {w W : World} {v : Value} {K k : Nat} {f : Nat → ByteArray} (h : TreeUp w W v K k f) : ∃ b off c ak ck, v = .slice (some ⟨b, off, none⟩) (k + 1) c ∧ W.cell? ⟨b, off + k, none⟩ = some (.slice ak (2 ^ (K - k)) ck) ∧ StrS W ak (2 ^ (K - k)) ck (lev f k) := by
  obtain ⟨rs, h1, h2⟩ := h
  obtain ⟨a, c, e1, e2, e3, e4, e5⟩ := h1.row
  rw [rowsV_len] at e1 e5
  obtain ⟨b, off, rfl, hc⟩ := e5 k (by omega)
  rw [rowsV_at rs (by omega)] at hc
  obtain ⟨ak, ck, hv, hs⟩ := (h2 k (by omega)).strs
  rw [hv] at hc
  exact ⟨b, off, c, ak, ck, e1, hc, hs⟩
theorem lg_rows : ∀ n : Nat, n ≤ 70 → lg (n : Int) = (rowsN n : Int) - 1 := by decide +kernel
def RBuildR (v5 last i i1 p0 p1 : Value) (x y z : ByteArray) (sl : Nat) (v : Value) (W : World) : Prop :=
  match sl with
  | 36 => v = v5
  | 37 => v = last
  | 38 => v = i
  | 39 => v = p0
  | 40 => v = .string x
  | 41 => v = last
  | 42 => v = i
  | 43 => v = i1
  | 44 => v = p1
  | 45 => v = .string y
  | 46 => v = .string z
  | _ => ∃ g : Nat, v = .slice (some ⟨g, 0, none⟩) 1 1 ∧ W.cell? ⟨g, 0, none⟩ = some (.string z)
theorem RBuildR.keep {v5 last i i1 p0 p1 : Value} {x y z : ByteArray} {sl : Nat} {v : Value} {W W' : World} (h : RBuildR v5 last i i1 p0 p1 x y z sl v W) (hb : Below W.heap.size W W') : RBuildR v5 last i i1 p0 p1 x y z sl v W' := by
  unfold RBuildR at h ⊢
  split at h <;> first | exact h | (obtain ⟨g, h1, h2⟩ := h; exact ⟨g, h1, bkeep hb h2⟩)
def BuildRel (w : World) (K : Nat) (f : Nat → ByteArray) (o : Value) (W : World) : Prop := ∃ k, k ≤ K ∧ TreeUp w W o K k f
def BuildRow (w W1 : World) (o : Value) (K k M : Nat) (f : Nat → ByteArray) (r i : Value) (W : World) : Prop := ∃ j : Nat, j ≤ M ∧ i = .int .i64 (2 * j : Nat) ∧ MadeG 9 W1 W r (strV (lev f (k + 1)) j)
theorem rbuild_no (a : Option Addr) (n c : Nat) (f : Nat → ByteArray) (w : World) (hn : n ≤ 70) (h0 : rowsN n = 0) :
    Calls Tryd.prog 11 #[.slice a n c] w fun e w' => Below w.heap.size w w' ∧ ∃ b cb, e = .returned (.slice b (rowsN n) cb) ∧ TreeA w.heap.size w' b (rowsN n) cb f := by
  have hl := lg_rows n hn
  rw [h0] at hl
  have kl := fun W => reflog_is (n : Int) (-1) (by unfold I64; omega) (by rw [hl]; rfl) W
  rw [h0]
  clear hl
  go_enter Tryd.func11, Tryd.ntmps11
  go_wp2_with (go_at_call 27; ((with_reducible refine (kl _).mono ?_); rintro e w1 ⟨rfl, rfl⟩))
  go_ret
  exact ⟨Below.refl _ _, none, 0, rfl, by omega, by unfold maxLen; omega, fun _ => ⟨rfl, rfl⟩, fun k hk => by omega⟩
set_option maxRecDepth 100000 in
set_option maxHeartbeats 4000000 in
theorem rbuild_yes (a : Option Addr) (K c : Nat) (f : Nat → ByteArray) (w : World) (hK : K ≤ 6) (hS : StrS w a (2 ^ K) c f) (hf : ∀ j, j < 2 ^ K → (f j).size ≤ 100) :
    Calls Tryd.prog 11 #[.slice a (2 ^ K : Nat) c] w fun e w' => Below w.heap.size w w' ∧ ∃ b cb, e = .returned (.slice b (K + 1) cb) ∧ TreeA w.heap.size w' b (K + 1) cb f := by
  obtain ⟨i0, hi, hz0, hz1, hz2⟩ := info_parts infoS
  obtain ⟨i1, ki, kz0, kz1, kz2⟩ := info_parts infoSS
  have h64 : 2 ^ K ≤ 64 := Nat.le_trans (Nat.pow_le_pow_right (by decide) hK) (by decide)
  have hl := lg_rows (2 ^ K) (by omega)
  rw [rowsN_two hK] at hl
  have HSZ : Hid (∀ k, k ≤ K → ∀ j, j < 2 ^ (K - k) → (lev f k j).size ≤ 100) := Lib.hid fun k hk j hj => lev_size f 100 k (2 ^ (K - k)) (fun j hj => hf j (by rw [← Nat.pow_add, show K - k + k = K by omega] at hj; exact hj)) (by omega) j hj
  obtain ⟨N0, hN0⟩ : ∃ N, 2 ^ K = N := ⟨_, rfl⟩
  rw [hN0] at hl h64 ⊢
  have kl := fun W => reflog_is (N0 : Int) (K : Int) (by unfold I64; omega) (by rw [hl]; omega) W
  obtain ⟨hstr, hnc, hcm, hnil⟩ := hS
  rw [hN0] at hstr hnc hnil
  clear hf hl
  go_enter Tryd.func11, Tryd.ntmps11
  go_upto_region 3 with (go_at_call 27; ((with_reducible refine (kl _).mono ?_); rintro e w1 ⟨rfl, rfl⟩))
  clear kl
  have hE : w.heap.size < (w.alloc (.cells #[] 9)).heap.size := by simp
  go_upto_region 4 with (at_builtin; refine wpList_append_str rfl _ _ 22 rfl w.heap.size 9 i0 (.string ⟨#[]⟩) 16 Tryd.underlying22 hi hz0 hz1 hz2 rfl _ 0 [] rfl (own_none _ _ _ (Nat.le_refl _)) a N0 c f rfl hnil (hstr.keep ((Below.refl _ _).alloc (Nat.le_refl _) _)) (by unfold maxLen; omega) (by omega) (by simp) ?_; rintro v' w' h1 h2; obtain ⟨av, cv, rfl⟩ := own_form h1)
  simp only [Nat.zero_add, List.nil_append] at h1
  have hB := below_own2 ((Below.refl w.heap.size w).alloc (Nat.le_refl _) _) h2 (fun k hk => by cases hk; exact Nat.le_refl _) (by simp)
  have hM0 : MadeG 9 w w' (.slice av N0 cv) (strV f N0) := ⟨by rw [strV_len]; exact h1, hB⟩
  have hbn := (Below.refl w'.heap.size w').alloc (Nat.le_refl _) (.cells #[.slice av N0 cv] 22)
  refine wp_gen (fun W => TreeUp w W (.slice (some ⟨w'.heap.size, 0, none⟩) 1 1) K 0 f) (TreeUp.first (v := .slice av N0 cv) (by rw [hN0]; exact hM0) ⟨own_new _ _ _ _ hB.size, bthen hB hbn⟩ hbn) ?_
  clear h1 h2 hB hM0 hbn hE
  rintro W0 hT
  have HT0 := Lib.hid hT
  clear hT hstr hnc hcm hnil h64
  go_loopw [3] (fun o W => BuildRel w K f o W) (fun o _ => K + 1 - lenS o)
  case atStart => exact ⟨0, Nat.zero_le _, HT0.out⟩
  case round =>
    clear HT0
    obtain ⟨k, hk, hT⟩ := hrel
    obtain ⟨b1, off1, c1, ak, ck, rfl, hcell, hS⟩ := hT.last
    obtain ⟨L1, hL1⟩ : ∃ L1, k + 1 = L1 := ⟨_, rfl⟩
    rw [hL1] at hT ⊢
    have hw : IntKind.i64.wrap ((L1 : Int) - 1) = (k : Int) := by rw [IntWalk.i64_in _ (by omega)]; omega
    have hw2 : wrap64 ((L1 : Int) - 1) = (k : Int) := by rw [IntWalk.wrap64_in _ (by omega)]; omega
    have hk1 : (k : Int) < (L1 : Int) := by omega
    have hk0 : 0 ≤ (k : Int) := by omega
    by_cases hlt : k < K
    · obtain ⟨m, hm⟩ : ∃ m, K - k = m + 1 := ⟨K - k - 1, by omega⟩
      have hN : 2 ^ (K - k) = 2 * 2 ^ m := by rw [hm, Nat.pow_succ, Nat.mul_comm]
      have hKm : 2 ^ (K - (k + 1)) = 2 ^ m := by rw [show K - (k + 1) = m by omega]
      have hsz := HSZ.out k hk
      rw [hN] at hcell hS hsz
      have hM64 : 2 ^ m ≤ 2 ^ 6 := Nat.pow_le_pow_right (by decide) (by omega)
      have h64 : (2 : Nat) ^ 6 = 64 := rfl
      have hMp : 0 < 2 ^ m := Nat.pow_pos (by decide)
      generalize 2 ^ m = M at *
      obtain ⟨N, hN2⟩ : ∃ N, 2 * M = N := ⟨_, rfl⟩
      rw [hN2] at hcell hS hsz
      have hgt : (N : Int) > 1 := by omega
      have HT := Lib.hid hT; have HS := Lib.hid hS.1; have HZ := Lib.hid hsz
      clear hT hS hsz hN
      go_upto_region 8 with fail
      rename World => W1
      go_loopw [5, 6] (fun r i W => BuildRow w W1 (.slice (some ⟨b1, off1, none⟩) L1 c1) K k M f r i W) (fun _ i _ => 2 * M - (intOf i).toNat)
      case atStart => exact ⟨0, Nat.zero_le _, rfl, by simp [strV]; exact MadeG.start _ _⟩
      case round =>
        obtain ⟨j, hj, rfl, hM⟩ := hrel
        by_cases hjl : j < M
        · obtain ⟨b, off, rfl, cx0⟩ := HS.out.2 (2 * j) (by omega)
          obtain ⟨b', off', e, cy0⟩ := HS.out.2 (2 * j + 1) (by omega)
          cases e
          have cx := bkeep hM.2 cx0; have cy := bkeep hM.2 cy0
          have kn := fun W => rlnode_is (lev f k (2 * j)) (lev f k (2 * j + 1)) W (by have h1 := HZ.out (2 * j) (by omega); have h2 := HZ.out (2 * j + 1) (by omega); omega)
          have HSN := Lib.hid (strV_snoc (lev f (k + 1)) j)
          have hz : nodeB (lev f k (2 * j)) (lev f k (2 * j + 1)) = lev f (k + 1) j := rfl
          rw [hz] at kn
          clear cx0 cy0 hz
          have HSN' : Hid (strV (lev f (k + 1)) j ++ [.string (lev f (k + 1) j)] = strV (lev f (k + 1)) (j + 1)) := HSN
          clear HSN
          generalize hzz : lev f (k + 1) j = z at *
          generalize lev f k (2 * j) = x at *
          generalize lev f k (2 * j + 1) = y at *
          have hlen := strV_len (lev f (k + 1)) j
          have hown := hM.1
          have hsz := hM.2.size
          have HT2 := Lib.hid (fun (W : World) (hb : Below wr.heap.size wr W) w1 v' => @MadeG.grow 9 W1 W w1 _ v' _ (.string z) (hM.keep hb))
          have HMB := Lib.hid hM
          clear hM
          generalize hJ : 2 * j = J at *
          have hl1 : (J : Int) + 1 < (N : Int) := by omega
          have hl0 : (J : Int) < (N : Int) := by omega
          have ht1 : ((J : Int) + 1).toNat = J + 1 := by omega
          have hp1 : 0 ≤ (J : Int) + 1 := by omega
          have hw3 : wrap64 ((J : Int) + 1) = (J : Int) + 1 := IntWalk.wrap64_in _ (by omega)
          have hw4 : IntKind.i64.wrap ((J : Int) + 1) = (J : Int) + 1 := IntWalk.i64_in _ (by omega)
          go_upto_region 10 with fail
          refine wp_loose [(36, []), (37, []), (38, []), (39, [37, 38]), (40, [39]), (41, []), (42, []), (43, [42]), (44, [41, 43]), (45, [44]), (46, [40, 45]), (47, [46])]
            (RBuildR u5 (.slice (some ⟨b, off, none⟩) N ck) (.int .i64 (J : Int)) (.int .i64 ((J : Int) + 1)) (.pointer (some ⟨b, off + J, none⟩)) (.pointer (some ⟨b, off + (J + 1), none⟩)) x y z) (fun d => false) (by kernel_rfl) (by kernel_rfl) (fun _ _ _ _ h hb => h.keep hb) ?_ ?_
          · refine opsrun_cons ?_ (opsrun_cons ?_ (opsrun_cons ?_ (opsrun_cons ?_ (opsrun_cons ?_ (opsrun_cons ?_ (opsrun_cons ?_ (opsrun_cons ?_ (opsrun_cons ?_ (opsrun_cons ?_ (opsrun_cons ?_ (opsrun_cons ?_ opsrun_nil)))))))))))
            all_goals
              refine OpRuns.any ?_
              intro Q0 σ W' K hb hn hK
              simp only [fill, List.map, Act.put, List.setIfInBounds_toArray, List.set_cons_zero, List.set_cons_succ] at hK ⊢
            · clear hn
              go_simp
              exact hK _ _ rfl (Below.refl _ _) (fun h => absurd h (by decide))
            · clear hn
              go_simp
              exact hK _ _ rfl (Below.refl _ _) (fun h => absurd h (by decide))
            · clear hn
              go_simp
              exact hK _ _ rfl (Below.refl _ _) (fun h => absurd h (by decide))
            · have h37 : σ 37 = _ := hn 37 (by decide)
              have h38 : σ 38 = _ := hn 38 (by decide)
              clear hn
              simp only [h37, h38] at hK
              go_simp
              exact hK _ _ rfl (Below.refl _ _) (fun h => absurd h (by decide))
            · have h39 : σ 39 = _ := hn 39 (by decide)
              clear hn
              simp only [h39] at hK
              have cx' := bkeep hb cx
              clear cx
              go_simp
              exact hK _ _ rfl (Below.refl _ _) (fun h => absurd h (by decide))
            · clear hn
              go_simp
              exact hK _ _ rfl (Below.refl _ _) (fun h => absurd h (by decide))
            · clear hn
              go_simp
              exact hK _ _ rfl (Below.refl _ _) (fun h => absurd h (by decide))
            · have h42 : σ 42 = _ := hn 42 (by decide)
              clear hn
              simp only [h42] at hK
              go_simp
              exact hK _ _ rfl (Below.refl _ _) (fun h => absurd h (by decide))
            · have h41 : σ 41 = _ := hn 41 (by decide)
              have h43 : σ 43 = _ := hn 43 (by decide)
              clear hn
              simp only [h41, h43] at hK
              go_simp
              exact hK _ _ rfl (Below.refl _ _) (fun h => absurd h (by decide))
            · have h44 : σ 44 = _ := hn 44 (by decide)
              clear hn
              simp only [h44] at hK
              have cy' := bkeep hb cy
              clear cy
              go_simp
              exact hK _ _ rfl (Below.refl _ _) (fun h => absurd h (by decide))
            · have h40 : σ 40 = _ := hn 40 (by decide)
              have h45 : σ 45 = _ := hn 45 (by decide)
              clear hn
              simp only [h40, h45] at hK
              go_simp
              go_at_call 23
              refine (kn _).mono ?_
              rintro e w1 ⟨rfl, hb1⟩
              exact hK _ _ rfl hb1 (fun h => absurd h (by decide))
            · have h46 : σ 46 = _ := hn 46 (by decide)
              clear hn
              simp only [h46] at hK
              go_simp
              exact hK _ _ ⟨W'.heap.size, rfl, by simp [go_sem]⟩ ((Below.refl _ _).alloc (Nat.le_refl _) _) (fun h => absurd h (by decide))
          intro σ W' hb hR hF
          have h36 : σ 36 = u5 := hR 36 (by decide)
          obtain ⟨g47, h47, c47⟩ : ∃ g : Nat, σ 47 = .slice (some ⟨g, 0, none⟩) 1 1 ∧ W'.cell? ⟨g, 0, none⟩ = some (.string z) := hR 47 (by decide)
          have hown' := (HMB.out.keep hb).1
          have hsz' := (HMB.out.keep hb).2.size
          have HT3 := Lib.hid (HT2.out W' hb)
          clear hR hF hown hsz HT2 HMB cx cy kn
          generalize strV (lev f (k + 1)) j = xs at *
          simp only [fill, List.map, Act.put, List.setIfInBounds_toArray, List.set_cons_zero, List.set_cons_succ, List.length_cons, List.length_nil, List.drop_succ_cons, List.drop_zero, Nat.reduceAdd, h36, h47]
          go_wp2_with (at_builtin; refine wpList_append_own _ rfl _ _ 22 rfl W1.heap.size 9 i0 (.string ⟨#[]⟩) 1 16 Tryd.underlying22 hi hz0 hz1 hz2 rfl (by decide) _ _ _ rfl hown' ⟨g47, 0, none⟩ 1 1 [.string z] rfl rfl ?c1 ?c2 ?c3 ?c4 ?c5 ?_)
          case c1 => exact one_src c47
          case c2 => first | rfl | (intro u hu; simp at hu; subst hu; rfl)
          case c3 => unfold maxLen; omega
          case c4 => omega
          case c5 => exact hsz'
          · intro v' w3 hown2 hgrow _
            have R := Lib.hid (HT3.out w3 v' (by rw [hlen]; exact hown2) hgrow)
            clear hown2 hgrow hown' HT3
            go_wp2_with fail
            go_roundw
            case rel => exact ⟨j + 1, by omega, by rw [← hJ]; go_num, by rw [← HSN'.out]; exact R.out⟩
            case measure => simp [intOf]; omega
        · obtain rfl : j = M := by omega
          obtain ⟨rs, hO, hRs⟩ := HT.out.keep hM.2
          have hlen := strV_len (lev f (k + 1)) j
          have hlo := rowsV_len rs (k + 1)
          obtain ⟨a5, c5, hv5⟩ := own_form hM.1
          rw [hlen] at hv5
          subst hv5
          have hown := hO.1
          have hsz := hO.2.size
          have HO := Lib.hid hO; have HRs := Lib.hid hRs
          have HU := Lib.hid (hM.base (w := w) HT.out.below)
          have hnot : ¬ (N : Int) + 1 < (N : Int) := by omega
          clear hM hO hRs
          have HX := Lib.hid (fun (o : Obj) w1 v' xs (hx : xs = rowsV rs (k + 1)) (h1 : w1.ownsRow w.heap.size 22 1 v' (xs.length + 1) (xs ++ [.slice a5 j c5])) (hg : (wr.alloc o).grownBy w1 (Value.slice (some ⟨b1, off1, none⟩) L1 c1).ownBlock) =>
            TreeUp.more (K := K) (f := f) (HO.out.keep ((Below.refl _ _).alloc (Nat.le_refl _) o)) (fun j hj => (HRs.out j hj).keep ((Below.refl _ _).alloc (Nat.le_refl _) o)) (by rw [hKm]; exact HU.out.keep ((Below.refl _ _).alloc (Nat.le_refl _) o)) hg (by subst hx; exact (HO.out.keep ((Below.refl _ _).alloc (Nat.le_refl _) o)).grow h1 hg))
          obtain ⟨xs, hxs⟩ : ∃ xs, rowsV rs (k + 1) = xs := ⟨_, rfl⟩
          rw [hxs] at hown hlo
          have HXS := Lib.hid hxs.symm
          clear HO HRs HU hxs
          go_wp2_with (at_builtin; refine wpList_append_own _ rfl _ _ 25 rfl w.heap.size 22 i1 (.slice none 0 0) 1 24 Tryd.underlying25 ki kz0 kz1 kz2 rfl (by decide) _ _ _ rfl (hown.alloc _) ⟨wr.heap.size, 0, none⟩ 1 1 [.slice a5 j c5] rfl rfl ?c1 ?c2 ?c3 ?c4 ?c5 ?_)
          case c2 => rfl
          case c3 => unfold maxLen; omega
          case c4 => omega
          case c5 => omega
          · intro v' w3 hown2 hgrow _
            have R := Lib.hid (HX.out _ w3 v' xs HXS.out (by rw [hlo, hL1]; exact hown2) hgrow)
            obtain ⟨a9, c9, rfl⟩ := own_form hown2
            clear hown2 hgrow hown HX HXS
            go_wp2_with fail
            go_roundw
            case rel => exact ⟨k + 1, by omega, R.out⟩
            case measure => simp [lenS]; omega
    · obtain rfl : k = K := by omega
      obtain ⟨at', ct, e, hA⟩ := hT.tree
      rw [hL1] at e
      cases e
      have HA := Lib.hid hA
      have HB := Lib.hid hT.below
      rw [Nat.sub_self, Nat.pow_zero] at hcell
      clear hT hS hA
      go_wp2
      go_ret
      exact ⟨HB.out, _, _, by rw [hL1]; rfl, HA.out⟩
theorem rbuild_is (a : Option Addr) (n c : Nat) (f : Nat → ByteArray) (w : World) (hS : StrS w a n c f) (hn : n ≤ 70) (hf : ∀ j, j < n → (f j).size ≤ 100) :
    Calls Tryd.prog 11 #[.slice a n c] w fun e w' => Below w.heap.size w w' ∧ ∃ b cb, e = .returned (.slice b (rowsN n) cb) ∧ TreeA w.heap.size w' b (rowsN n) cb f := by
  by_cases h0 : rowsN n = 0
  · exact rbuild_no a n c f w hn h0
  · have e := rowsN_pow h0
    have h7 := rowsN_le n
    obtain ⟨K, hK⟩ : ∃ K, rowsN n = K + 1 := ⟨rowsN n - 1, by omega⟩
    rw [hK, show K + 1 - 1 = K by omega] at e
    subst e
    rw [hK]
    exact rbuild_yes a K c f w (by omega) hS hf
end Go.Proofs.YtmhpbgdchocoiaaDoor
namespace Go.Proofs.YtmhpbgdchocoiaaDoor
open Go Go.RowKit
set_option linter.unusedVariables false

theorem vbase_low {h g : Nat → Int} (e : ∀ j, j < 8 → h j = g j) (j : Nat) : vbase h j = vbase g j := by
  unfold vbase
  split
  · next c => exact e j c
  · rfl
theorem vfirst_low {h g : Nat → Int} (e : ∀ j, j < 8 → h j = g j) (n : Int) (last : Bool) (j : Nat) : vfirst h n last j = vfirst g n last j := by
  have : vbase h = vbase g := funext (vbase_low e)
  unfold vfirst
  rw [this]
theorem press_low {h g : Nat → Int} (e : ∀ j, j < 8 → h j = g j) (b : Nat → Int) (n : Int) (last : Bool) (j : Nat) (hj : j < 8) : press h b n last j = press g b n last j := by
  have : vfirst h n last = vfirst g n last := funext (vfirst_low e n last)
  unfold press
  rw [this, e j hj]
def hseqL (s : ByteArray) : Nat → List Int
  | 0 => (List.range 8).map h0
  | k + 1 => pressL (fl (hseqL s k)) (blkOf s (64 * k)) (64 * ((k : Int) + 1)) false
theorem hseqL_is (s : ByteArray) : ∀ k j, j < 8 → hseq s k j = fl (hseqL s k) j
  | 0, j, hj => by
    show h0 j = _
    unfold fl hseqL
    simp [List.getD, hj]
  | k + 1, j, hj => by
    show press (hseq s k) _ _ false j = _
    rw [press_low (hseqL_is s k) _ _ _ j hj, pressL_is _ _ _ _ j hj]
    rfl
def hendL (s : ByteArray) : List Int := pressL (fl (hseqL s (nbl s))) (blkOf s (64 * nbl s)) s.size true
theorem hendL_is (s : ByteArray) (j : Nat) (hj : j < 8) : hend s j = fl (hendL s) j := by
  show press (hseq s (nbl s)) _ _ true j = _
  rw [press_low (hseqL_is s (nbl s)) _ _ _ j hj, pressL_is _ _ _ _ j hj]
  rfl
/-- A sum, reckoned. -/
theorem sumB_eval (s z : ByteArray) (L : List Int) (hL : hendL s = L) (hz : outS (fl L) 32 = z) : sumB s = z := by
  unfold sumB
  rw [out_congr (hendL_is s), hL, hz]
end Go.Proofs.YtmhpbgdchocoiaaDoor
namespace Go.Proofs.YtmhpbgdchocoiaaDoor
open Go Go.RowKit
set_option linter.unusedVariables false
set_option maxRecDepth 100000

abbrev vA : ByteArray := ⟨#[26, 54, 50, 30, 139, 39, 252, 142, 143, 84, 114, 120, 1, 213, 59, 6, 200, 126, 203, 170, 9, 138, 211, 111, 158, 240, 80, 140, 146, 16, 40, 53]⟩
abbrev vB : ByteArray := ⟨#[91, 97, 215, 195, 169, 160, 234, 167, 97, 223, 228, 77, 75, 254, 60, 32, 141, 150, 92, 119, 215, 124, 10, 157, 83, 169, 66, 107, 133, 16, 43, 13]⟩
theorem sum_1 : sumB ⟨#[0, 1, 0, 0, 0, 0, 0, 0, 0]⟩ = ⟨#[26, 54, 50, 30, 139, 39, 252, 142, 143, 84, 114, 120, 1, 213, 59, 6, 200, 126, 203, 170, 9, 138, 211, 111, 158, 240, 80, 140, 146, 16, 40, 53]⟩ :=
  sumB_eval _ _ [506607130, 2398889867, 2020758671, 104584449, 2865462984, 1876134409, 2354114718, 891818130] (by decide +kernel) (by decide +kernel)
theorem sum_2 : sumB ⟨#[0, 2, 0, 0, 0, 0, 0, 0, 0]⟩ = ⟨#[91, 97, 215, 195, 169, 160, 234, 167, 97, 223, 228, 77, 75, 254, 60, 32, 141, 150, 92, 119, 215, 124, 10, 157, 83, 169, 66, 107, 133, 16, 43, 13]⟩ :=
  sumB_eval _ _ [3285672283, 2817171625, 1306845025, 540868171, 2002556557, 2634710231, 1799530835, 220926085] (by decide +kernel) (by decide +kernel)
theorem sum_12 : sumB ⟨#[1, 26, 54, 50, 30, 139, 39, 252, 142, 143, 84, 114, 120, 1, 213, 59, 6, 200, 126, 203, 170, 9, 138, 211, 111, 158, 240, 80, 140, 146, 16, 40, 53, 91, 97, 215, 195, 169, 160, 234, 167, 97, 223, 228, 77, 75, 254, 60, 32, 141, 150, 92, 119, 215, 124, 10, 157, 83, 169, 66, 107, 133, 16, 43, 13]⟩ = ⟨#[192, 46, 184, 111, 21, 22, 197, 106, 60, 164, 233, 80, 110, 226, 206, 175, 202, 59, 255, 88, 225, 97, 37, 91, 136, 133, 117, 112, 49, 65, 89, 149]⟩ :=
  sumB_eval _ _ [1874341568, 1791301141, 1357489212, 2949571182, 1493121994, 1529176545, 1886750088, 2505654577] (by decide +kernel) (by decide +kernel)
theorem sum_21 : sumB ⟨#[1, 91, 97, 215, 195, 169, 160, 234, 167, 97, 223, 228, 77, 75, 254, 60, 32, 141, 150, 92, 119, 215, 124, 10, 157, 83, 169, 66, 107, 133, 16, 43, 13, 26, 54, 50, 30, 139, 39, 252, 142, 143, 84, 114, 120, 1, 213, 59, 6, 200, 126, 203, 170, 9, 138, 211, 111, 158, 240, 80, 140, 146, 16, 40, 53]⟩ = ⟨#[226, 142, 4, 60, 48, 206, 180, 13, 16, 117, 154, 250, 4, 172, 78, 135, 75, 118, 128, 71, 145, 61, 16, 212, 240, 55, 99, 47, 18, 214, 3, 233]⟩ :=
  sumB_eval _ _ [1006931682, 229953072, 4204426512, 2270080004, 1199601227, 3557834129, 795031536, 3909342738] (by decide +kernel) (by decide +kernel)
theorem leaf_1 : leafB (rowB [1]) = vA := by
  unfold leafB
  rw [show byte0 ++ rowB [1] = ⟨#[0, 1, 0, 0, 0, 0, 0, 0, 0]⟩ by decide +kernel]
  exact sum_1
theorem leaf_2 : leafB (rowB [2]) = vB := by
  unfold leafB
  rw [show byte0 ++ rowB [2] = ⟨#[0, 2, 0, 0, 0, 0, 0, 0, 0]⟩ by decide +kernel]
  exact sum_2
theorem node_12 : nodeB vA vB = ⟨#[192, 46, 184, 111, 21, 22, 197, 106, 60, 164, 233, 80, 110, 226, 206, 175, 202, 59, 255, 88, 225, 97, 37, 91, 136, 133, 117, 112, 49, 65, 89, 149]⟩ := by
  unfold nodeB
  rw [show byte1 ++ vA ++ vB = ⟨#[1, 26, 54, 50, 30, 139, 39, 252, 142, 143, 84, 114, 120, 1, 213, 59, 6, 200, 126, 203, 170, 9, 138, 211, 111, 158, 240, 80, 140, 146, 16, 40, 53, 91, 97, 215, 195, 169, 160, 234, 167, 97, 223, 228, 77, 75, 254, 60, 32, 141, 150, 92, 119, 215, 124, 10, 157, 83, 169, 66, 107, 133, 16, 43, 13]⟩ by decide +kernel]
  exact sum_12
theorem node_21 : nodeB vB vA = ⟨#[226, 142, 4, 60, 48, 206, 180, 13, 16, 117, 154, 250, 4, 172, 78, 135, 75, 118, 128, 71, 145, 61, 16, 212, 240, 55, 99, 47, 18, 214, 3, 233]⟩ := by
  unfold nodeB
  rw [show byte1 ++ vB ++ vA = ⟨#[1, 91, 97, 215, 195, 169, 160, 234, 167, 97, 223, 228, 77, 75, 254, 60, 32, 141, 150, 92, 119, 215, 124, 10, 157, 83, 169, 66, 107, 133, 16, 43, 13, 26, 54, 50, 30, 139, 39, 252, 142, 143, 84, 114, 120, 1, 213, 59, 6, 200, 126, 203, 170, 9, 138, 211, 111, 158, 240, 80, 140, 146, 16, 40, 53]⟩ by decide +kernel]
  exact sum_21
theorem node_ne : nodeB vB vA ≠ nodeB vA vB := by
  rw [node_12, node_21]
  decide +kernel
end Go.Proofs.YtmhpbgdchocoiaaDoor
