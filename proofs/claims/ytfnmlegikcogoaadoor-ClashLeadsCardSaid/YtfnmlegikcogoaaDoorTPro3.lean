/-
  What the program's within, whole and Leads come to.
-/
import Derived.Test.YtfnmlegikcogoaaDoorTPro1
import Derived.Test.YtfnmlegikcogoaaDoorGTree
import Derived.Test.YtfnmlegikcogoaaDoorLProg
import Derived.Lib.QuietBelow
import Derived.BigQuiet
namespace Go.Proofs.YtfnmlegikcogoaaDoor
open Go Go.RowKit Go.Sort Go.BigFrame
set_option linter.unusedVariables false

theorem shr_small {i d : Nat} (h : i < 2 ^ d) : (i : Int) / 2 ^ d = 0 := by
  have e : ((2 ^ d : Nat) : Int) = 2 ^ d := by simp
  rw [← e, ← Int.natCast_ediv, Nat.div_eq_of_lt h]; rfl
theorem shr_big {i d : Nat} (h : 2 ^ d ≤ i) : ∃ Q : Int, (i : Int) / 2 ^ d = Q ∧ 1 ≤ Q := by
  have e : ((2 ^ d : Nat) : Int) = 2 ^ d := by simp
  have h1 : 1 ≤ i / 2 ^ d := (Nat.one_le_div_iff (Nat.pow_pos (by decide))).2 h
  exact ⟨_, rfl, by rw [← e, ← Int.natCast_ediv]; omega⟩
def withinB (depth i : Int) : Bool := decide (0 ≤ depth ∧ depth ≤ 40 ∧ 0 ≤ i ∧ i < 2 ^ depth.toNat)
theorem gwithin_is (depth i : Int) (z : Bool) (hz : withinB depth i = z) (w : World) (hd : -9223372036854775808 ≤ depth ∧ depth ≤ 9223372036854775807) (hi : -9223372036854775808 ≤ i ∧ i ≤ 9223372036854775807) :
    Calls Tryd.prog 39 #[.int .i64 depth, .int .i64 i] w fun e w' => e = .returned (.bool z) ∧ w = w' := by
  by_cases h1 : depth < 0
  · obtain rfl : z = false := by rw [← hz]; exact decide_eq_false fun h => by omega
    clear hz
    go_enter Tryd.func39, Tryd.ntmps39
    go_wp2
    go_ret
    exact ⟨rfl, rfl⟩
  by_cases h2 : depth > 40
  · obtain rfl : z = false := by rw [← hz]; exact decide_eq_false fun h => by omega
    clear hz
    go_enter Tryd.func39, Tryd.ntmps39
    go_wp2
    go_ret
    exact ⟨rfl, rfl⟩
  by_cases h3 : i < 0
  · obtain rfl : z = false := by rw [← hz]; exact decide_eq_false fun h => by omega
    clear hz
    go_enter Tryd.func39, Tryd.ntmps39
    go_wp2
    go_ret
    exact ⟨rfl, rfl⟩
  obtain ⟨d, rfl⟩ := Int.eq_ofNat_of_zero_le (show 0 ≤ depth by omega)
  obtain ⟨n, rfl⟩ := Int.eq_ofNat_of_zero_le (show 0 ≤ i by omega)
  have e : ((2 ^ d : Nat) : Int) = 2 ^ d := by simp
  by_cases h4 : n < 2 ^ d
  · obtain rfl : z = true := by
      rw [← hz]
      refine decide_eq_true ⟨by omega, by omega, by omega, ?_⟩
      rw [Int.toNat_natCast, ← e]; omega
    have hq := shr_small h4
    clear hz h4 e
    go_enter Tryd.func39, Tryd.ntmps39
    go_wp2
    go_ret
    exact ⟨rfl, rfl⟩
  · obtain rfl : z = false := by
      rw [← hz]
      refine decide_eq_false fun h => h4 ?_
      have h5 := h.2.2.2
      rw [Int.toNat_natCast, ← e] at h5; omega
    obtain ⟨Q, hq, hQ⟩ := shr_big (show 2 ^ d ≤ n by omega)
    have hQ0 : (Q == 0) = false := by simp; omega
    clear hz h4 e
    go_enter Tryd.func39, Tryd.ntmps39
    go_wp2
    go_ret
    exact ⟨rfl, rfl⟩
theorem gwhole1_is (s : ByteArray) (z : Bool) (hz : decide (¬ s.size = 32) = z) (w : World) :
    Calls Tryd.prog 49 #[.string s] w fun e w' => e = .returned (.bool z) ∧ w = w' := by
  by_cases h : s.size = 32
  · obtain rfl : z = false := by rw [← hz]; exact decide_eq_false fun c => c h
    have h1 : (s.size : Int) = 32 := by omega
    clear hz h
    go_enter Tryd.func49, Tryd.ntmps49
    go_wp2
    go_ret
    exact ⟨rfl, rfl⟩
  · obtain rfl : z = true := by rw [← hz]; exact decide_eq_true h
    have h1 : ((s.size : Int) != 32) = true := by simp; omega
    clear hz
    go_enter Tryd.func49, Tryd.ntmps49
    go_wp2
    go_ret
    exact ⟨rfl, rfl⟩
/-- Where the first text of another length than 32 stands; below 0: there is none. -/
def IdxPost (z : Bool) (w : World) (e : Ending) (w' : World) : Prop := w = w' ∧ ∃ k : Int, e = .returned (.int .i64 k) ∧ decide (0 ≤ k) = !z
def IdxRel (g : Nat → ByteArray) (n : Nat) (i : Value) : Prop := ∃ k : Nat, k ≤ n ∧ i = .int .i64 k ∧ ∀ j, j < k → (g j).size = 32
set_option maxHeartbeats 1000000 in
theorem gindexf_is (a : Option Addr) (n c : Nat) (g : Nat → ByteArray) (z : Bool) (hz : decide (∀ j, j < n → (g j).size = 32) = z) (w : World) (h : StrA w a n g) :
    Calls Tryd.prog 55 #[.slice a n c, .func (.func 49) #[] #[]] w (IdxPost z w) := by
  have HS := Lib.hid h.2
  have HZ0 := Lib.hid hz
  have hm := h.1
  unfold maxLen at hm
  clear h hz
  go_enter Tryd.func55, Tryd.ntmps55
  go_upto_region 2 with fail
  go_loop [8] (IdxRel g n) (fun i => n - (intOf i).toNat)
  case atStart => exact ⟨0, Nat.zero_le _, rfl, fun j hj => by omega⟩
  case round =>
    obtain ⟨k, hk, rfl, hs⟩ := hrel
    by_cases hlt : k < n
    · obtain ⟨b, off, rfl, g0⟩ := HS.out k hlt
      have hlt' : (k : Int) < (n : Int) := by omega
      have HP := Lib.hid hs
      clear hs
      by_cases h32 : (g k).size = 32
      · have HZ := Lib.hid (show ∀ j, j < k + 1 → (g j).size = 32 from fun j hj => by
          by_cases e : j = k
          · subst e; exact h32
          · exact HP.out j (by omega))
        have k1 := gwhole1_is (g k) false (decide_eq_false fun c => c h32) w
        generalize g k = y at *
        clear h32
        go_wp2_with (go_at_call 49; ((with_reducible refine k1.mono ?_); rintro e w1 ⟨rfl, rfl⟩))
        go_round
        case rel => exact ⟨k + 1, by omega, by go_num, HZ.out⟩
        case measure => simp [intOf]; omega
      · have HN := Lib.hid (show decide (0 ≤ (k : Int)) = !z by rw [← HZ0.out, decide_eq_false (fun c : ∀ j, j < n → (g j).size = 32 => h32 (c k hlt))]; simp)
        have k1 := gwhole1_is (g k) true (decide_eq_true h32) w
        generalize g k = y at *
        clear h32
        go_wp2_with (go_at_call 49; ((with_reducible refine k1.mono ?_); rintro e w1 ⟨rfl, rfl⟩))
        go_ret
        exact ⟨rfl, _, rfl, HN.out⟩
    · obtain rfl : k = n := by omega
      have HP := Lib.hid (show decide (0 ≤ (-1 : Int)) = !z by rw [← HZ0.out, decide_eq_true hs]; rfl)
      clear hs
      go_wp2
      go_ret
      exact ⟨rfl, _, rfl, HP.out⟩
theorem gcontf_is (a : Option Addr) (n c : Nat) (g : Nat → ByteArray) (z : Bool) (hz : decide (∀ j, j < n → (g j).size = 32) = z) (w : World) (h : StrA w a n g) :
    Calls Tryd.prog 48 #[.slice a n c, .func (.func 49) #[] #[]] w fun e w' => e = .returned (.bool (!z)) ∧ w = w' := by
  have k1 := gindexf_is a n c g z hz w h
  clear hz h
  cases z
  all_goals
    go_enter Tryd.func48, Tryd.ntmps48
    go_wp2_with (go_at_call 55; ((with_reducible refine k1.mono ?_); rintro e w1 ⟨rfl, k, rfl, h1⟩; simp only [Bool.not_true, Bool.not_false] at h1))
    go_ret
    exact ⟨rfl, rfl⟩
def wholeB (n : Nat) (depth : Int) (g : Nat → ByteArray) : Bool := decide ((n : Int) = depth ∧ ∀ j, j < n → (g j).size = 32)
theorem gwhole_is (a : Option Addr) (n c : Nat) (depth : Int) (g : Nat → ByteArray) (z : Bool) (hz : wholeB n depth g = z) (w : World) (h : StrA w a n g) :
    Calls Tryd.prog 40 #[.slice a n c, .int .i64 depth] w fun e w' => e = .returned (.bool z) ∧ w = w' := by
  by_cases hn : (n : Int) = depth
  · have k1 := gcontf_is a n c g z (by rw [← hz]; exact decide_eq_decide.2 ⟨fun h => ⟨hn, h⟩, fun h => h.2⟩) w h
    subst hn
    clear hz h
    cases z
    all_goals
      go_enter Tryd.func40, Tryd.ntmps40
      go_wp2_with (go_at_call 48; ((with_reducible refine k1.mono ?_); rintro e w1 ⟨rfl, rfl⟩))
      go_ret
      exact ⟨rfl, rfl⟩
  · obtain rfl : z = false := by rw [← hz]; exact decide_eq_false fun h => hn h.1
    clear hz h
    go_enter Tryd.func40, Tryd.ntmps40
    go_wp2
    go_ret
    exact ⟨rfl, rfl⟩
theorem same_below {W w' : World} (h : W = w') : Below W.heap.size W w' := by subst h; exact Below.refl _ _
theorem leadsB_eq (root : ByteArray) (depth i : Int) (s : ByteArray) (g : Nat → ByteArray) (n : Nat) : leadsB root depth i s g n = (withinB depth i && (wholeB n depth g && decide (climbB s i.toNat g n = root))) := by
  unfold leadsB withinB wholeB
  rw [← Bool.decide_and, ← Bool.decide_and]
  exact decide_eq_decide.2 ⟨fun h => ⟨⟨h.1, h.2.1, h.2.2.1, h.2.2.2.1⟩, ⟨h.2.2.2.2.1, h.2.2.2.2.2.1⟩, h.2.2.2.2.2.2⟩, fun h => ⟨h.1.1, h.1.2.1, h.1.2.2.1, h.1.2.2.2, h.2.1.1, h.2.1.2, h.2.2⟩⟩
set_option maxRecDepth 100000 in
set_option maxHeartbeats 4000000 in
theorem gleads_is (root : ByteArray) (depth i : Int) (a : Option Addr) (len cap : Nat) (zs : List Int) (b : Option Addr) (lenb capb : Nat) (qs : List (Int × Int)) (p : Option Addr) (n c : Nat) (g : Nat → ByteArray) (w : World) (hr : RowA w a len zs) (hu : ∀ n ∈ zs, U n) (hq : QRowA w b lenb qs) (hv : ∀ n ∈ qs, U n.1 ∧ U n.2) (hl : len ≤ 10000) (hlb : lenb ≤ 10000)
    (hS : StrA w p n g) (hn : n ≤ 70) (hg : ∀ k, k < n → (g k).size ≤ 100) (hd : -9223372036854775808 ≤ depth ∧ depth ≤ 9223372036854775807) (hi : -9223372036854775808 ≤ i ∧ i ≤ 9223372036854775807) (hT : TabB w) :
    Calls Tryd.prog 26 #[.string root, .int .i64 depth, .int .i64 i, .agg #[.slice a len cap, .slice b lenb capb, .slice p n c]] w fun e w' => e = .returned (.bool (leadsB root depth i (leafB (openB zs qs)) g n)) ∧ Below w.heap.size w w' := by
  rw [leadsB_eq]
  have HB0 := Lib.hid (fun (t : TypeId) => (Below.refl w.heap.size w).alloc (Nat.le_refl _) (.cells #[.slice a len cap, .slice b lenb capb, .slice p n c] t))
  have HSS := Lib.hid hS
  have ko := fun (W : World) (hb : Below w.heap.size w W) => glof_is a len cap zs b lenb capb qs (.slice p n c) W (hr.keep hb) hu (hq.keep hb) hv hl hlb rfl (hT.keep hb)
  have hsz := leafB_size (openB zs qs)
  have HKC := Lib.hid (fun (m : Nat) (hm : m ≤ 9223372036854775807) (W : World) (hb : Below w.heap.size w W) => gclimb_is (leafB (openB zs qs)) m p n c g W (hS.keep hb) hn hg (by omega) hm (hT.keep hb))
  clear hr hq hS hg hT hsz
  obtain ⟨s0, hs0⟩ : ∃ s, leafB (openB zs qs) = s := ⟨_, rfl⟩
  rw [hs0] at HKC ⊢
  simp only [hs0] at ko
  clear hs0
  have k1 := fun (W : World) => (gwithin_is depth i (withinB depth i) rfl W hd hi).mono fun _ _ h => (⟨h.1, same_below h.2⟩ : _ ∧ Below W.heap.size W _)
  have k2 := fun (W : World) (hb : Below w.heap.size w W) => (gwhole_is p n c depth g (wholeB n depth g) rfl W (HSS.out.keep hb)).mono fun _ _ h => (⟨h.1, same_below h.2⟩ : _ ∧ Below W.heap.size W _)
  cases hy : withinB depth i with
  | false =>
    rw [hy] at k1
    clear hy k2 HSS HKC ko
    rw [Bool.false_and]
    go_enter Tryd.func26, Tryd.ntmps26
    go_upto_region 1 with fail
    refine wp_gen (fun W => Below w.heap.size w W ∧ OpenV W w.heap.size (.slice a len cap) (.slice b lenb capb) (.slice p n c)) ⟨HB0.out _, by simp [go_sem], by simp [go_sem], by simp [go_sem]⟩ ?_
    rintro wr ⟨hB, ⟨x0, x1, x2⟩⟩
    clear HB0 x0 x1 x2
    refine wp_region_quiet_below (by kernel_rfl) (by kernel_rfl) ?_
    repeat (first | go_big_quiet_step ((go_at_call 39; with_reducible exact Calls.regrown_of (k1 _))) | quiet_step (fail))
    refine wpQuiet_nil ?_
    rintro _ ⟨pq, rfl⟩
    replace hB := bthen hB (below_regrown wr pq.d pq.os)
    go_wp2
    go_ret
    exact ⟨rfl, hB⟩
  | true =>
    have hi0 : 0 ≤ i ∧ i.toNat ≤ 9223372036854775807 := by have := of_decide_eq_true hy; omega
    obtain ⟨m, rfl⟩ := Int.eq_ofNat_of_zero_le hi0.1
    rw [hy] at k1
    rw [Int.toNat_natCast] at hi0 ⊢
    have kc := HKC.out m hi0.2
    rw [Bool.true_and]
    clear hy hi0 HKC
    cases hy : wholeB n depth g with
    | false =>
      rw [hy] at k2
      clear hy HSS ko kc
      rw [Bool.false_and]
      go_enter Tryd.func26, Tryd.ntmps26
      go_upto_region 1 with fail
      refine wp_gen (fun W => Below w.heap.size w W ∧ OpenV W w.heap.size (.slice a len cap) (.slice b lenb capb) (.slice p n c)) ⟨HB0.out _, by simp [go_sem], by simp [go_sem], by simp [go_sem]⟩ ?_
      rintro wr ⟨hB, ⟨x0, x1, x2⟩⟩
      clear HB0
      replace x0 := fun q : Regrown => cell_regrown x0 q.d q.os
      replace x1 := fun q : Regrown => cell_regrown x1 q.d q.os
      replace x2 := fun q : Regrown => cell_regrown x2 q.d q.os
      refine wp_region_quiet_below (by kernel_rfl) (by kernel_rfl) ?_
      repeat (first | go_big_quiet_step (first
        | (go_at_call 39; with_reducible exact Calls.regrown_of (k1 _))
        | (go_at_call 40; with_reducible exact Calls.regrown_of (k2 _ (bthen hB (below_regrown wr _ _))))) | quiet_step (fail))
      refine wpQuiet_nil ?_
      rintro _ ⟨pq, rfl⟩
      replace hB := bthen hB (below_regrown wr pq.d pq.os)
      go_wp2
      go_ret
      exact ⟨rfl, hB⟩
    | true =>
      rw [hy] at k2
      rw [Bool.true_and]
      have HV : Hid (((climbB s0 m g n).toList == root.toList) = decide (climbB s0 m g n = root)) := Lib.hid (beq_bytes _ _)
      generalize climbB s0 m g n = cc at *
      clear hy HSS
      obtain ⟨Z, hZ⟩ : ∃ Z, decide (cc = root) = Z := ⟨_, rfl⟩
      rw [hZ] at HV ⊢
      clear hZ
      go_enter Tryd.func26, Tryd.ntmps26
      go_upto_region 1 with fail
      refine wp_gen (fun W => Below w.heap.size w W ∧ OpenV W w.heap.size (.slice a len cap) (.slice b lenb capb) (.slice p n c)) ⟨HB0.out _, by simp [go_sem], by simp [go_sem], by simp [go_sem]⟩ ?_
      rintro wr ⟨hB, ⟨x0, x1, x2⟩⟩
      clear HB0
      replace x0 := fun q : Regrown => cell_regrown x0 q.d q.os
      replace x1 := fun q : Regrown => cell_regrown x1 q.d q.os
      replace x2 := fun q : Regrown => cell_regrown x2 q.d q.os
      refine wp_region_quiet_below (by kernel_rfl) (by kernel_rfl) ?_
      repeat (first | go_big_quiet_step (first
        | (go_at_call 39; with_reducible exact Calls.regrown_of (k1 _))
        | (go_at_call 40; with_reducible exact Calls.regrown_of (k2 _ (bthen hB (below_regrown wr _ _))))
        | (go_at_call 42; with_reducible exact Calls.regrown_of (ko _ (bthen hB (below_regrown wr _ _))))
        | (go_at_call 41; with_reducible exact Calls.regrown_of (kc _ (bthen hB (below_regrown wr _ _))))) | quiet_step (fail))
      refine wpQuiet_nil ?_
      rintro _ ⟨pq, rfl⟩
      replace hB := bthen hB (below_regrown wr pq.d pq.os)
      go_wp2
      go_ret
      exact ⟨by rw [← HV.out]; rfl, hB⟩
end Go.Proofs.YtfnmlegikcogoaaDoor
