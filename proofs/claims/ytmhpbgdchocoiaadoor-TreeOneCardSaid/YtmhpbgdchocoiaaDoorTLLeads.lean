/-
  The walk of TreeLeads: it answers true, where the program's calls do what is asked of them. (Written by gen_tleads.py.)
-/
import Derived.Test.YtmhpbgdchocoiaaDoorGTree
import Derived.Test.YtmhpbgdchocoiaaDoorGNum
namespace Go.Proofs.YtmhpbgdchocoiaaDoor
open Go Go.RowKit Go.Sort Go.BigFrame
set_option linter.unusedVariables false

def smallB (f : Nat → ByteArray) (n : Nat) : Bool := decide (n ≤ 70 ∧ ∀ j, j < n → (f j).size ≤ 100)
theorem tsmall_is (a : Option Addr) (n c : Nat) (f : Nat → ByteArray) (z : Bool) (w : World) (h : StrA w a n f) (hz : smallB f n = z) :
    Calls Tryd.prog 8 #[.slice a n c] w fun e w' => e = .returned (.bool z) ∧ w' = w := by
  obtain ⟨hm, hc⟩ := h
  unfold maxLen at hm
  have HC := Lib.hid hc
  clear hc
  go_enter Tryd.func8, Tryd.ntmps8
  go_upto_region 2 with fail
  go_loop [3] (fun i => ∃ k : Nat, k ≤ n ∧ i = .int .i64 k ∧ ∀ j, j < k → (f j).size ≤ 100) (fun i => n - (intOf i).toNat)
  case atStart => exact ⟨0, Nat.zero_le _, rfl, fun j hj => by omega⟩
  case round =>
    obtain ⟨k, hk, rfl, hs⟩ := hrel
    by_cases hlt : k < n
    · obtain ⟨b, off, rfl, g0⟩ := HC.out k hlt
      have hlt' : (k : Int) < (n : Int) := by omega
      by_cases h100 : (f k).size ≤ 100
      · have HE := Lib.hid (show ∀ j, j < k + 1 → (f j).size ≤ 100 from fun j hj => by
          by_cases e : j = k
          · subst e; exact h100
          · exact hs j (by omega))
        have h100' : ¬ ((f k).size : Int) > 100 := by omega
        clear hs
        generalize f k = x at *
        go_wp2
        go_round
        case rel => exact ⟨k + 1, by omega, by go_num, HE.out⟩
        case measure => simp [intOf]; omega
      · have h100' : ((f k).size : Int) > 100 := by omega
        have HZ : Hid (false = z) := Lib.hid (by rw [← hz]; exact (decide_eq_false (fun h => h100 (h.2 k hlt))).symm)
        clear hs hz
        generalize f k = x at *
        go_wp2
        go_ret
        exact ⟨by rw [← HZ.out]; rfl, rfl⟩
    · obtain rfl : k = n := by omega
      have HZ : Hid (decide ((k : Int) ≤ 70) = z) := Lib.hid (by rw [← hz]; exact decide_eq_decide.2 ⟨fun h => ⟨by omega, hs⟩, fun h => by omega⟩)
      clear hs hz
      go_wp2
      go_ret
      exact ⟨by rw [← HZ.out]; rfl, rfl⟩
def TLeadsR (root s C : ByteArray) (i0 i1 : Int) (g0 g1 len cap lenb capb n c : Nat) (a b p : Option Addr) (Z : Bool) (sl : Nat) (v : Value) (W : World) : Prop :=
  match sl with
  | 39 => v = .string root
  | 40 => v = .pointer (some ⟨g0, 0, none⟩)
  | 41 => v = .int .i64 i0
  | 42 => v = .pointer (some ⟨g0, 1, none⟩)
  | 43 => v = .int .i64 i1
  | 44 => v = .agg #[.slice a len cap, .slice b lenb capb, .slice p n c]
  | 45 => v = .bool Z
  | 46 => v = .string root
  | 47 => v = .pointer (some ⟨g0, 0, none⟩)
  | 48 => v = .int .i64 i0
  | 49 => v = .pointer (some ⟨g0, 1, none⟩)
  | 50 => v = .int .i64 i1
  | 51 => v = .agg #[.slice a len cap, .slice b lenb capb, .slice p n c]
  | 52 => v = .bool Z
  | 56 => v = .string s
  | 57 => v = .pointer (some ⟨g0, 1, none⟩)
  | 58 => v = .int .i64 i1
  | 59 => v = .pointer (some ⟨g1, 2, none⟩)
  | 60 => v = .slice p n c
  | 61 => v = .string C
  | 62 => v = .string s
  | 63 => v = .pointer (some ⟨g0, 1, none⟩)
  | 64 => v = .int .i64 i1
  | 65 => v = .pointer (some ⟨g1, 2, none⟩)
  | 66 => v = .slice p n c
  | 67 => v = .string C
  | _ => v = .bool true
theorem TLeadsR.keep {root s C : ByteArray} {i0 i1 : Int} {g0 g1 len cap lenb capb n c : Nat} {a b p : Option Addr} {Z : Bool} {sl : Nat} {v : Value} {W W' : World} (h : TLeadsR root s C i0 i1 g0 g1 len cap lenb capb n c a b p Z sl v W) (hb : Below W.heap.size W W') : TLeadsR root s C i0 i1 g0 g1 len cap lenb capb n c a b p Z sl v W' := by
  unfold TLeadsR at *
  split at h
  all_goals first | exact h
set_option maxRecDepth 100000 in
set_option maxHeartbeats 8000000 in
theorem tleads_body (G : World → Prop) (hA : AskTree G) (aw : ∀ W, G W → Calls Tryd.prog 9 #[] W fun e w' => e = .returned (.bool true) ∧ Below W.heap.size W w') (root : ByteArray) (i0 i1 : Int) (a : Option Addr) (len cap : Nat) (zs : List Int) (b : Option Addr) (lenb capb : Nat) (qs : List (Int × Int)) (p : Option Addr) (n c : Nat) (g : Nat → ByteArray) (w : World) (hG0 : G w)
    (hr : RowA w a len zs) (hu : ∀ n ∈ zs, U n) (hq : QRowA w b lenb qs) (hv : ∀ n ∈ qs, U n.1 ∧ U n.2) (hS : StrS w p n c g) (h0 : -9223372036854775808 ≤ i0 ∧ i0 ≤ 9223372036854775807) (h1 : -9223372036854775808 ≤ i1 ∧ i1 ≤ 9223372036854775807) :
    Calls Tryd.prog 4 #[.string root, .agg #[.int .i64 i0, .int .i64 i1], .agg #[.slice a len cap, .slice b lenb capb, .slice p n c]] w fun e w' => e = .returned (.bool true) ∧ Below w.heap.size w w' := by
  have HK := Lib.hid (fun (W W' : World) => @AskTree.keep G hA W W')
  have HG0 := Lib.hid hG0
  have hl1 := hr.2.1; have hl2 := hq.2.1
  unfold maxLen at hl1 hl2
  have kS := fun (W : World) (hb : Below w.heap.size w W) => tsmall_is p n c g (smallB g n) W (hS.1.keep hb) rfl
  have HA := Lib.hid hA; have HR := Lib.hid hr; have HQ := Lib.hid hq; have HS := Lib.hid hS
  clear hA hr hq hS hG0
  go_enter Tryd.func4, Tryd.ntmps4
  go_upto_region 1 with fail
  refine wp_gen (fun W => Below w.heap.size w W ∧ (W.cell? ⟨w.heap.size, 0, none⟩ = some (.int .i64 i0) ∧ W.cell? ⟨w.heap.size, 1, none⟩ = some (.int .i64 i1)) ∧ OpenV W (w.heap.size + 1) (.slice a len cap) (.slice b lenb capb) (.slice p n c)) ⟨?_, ⟨by simp [go_sem], by simp [go_sem]⟩, by simp [go_sem], by simp [go_sem], by simp [go_sem]⟩ ?_
  · exact ((Below.refl _ _).alloc (Nat.le_refl _) _).alloc (by simp) _
  obtain ⟨g0, hg0⟩ : ∃ g, w.heap.size = g := ⟨_, rfl⟩
  obtain ⟨g1, hg1⟩ : ∃ g, g0 + 1 = g := ⟨_, rfl⟩
  rintro W1 ⟨hB, hT, hX⟩
  rw [hg0] at hT hX
  rw [hg1] at hX
  simp only [hg0, hg1]
  obtain ⟨t0, t1⟩ := hT
  obtain ⟨x0, x1, x2⟩ := hX
  have HB := Lib.hid hB
  clear hB hg0 hg1
  by_cases c1 : 100 < (root.size : Int)
  · go_wp2_with (go_at_call 9; ((with_reducible refine (aw _ (HK.out _ _ HG0.out HB.out)).mono ?_); rintro e w1 ⟨rfl, hb⟩))
    go_ret
    exact ⟨rfl, bthen HB.out hb⟩
  by_cases c2 : 20 < (len : Int)
  · go_wp2_with (go_at_call 9; ((with_reducible refine (aw _ (HK.out _ _ HG0.out HB.out)).mono ?_); rintro e w1 ⟨rfl, hb⟩))
    go_ret
    exact ⟨rfl, bthen HB.out hb⟩
  by_cases c3 : 20 < (lenb : Int)
  · go_wp2_with (go_at_call 9; ((with_reducible refine (aw _ (HK.out _ _ HG0.out HB.out)).mono ?_); rintro e w1 ⟨rfl, hb⟩))
    go_ret
    exact ⟨rfl, bthen HB.out hb⟩
  have kS1 := kS W1 HB.out
  clear kS
  cases c4 : smallB g n with
  | false =>
    rw [c4] at kS1
    go_wp2_with (first
      | (go_at_call 8; (with_reducible refine kS1.mono ?_); rintro e w1 ⟨rfl, rfl⟩)
      | (go_at_call 9; (with_reducible refine (aw _ (HK.out _ _ HG0.out HB.out)).mono ?_); rintro e w1 ⟨rfl, hb⟩))
    go_ret
    exact ⟨rfl, bthen HB.out hb⟩
  | true =>
  rw [c4] at kS1
  by_cases c5 : i1 < 0
  · go_wp2_with (first
      | (go_at_call 8; (with_reducible refine kS1.mono ?_); rintro e w1 ⟨rfl, rfl⟩)
      | (go_at_call 9; (with_reducible refine (aw _ (HK.out _ _ HG0.out HB.out)).mono ?_); rintro e w1 ⟨rfl, hb⟩))
    go_ret
    exact ⟨rfl, bthen HB.out hb⟩
  obtain ⟨m, rfl⟩ := Int.eq_ofNat_of_zero_le (show 0 ≤ i1 by omega)
  obtain ⟨s1, s2⟩ := of_decide_eq_true c4
  have sz := leafB_size (openB zs qs)
  have ko := rlof_is a len cap zs b lenb capb qs (.slice p n c) W1 (HR.out.keep HB.out) hu (HQ.out.keep HB.out) hv (by omega) (by omega)
  have k1 := fun (W : World) (hb : Below w.heap.size w W) (hg : G W) => HA.out.leads root i0 m a len cap zs b lenb capb qs p n c g W (HR.out.keep hb) hu (HQ.out.keep hb) hv (by omega) (by omega) (HS.out.keep hb) s1 s2 h0 h1 hg
  have k2 := fun (W : World) (hb : Below w.heap.size w W) => rleads_is root i0 m a len cap zs b lenb capb qs p n c g W (HR.out.keep hb) hu (HQ.out.keep hb) hv (by omega) (by omega) (HS.out.1.keep hb) s2 h0 h1
  have k3 := fun (W : World) (hb : Below w.heap.size w W) (hg : G W) => HA.out.climb (leafB (openB zs qs)) m p n c g W (HS.out.keep hb) s1 s2 (by omega) (by omega) hg
  have k4 := fun (W : World) (hb : Below w.heap.size w W) => rclimb_is (leafB (openB zs qs)) m p n c g W (HS.out.1.keep hb) s1 s2 (by omega) (by omega)
  generalize leadsB root i0 m (leafB (openB zs qs)) g n = Z at *
  generalize climbB (leafB (openB zs qs)) m g n = C at *
  generalize leafB (openB zs qs) = s at *
  obtain ⟨i1, hi1⟩ : ∃ i : Int, (m : Int) = i := ⟨_, rfl⟩
  rw [hi1] at k1 k2 k3 k4 c5
  simp only [hi1] at t1 ⊢
  clear c4 s1 s2 h0 h1 hi1
  go_upto_region 4 with (first
      | (go_at_call 8; (with_reducible refine kS1.mono ?_); rintro e w1 ⟨rfl, rfl⟩)
      | (go_at_call 17; (with_reducible refine ko.mono ?_); rintro e w2 ⟨rfl, hb⟩))
  replace HB := Lib.hid (bthen HB.out hb)
  replace t0 := bkeep hb t0; replace t1 := bkeep hb t1; replace x0 := bkeep hb x0; replace x1 := bkeep hb x1; replace x2 := bkeep hb x2
  clear hb kS1 ko c1 c2 c3 c5
  refine wp_loose [(37, []), (38, [37]), (39, [38]), (40, [38]), (41, [38, 40]), (42, [38]), (43, [38, 42]), (44, [38]), (45, [38, 39, 41, 43, 44]), (46, [38]), (47, [38]), (48, [38, 47]), (49, [38]), (50, [38, 49]), (51, [38]), (52, [38, 46, 48, 50, 51]), (53, [38, 45, 52]), (54, [38, 53]), (55, [54]), (56, [55]), (57, [55]), (58, [55, 57]), (59, [55]), (60, [55, 59]), (61, [55, 56, 58, 60]), (62, [55]), (63, [55]), (64, [55, 63]), (65, [55]), (66, [55, 65]), (67, [55, 62, 64, 66]), (68, [55, 61, 67]), (69, [55, 68])]
    (TLeadsR root s C i0 i1 g0 g1 len cap lenb capb n c a b p Z) (fun d => false) (by kernel_rfl) (by kernel_rfl) (fun _ _ _ _ h hb => h.keep hb) ?_ ?_
  · refine opsrun_cons ?_ (opsrun_cons ?_ (opsrun_cons ?_ (opsrun_cons ?_ (opsrun_cons ?_ (opsrun_cons ?_ (opsrun_cons ?_ (opsrun_cons ?_ (opsrun_cons ?_ (opsrun_cons ?_ (opsrun_cons ?_ (opsrun_cons ?_ (opsrun_cons ?_ (opsrun_cons ?_ (opsrun_cons ?_ (opsrun_cons ?_ (opsrun_cons ?_ (opsrun_cons ?_ (opsrun_cons ?_ (opsrun_cons ?_ (opsrun_cons ?_ (opsrun_cons ?_ (opsrun_cons ?_ (opsrun_cons ?_ (opsrun_cons ?_ (opsrun_cons ?_ (opsrun_cons ?_ (opsrun_cons ?_ (opsrun_cons ?_ (opsrun_cons ?_ (opsrun_cons ?_ (opsrun_cons ?_ (opsrun_cons ?_ opsrun_nil))))))))))))))))))))))))))))))))
    all_goals
      refine OpRuns.any ?_
      intro Q0 σ W' K hb hn hK
      simp only [fill, List.map, Act.put, List.setIfInBounds_toArray, List.set_cons_zero, List.set_cons_succ] at hK ⊢
    · clear hn
      go_simp
      go_at_call 9
      refine (aw _ (HK.out _ _ HG0.out (bthen HB.out hb))).mono ?_
      rintro e w1 ⟨rfl, hb1⟩
      exact hK _ _ rfl hb1 (fun h => absurd h (by decide))
    · have h37 : σ 37 = _ := hn 37 (by decide)
      clear hn
      simp only [h37] at hK
      go_simp
      exact hK _ _ rfl (Below.refl _ _) (fun h => absurd h (by decide))
    · have h38 : σ 38 = _ := hn 38 (by decide)
      clear hn
      simp only [h38] at hK
      go_simp
      exact hK _ _ rfl (Below.refl _ _) (fun h => absurd h (by decide))
    · have h38 : σ 38 = _ := hn 38 (by decide)
      clear hn
      simp only [h38] at hK
      go_simp
      exact hK _ _ rfl (Below.refl _ _) (fun h => absurd h (by decide))
    · have h38 : σ 38 = _ := hn 38 (by decide)
      have h40 : σ 40 = _ := hn 40 (by decide)
      clear hn
      simp only [h38, h40] at hK
      have t0' := bkeep hb t0
      clear t0
      go_simp
      exact hK _ _ rfl (Below.refl _ _) (fun h => absurd h (by decide))
    · have h38 : σ 38 = _ := hn 38 (by decide)
      clear hn
      simp only [h38] at hK
      go_simp
      exact hK _ _ rfl (Below.refl _ _) (fun h => absurd h (by decide))
    · have h38 : σ 38 = _ := hn 38 (by decide)
      have h42 : σ 42 = _ := hn 42 (by decide)
      clear hn
      simp only [h38, h42] at hK
      have t1' := bkeep hb t1
      clear t1
      go_simp
      exact hK _ _ rfl (Below.refl _ _) (fun h => absurd h (by decide))
    · have h38 : σ 38 = _ := hn 38 (by decide)
      clear hn
      simp only [h38] at hK
      have x0' := bkeep hb x0
      have x1' := bkeep hb x1
      have x2' := bkeep hb x2
      clear x0 x1 x2
      go_simp
      exact hK _ _ rfl (Below.refl _ _) (fun h => absurd h (by decide))
    · have h38 : σ 38 = _ := hn 38 (by decide)
      have h39 : σ 39 = _ := hn 39 (by decide)
      have h41 : σ 41 = _ := hn 41 (by decide)
      have h43 : σ 43 = _ := hn 43 (by decide)
      have h44 : σ 44 = _ := hn 44 (by decide)
      clear hn
      simp only [h38, h39, h41, h43, h44] at hK
      go_simp
      go_at_call 18
      refine (k1 _ (bthen HB.out hb) (HK.out _ _ HG0.out (bthen HB.out hb))).mono ?_
      rintro e w1 ⟨rfl, hb1⟩
      exact hK _ _ rfl hb1 (fun h => absurd h (by decide))
    · have h38 : σ 38 = _ := hn 38 (by decide)
      clear hn
      simp only [h38] at hK
      go_simp
      exact hK _ _ rfl (Below.refl _ _) (fun h => absurd h (by decide))
    · have h38 : σ 38 = _ := hn 38 (by decide)
      clear hn
      simp only [h38] at hK
      go_simp
      exact hK _ _ rfl (Below.refl _ _) (fun h => absurd h (by decide))
    · have h38 : σ 38 = _ := hn 38 (by decide)
      have h47 : σ 47 = _ := hn 47 (by decide)
      clear hn
      simp only [h38, h47] at hK
      have t0' := bkeep hb t0
      clear t0
      go_simp
      exact hK _ _ rfl (Below.refl _ _) (fun h => absurd h (by decide))
    · have h38 : σ 38 = _ := hn 38 (by decide)
      clear hn
      simp only [h38] at hK
      go_simp
      exact hK _ _ rfl (Below.refl _ _) (fun h => absurd h (by decide))
    · have h38 : σ 38 = _ := hn 38 (by decide)
      have h49 : σ 49 = _ := hn 49 (by decide)
      clear hn
      simp only [h38, h49] at hK
      have t1' := bkeep hb t1
      clear t1
      go_simp
      exact hK _ _ rfl (Below.refl _ _) (fun h => absurd h (by decide))
    · have h38 : σ 38 = _ := hn 38 (by decide)
      clear hn
      simp only [h38] at hK
      have x0' := bkeep hb x0
      have x1' := bkeep hb x1
      have x2' := bkeep hb x2
      clear x0 x1 x2
      go_simp
      exact hK _ _ rfl (Below.refl _ _) (fun h => absurd h (by decide))
    · have h38 : σ 38 = _ := hn 38 (by decide)
      have h46 : σ 46 = _ := hn 46 (by decide)
      have h48 : σ 48 = _ := hn 48 (by decide)
      have h50 : σ 50 = _ := hn 50 (by decide)
      have h51 : σ 51 = _ := hn 51 (by decide)
      clear hn
      simp only [h38, h46, h48, h50, h51] at hK
      go_simp
      go_at_call 19
      refine (k2 _ (bthen HB.out hb)).mono ?_
      rintro e w1 ⟨rfl, hb1⟩
      exact hK _ _ rfl hb1 (fun h => absurd h (by decide))
    · have h38 : σ 38 = _ := hn 38 (by decide)
      have h45 : σ 45 = _ := hn 45 (by decide)
      have h52 : σ 52 = _ := hn 52 (by decide)
      clear hn
      simp only [h38, h45, h52] at hK
      go_simp
      exact hK _ _ rfl (Below.refl _ _) (fun h => absurd h (by decide))
    · have h38 : σ 38 = _ := hn 38 (by decide)
      have h53 : σ 53 = _ := hn 53 (by decide)
      clear hn
      simp only [h38, h53] at hK
      go_simp
      exact hK _ _ rfl (Below.refl _ _) (fun h => absurd h (by decide))
    · have h54 : σ 54 = _ := hn 54 (by decide)
      clear hn
      simp only [h54] at hK
      go_simp
      exact hK _ _ rfl (Below.refl _ _) (fun h => absurd h (by decide))
    · have h55 : σ 55 = _ := hn 55 (by decide)
      clear hn
      simp only [h55] at hK
      go_simp
      exact hK _ _ rfl (Below.refl _ _) (fun h => absurd h (by decide))
    · have h55 : σ 55 = _ := hn 55 (by decide)
      clear hn
      simp only [h55] at hK
      go_simp
      exact hK _ _ rfl (Below.refl _ _) (fun h => absurd h (by decide))
    · have h55 : σ 55 = _ := hn 55 (by decide)
      have h57 : σ 57 = _ := hn 57 (by decide)
      clear hn
      simp only [h55, h57] at hK
      have t1' := bkeep hb t1
      clear t1
      go_simp
      exact hK _ _ rfl (Below.refl _ _) (fun h => absurd h (by decide))
    · have h55 : σ 55 = _ := hn 55 (by decide)
      clear hn
      simp only [h55] at hK
      go_simp
      exact hK _ _ rfl (Below.refl _ _) (fun h => absurd h (by decide))
    · have h55 : σ 55 = _ := hn 55 (by decide)
      have h59 : σ 59 = _ := hn 59 (by decide)
      clear hn
      simp only [h55, h59] at hK
      have x2' := bkeep hb x2
      clear x2
      go_simp
      exact hK _ _ rfl (Below.refl _ _) (fun h => absurd h (by decide))
    · have h55 : σ 55 = _ := hn 55 (by decide)
      have h56 : σ 56 = _ := hn 56 (by decide)
      have h58 : σ 58 = _ := hn 58 (by decide)
      have h60 : σ 60 = _ := hn 60 (by decide)
      clear hn
      simp only [h55, h56, h58, h60] at hK
      go_simp
      go_at_call 20
      refine (k3 _ (bthen HB.out hb) (HK.out _ _ HG0.out (bthen HB.out hb))).mono ?_
      rintro e w1 ⟨rfl, hb1⟩
      exact hK _ _ rfl hb1 (fun h => absurd h (by decide))
    · have h55 : σ 55 = _ := hn 55 (by decide)
      clear hn
      simp only [h55] at hK
      go_simp
      exact hK _ _ rfl (Below.refl _ _) (fun h => absurd h (by decide))
    · have h55 : σ 55 = _ := hn 55 (by decide)
      clear hn
      simp only [h55] at hK
      go_simp
      exact hK _ _ rfl (Below.refl _ _) (fun h => absurd h (by decide))
    · have h55 : σ 55 = _ := hn 55 (by decide)
      have h63 : σ 63 = _ := hn 63 (by decide)
      clear hn
      simp only [h55, h63] at hK
      have t1' := bkeep hb t1
      clear t1
      go_simp
      exact hK _ _ rfl (Below.refl _ _) (fun h => absurd h (by decide))
    · have h55 : σ 55 = _ := hn 55 (by decide)
      clear hn
      simp only [h55] at hK
      go_simp
      exact hK _ _ rfl (Below.refl _ _) (fun h => absurd h (by decide))
    · have h55 : σ 55 = _ := hn 55 (by decide)
      have h65 : σ 65 = _ := hn 65 (by decide)
      clear hn
      simp only [h55, h65] at hK
      have x2' := bkeep hb x2
      clear x2
      go_simp
      exact hK _ _ rfl (Below.refl _ _) (fun h => absurd h (by decide))
    · have h55 : σ 55 = _ := hn 55 (by decide)
      have h62 : σ 62 = _ := hn 62 (by decide)
      have h64 : σ 64 = _ := hn 64 (by decide)
      have h66 : σ 66 = _ := hn 66 (by decide)
      clear hn
      simp only [h55, h62, h64, h66] at hK
      go_simp
      go_at_call 21
      refine (k4 _ (bthen HB.out hb)).mono ?_
      rintro e w1 ⟨rfl, hb1⟩
      exact hK _ _ rfl hb1 (fun h => absurd h (by decide))
    · have h55 : σ 55 = _ := hn 55 (by decide)
      have h61 : σ 61 = _ := hn 61 (by decide)
      have h67 : σ 67 = _ := hn 67 (by decide)
      clear hn
      simp only [h55, h61, h67] at hK
      go_simp
      exact hK _ _ rfl (Below.refl _ _) (fun h => absurd h (by decide))
    · have h55 : σ 55 = _ := hn 55 (by decide)
      have h68 : σ 68 = _ := hn 68 (by decide)
      clear hn
      simp only [h55, h68] at hK
      go_simp
      exact hK _ _ rfl (Below.refl _ _) (fun h => absurd h (by decide))
  · intro σ W' hb hR' hF
    have HB' := Lib.hid (bthen HB.out hb)
    have h69 : σ 69 = .bool true := hR' 69 (by decide)
    clear hR' hF hb
    simp only [fill, List.map, Act.put, List.setIfInBounds_toArray, List.set_cons_zero, List.set_cons_succ, List.length_cons, List.length_nil, List.drop_succ_cons, List.drop_zero, Nat.reduceAdd, h69]
    go_wp2_with fail
    go_ret
    exact ⟨rfl, HB'.out⟩
end Go.Proofs.YtmhpbgdchocoiaaDoor
