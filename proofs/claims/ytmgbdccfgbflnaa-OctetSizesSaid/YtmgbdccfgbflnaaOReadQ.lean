/-
  The program's ReadPairs.
-/
import Derived.Test.YtmgbdccfgbflnaaORead
import Derived.Test.YtmgbdccfgbflnaaOctRef6
namespace Go.Proofs.Ytmgbdccfgbflnaa
open Go Go.RowKit
set_option linter.unusedVariables false

theorem info8Qr : (Try.prog.info? 41).map (fun i => (i.zero, i.size, i.bytes)) = some (some (.agg #[.int .u64 0, .int .u64 0]), 2, 16) := by kernel_rfl
def rdQ' (s : ByteArray) (k j : Nat) : Int × Int := if j < k then (numB s (8 * (2 * j)), numB s (8 * (2 * j + 1))) else (0, 0)
def ReadRelQ (w w1 : World) (s : ByteArray) (N : Nat) (i : Value) (W : World) : Prop :=
  ∃ k : Nat, k ≤ N ∧ i = .int .i64 k ∧ Below w1.heap.size w1 W ∧ Arr W w1.heap.size (N * 2) (pc (rdQ' s k))
theorem rdQ'_set (s : ByteArray) (k : Nat) : ∀ j, (if j = k then (numB s (8 * (2 * k)), numB s (8 * (2 * k + 1))) else rdQ' s k j) = rdQ' s (k + 1) j := by
  intro j
  unfold rdQ'
  by_cases h : j = k
  · subst h; rw [if_pos rfl, if_pos (by omega)]
  · rw [if_neg h]
    by_cases h2 : j < k
    · rw [if_pos h2, if_pos (by omega)]
    · rw [if_neg h2, if_neg (by omega)]
theorem oreadq_far (s : ByteArray) (n : Int) (hn : n < 0 ∨ 524288 < n) (w : World) : Calls Try.prog 18 #[.string s, .int .i64 n] w (ReadPostQ s n w) := by
  have hno : Hid (¬ OkR s (2 * n)) := Lib.hid fun h => by have := h.1; have := h.2.1; omega
  rcases hn with h | h
  · go_enter Try.func18, Try.ntmps18
    go_wp2
    exact bodyPost_ret (v := .tuple #[.slice none 0 0, .bool false]) (by simp [results, Try.results18, go_sem]) rfl ⟨Below.refl _ _, Or.inl ⟨hno.out, rfl⟩⟩
  · have h0 : ¬ n < 0 := by omega
    go_enter Try.func18, Try.ntmps18
    go_wp2
    exact bodyPost_ret (v := .tuple #[.slice none 0 0, .bool false]) (by simp [results, Try.results18, go_sem]) rfl ⟨Below.refl _ _, Or.inl ⟨hno.out, rfl⟩⟩
set_option maxHeartbeats 4000000 in
theorem oreadq_near (s : ByteArray) (N : Nat) (hN : N ≤ 524288) (w : World) : Calls Try.prog 18 #[.string s, .int .i64 N] w (ReadPostQ s N w) := by
  have hmk := fun W => run_make_pairs (P := Try.prog) 24 41 (.agg #[.int .u64 0, .int .u64 0]) Try.underlying24 info8Qr rfl N (by omega) W
  have h0' : ¬ (N : Int) < 0 := by omega
  have h1' : ¬ (N : Int) > 524288 := by omega
  have hw : IntKind.i64.wrap (2 * (N : Int)) = 2 * N := IntWalk.i64_in _ (by omega)
  have kr := fun W => oread_any s (2 * (N : Int)) W
  unfold ReadPost at kr
  go_enter Try.func18, Try.ntmps18
  go_upto_region 4 with (go_at_call 16; ((with_reducible refine (kr _).mono ?_); rintro e w1 ⟨hb, ⟨ho, rfl⟩ | ⟨ho, a, c, rfl, hrow⟩⟩))
  · have HO := Lib.hid ho
    clear ho kr
    go_wp2
    exact bodyPost_ret (v := .tuple #[.slice none 0 0, .bool false]) (by simp [results, Try.results18, go_sem]) rfl ⟨hb, Or.inl ⟨HO.out, rfl⟩⟩
  · have HO := Lib.hid ho
    have ht : (2 * (N : Int)).toNat = 2 * N := by omega
    simp only [ht] at hrow ⊢
    obtain ⟨hl, hm, hcell⟩ := hrow.at
    have HC := Lib.hid hcell
    clear ho kr hrow hcell hl hm h0' h1' hw ht
    go_upto_region 7 with fail
    refine wp_gen (fun W => Below w1.heap.size w1 W ∧ Arr W w1.heap.size (N * 2) (pc (rdQ' s 0))) ⟨(Below.refl _ _).alloc (Nat.le_refl _) _, (Arr.newq w1 N _).same (fun j hj => pc_same (n := N) (fun i _ => rfl) j hj)⟩ ?_
    clear hmk
    rintro W ⟨hB, hA⟩
    have HB0 := Lib.hid hB; have HA0 := Lib.hid hA
    clear hB hA
    go_upto_region 8 with fail
    go_loopw [29] (ReadRelQ w w1 s N) (fun i _ => N - (intOf i).toNat)
    case atStart => exact ⟨0, Nat.zero_le _, rfl, HB0.out, HA0.out⟩
    case round =>
      clear HB0 HA0
      obtain ⟨k, hk, rfl, hB, hA⟩ := hrel
      by_cases hlt : k < N
      · obtain ⟨b, off, rfl, g0⟩ := HC.out (2 * k) (by omega)
        obtain ⟨b', off', e, g1⟩ := HC.out (2 * k + 1) (by omega)
        cases e
        rw [nums_at _ _ _ (by omega)] at g0 g1
        have c0 := bkeep hB g0; have c1 := bkeep hB g1
        have hlt' : (k : Int) < (N : Int) := by omega
        have hw1 : IntKind.i64.wrap (2 * (k : Int)) = 2 * (k : Int) := IntWalk.i64_in _ (by omega)
        have hw2 : IntKind.i64.wrap (2 * (k : Int) + 1) = 2 * (k : Int) + 1 := IntWalk.i64_in _ (by omega)
        have hw3 : wrap64 (2 * (k : Int) + 1) = 2 * (k : Int) + 1 := IntWalk.wrap64_in _ (by omega)
        have hw4 : wrap64 (2 * (k : Int)) = 2 * (k : Int) := IntWalk.wrap64_in _ (by omega)
        have ht1 : (2 * (k : Int)).toNat = 2 * k := by omega
        have ht2 : (2 * (k : Int) + 1).toNat = 2 * k + 1 := by omega
        have hp1 : 0 ≤ 2 * (k : Int) := by omega
        have hp2 : 0 ≤ 2 * (k : Int) + 1 := by omega
        have hp3 : 2 * (k : Int) < 2 * (N : Int) := by omega
        have hp4 : 2 * (k : Int) + 1 < 2 * (N : Int) := by omega
        have hF := Lib.hid (rdQ'_set s k)
        obtain ⟨d0, d1, f0, f1⟩ := hA.cells k hlt
        have HA := Lib.hid hA; have HB := Lib.hid hB
        clear g0 g1 hA hB
        generalize numB s (8 * (2 * k)) = y at *
        generalize numB s (8 * (2 * k + 1)) = y' at *
        go_upto_region 10 with fail
        go_region
        have R1 := Lib.hid (show Below w1.heap.size w1 ((wr.setCell ⟨w1.heap.size, k * 2, none⟩ (.int .u64 y)).setCell ⟨w1.heap.size, k * 2 + 1, none⟩ (.int .u64 y')).drew from ((HB.out.setCell (Nat.le_refl _) _).setCell (Nat.le_refl _) _).drew)
        have R2 := Lib.hid (show Arr ((wr.setCell ⟨w1.heap.size, k * 2, none⟩ (.int .u64 y)).setCell ⟨w1.heap.size, k * 2 + 1, none⟩ (.int .u64 y')).drew w1.heap.size (N * 2) (pc (rdQ' s (k + 1))) from ((HA.out.setq k y y' hlt).same (fun j hj => pc_same (n := N) (fun i _ => hF.out i) j hj)))
        generalize ((wr.setCell ⟨w1.heap.size, k * 2, none⟩ (.int .u64 y)).setCell ⟨w1.heap.size, k * 2 + 1, none⟩ (.int .u64 y')).drew = W2 at *
        clear HA HB hF c0 c1 d0 d1 f0 f1
        go_wp2_with fail
        go_roundw
        case rel => exact ⟨k + 1, by omega, by go_num, R1.out, R2.out⟩
        case measure => simp [intOf]; omega
      · obtain rfl : k = N := by omega
        have hpq : ∀ j, j < k * 2 → pc (rdQ' s k) j = .int .u64 (if j % 2 = 0 then ((prs s k).getD (j / 2) (0, 0)).1 else ((prs s k).getD (j / 2) (0, 0)).2) := by
          intro j hj
          have hj2 : j / 2 < k := by omega
          have e : (prs s k).getD (j / 2) (0, 0) = rdQ' s k (j / 2) := by unfold rdQ'; rw [if_pos hj2]; simp [prs, List.getD, hj2]
          rw [e]
          rfl
        have HR := Lib.hid (Arr.qrow (zs := prs s k) (hA.same hpq) (prs_len s k) (by unfold maxLen; omega))
        have HB := Lib.hid (bthen hb hB)
        clear hA hB hlt hpq
        go_wp2
        exact bodyPost_ret (v := .tuple #[.slice (some ⟨w1.heap.size, 0, none⟩) k k, .bool true]) (by simp [results, Try.results18, go_sem]) rfl ⟨HB.out, Or.inr ⟨HO.out, _, _, rfl, HR.out⟩⟩
theorem oreadq_any (s : ByteArray) (n : Int) (w : World) : Calls Try.prog 18 #[.string s, .int .i64 n] w (ReadPostQ s n w) := by
  by_cases h : n < 0 ∨ 524288 < n
  · exact oreadq_far s n h w
  · obtain ⟨N, rfl⟩ := Int.eq_ofNat_of_zero_le (show 0 ≤ n by omega)
    exact oreadq_near s N (by omega) w
end Go.Proofs.Ytmgbdccfgbflnaa
