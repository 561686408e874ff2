/-
  What the document's ReadPairs comes to.
-/
import Derived.Test.YtmgbdccfgbflnaaOctRef5
import Derived.Test.YtmgbdccfgbflnaaOwnQ
import Derived.BigRegion
import Derived.Test.YtmgbdccfgbflnaaApps
import Derived.Deep.RegionLaw
namespace Go.Proofs.Ytmgbdccfgbflnaa
open Go Go.RowKit
set_option linter.unusedVariables false

theorem info8Q : (Try.prog.info? 41).map (fun i => (i.zero, i.size, i.bytes)) = some (some (.agg #[.int .u64 0, .int .u64 0]), 2, 16) := by kernel_rfl
def prs (s : ByteArray) (n : Nat) : List (Int × Int) := (List.range n).map fun j => (numB s (8 * (2 * j)), numB s (8 * (2 * j + 1)))
theorem prs_len (s : ByteArray) (n : Nat) : (prs s n).length = n := by simp [prs]
theorem prs_snoc (s : ByteArray) (n : Nat) : prs s (n + 1) = prs s n ++ [(numB s (8 * (2 * n)), numB s (8 * (2 * n + 1)))] := by simp [prs, List.range_succ]
theorem nums_at (s : ByteArray) (n k : Nat) (h : k < n) : (nums s n).getD k 0 = numB s (8 * k) := by simp [nums, List.getD, h]
def ReadPostQ (s : ByteArray) (n : Int) (w : World) (e : Ending) (w' : World) : Prop :=
  Below w.heap.size w w' ∧ ((¬ OkR s (2 * n) ∧ e = .returned (.tuple #[.slice none 0 0, .bool false])) ∨
    (OkR s (2 * n) ∧ ∃ a c, e = .returned (.tuple #[.slice a n.toNat c, .bool true]) ∧ QRow w' (.slice a n.toNat c) (prs s n.toNat)))
def ReadUpQ (w : World) (s : ByteArray) (N : Nat) (m i : Value) (W : World) : Prop :=
  ∃ k : Nat, k ≤ N ∧ i = .int .i64 k ∧ MadeQ w W m (prs s k)
theorem rreadq_far (s : ByteArray) (n : Int) (hn : n < 0 ∨ 1048576 < n) (w : World) : Calls Try.prog 19 #[.string s, .int .i64 n] w (ReadPostQ s n w) := by
  have hno : Hid (¬ OkR s (2 * n)) := Lib.hid fun h => by have := h.1; have := h.2.1; omega
  rcases hn with h | h
  · go_enter Try.func19, Try.ntmps19
    go_wp2
    exact bodyPost_ret (v := .tuple #[.slice none 0 0, .bool false]) (by simp [results, Try.results19, go_sem]) rfl ⟨Below.refl _ _, Or.inl ⟨hno.out, rfl⟩⟩
  · have h0 : ¬ n < 0 := by omega
    go_enter Try.func19, Try.ntmps19
    go_wp2
    exact bodyPost_ret (v := .tuple #[.slice none 0 0, .bool false]) (by simp [results, Try.results19, go_sem]) rfl ⟨Below.refl _ _, Or.inl ⟨hno.out, rfl⟩⟩
set_option maxHeartbeats 4000000 in
theorem rreadq_near (s : ByteArray) (N : Nat) (hN : N ≤ 1048576) (w : World) : Calls Try.prog 19 #[.string s, .int .i64 N] w (ReadPostQ s N w) := by
  obtain ⟨i0, hi, hz0, hz1, hz2⟩ := info_parts info8Q
  have h0' : ¬ (N : Int) < 0 := by omega
  have h1' : ¬ (N : Int) > 1048576 := by omega
  have hw : IntKind.i64.wrap (2 * (N : Int)) = 2 * N := IntWalk.i64_in _ (by omega)
  have kr := fun W => rread_any s (2 * (N : Int)) W
  unfold ReadPost at kr
  go_enter Try.func19, Try.ntmps19
  go_upto_region 4 with (go_at_call 17; ((with_reducible refine (kr _).mono ?_); rintro e w1 ⟨hb, ⟨ho, rfl⟩ | ⟨ho, a, c, rfl, hrow⟩⟩))
  · have HO := Lib.hid ho
    clear ho kr
    go_wp2
    exact bodyPost_ret (v := .tuple #[.slice none 0 0, .bool false]) (by simp [results, Try.results19, go_sem]) rfl ⟨hb, Or.inl ⟨HO.out, rfl⟩⟩
  · have HO := Lib.hid ho
    have ht : (2 * (N : Int)).toNat = 2 * N := by omega
    simp only [ht] at hrow ⊢
    obtain ⟨hl, hm, hcell⟩ := hrow.at
    have HC := Lib.hid hcell
    clear ho kr hrow hcell hl hm h0' h1' hw
    go_upto_region 8 with fail
    go_loopw [8, 9] (fun m i W => ReadUpQ w1 s N m i W) (fun _ i _ => N - (intOf i).toNat)
    case atStart => exact ⟨0, Nat.zero_le _, rfl, MadeQ.start w1⟩
    case round =>
      obtain ⟨k, hk, rfl, hM⟩ := hrel
      by_cases hlt : k < N
      · obtain ⟨b, off, rfl, g0⟩ := HC.out (2 * k) (by omega)
        obtain ⟨b', off', e, g1⟩ := HC.out (2 * k + 1) (by omega)
        cases e
        rw [nums_at _ _ _ (by omega)] at g0 g1
        have c0 := bkeep hM.2 g0; have c1 := bkeep hM.2 g1
        have hlt' : (k : Int) < (N : Int) := by omega
        have hw1 : IntKind.i64.wrap (2 * (k : Int)) = 2 * (k : Int) := IntWalk.i64_in _ (by omega)
        have hw2 : IntKind.i64.wrap (2 * (k : Int) + 1) = 2 * (k : Int) + 1 := IntWalk.i64_in _ (by omega)
        have hw3 : wrap64 (2 * (k : Int) + 1) = 2 * (k : Int) + 1 := IntWalk.wrap64_in _ (by omega)
        have hw4 : wrap64 (2 * (k : Int)) = 2 * (k : Int) := IntWalk.wrap64_in _ (by omega)
        have ht1 : (2 * (k : Int)).toNat = 2 * k := by omega
        have ht2 : (2 * (k : Int) + 1).toNat = 2 * k + 1 := by omega
        have hp1 : 0 ≤ 2 * (k : Int) := by omega
        have hp2 : 0 ≤ 2 * (k : Int) + 1 := by omega
        have hp3 : 2 * (k : Int) < 2 * (N : Int) := by omega
        have hp4 : 2 * (k : Int) + 1 < 2 * (N : Int) := by omega
        have HS := Lib.hid (prs_snoc s k)
        have hlen := prs_len s k
        clear g0 g1
        generalize numB s (8 * (2 * k)) = y at *
        generalize numB s (8 * (2 * k + 1)) = y' at *
        obtain ⟨xs, hxs⟩ : ∃ xs, prs s k = xs := ⟨_, rfl⟩
        rw [hxs] at HS hlen hM
        clear hxs
        go_upto_region 10 with fail
        have hMd : MadeQ w1 wr.drew u8 xs := hM.keep (Below.refl _ _).drew
        have hown := hMd.1
        have hsz := hM.2.size
        have HT := Lib.hid (fun w2 v' => @MadeQ.step w1 _ w2 _ v' xs y y' hMd)
        clear hM hMd
        go_region_law (refine wp_append_own_at (.tmp 30) (.tmp 43) 24 (by rfl) w1.heap.size 41 i0 (.agg #[.int .u64 0, .int .u64 0]) 2 16 Try.underlying24 hi hz0 hz1 hz2 rfl (by decide) u8 _ _ (by rfl) (hown.alloc _) ⟨wr.heap.size, 0, none⟩ 1 1 [.int .u64 y, .int .u64 y'] (by rfl) rfl (two_src (by simp [go_sem]) (by simp [go_sem])) (by intro u hu; simp at hu; rcases hu with rfl | rfl <;> rfl) (by unfold maxLen; omega) (by omega) (by simp [go_sem]; omega) ?_; intro v' w2 hown' hgrow _)
        all_goals
          have R := Lib.hid (HT.out w2 v' _ hown' hgrow)
          clear hown' hgrow hown HT c0 c1
          go_wp2_with fail
          go_roundw
          case rel => exact ⟨k + 1, by omega, by go_num, by rw [HS.out]; exact R.out⟩
          case measure => simp [intOf]; omega
      · obtain rfl : k = N := by omega
        obtain ⟨am, cm, hv, hrow⟩ := hM.row
        have hB := bthen hb hM.2
        rw [prs_len] at hv hrow
        clear hM hlt
        subst hv
        go_wp2
        exact bodyPost_ret (v := .tuple #[.slice am k cm, .bool true]) (by simp [results, Try.results19, go_sem]) rfl ⟨hB, Or.inr ⟨HO.out, am, cm, rfl, hrow⟩⟩
theorem rreadq_any (s : ByteArray) (n : Int) (w : World) : Calls Try.prog 19 #[.string s, .int .i64 n] w (ReadPostQ s n w) := by
  by_cases h : n < 0 ∨ 1048576 < n
  · exact rreadq_far s n h w
  · obtain ⟨N, rfl⟩ := Int.eq_ofNat_of_zero_le (show 0 ≤ n by omega)
    exact rreadq_near s N (by omega) w
end Go.Proofs.Ytmgbdccfgbflnaa
