/-
  The program's ReadRow.
-/
import Derived.Test.YtmgbdccfgbflnaaONum
import Derived.Test.YtmgbdccfgbflnaaOctRef5
namespace Go.Proofs.Ytmgbdccfgbflnaa
open Go Go.RowKit
set_option linter.unusedVariables false

theorem info64r : (Try.prog.info? 22).map (fun i => (i.zero, i.size, i.bytes)) = some (some (.int .u64 0), 1, 8) := by kernel_rfl
def rdF (s : ByteArray) (k j : Nat) : Value := .int .u64 (if j < k then numB s (8 * j) else 0)
theorem rdF_set (s : ByteArray) (k : Nat) : ∀ j, (if j = k then Value.int .u64 (numB s (8 * k)) else rdF s k j) = rdF s (k + 1) j := by
  intro j
  unfold rdF
  by_cases h : j = k
  · subst h; rw [if_pos rfl, if_pos (by omega)]
  · rw [if_neg h]
    by_cases h2 : j < k
    · rw [if_pos h2, if_pos (by omega)]
    · rw [if_neg h2, if_neg (by omega)]
def ReadRel (w : World) (s : ByteArray) (N : Nat) (i : Value) (W : World) : Prop :=
  ∃ k : Nat, k ≤ N ∧ i = .int .i64 k ∧ Below w.heap.size w W ∧ Arr W w.heap.size N (rdF s k) ∧ ∀ j, j < k → numB s (8 * j) < 18446744069414584321
theorem oread_no (s : ByteArray) (n : Int) (hn : n < 0 ∨ 1048576 < n ∨ (0 ≤ n ∧ n ≤ 1048576 ∧ (s.size : Int) ≠ 8 * n)) (w : World) : Calls Try.prog 16 #[.string s, .int .i64 n] w (ReadPost s n w) := by
  have hno : Hid (¬ OkR s n) := Lib.hid fun h => by have := h.1; have := h.2.1; have := h.2.2.1; omega
  rcases hn with h | h | ⟨h0, h1, h2⟩
  · go_enter Try.func16, Try.ntmps16
    go_wp2
    exact bodyPost_ret (v := .tuple #[.slice none 0 0, .bool false]) (by simp [results, Try.results16, go_sem]) rfl ⟨Below.refl _ _, Or.inl ⟨hno.out, rfl⟩⟩
  · have h0 : ¬ n < 0 := by omega
    go_enter Try.func16, Try.ntmps16
    go_wp2
    exact bodyPost_ret (v := .tuple #[.slice none 0 0, .bool false]) (by simp [results, Try.results16, go_sem]) rfl ⟨Below.refl _ _, Or.inl ⟨hno.out, rfl⟩⟩
  · have h0' : ¬ n < 0 := by omega
    have h1' : ¬ n > 1048576 := by omega
    have hw : IntKind.i64.wrap (8 * n) = 8 * n := IntWalk.i64_in _ (by omega)
    go_enter Try.func16, Try.ntmps16
    go_wp2
    exact bodyPost_ret (v := .tuple #[.slice none 0 0, .bool false]) (by simp [results, Try.results16, go_sem]) rfl ⟨Below.refl _ _, Or.inl ⟨hno.out, rfl⟩⟩
set_option maxHeartbeats 4000000 in
theorem oread_yes (s : ByteArray) (N : Nat) (hN : N ≤ 1048576) (hs : s.size = 8 * N) (w : World) : Calls Try.prog 16 #[.string s, .int .i64 N] w (ReadPost s N w) := by
  have hmk := fun W => run_make_row' (P := Try.prog) 23 22 (.int .u64 0) 8 Try.underlying23 info64r rfl .i64 .i64 N (by omega) (by omega) W
  have h0' : ¬ (N : Int) < 0 := by omega
  have h1' : ¬ (N : Int) > 1048576 := by omega
  have hw : IntKind.i64.wrap (8 * (N : Int)) = 8 * N := IntWalk.i64_in _ (by omega)
  have hs' : (s.size : Int) = 8 * (N : Int) := by omega
  go_enter Try.func16, Try.ntmps16
  go_upto_region 4 with fail
  refine wp_gen (fun W => Below w.heap.size w W ∧ Arr W w.heap.size N (rdF s 0)) ⟨(Below.refl _ _).alloc (Nat.le_refl _) _, (Arr.new w #[.int .u64 0] N _).same (fun j _ => by simp [rdF, Nat.mod_one])⟩ ?_
  clear hmk h0' h1' hw
  rintro W ⟨hB, hA⟩
  go_upto_region 5 with fail
  go_loopw [27] (ReadRel w s N) (fun i _ => N - (intOf i).toNat)
  case atStart => exact ⟨0, Nat.zero_le _, rfl, hB, hA, fun j hj => by omega⟩
  case round =>
    clear hB hA
    obtain ⟨k, hk, rfl, hB, hA, hne⟩ := hrel
    by_cases hlt : k < N
    · have hlt' : (k : Int) < (N : Int) := by omega
      have hw8 : IntKind.i64.wrap (8 * (k : Int)) = ((8 * k : Nat) : Int) := by rw [IntWalk.i64_in _ (by omega)]; omega
      have hle : ((8 * k : Nat) : Int) ≤ (s.size : Int) := by omega
      have kn := fun W => onum_yes (s.extract (8 * k) s.size) (by rw [ByteArray.size_extract]; omega) W
      rw [numB_part s k (by omega), hs] at kn
      have HF := Lib.hid (rdF_set s k)
      have HB := Lib.hid hB; have HA := Lib.hid hA; have HNE := Lib.hid hne
      obtain ⟨c, fz⟩ := hA k hlt
      have hz := numB_U s (8 * k)
      clear hne hB hA
      by_cases hp : numB s (8 * k) < 18446744069414584321
      · have hp' : ¬ numB s (8 * k) ≥ 18446744069414584321 := by omega
        have HP : Hid (∀ j, j < k + 1 → numB s (8 * j) < 18446744069414584321) := Lib.hid fun j hj => by
          by_cases e : j = k
          · subst e; exact hp
          · exact HNE.out j (by omega)
        clear hp HNE
        generalize numB s (8 * k) = z at *
        go_upto_region 10 with (go_at_call 14; ((with_reducible refine (kn _).mono ?_); rintro e w1 ⟨rfl, rfl⟩))
        go_upto_region 11 with fail
        refine wp_gen (fun W => Below w.heap.size w W ∧ Arr W w.heap.size N (rdF s (k + 1))) ⟨HB.out.setCell (Nat.le_refl _) _, (HA.out.set k _ hlt).same (fun j _ => HF.out j)⟩ ?_
        clear HB HA c fz kn hz
        rintro W2 ⟨hB, hA⟩
        go_wp2
        go_roundw
        case rel => exact ⟨k + 1, by omega, by go_num, hB, hA, HP.out⟩
        case measure => simp [intOf]; omega
      · have hp' : numB s (8 * k) ≥ 18446744069414584321 := by omega
        have HO : Hid (¬ OkR s (N : Int)) := Lib.hid fun h => hp (h.2.2.2 k (by omega))
        clear hp HNE HF c fz HA
        generalize numB s (8 * k) = z at *
        go_wp2_with (go_at_call 14; ((with_reducible refine (kn _).mono ?_); rintro e w1 ⟨rfl, rfl⟩))
        exact bodyPost_ret (v := .tuple #[.slice none 0 0, .bool false]) (by simp [results, Try.results16, go_sem]) rfl ⟨HB.out, Or.inl ⟨HO.out, rfl⟩⟩
    · obtain rfl : k = N := by omega
      have HO : Hid (OkR s (k : Int)) := Lib.hid ⟨by omega, by omega, hs', fun j hj => hne j (by omega)⟩
      have HR := Lib.hid (Arr.row (zs := nums s k) (hA.same (f' := fun j => .int .u64 ((nums s k).getD j 0)) (fun j hj => by unfold rdF; rw [if_pos hj]; simp [nums, List.getD, hj])) (nums_len s k) (by unfold maxLen; omega))
      have HB := Lib.hid hB
      clear hA hne hB
      go_wp2
      exact bodyPost_ret (v := .tuple #[.slice (some ⟨w.heap.size, 0, none⟩) k k, .bool true]) (by simp [results, Try.results16, go_sem]) rfl ⟨HB.out, Or.inr ⟨HO.out, _, _, rfl, HR.out⟩⟩
theorem oread_any (s : ByteArray) (n : Int) (w : World) : Calls Try.prog 16 #[.string s, .int .i64 n] w (ReadPost s n w) := by
  by_cases h : n < 0 ∨ 1048576 < n ∨ (0 ≤ n ∧ n ≤ 1048576 ∧ (s.size : Int) ≠ 8 * n)
  · exact oread_no s n h w
  · obtain ⟨N, rfl⟩ := Int.eq_ofNat_of_zero_le (show 0 ≤ n by omega)
    exact oread_yes s N (by omega) (by omega) w
end Go.Proofs.Ytmgbdccfgbflnaa
