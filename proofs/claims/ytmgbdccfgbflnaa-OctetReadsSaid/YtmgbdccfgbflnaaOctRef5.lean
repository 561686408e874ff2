/-
  What the document's ReadRow comes to.
-/
import Derived.Test.YtmgbdccfgbflnaaOctRef4
namespace Go.Proofs.Ytmgbdccfgbflnaa
open Go Go.RowKit
set_option linter.unusedVariables false

def nums (s : ByteArray) (n : Nat) : List Int := (List.range n).map fun j => numB s (8 * j)
theorem nums_len (s : ByteArray) (n : Nat) : (nums s n).length = n := by simp [nums]
theorem nums_snoc (s : ByteArray) (n : Nat) : nums s (n + 1) = nums s n ++ [numB s (8 * n)] := by simp [nums, List.range_succ]
theorem numB_part (s : ByteArray) (k : Nat) (h : 8 * k + 8 ≤ s.size) : numB (s.extract (8 * k) s.size) 0 = numB s (8 * k) := by
  unfold numB
  simp only [numP, Nat.zero_add]
  rw [byt_extract _ _ _ _ (Nat.le_refl _) (by omega), byt_extract _ _ _ _ (Nat.le_refl _) (by omega), byt_extract _ _ _ _ (Nat.le_refl _) (by omega), byt_extract _ _ _ _ (Nat.le_refl _) (by omega), byt_extract _ _ _ _ (Nat.le_refl _) (by omega), byt_extract _ _ _ _ (Nat.le_refl _) (by omega), byt_extract _ _ _ _ (Nat.le_refl _) (by omega), byt_extract _ _ _ _ (Nat.le_refl _) (by omega)]
/-- The bytes are those of so many numbers of the field. -/
def OkR (s : ByteArray) (n : Int) : Prop := 0 ≤ n ∧ n ≤ 1048576 ∧ (s.size : Int) = 8 * n ∧ ∀ k : Nat, (k : Int) < n → numB s (8 * k) < 18446744069414584321
def ReadPost (s : ByteArray) (n : Int) (w : World) (e : Ending) (w' : World) : Prop :=
  Below w.heap.size w w' ∧ ((¬ OkR s n ∧ e = .returned (.tuple #[.slice none 0 0, .bool false])) ∨
    (OkR s n ∧ ∃ a c, e = .returned (.tuple #[.slice a n.toNat c, .bool true]) ∧ Row w' (.slice a n.toNat c) (nums s n.toNat)))
def ReadUp (w : World) (s : ByteArray) (N : Nat) (m i : Value) (W : World) : Prop :=
  ∃ k : Nat, k ≤ N ∧ i = .int .i64 k ∧ MadeU w W m (nums s k) ∧ ∀ j, j < k → numB s (8 * j) < 18446744069414584321
theorem rread_no (s : ByteArray) (n : Int) (hn : n < 0 ∨ 1048576 < n ∨ (0 ≤ n ∧ n ≤ 1048576 ∧ (s.size : Int) ≠ 8 * n)) (w : World) : Calls Try.prog 17 #[.string s, .int .i64 n] w (ReadPost s n w) := by
  have hno : Hid (¬ OkR s n) := Lib.hid fun h => by have := h.1; have := h.2.1; have := h.2.2.1; omega
  rcases hn with h | h | ⟨h0, h1, h2⟩
  · go_enter Try.func17, Try.ntmps17
    go_wp2
    exact bodyPost_ret (v := .tuple #[.slice none 0 0, .bool false]) (by simp [results, Try.results17, go_sem]) rfl ⟨Below.refl _ _, Or.inl ⟨hno.out, rfl⟩⟩
  · have h0 : ¬ n < 0 := by omega
    go_enter Try.func17, Try.ntmps17
    go_wp2
    exact bodyPost_ret (v := .tuple #[.slice none 0 0, .bool false]) (by simp [results, Try.results17, go_sem]) rfl ⟨Below.refl _ _, Or.inl ⟨hno.out, rfl⟩⟩
  · have h0' : ¬ n < 0 := by omega
    have h1' : ¬ n > 1048576 := by omega
    have hw : IntKind.i64.wrap (8 * n) = 8 * n := IntWalk.i64_in _ (by omega)
    go_enter Try.func17, Try.ntmps17
    go_wp2
    exact bodyPost_ret (v := .tuple #[.slice none 0 0, .bool false]) (by simp [results, Try.results17, go_sem]) rfl ⟨Below.refl _ _, Or.inl ⟨hno.out, rfl⟩⟩
set_option maxHeartbeats 4000000 in
theorem rread_yes (s : ByteArray) (N : Nat) (hN : N ≤ 1048576) (hs : s.size = 8 * N) (w : World) : Calls Try.prog 17 #[.string s, .int .i64 N] w (ReadPost s N w) := by
  obtain ⟨i0, hi, hz0, hz1, hz2⟩ := info_parts info64'
  have h0' : ¬ (N : Int) < 0 := by omega
  have h1' : ¬ (N : Int) > 1048576 := by omega
  have hw : IntKind.i64.wrap (8 * (N : Int)) = 8 * N := IntWalk.i64_in _ (by omega)
  have hs' : (s.size : Int) = 8 * (N : Int) := by omega
  go_enter Try.func17, Try.ntmps17
  go_upto_region 5 with fail
  clear h0' h1' hw
  go_loopw [6, 7] (ReadUp w s N) (fun _ i _ => N - (intOf i).toNat)
  case atStart => exact ⟨0, Nat.zero_le _, rfl, MadeU.start w, fun j hj => by omega⟩
  case round =>
    obtain ⟨k, hk, rfl, hM, hne⟩ := hrel
    by_cases hlt : k < N
    · have hlt' : (k : Int) < (N : Int) := by omega
      have hw8 : IntKind.i64.wrap (8 * (k : Int)) = ((8 * k : Nat) : Int) := by rw [IntWalk.i64_in _ (by omega)]; omega
      have hle : ((8 * k : Nat) : Int) ≤ (s.size : Int) := by omega
      have kn := fun W => rnum_yes (s.extract (8 * k) s.size) (by rw [ByteArray.size_extract]; omega) W
      rw [numB_part s k (by omega), hs] at kn
      have hz := numB_U s (8 * k)
      have HS := Lib.hid (nums_snoc s k)
      have hlen := nums_len s k
      have HNE := Lib.hid hne
      clear hne
      by_cases hp : numB s (8 * k) < 18446744069414584321
      · have hp' : ¬ numB s (8 * k) ≥ 18446744069414584321 := by omega
        have HP : Hid (∀ j, j < k + 1 → numB s (8 * j) < 18446744069414584321) := Lib.hid fun j hj => by
          by_cases e : j = k
          · subst e; exact hp
          · exact HNE.out j (by omega)
        clear hp HNE
        generalize numB s (8 * k) = z at *
        obtain ⟨xs, hxs⟩ : ∃ xs, nums s k = xs := ⟨_, rfl⟩
        rw [hxs] at HS hlen hM
        clear hxs
        go_upto_region 10 with (go_at_call 15; ((with_reducible refine (kn _).mono ?_); rintro e w1 ⟨rfl, rfl⟩))
        refine wp_gen (fun W => MadeU w W u6 xs) hM ?_
        clear hM
        intro W hM
        have hstep := fun w1 v' => @MadeU.step w _ w1 _ v' xs z hM
        have hown := hM.1
        have hsz := hM.2.size
        have HT := Lib.hid hstep
        clear hstep hM kn
        generalize xs.length = nn at *
        generalize xs.map (Value.int .u64) = cs at *
        go_wp2_with (at_builtin; refine wpList_append_own _ rfl _ _ 23 rfl w.heap.size 22 i0 (.int .u64 0) 1 8 Try.underlying23 hi hz0 hz1 hz2 rfl (by decide) _ _ _ rfl (hown.alloc _) ⟨W.heap.size, 0, none⟩ 1 1 [.int .u64 z] rfl rfl ?c1 ?c2 ?c3 ?c4 ?c5 ?_)
        case c1 => exact one_src (by simp [go_sem])
        case c2 => first | rfl | (intro u hu; simp at hu; subst hu; rfl)
        case c3 => unfold maxLen; omega
        case c4 => omega
        case c5 => first | omega | (simp; omega)
        · intro v' w1 hown' hgrow _
          have R := HT.out w1 v' _ (by rw [hlen]; exact hown') hgrow
          clear hown' hgrow hown HT
          go_wp2
          go_roundw
          case rel => exact ⟨k + 1, by omega, by go_num, by rw [HS.out]; exact R, HP.out⟩
          case measure => simp [intOf]; omega
      · have hp' : numB s (8 * k) ≥ 18446744069414584321 := by omega
        have HO : Hid (¬ OkR s (N : Int)) := Lib.hid fun h => hp (h.2.2.2 k (by omega))
        have hB := hM.2
        clear hM hp HS HNE
        generalize numB s (8 * k) = z at *
        go_wp2_with (go_at_call 15; ((with_reducible refine (kn _).mono ?_); rintro e w1 ⟨rfl, rfl⟩))
        exact bodyPost_ret (v := .tuple #[.slice none 0 0, .bool false]) (by simp [results, Try.results17, go_sem]) rfl ⟨hB, Or.inl ⟨HO.out, rfl⟩⟩
    · obtain rfl : k = N := by omega
      have HO : Hid (OkR s (k : Int)) := Lib.hid ⟨by omega, by omega, hs', fun j hj => hne j (by omega)⟩
      obtain ⟨am, cm, hv, hrow⟩ := hM.row
      have hB := hM.2
      rw [nums_len] at hv hrow
      clear hM hne hlt
      subst hv
      go_wp2
      exact bodyPost_ret (v := .tuple #[.slice am k cm, .bool true]) (by simp [results, Try.results17, go_sem]) rfl ⟨hB, Or.inr ⟨HO.out, am, cm, rfl, hrow⟩⟩
theorem rread_any (s : ByteArray) (n : Int) (w : World) : Calls Try.prog 17 #[.string s, .int .i64 n] w (ReadPost s n w) := by
  by_cases h : n < 0 ∨ 1048576 < n ∨ (0 ≤ n ∧ n ≤ 1048576 ∧ (s.size : Int) ≠ 8 * n)
  · exact rread_no s n h w
  · obtain ⟨N, rfl⟩ := Int.eq_ofNat_of_zero_le (show 0 ≤ n by omega)
    exact rread_yes s N (by omega) (by omega) w
end Go.Proofs.Ytmgbdccfgbflnaa
