/-
  What prime.Pow, prime.Inv come to, as the field's: contracts for the walk.
-/
import Derived.Test.YteleepblfipncaaPrime
import Derived.LoopTactic
namespace Go.Proofs.Yteleepblfipncaa
open Go.RowKit
set_option linter.unusedVariables false

theorem ret_int {k : IntKind} {a b : Int} (h : a = b) : Ending.returned (.int k a) = .returned (.int k b) := by rw [h]

theorem and1 (a : Int) (ha : U a) : bits .and .u64 a 1 = a % 2 := by
  obtain ⟨a0, a1⟩ := ha
  obtain ⟨n, rfl⟩ := Int.eq_ofNat_of_zero_le a0
  have h := bits_and_u64_nat n 1 (by omega) (by omega)
  rw [show n &&& 1 = n % 2 from Nat.and_one_is_mod n] at h
  exact h.trans (by omega)

/-- What is left to do: out times base to the k. -/
def PowInv (x : F) (n : Int) (k : Int) (o b : F) : Prop := o * fpow b k.toNat = fpow x n.toNat
theorem powInv_start (x : F) (n : Int) : PowInv x n n 1 x := by unfold PowInv; grind
theorem powInv_end {x : F} {n : Int} {o b : F} (h : PowInv x n 0 o b) : o = fpow x n.toNat := by unfold PowInv at h; rw [← h]; simp only [Int.toNat_zero, fpow]; grind
theorem powInv_odd {x : F} {n k : Int} {o b : F} (h0 : 0 < k) (h : k % 2 = 1) (hp : PowInv x n k o b) : PowInv x n (k / 2) (o * b) (b * b) := by
  unfold PowInv at *
  rw [← hp, fpow_two, show k.toNat = 2 * (k / 2).toNat + 1 by omega, fpow_succ]
  grind
theorem powInv_even {x : F} {n k : Int} {o b : F} (h0 : 0 < k) (h : ¬ k % 2 = 1) (hp : PowInv x n k o b) : PowInv x n (k / 2) o (b * b) := by
  unfold PowInv at *
  rw [← hp, fpow_two, show k.toNat = 2 * (k / 2).toNat by omega]

set_option maxHeartbeats 1000000 in
theorem pow_any (a n : Int) (ha : U a) (hn : U n) (w : World) : Calls Try.prog 34 #[.int .u64 a, .int .u64 n] w fun e w' => e = .returned (.int .u64 (enc (fpow (toF a) n.toNat))) ∧ w = w' := by
  have hs := powInv_start (toF a) n
  go_enter Try.func34, Try.ntmps34
  go_wp2_with (go_at_call 57; ((with_reducible refine (kept_any a ha _).mono ?_); rintro e w' ⟨rfl, rfl⟩))
  go_loop [1, 5, 6] (fun k o b => ∃ (k' : Int) (o' b' : F), U k' ∧ PowInv (toF a) n k' o' b' ∧ k = .int .u64 k' ∧ o = .int .u64 (enc o') ∧ b = .int .u64 (enc b')) (fun k _ _ => (intOf k).toNat)
  case atStart => exact ⟨n, 1, toF a, hn, hs, rfl, rfl, rfl⟩
  case round =>
    obtain ⟨k, o, b, hk, hp, rfl, rfl, rfl⟩ := hrel
    have m1 := fun w => mul_any (enc o) (enc b) (enc_U _) (enc_U _) w
    have m2 := fun w => mul_any (enc b) (enc b) (enc_U _) (enc_U _) w
    simp only [toF_enc] at m1 m2
    have hk0 := hk.1
    have hb1 := and1 k hk
    by_cases h0 : 0 < k
    · have hk2 : U (k / 2) := by unfold U at *; omega
      by_cases h1 : k % 2 = 1
      · have HP := Lib.hid (powInv_odd h0 h1 hp)
        rw [h1] at hb1
        clear h1 hp hs
        go_wp2_with (first | (go_at_call 37; ((with_reducible refine (m1 _).mono ?_); rintro e w' ⟨rfl, rfl⟩)) | (go_at_call 37; ((with_reducible refine (m2 _).mono ?_); rintro e w' ⟨rfl, rfl⟩)))
        go_round
        case rel => exact ⟨k / 2, o * b, b * b, hk2, HP.out, rfl, rfl, rfl⟩
        case measure => simp [intOf]; omega
      · have HP := Lib.hid (powInv_even h0 h1 hp)
        have hb2 : bits .and .u64 k 1 = 0 := by omega
        clear h1 hp hs hb1
        go_wp2_with (first | (go_at_call 37; ((with_reducible refine (m1 _).mono ?_); rintro e w' ⟨rfl, rfl⟩)) | (go_at_call 37; ((with_reducible refine (m2 _).mono ?_); rintro e w' ⟨rfl, rfl⟩)))
        go_round
        case rel => exact ⟨k / 2, o, b * b, hk2, HP.out, rfl, rfl, rfl⟩
        case measure => simp [intOf]; omega
    · obtain rfl : k = 0 := by omega
      have HP := Lib.hid (powInv_end hp)
      clear hp hs hb1
      go_wp2
      go_ret
      exact ⟨by rw [← HP.out]; rfl, rfl⟩

theorem inv_no (a : Int) (ha : U a) (h : toF a = 0) (w : World) : Calls Try.prog 47 #[.int .u64 a] w fun e w' => e = .returned (.tuple #[.int .u64 0, .bool false]) ∧ w = w' := by
  have k := fun w => kept_any a ha w
  rw [h, enc_zero] at k
  clear h
  go_enter Try.func47, Try.ntmps47
  go_wp2_with (go_at_call 57; ((with_reducible refine (k _).mono ?_); rintro e w' ⟨rfl, rfl⟩))
  go_ret2
  exact ⟨rfl, rfl⟩

theorem inv_yes (a : Int) (ha : U a) (h : toF a ≠ 0) (w : World) : Calls Try.prog 47 #[.int .u64 a] w fun e w' => e = .returned (.tuple #[.int .u64 (enc (fpow (toF a) 18446744069414584319)), .bool true]) ∧ w = w' := by
  have h' : (enc (toF a) == 0) = false := by
    have : ¬ enc (toF a) = 0 := fun hh => h (enc_inj.mp (hh.trans enc_zero.symm))
    simpa using this
  have k := fun w => pow_any a 18446744069414584319 ha ⟨by decide, by decide⟩ w
  rw [show (18446744069414584319 : Int).toNat = 18446744069414584319 from rfl] at k
  generalize fpow (toF a) 18446744069414584319 = z at *
  clear h
  go_enter Try.func47, Try.ntmps47
  go_wp2_with (first | (go_at_call 57; ((with_reducible refine (kept_any a ha _).mono ?_); rintro e w' ⟨rfl, rfl⟩)) | (go_at_call 34; ((with_reducible refine (k _).mono ?_); rintro e w' ⟨rfl, rfl⟩)))
  go_ret2
  exact ⟨rfl, rfl⟩
end Go.Proofs.Yteleepblfipncaa
