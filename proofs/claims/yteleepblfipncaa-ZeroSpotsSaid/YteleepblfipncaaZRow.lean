/-
  The points of rows and of places: what the program's and the document's calls come to.
-/
import Derived.Test.YteleepblfipncaaZeroM
import Derived.Test.YteleepblfipncaaRootLog
namespace Go.Proofs.Yteleepblfipncaa
open Go.RowKit
set_option linter.unusedVariables false

/-- The point of row i of 2^k, as the calls tell it: 0 below 0. -/
def rowv (k i : Int) : F := if i < 0 then 0 else fpow (ofv k) i.toNat
theorem rowv_neg {k i : Int} (h : i < 0) : rowv k i = 0 := if_pos h
theorem rowv_nat (k i : Nat) (hk : k ≤ 32) : rowv k i = rw' k i := by
  unfold rowv rw'
  rw [if_neg (by omega), ofv_in (by omega) (by omega), Int.toNat_natCast, Int.toNat_natCast]

theorem zrow_is (k i z : Int) (hi : I64 i) (hz : enc (rowv k i) = z) (w : World) : Calls Try.prog 12 #[.int .i64 k, .int .i64 i] w fun e w' => e = .returned (.int .u64 z) ∧ w = w' := by
  obtain ⟨i1, i2⟩ := hi
  by_cases c : i < 0
  · have e0 : z = 0 := by rw [← hz, rowv_neg c]; rfl
    subst e0
    clear hz i1 i2
    go_enter Try.func12, Try.ntmps12
    go_wp2
    go_ret
    exact ⟨rfl, rfl⟩
  · have i0 : 0 ≤ i := by omega
    have K1 := of_is k (enc (ofv k)) rfl
    have K2 := pow_is (enc (ofv k)) i z (enc_U _) ⟨i0, by omega⟩ (by rw [toF_enc, ← hz]; unfold rowv; rw [if_neg c])
    generalize enc (ofv k) = r at *
    clear hz c
    go_enter Try.func12, Try.ntmps12
    go_wp2_with (first | (go_at_call 35; ((with_reducible refine (K1 _).mono ?_); rintro e w' ⟨rfl, rfl⟩)) | (go_at_call 34; ((with_reducible refine (K2 _).mono ?_); rintro e w' ⟨rfl, rfl⟩)))
    go_ret
    exact ⟨rfl, rfl⟩

theorem zplace_is (k i z : Int) (hi : I64 i) (hz : enc (7 * rowv k i) = z) (w : World) : Calls Try.prog 14 #[.int .i64 k, .int .i64 i] w fun e w' => e = .returned (.int .u64 z) ∧ w = w' := by
  have K1 := zrow_is k i (enc (rowv k i)) hi rfl
  have K2 := mul_is 7 (enc (rowv k i)) z (U_lit _ rfl rfl) (enc_U _) (by rw [toF_enc, ← hz, show toF 7 = 7 by decide +kernel])
  generalize enc (rowv k i) = r at *
  clear hz hi
  go_enter Try.func14, Try.ntmps14
  go_wp2_with (first | (go_at_call 12; ((with_reducible refine (K1 _).mono ?_); rintro e w' ⟨rfl, rfl⟩)) | (go_at_call 37; ((with_reducible refine (K2 _).mono ?_); rintro e w' ⟨rfl, rfl⟩)))
  go_ret
  exact ⟨rfl, rfl⟩

theorem rzrow_is (k i z : Int) (hi : I64 i) (hz : enc (rowv k i) = z) (w : World) : Calls Try.prog 13 #[.int .i64 k, .int .i64 i] w fun e w' => e = .returned (.int .u64 z) ∧ ∃ n, w' = w.drewN n := by
  obtain ⟨i1, i2⟩ := hi
  by_cases c : i < 0
  · have e0 : z = 0 := by rw [← hz, rowv_neg c]; rfl
    subst e0
    clear hz i1 i2
    go_enter Try.func13, Try.ntmps13
    go_wp2
    go_ret
    exact ⟨rfl, 0, rfl⟩
  · have i0 : 0 ≤ i := by omega
    have K1 := refof_is k (enc (ofv k)) rfl
    have K2 := refpow_any (enc (ofv k)) i (enc_U _) ⟨i0, by omega⟩
    rw [show enc (fpow (toF (enc (ofv k))) i.toNat) = z by rw [toF_enc, ← hz]; unfold rowv; rw [if_neg c]] at K2
    generalize enc (ofv k) = r at *
    clear hz c
    go_enter Try.func13, Try.ntmps13
    go_wp2_with (first | (go_at_call 21; ((with_reducible refine (K1 _).mono ?_); rintro e w' ⟨rfl, n1, rfl⟩)) | (go_at_call 36; ((with_reducible refine (K2 _).mono ?_); rintro e w' ⟨rfl, n2, rfl⟩)))
    go_ret
    exact ⟨rfl, n1 + n2, rfl⟩

theorem rzplace_is (k i z : Int) (hi : I64 i) (hz : enc (7 * rowv k i) = z) (w : World) : Calls Try.prog 15 #[.int .i64 k, .int .i64 i] w fun e w' => e = .returned (.int .u64 z) ∧ ∃ n, w' = w.drewN n := by
  by_cases c : i < 0
  · have e0 : z = 0 := by rw [← hz, rowv_neg c]; decide +kernel
    subst e0
    clear hz hi
    go_enter Try.func15, Try.ntmps15
    go_wp2
    go_ret
    exact ⟨rfl, 0, rfl⟩
  · have K1 := rzrow_is k i (enc (rowv k i)) hi rfl
    have K2 := refmul_is 7 (enc (rowv k i)) z (U_lit _ rfl rfl) (enc_U _) (by rw [toF_enc, ← hz, show toF 7 = 7 by decide +kernel])
    generalize enc (rowv k i) = r at *
    have i0 : 0 ≤ i := by omega
    clear hz hi c
    go_enter Try.func15, Try.ntmps15
    go_wp2_with (first | (go_at_call 13; ((with_reducible refine (K1 _).mono ?_); rintro e w' ⟨rfl, n1, rfl⟩)) | (go_at_call 22; ((with_reducible refine (K2 _).mono ?_); rintro e w' ⟨rfl, n2, rfl⟩)))
    go_ret
    exact ⟨rfl, n1 + n2, rfl⟩
theorem rowv_last (k : Nat) (M : Int) (hk : k ≤ 32) (hM : ((2 ^ k : Nat) : Int) = M) : rowv k (M - 1) = last k := by
  have h0 := Nat.two_pow_pos k
  have e : M - 1 = ((2 ^ k - 1 : Nat) : Int) := by omega
  rw [e, rowv_nat _ _ hk]; rfl
end Go.Proofs.Yteleepblfipncaa
