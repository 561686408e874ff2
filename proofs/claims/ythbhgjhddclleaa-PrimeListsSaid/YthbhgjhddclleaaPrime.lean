/-
  What the calls of package prime come to, as the field's: contracts for the walk.
-/
import Derived.Test.YthbhgjhddclleaaFld
import Derived.Test.YthbhgjhddclleaaChecked
import Derived.WalkKit
import Derived.Laws.Externs
import Derived.Laws.Bits64b
import Derived.Lib.Mul64
import Derived.Lib.Hide
namespace Go.Proofs.Ythbhgjhddclleaa
open Go.RowKit
set_option linter.unusedVariables false

@[go_sem] theorem toF_enc_walk (x : F) : toF (enc x) = x := toF_enc x

theorem add64_0 (x y : Int) (hx : 0 ≤ x) (hy : 0 ≤ y) (w : World) : (callFunc 28 #[.int .u64 x, .int .u64 y, .int .u64 0]).run Try.prog w =
    .ok (.value (.tuple #[.int .u64 ((x + y) % 18446744073709551616), .int .u64 ((x + y) / 18446744073709551616)])) w := by
  rw [run_callFunc_extern Try.func28 (by kernel_rfl) (by kernel_rfl) (by kernel_rfl) (e := add64Entry) (by kernel_rfl), run_add64 x y 0 hx hy (by decide) (by decide)]
  simp [Result.andThen]

theorem add64_as (x y s c : Int) (hx : 0 ≤ x) (hy : 0 ≤ y) (hs : (x + y) % 18446744073709551616 = s) (hc : (x + y) / 18446744073709551616 = c) (w : World) : (callFunc 28 #[.int .u64 x, .int .u64 y, .int .u64 0]).run Try.prog w =
    .ok (.value (.tuple #[.int .u64 s, .int .u64 c])) w := by
  rw [add64_0 x y hx hy w, hs, hc]

theorem kept_any (a : Int) (h : U a) (w : World) : Calls Try.prog 29 #[.int .u64 a] w fun e w' => e = .returned (.int .u64 (enc (toF a))) ∧ w = w' := by
  obtain ⟨h0, h1⟩ := h
  have e := enc_toF a h0
  by_cases hc : 18446744069414584321 ≤ a
  · have e2 : IntKind.u64.wrap (a - 18446744069414584321) = enc (toF a) := by rw [IntKind.wrap_u64, e]; omega
    clear e
    go_enter Try.func29, Try.ntmps29
    go_wp2
    go_ret
    exact ⟨rfl, rfl⟩
  · have e2 : a = enc (toF a) := by rw [e]; omega
    clear e
    have H := Lib.hid e2; clear e2
    go_enter Try.func29, Try.ntmps29
    go_wp2
    go_ret
    exact ⟨by rw [← H.out]; rfl, rfl⟩

theorem add_any (a b : Int) (ha : U a) (hb : U b) (w : World) : Calls Try.prog 10 #[.int .u64 a, .int .u64 b] w fun e w' => e = .returned (.int .u64 (enc (toF a + toF b))) ∧ w = w' := by
  have k1 := fun w => kept_any a ha w
  have k2 := fun w => kept_any b hb w
  have e := enc_add (toF a) (toF b)
  have x0 := enc_nonneg (toF a); have x1 := enc_lt (toF a)
  have y0 := enc_nonneg (toF b); have y1 := enc_lt (toF b)
  generalize enc (toF a + toF b) = z at *
  generalize enc (toF a) = x at *
  generalize enc (toF b) = y at *
  by_cases c1 : 18446744073709551616 ≤ x + y
  · have A := fun w => add64_as x y (x + y - 18446744073709551616) 1 x0 y0 (by omega) (by omega) w
    have e2 : IntKind.u64.wrap (x + y - 18446744073709551616 - 18446744069414584321) = z := by rw [IntKind.wrap_u64, e]; omega
    generalize x + y - 18446744073709551616 = s at *
    clear e c1 x0 x1 y0 y1
    go_enter Try.func10, Try.ntmps10
    go_wp2_with (first | (go_at_call 29; ((with_reducible refine (k1 _).mono ?_); rintro e w' ⟨rfl, rfl⟩)) | (go_at_call 29; ((with_reducible refine (k2 _).mono ?_); rintro e w' ⟨rfl, rfl⟩)))
    go_ret
    exact ⟨rfl, rfl⟩
  · by_cases c2 : 18446744069414584321 ≤ x + y
    · have A := fun w => add64_as x y (x + y) 0 x0 y0 (by omega) (by omega) w
      have e2 : IntKind.u64.wrap (x + y - 18446744069414584321) = z := by rw [IntKind.wrap_u64, e]; omega
      generalize x + y = s at *
      clear e c1 x0 x1 y0 y1
      go_enter Try.func10, Try.ntmps10
      go_wp2_with (first | (go_at_call 29; ((with_reducible refine (k1 _).mono ?_); rintro e w' ⟨rfl, rfl⟩)) | (go_at_call 29; ((with_reducible refine (k2 _).mono ?_); rintro e w' ⟨rfl, rfl⟩)))
      go_ret
      exact ⟨rfl, rfl⟩
    · have A := fun w => add64_as x y (x + y) 0 x0 y0 (by omega) (by omega) w
      have e2 : x + y = z := by omega
      rw [e2] at A
      have c3 : ¬ 18446744069414584321 ≤ z := by omega
      clear e c1 c2 e2 x0 x1 y0 y1
      go_enter Try.func10, Try.ntmps10
      go_wp2_with (first | (go_at_call 29; ((with_reducible refine (k1 _).mono ?_); rintro e w' ⟨rfl, rfl⟩)) | (go_at_call 29; ((with_reducible refine (k2 _).mono ?_); rintro e w' ⟨rfl, rfl⟩)))
      go_ret
      exact ⟨rfl, rfl⟩

theorem neg_any (a : Int) (ha : U a) (w : World) : Calls Try.prog 16 #[.int .u64 a] w fun e w' => e = .returned (.int .u64 (enc (-toF a))) ∧ w = w' := by
  have k1 := fun w => kept_any a ha w
  have e := enc_neg (toF a)
  have x0 := enc_nonneg (toF a); have x1 := enc_lt (toF a)
  generalize enc (-toF a) = z at *
  generalize enc (toF a) = x at *
  by_cases c1 : x = 0
  · have e2 : z = 0 := by omega
    subst c1 e2
    clear e x0 x1
    go_enter Try.func16, Try.ntmps16
    go_wp2_with (go_at_call 29; ((with_reducible refine (k1 _).mono ?_); rintro e w' ⟨rfl, rfl⟩))
    go_ret
    exact ⟨rfl, rfl⟩
  · have e2 : IntKind.u64.wrap (18446744069414584321 - x) = z := by rw [IntKind.wrap_u64, e]; omega
    have c2 : (x == 0) = false := by simpa using c1
    clear e x0 x1 c1
    go_enter Try.func16, Try.ntmps16
    go_wp2_with (go_at_call 29; ((with_reducible refine (k1 _).mono ?_); rintro e w' ⟨rfl, rfl⟩))
    go_ret
    exact ⟨rfl, rfl⟩

theorem sub_any (a b : Int) (ha : U a) (hb : U b) (w : World) : Calls Try.prog 12 #[.int .u64 a, .int .u64 b] w fun e w' => e = .returned (.int .u64 (enc (toF a - toF b))) ∧ w = w' := by
  have k : toF a + -toF b = toF a - toF b := by grind
  have H := Lib.hid k; clear k
  go_enter Try.func12, Try.ntmps12
  go_wp2_with (first | (go_at_call 16; ((with_reducible refine (neg_any b hb _).mono ?_); rintro e w' ⟨rfl, rfl⟩)) | (go_at_call 10; ((with_reducible refine (add_any a _ ha (enc_U _) _).mono ?_); rintro e w' ⟨rfl, rfl⟩)))
  go_ret
  exact ⟨by rw [← H.out]; rfl, rfl⟩

namespace Mul64
theorem maskN (a : Nat) (ha : a < 18446744073709551616) : bits .and .u64 (a : Int) 4294967295 = ((a % 4294967296 : Nat) : Int) := by
  have h := bits_and_u64_nat a 4294967295 ha (by omega)
  have e : a &&& 4294967295 = a % 4294967296 := Nat.and_two_pow_sub_one_eq_mod a 32
  rw [e] at h
  exact h
theorem divN (a : Nat) : (a : Int) / 4294967296 = ((a / 4294967296 : Nat) : Int) := by omega
theorem mulN (a b : Nat) : (a : Int) * (b : Int) = ((a * b : Nat) : Int) := (Int.natCast_mul a b).symm
theorem addN (a b : Nat) : (a : Int) + (b : Int) = ((a + b : Nat) : Int) := (Int.natCast_add a b).symm
theorem wrapN (a : Nat) (ha : a < 18446744073709551616) : IntKind.u64.wrap (a : Int) = (a : Int) := by rw [IntKind.wrap_u64]; omega
theorem wrapM (a : Nat) : IntKind.u64.wrap (a : Int) = ((a % 18446744073709551616 : Nat) : Int) := by rw [IntKind.wrap_u64]; omega
end Mul64

set_option maxHeartbeats 1000000 in
theorem mul64N (x y : Nat) (hx : x < 18446744073709551616) (hy : y < 18446744073709551616) (w : World) :
    Calls Try.prog 30 #[.int .u64 x, .int .u64 y] w fun e w' => e = .returned (.tuple #[.int .u64 ((x * y / 18446744073709551616 : Nat) : Int), .int .u64 ((x * y % 18446744073709551616 : Nat) : Int)]) ∧ w' = w := by
  obtain ⟨bd, bt, bw, hhi⟩ := Lib.mul64_hi x y hx hy
  have ba := Lib.half_mul_le (a := x / 4294967296) (b := y / 4294967296) (by omega) (by omega)
  have bb := Lib.half_mul_le (a := x / 4294967296) (b := y % 4294967296) (by omega) (by omega)
  have bc := Lib.half_mul_le (a := x % 4294967296) (b := y / 4294967296) (by omega) (by omega)
  have ba' : x / 4294967296 * (y / 4294967296) < 18446744073709551616 := by omega
  have bb' : x / 4294967296 * (y % 4294967296) < 18446744073709551616 := by omega
  have bc' : x % 4294967296 * (y / 4294967296) < 18446744073709551616 := by omega
  have bh1 : x / 4294967296 * (y / 4294967296) + (x / 4294967296 * (y % 4294967296) + x % 4294967296 * (y % 4294967296) / 4294967296) / 4294967296 < 18446744073709551616 := by omega
  have bh : x / 4294967296 * (y / 4294967296) + (x / 4294967296 * (y % 4294967296) + x % 4294967296 * (y % 4294967296) / 4294967296) / 4294967296 + ((x / 4294967296 * (y % 4294967296) + x % 4294967296 * (y % 4294967296) / 4294967296) % 4294967296 + x % 4294967296 * (y / 4294967296)) / 4294967296 < 18446744073709551616 := by omega
  go_enter Try.func30, Try.ntmps30
  go_wp2
  simp only [Mul64.maskN x hx, Mul64.maskN y hy, Mul64.divN, Mul64.mulN, Mul64.addN, Mul64.wrapN _ bd, Mul64.wrapN _ bb', Mul64.wrapN _ bt, Mul64.maskN _ bt, Mul64.wrapN _ bc', Mul64.wrapN _ bw, Mul64.wrapN _ ba', Mul64.wrapN _ bh1, Mul64.wrapN _ bh, Mul64.wrapM (x * y)]
  rw [hhi]
  go_ret2
  exact ⟨rfl, rfl⟩

/-- The upper and the lower half of a product, under names: the walk looks into neither. -/
def hiOf (a b : Int) : Int := a * b / 18446744073709551616
def loOf (a b : Int) : Int := a * b % 18446744073709551616
theorem hilo (a b : Int) : a * b = hiOf a b * 18446744073709551616 + loOf a b := by unfold hiOf loOf; omega
theorem loOf_U (a b : Int) : U (loOf a b) := by unfold loOf U; omega
theorem hiOf_U (a b : Int) (ha : U a) (hb : U b) : U (hiOf a b) := by
  obtain ⟨a0, a1⟩ := ha
  obtain ⟨b0, b1⟩ := hb
  obtain ⟨n, rfl⟩ := Int.eq_ofNat_of_zero_le a0
  obtain ⟨m, rfl⟩ := Int.eq_ofNat_of_zero_le b0
  have h : n * m ≤ 18446744073709551615 * 18446744073709551615 := Nat.mul_le_mul (by omega) (by omega)
  have e : (n : Int) * (m : Int) = ((n * m : Nat) : Int) := (Int.natCast_mul n m).symm
  unfold hiOf U
  rw [e]
  omega

theorem mul64_any (a b : Int) (ha : U a) (hb : U b) (w : World) :
    Calls Try.prog 30 #[.int .u64 a, .int .u64 b] w fun e w' => e = .returned (.tuple #[.int .u64 (hiOf a b), .int .u64 (loOf a b)]) ∧ w = w' := by
  obtain ⟨a0, a1⟩ := ha
  obtain ⟨b0, b1⟩ := hb
  obtain ⟨n, rfl⟩ := Int.eq_ofNat_of_zero_le a0
  obtain ⟨m, rfl⟩ := Int.eq_ofNat_of_zero_le b0
  refine (mul64N n m (by omega) (by omega) w).mono ?_
  rintro e w' ⟨rfl, rfl⟩
  refine ⟨?_, rfl⟩
  have e : (n : Int) * (m : Int) = ((n * m : Nat) : Int) := (Int.natCast_mul n m).symm
  unfold hiOf loOf
  rw [e]
  congr 4

theorem mask32 (a : Int) (ha : U a) : bits .and .u64 a 4294967295 = a % 4294967296 := by
  obtain ⟨a0, a1⟩ := ha
  obtain ⟨n, rfl⟩ := Int.eq_ofNat_of_zero_le a0
  rw [Mul64.maskN n (by omega)]
  omega

theorem mul_any (a b : Int) (ha : U a) (hb : U b) (w : World) : Calls Try.prog 14 #[.int .u64 a, .int .u64 b] w fun e w' => e = .returned (.int .u64 (enc (toF a * toF b))) ∧ w = w' := by
  have k1 := fun w => mul64_any a b ha hb w
  have hU := hiOf_U a b ha hb
  have lU := loOf_U a b
  have e := hilo a b
  have em := mask32 (hiOf a b) hU
  generalize hiOf a b = hi at *
  generalize loOf a b = lo at *
  have q := mul_halves a b hi lo (hi / 4294967296) (hi % 4294967296) ha.1 hb.1 lU.1 (by have := hU.1; omega) (by omega) e (by omega)
  have tU : U (hi / 4294967296) := by unfold U at *; omega
  have mU : U (hi % 4294967296 * 4294967295) := by unfold U at *; omega
  have ew : IntKind.u64.wrap (hi % 4294967296 * 4294967295) = hi % 4294967296 * 4294967295 := by rw [IntKind.wrap_u64]; unfold U at mU; omega
  have h0 := hU.1
  clear e hU ha hb
  have Q := Lib.hid q
  clear q
  generalize et : hi / 4294967296 = t at *
  generalize hi % 4294967296 = l at *
  obtain ⟨m, hm⟩ : ∃ m, l * 4294967295 = m := ⟨_, rfl⟩
  have Q' : Hid (toF lo - toF t + toF m = toF a * toF b) := Lib.hid (by rw [← hm]; exact Q.out)
  rw [hm] at mU
  have ew' : IntKind.u64.wrap (l * 4294967295) = m := by rw [ew, hm]
  clear Q ew hm
  go_enter Try.func14, Try.ntmps14
  go_wp2_with (first | (go_at_call 30; ((with_reducible refine (k1 _).mono ?_); rintro e w' ⟨rfl, rfl⟩)) | (go_at_call 12; ((with_reducible refine (sub_any lo t lU tU _).mono ?_); rintro e w' ⟨rfl, rfl⟩)) | (go_at_call 10; ((with_reducible refine (add_any _ m (enc_U _) mU _).mono ?_); rintro e w' ⟨rfl, rfl⟩)))
  go_ret
  exact ⟨by rw [← Q'.out]; rfl, rfl⟩

theorem right_any (a : Int) (w : World) : Calls Try.prog 18 #[.int .u64 a] w fun e w' => e = .returned (.bool (decide (a < 18446744069414584321))) ∧ w = w' := by
  go_enter Try.func18, Try.ntmps18
  go_wp2
  go_ret
  exact ⟨rfl, rfl⟩

end Go.Proofs.Ythbhgjhddclleaa
