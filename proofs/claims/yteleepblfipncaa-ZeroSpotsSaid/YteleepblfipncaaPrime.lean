/-
  What the calls of package prime come to, as the field's: contracts for the walk.
-/
import Derived.Test.YteleepblfipncaaFld
import Derived.Test.YteleepblfipncaaChecked
import Derived.WalkKit
import Derived.Laws.Externs
import Derived.Laws.Bits64b
import Derived.Lib.Mul64
import Derived.Lib.Hide
namespace Go.Proofs.Yteleepblfipncaa
open Go.RowKit
set_option linter.unusedVariables false

@[go_sem] theorem toF_enc_walk (x : F) : toF (enc x) = x := toF_enc x

theorem add64_0 (x y : Int) (hx : 0 ≤ x) (hy : 0 ≤ y) (w : World) : (callFunc 62 #[.int .u64 x, .int .u64 y, .int .u64 0]).run Try.prog w =
    .ok (.value (.tuple #[.int .u64 ((x + y) % 18446744073709551616), .int .u64 ((x + y) / 18446744073709551616)])) w := by
  rw [run_callFunc_extern Try.func62 (by kernel_rfl) (by kernel_rfl) (by kernel_rfl) (e := add64Entry) (by kernel_rfl), run_add64 x y 0 hx hy (by decide) (by decide)]
  simp [Result.andThen]

theorem add64_as (x y s c : Int) (hx : 0 ≤ x) (hy : 0 ≤ y) (hs : (x + y) % 18446744073709551616 = s) (hc : (x + y) / 18446744073709551616 = c) (w : World) : (callFunc 62 #[.int .u64 x, .int .u64 y, .int .u64 0]).run Try.prog w =
    .ok (.value (.tuple #[.int .u64 s, .int .u64 c])) w := by
  rw [add64_0 x y hx hy w, hs, hc]

theorem kept_any (a : Int) (h : U a) (w : World) : Calls Try.prog 57 #[.int .u64 a] w fun e w' => e = .returned (.int .u64 (enc (toF a))) ∧ w = w' := by
  obtain ⟨h0, h1⟩ := h
  have e := enc_toF a h0
  by_cases hc : 18446744069414584321 ≤ a
  · have e2 : IntKind.u64.wrap (a - 18446744069414584321) = enc (toF a) := by rw [IntKind.wrap_u64, e]; omega
    clear e
    go_enter Try.func57, Try.ntmps57
    go_wp2
    go_ret
    exact ⟨rfl, rfl⟩
  · have e2 : a = enc (toF a) := by rw [e]; omega
    clear e
    have H := Lib.hid e2; clear e2
    go_enter Try.func57, Try.ntmps57
    go_wp2
    go_ret
    exact ⟨by rw [← H.out]; rfl, rfl⟩

theorem add_any (a b : Int) (ha : U a) (hb : U b) (w : World) : Calls Try.prog 53 #[.int .u64 a, .int .u64 b] w fun e w' => e = .returned (.int .u64 (enc (toF a + toF b))) ∧ w = w' := by
  have k1 := fun w => kept_any a ha w
  have k2 := fun w => kept_any b hb w
  have e := enc_add (toF a) (toF b)
  have x0 := enc_nonneg (toF a); have x1 := enc_lt (toF a)
  have y0 := enc_nonneg (toF b); have y1 := enc_lt (toF b)
  generalize enc (toF a + toF b) = z at *
  generalize enc (toF a) = x at *
  generalize enc (toF b) = y at *
  by_cases c1 : 18446744073709551616 ≤ x + y
  · have A := fun w => add64_as x y (x + y - 18446744073709551616) 1 x0 y0 (by omega) (by omega) w
    have e2 : IntKind.u64.wrap (x + y - 18446744073709551616 - 18446744069414584321) = z := by rw [IntKind.wrap_u64, e]; omega
    generalize x + y - 18446744073709551616 = s at *
    clear e c1 x0 x1 y0 y1
    go_enter Try.func53, Try.ntmps53
    go_wp2_with (first | (go_at_call 57; ((with_reducible refine (k1 _).mono ?_); rintro e w' ⟨rfl, rfl⟩)) | (go_at_call 57; ((with_reducible refine (k2 _).mono ?_); rintro e w' ⟨rfl, rfl⟩)))
    go_ret
    exact ⟨rfl, rfl⟩
  · by_cases c2 : 18446744069414584321 ≤ x + y
    · have A := fun w => add64_as x y (x + y) 0 x0 y0 (by omega) (by omega) w
      have e2 : IntKind.u64.wrap (x + y - 18446744069414584321) = z := by rw [IntKind.wrap_u64, e]; omega
      generalize x + y = s at *
      clear e c1 x0 x1 y0 y1
      go_enter Try.func53, Try.ntmps53
      go_wp2_with (first | (go_at_call 57; ((with_reducible refine (k1 _).mono ?_); rintro e w' ⟨rfl, rfl⟩)) | (go_at_call 57; ((with_reducible refine (k2 _).mono ?_); rintro e w' ⟨rfl, rfl⟩)))
      go_ret
      exact ⟨rfl, rfl⟩
    · have A := fun w => add64_as x y (x + y) 0 x0 y0 (by omega) (by omega) w
      have e2 : x + y = z := by omega
      rw [e2] at A
      have c3 : ¬ 18446744069414584321 ≤ z := by omega
      clear e c1 c2 e2 x0 x1 y0 y1
      go_enter Try.func53, Try.ntmps53
      go_wp2_with (first | (go_at_call 57; ((with_reducible refine (k1 _).mono ?_); rintro e w' ⟨rfl, rfl⟩)) | (go_at_call 57; ((with_reducible refine (k2 _).mono ?_); rintro e w' ⟨rfl, rfl⟩)))
      go_ret
      exact ⟨rfl, rfl⟩

theorem neg_any (a : Int) (ha : U a) (w : World) : Calls Try.prog 61 #[.int .u64 a] w fun e w' => e = .returned (.int .u64 (enc (-toF a))) ∧ w = w' := by
  have k1 := fun w => kept_any a ha w
  have e := enc_neg (toF a)
  have x0 := enc_nonneg (toF a); have x1 := enc_lt (toF a)
  generalize enc (-toF a) = z at *
  generalize enc (toF a) = x at *
  by_cases c1 : x = 0
  · have e2 : z = 0 := by omega
    subst c1 e2
    clear e x0 x1
    go_enter Try.func61, Try.ntmps61
    go_wp2_with (go_at_call 57; ((with_reducible refine (k1 _).mono ?_); rintro e w' ⟨rfl, rfl⟩))
    go_ret
    exact ⟨rfl, rfl⟩
  · have e2 : IntKind.u64.wrap (18446744069414584321 - x) = z := by rw [IntKind.wrap_u64, e]; omega
    have c2 : (x == 0) = false := by simpa using c1
    clear e x0 x1 c1
    go_enter Try.func61, Try.ntmps61
    go_wp2_with (go_at_call 57; ((with_reducible refine (k1 _).mono ?_); rintro e w' ⟨rfl, rfl⟩))
    go_ret
    exact ⟨rfl, rfl⟩

theorem sub_any (a b : Int) (ha : U a) (hb : U b) (w : World) : Calls Try.prog 51 #[.int .u64 a, .int .u64 b] w fun e w' => e = .returned (.int .u64 (enc (toF a - toF b))) ∧ w = w' := by
  have k : toF a + -toF b = toF a - toF b := by grind
  have H := Lib.hid k; clear k
  go_enter Try.func51, Try.ntmps51
  go_wp2_with (first | (go_at_call 61; ((with_reducible refine (neg_any b hb _).mono ?_); rintro e w' ⟨rfl, rfl⟩)) | (go_at_call 53; ((with_reducible refine (add_any a _ ha (enc_U _) _).mono ?_); rintro e w' ⟨rfl, rfl⟩)))
  go_ret
  exact ⟨by rw [← H.out]; rfl, rfl⟩

/-- The upper and the lower half of a product, under names: the walk looks into neither. -/
def hiOf (a b : Int) : Int := a * b / 18446744073709551616
def loOf (a b : Int) : Int := a * b % 18446744073709551616
theorem hilo (a b : Int) : a * b = hiOf a b * 18446744073709551616 + loOf a b := by unfold hiOf loOf; omega
theorem loOf_U (a b : Int) : U (loOf a b) := by unfold loOf U; omega
theorem hiOf_U (a b : Int) (ha : U a) (hb : U b) : U (hiOf a b) := by
  obtain ⟨a0, a1⟩ := ha
  obtain ⟨b0, b1⟩ := hb
  obtain ⟨n, rfl⟩ := Int.eq_ofNat_of_zero_le a0
  obtain ⟨m, rfl⟩ := Int.eq_ofNat_of_zero_le b0
  have h : n * m ≤ 18446744073709551615 * 18446744073709551615 := Nat.mul_le_mul (by omega) (by omega)
  have e : (n : Int) * (m : Int) = ((n * m : Nat) : Int) := (Int.natCast_mul n m).symm
  unfold hiOf U
  rw [e]
  omega

theorem mask32 (a : Int) (ha : U a) : bits .and .u64 a 4294967295 = a % 4294967296 := by
  obtain ⟨a0, a1⟩ := ha
  obtain ⟨n, rfl⟩ := Int.eq_ofNat_of_zero_le a0
  refine (bits_and_u64_nat n 4294967295 (by omega) (by omega)).trans ?_
  have := Nat.and_two_pow_sub_one_eq_mod n 32
  rw [show n &&& 4294967295 = n % 4294967296 from this]
  omega

/-- Mul64 by the names of its own steps. -/
theorem mul64_core (x y x0 x1 y0 y1 a a1 b t t0 t1 c d d1 e g hi lo : Int)
    (f1 : bits .and .u64 x 4294967295 = x0) (f2 : x / 4294967296 = x1) (f3 : bits .and .u64 y 4294967295 = y0) (f4 : y / 4294967296 = y1)
    (f5 : IntKind.u64.wrap (x0 * y0) = a) (f6 : a / 4294967296 = a1) (f7 : IntKind.u64.wrap (x1 * y0) = b) (f8 : IntKind.u64.wrap (b + a1) = t)
    (f9 : bits .and .u64 t 4294967295 = t0) (f10 : t / 4294967296 = t1) (f11 : IntKind.u64.wrap (x0 * y1) = c) (f12 : IntKind.u64.wrap (t0 + c) = d)
    (f13 : IntKind.u64.wrap (x1 * y1) = e) (f14 : IntKind.u64.wrap (e + t1) = g) (f15 : d / 4294967296 = d1) (f16 : IntKind.u64.wrap (g + d1) = hi)
    (f17 : IntKind.u64.wrap (x * y) = lo) (w : World) :
    Calls Try.prog 42 #[.int .u64 x, .int .u64 y] w fun e w' => e = .returned (.tuple #[.int .u64 hi, .int .u64 lo]) ∧ w = w' := by
  go_enter Try.func42, Try.ntmps42
  go_wp2
  go_ret2
  exact ⟨rfl, rfl⟩

theorem wrap_id (z : Int) (h : U z) : IntKind.u64.wrap z = z := by
  obtain ⟨h0, h1⟩ := h
  rw [IntKind.wrap_u64]; omega

theorem mul64_any (a b : Int) (ha : U a) (hb : U b) (w : World) :
    Calls Try.prog 42 #[.int .u64 a, .int .u64 b] w fun e w' => e = .returned (.tuple #[.int .u64 (hiOf a b), .int .u64 (loOf a b)]) ∧ w = w' := by
  obtain ⟨a0, a1⟩ := ha
  obtain ⟨b0, b1⟩ := hb
  obtain ⟨n, rfl⟩ := Int.eq_ofNat_of_zero_le a0
  obtain ⟨m, rfl⟩ := Int.eq_ofNat_of_zero_le b0
  obtain ⟨h1, h2, h3, h4⟩ := Lib.mul64_hi n m (by omega) (by omega)
  have p1 := Lib.half_mul_le (a := n / 4294967296) (b := m / 4294967296) (by omega) (by omega)
  have p2 := Lib.half_mul_le (a := n / 4294967296) (b := m % 4294967296) (by omega) (by omega)
  have p3 := Lib.half_mul_le (a := n % 4294967296) (b := m / 4294967296) (by omega) (by omega)
  have q1 : ((n / 4294967296 : Nat) : Int) * ((m / 4294967296 : Nat) : Int) = ((n / 4294967296 * (m / 4294967296) : Nat) : Int) := (Int.natCast_mul _ _).symm
  have q2 : ((n / 4294967296 : Nat) : Int) * ((m % 4294967296 : Nat) : Int) = ((n / 4294967296 * (m % 4294967296) : Nat) : Int) := (Int.natCast_mul _ _).symm
  have q3 : ((n % 4294967296 : Nat) : Int) * ((m / 4294967296 : Nat) : Int) = ((n % 4294967296 * (m / 4294967296) : Nat) : Int) := (Int.natCast_mul _ _).symm
  have q4 : ((n % 4294967296 : Nat) : Int) * ((m % 4294967296 : Nat) : Int) = ((n % 4294967296 * (m % 4294967296) : Nat) : Int) := (Int.natCast_mul _ _).symm
  have q5 : (n : Int) * (m : Int) = ((n * m : Nat) : Int) := (Int.natCast_mul _ _).symm
  have v1 : hiOf n m = ((n * m / 18446744073709551616 : Nat) : Int) := by unfold hiOf; rw [q5]; omega
  have v2 : loOf n m = ((n * m % 18446744073709551616 : Nat) : Int) := by unfold loOf; rw [q5]; omega
  rw [v1, v2]
  generalize n / 4294967296 * (m / 4294967296) = A at *
  generalize n / 4294967296 * (m % 4294967296) = B at *
  generalize n % 4294967296 * (m / 4294967296) = C at *
  generalize n % 4294967296 * (m % 4294967296) = D at *
  generalize n * m = N at *
  refine mul64_core n m ((n % 4294967296 : Nat) : Int) ((n / 4294967296 : Nat) : Int) ((m % 4294967296 : Nat) : Int) ((m / 4294967296 : Nat) : Int) (D : Int) (D / 4294967296) (B : Int) (B + D / 4294967296)
    ((B + D / 4294967296) % 4294967296) ((B + D / 4294967296) / 4294967296) (C : Int) ((B + D / 4294967296) % 4294967296 + C) (((B + D / 4294967296) % 4294967296 + C) / 4294967296) (A : Int) (A + (B + D / 4294967296) / 4294967296) _ _
    ?_ ?_ ?_ ?_ ?_ rfl ?_ ?_ ?_ rfl ?_ ?_ ?_ ?_ rfl ?_ ?_ w
  · rw [mask32 _ ⟨by omega, by omega⟩]; omega
  · omega
  · rw [mask32 _ ⟨by omega, by omega⟩]; omega
  · omega
  · rw [q4]; exact wrap_id _ ⟨by omega, by omega⟩
  · rw [q2]; exact wrap_id _ ⟨by omega, by omega⟩
  · exact wrap_id _ ⟨by omega, by omega⟩
  · exact mask32 _ ⟨by omega, by omega⟩
  · rw [q3]; exact wrap_id _ ⟨by omega, by omega⟩
  · exact wrap_id _ ⟨by omega, by omega⟩
  · rw [q1]; exact wrap_id _ ⟨by omega, by omega⟩
  · exact wrap_id _ ⟨by omega, by omega⟩
  · rw [wrap_id _ ⟨by omega, by omega⟩]; omega
  · rw [q5, IntKind.wrap_u64]; omega

theorem mul_any (a b : Int) (ha : U a) (hb : U b) (w : World) : Calls Try.prog 37 #[.int .u64 a, .int .u64 b] w fun e w' => e = .returned (.int .u64 (enc (toF a * toF b))) ∧ w = w' := by
  have k1 := fun w => mul64_any a b ha hb w
  have hU := hiOf_U a b ha hb
  have lU := loOf_U a b
  have e := hilo a b
  have em := mask32 (hiOf a b) hU
  generalize hiOf a b = hi at *
  generalize loOf a b = lo at *
  have q := mul_halves a b hi lo (hi / 4294967296) (hi % 4294967296) ha.1 hb.1 lU.1 (by have := hU.1; omega) (by omega) e (by omega)
  have tU : U (hi / 4294967296) := by unfold U at *; omega
  have mU : U (hi % 4294967296 * 4294967295) := by unfold U at *; omega
  have ew : IntKind.u64.wrap (hi % 4294967296 * 4294967295) = hi % 4294967296 * 4294967295 := by rw [IntKind.wrap_u64]; unfold U at mU; omega
  have h0 := hU.1
  clear e hU ha hb
  have Q := Lib.hid q
  clear q
  generalize et : hi / 4294967296 = t at *
  generalize hi % 4294967296 = l at *
  obtain ⟨m, hm⟩ : ∃ m, l * 4294967295 = m := ⟨_, rfl⟩
  have Q' : Hid (toF lo - toF t + toF m = toF a * toF b) := Lib.hid (by rw [← hm]; exact Q.out)
  rw [hm] at mU
  have ew' : IntKind.u64.wrap (l * 4294967295) = m := by rw [ew, hm]
  clear Q ew hm
  go_enter Try.func37, Try.ntmps37
  go_wp2_with (first | (go_at_call 42; ((with_reducible refine (k1 _).mono ?_); rintro e w' ⟨rfl, rfl⟩)) | (go_at_call 51; ((with_reducible refine (sub_any lo t lU tU _).mono ?_); rintro e w' ⟨rfl, rfl⟩)) | (go_at_call 53; ((with_reducible refine (add_any _ m (enc_U _) mU _).mono ?_); rintro e w' ⟨rfl, rfl⟩)))
  go_ret
  exact ⟨by rw [← Q'.out]; rfl, rfl⟩

end Go.Proofs.Yteleepblfipncaa
