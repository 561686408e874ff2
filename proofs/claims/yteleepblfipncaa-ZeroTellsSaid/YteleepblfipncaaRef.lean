/-
  What the calls of the document's answer for layer 1 come to, as the field's: contracts for the walk.
-/
import Derived.Test.YteleepblfipncaaDiv
import Derived.Test.YteleepblfipncaaList
import Derived.Test.YteleepblfipncaaIs
namespace Go.Proofs.Yteleepblfipncaa
open Go.RowKit
set_option linter.unusedVariables false

theorem enc_wrap_sub (y : F) : IntKind.u64.wrap (18446744069414584321 - enc y) = 18446744069414584321 - enc y := by
  have := enc_nonneg y; have := enc_lt y; rw [IntKind.wrap_u64]; omega

theorem refadd_any (a b : Int) (ha : U a) (hb : U b) (w : World) : Calls Try.prog 44 #[.int .u64 a, .int .u64 b] w fun e w' => e = .returned (.int .u64 (enc (toF a + toF b))) ∧ w = w' := by
  have e := enc_add (toF a) (toF b)
  have r1 := rem_toF a ha; have r2 := mod_toF a ha
  have r3 := rem_toF b hb; have r4 := mod_toF b hb
  have x0 := enc_nonneg (toF a); have x1 := enc_lt (toF a)
  have y0 := enc_nonneg (toF b); have y1 := enc_lt (toF b)
  have ha0 := ha.1; have hb0 := hb.1
  generalize enc (toF a + toF b) = z at *
  generalize enc (toF a) = x at *
  generalize enc (toF b) = y at *
  have e0 : IntKind.u64.wrap (18446744069414584321 - y) = 18446744069414584321 - y := by rw [IntKind.wrap_u64]; omega
  by_cases c1 : 18446744069414584321 - y ≤ x
  · have e1 : IntKind.u64.wrap (x - (18446744069414584321 - y)) = z := by rw [IntKind.wrap_u64, e]; omega
    clear e x0 x1 y0 y1 ha hb
    go_enter Try.func44, Try.ntmps44
    go_wp2
    go_ret
    exact ⟨rfl, rfl⟩
  · have e1 : IntKind.u64.wrap (x + y) = z := by rw [IntKind.wrap_u64, e]; omega
    clear e x0 x1 y0 y1 ha hb
    go_enter Try.func44, Try.ntmps44
    go_wp2
    go_ret
    exact ⟨rfl, rfl⟩

theorem refneg_any (a : Int) (ha : U a) (w : World) : Calls Try.prog 60 #[.int .u64 a] w fun e w' => e = .returned (.int .u64 (enc (-toF a))) ∧ w = w' := by
  have e := enc_neg (toF a)
  have r1 := rem_toF a ha; have r2 := mod_toF a ha
  have x0 := enc_nonneg (toF a); have x1 := enc_lt (toF a)
  have ha0 := ha.1
  generalize enc (-toF a) = z at *
  generalize enc (toF a) = x at *
  by_cases c1 : x = 0
  · have e2 : z = 0 := by omega
    subst c1 e2
    clear e x0 x1
    go_enter Try.func60, Try.ntmps60
    go_wp2
    go_ret
    exact ⟨rfl, rfl⟩
  · have e2 : IntKind.u64.wrap (18446744069414584321 - x) = z := by rw [IntKind.wrap_u64, e]; omega
    have c2 : (x == 0) = false := by simpa using c1
    clear e x0 x1 c1
    go_enter Try.func60, Try.ntmps60
    go_wp2
    go_ret
    exact ⟨rfl, rfl⟩

theorem refsub_any (a b : Int) (ha : U a) (hb : U b) (w : World) : Calls Try.prog 46 #[.int .u64 a, .int .u64 b] w fun e w' => e = .returned (.int .u64 (enc (toF a - toF b))) ∧ w = w' := by
  have k : toF a + -toF b = toF a - toF b := by grind
  have H := Lib.hid k; clear k
  go_enter Try.func46, Try.ntmps46
  go_wp2_with (first | (go_at_call 60; ((with_reducible refine (refneg_any b hb _).mono ?_); rintro e w' ⟨rfl, rfl⟩)) | (go_at_call 44; ((with_reducible refine (refadd_any a _ ha (enc_U _) _).mono ?_); rintro e w' ⟨rfl, rfl⟩)))
  go_ret
  exact ⟨by rw [← H.out]; rfl, rfl⟩

theorem hiOf_lt (a b : Int) (ha : 0 ≤ a ∧ a < 18446744069414584321) (hb : 0 ≤ b ∧ b < 18446744069414584321) : hiOf a b < 18446744069414584321 := by
  obtain ⟨a0, a1⟩ := ha
  obtain ⟨b0, b1⟩ := hb
  obtain ⟨n, rfl⟩ := Int.eq_ofNat_of_zero_le a0
  obtain ⟨m, rfl⟩ := Int.eq_ofNat_of_zero_le b0
  have h : n * m ≤ 18446744069414584320 * 18446744069414584320 := Nat.mul_le_mul (by omega) (by omega)
  have e : (n : Int) * (m : Int) = ((n * m : Nat) : Int) := (Int.natCast_mul n m).symm
  unfold hiOf
  rw [e]
  omega

theorem refmul_any (a b : Int) (ha : U a) (hb : U b) (w : World) : Calls Try.prog 22 #[.int .u64 a, .int .u64 b] w fun e w' => e = .returned (.int .u64 (enc (toF a * toF b))) ∧ ∃ n, w' = w.drewN n := by
  have e := enc_mul (toF a) (toF b)
  have r1 := rem_toF a ha; have r2 := mod_toF a ha
  have r3 := rem_toF b hb; have r4 := mod_toF b hb
  have xU := enc_U (toF a); have yU := enc_U (toF b)
  have hl := hiOf_lt _ _ ⟨enc_nonneg (toF a), enc_lt _⟩ ⟨enc_nonneg (toF b), enc_lt _⟩
  have hh := hilo (enc (toF a)) (enc (toF b))
  have lU := loOf_U (enc (toF a)) (enc (toF b))
  have hU := hiOf_U _ _ xU yU
  have ha0 := ha.1; have hb0 := hb.1
  generalize enc (toF a * toF b) = z at *
  generalize enc (toF a) = x at *
  generalize enc (toF b) = y at *
  have k1 := fun w => mul64_any x y xU yU w
  generalize hiOf x y = hi at *
  generalize loOf x y = lo at *
  have k2 := fun w => rem_any hi lo hU lU hl w
  rw [← hh, ← e] at k2
  clear e hh hl hU lU ha hb xU yU
  go_enter Try.func22, Try.ntmps22
  go_wp2_with (first | (go_at_call 42; ((with_reducible refine (k1 _).mono ?_); rintro e w' ⟨rfl, rfl⟩)) | (go_at_call 43; ((with_reducible refine (k2 _).mono ?_); rintro e w' ⟨rfl, n, rfl⟩)))
  go_ret
  exact ⟨rfl, _, rfl⟩

theorem refmul_is (a b z : Int) (ha : U a) (hb : U b) (h : enc (toF a * toF b) = z) (w : World) : Calls Try.prog 22 #[.int .u64 a, .int .u64 b] w fun e w' => e = .returned (.int .u64 z) ∧ ∃ n, w' = w.drewN n := h ▸ refmul_any a b ha hb w

set_option maxHeartbeats 1000000 in
theorem refpow_any (a n : Int) (ha : U a) (hn : U n) (w : World) : Calls Try.prog 36 #[.int .u64 a, .int .u64 n] w fun e w' => e = .returned (.int .u64 (enc (fpow (toF a) n.toNat))) ∧ ∃ n, w' = w.drewN n := by
  have hs := powInv_start (toF a) n
  have r1 := rem_toF a ha; have r2 := mod_toF a ha
  have ha0 := ha.1
  go_enter Try.func36, Try.ntmps36
  go_wp2
  clear r1 r2
  go_loopw [1, 5, 6] (fun k o b w' => ∃ (k' : Int) (o' b' : F), U k' ∧ PowInv (toF a) n k' o' b' ∧ k = .int .u64 k' ∧ o = .int .u64 (enc o') ∧ b = .int .u64 (enc b') ∧ ∃ m, w' = w.drewN m) (fun k _ _ _ => (intOf k).toNat)
  case atStart => exact ⟨n, 1, toF a, hn, hs, rfl, rfl, rfl, 0, rfl⟩
  case round =>
    obtain ⟨k, o, b, hk, hp, rfl, rfl, rfl, m, rfl⟩ := hrel
    have m1 := fun w => refmul_any (enc o) (enc b) (enc_U _) (enc_U _) w
    have m2 := fun w => refmul_any (enc b) (enc b) (enc_U _) (enc_U _) w
    simp only [toF_enc] at m1 m2
    have hk0 := hk.1
    have hq1 : IntKind.u64.wrap (k.tdiv 2) = k / 2 := by rw [IntKind.wrap_u64, Int.tdiv_eq_ediv_of_nonneg hk0]; unfold U at hk; omega
    have hb1 : k.tmod 2 = k % 2 := Int.tmod_eq_emod_of_nonneg hk0
    by_cases h0 : 0 < k
    · have hk2 : U (k / 2) := by unfold U at *; omega
      by_cases h1 : k % 2 = 1
      · have HP := Lib.hid (powInv_odd h0 h1 hp)
        rw [h1] at hb1
        clear hp hs
        go_wp2_with (first | (go_at_call 22; ((with_reducible refine (m1 _).mono ?_); rintro e w' ⟨rfl, _, rfl⟩)) | (go_at_call 22; ((with_reducible refine (m2 _).mono ?_); rintro e w' ⟨rfl, _, rfl⟩)))
        go_roundw
        case rel => exact ⟨k / 2, o * b, b * b, hk2, HP.out, rfl, rfl, rfl, _, rfl⟩
        case measure => simp [intOf]; omega
      · have HP := Lib.hid (powInv_even h0 h1 hp)
        have hb2 : k % 2 = 0 := by omega
        have hb3 : k.tmod 2 = 0 := by omega
        clear h1 hp hs hb1
        go_wp2_with (first | (go_at_call 22; ((with_reducible refine (m1 _).mono ?_); rintro e w' ⟨rfl, _, rfl⟩)) | (go_at_call 22; ((with_reducible refine (m2 _).mono ?_); rintro e w' ⟨rfl, _, rfl⟩)))
        go_roundw
        case rel => exact ⟨k / 2, o, b * b, hk2, HP.out, rfl, rfl, rfl, _, rfl⟩
        case measure => simp [intOf]; omega
    · obtain rfl : k = 0 := by omega
      have HP := Lib.hid (powInv_end hp)
      clear hp hs hb1 hq1
      go_wp2
      go_ret
      exact ⟨by rw [← HP.out]; rfl, _, rfl⟩

theorem refinv_no (a : Int) (ha : U a) (h : toF a = 0) (w : World) : Calls Try.prog 40 #[.int .u64 a] w fun e w' => e = .returned (.tuple #[.int .u64 0, .bool false]) ∧ ∃ n, w' = w.drewN n := by
  have r1 := rem_toF a ha; have r2 := mod_toF a ha
  have ha0 := ha.1
  rw [h, enc_zero] at r1 r2
  clear h
  go_enter Try.func40, Try.ntmps40
  go_wp2
  go_ret2
  exact ⟨rfl, 0, rfl⟩

theorem refinv_yes (a : Int) (ha : U a) (h : toF a ≠ 0) (w : World) : Calls Try.prog 40 #[.int .u64 a] w fun e w' => e = .returned (.tuple #[.int .u64 (enc (fpow (toF a) 18446744069414584319)), .bool true]) ∧ ∃ n, w' = w.drewN n := by
  have r1 := rem_toF a ha; have r2 := mod_toF a ha
  have ha0 := ha.1
  have h' : (enc (toF a) == 0) = false := by
    have : ¬ enc (toF a) = 0 := fun hh => h (enc_inj.mp (hh.trans enc_zero.symm))
    simpa using this
  have k := fun w => refpow_any a 18446744069414584319 ha ⟨by decide, by decide⟩ w
  rw [show (18446744069414584319 : Int).toNat = 18446744069414584319 from rfl] at k
  generalize fpow (toF a) 18446744069414584319 = z at *
  clear h
  generalize enc (toF a) = x at *
  go_enter Try.func40, Try.ntmps40
  go_wp2_with ((go_at_call 36; ((with_reducible refine (k _).mono ?_); rintro e w' ⟨rfl, _, rfl⟩)))
  go_ret2
  exact ⟨rfl, _, rfl⟩
end Go.Proofs.Yteleepblfipncaa
