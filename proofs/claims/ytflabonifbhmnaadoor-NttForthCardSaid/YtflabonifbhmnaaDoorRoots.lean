/-
  What root.Of, root.Log, root.Turn come to: contracts for the walk.
-/
import Derived.Test.YtflabonifbhmnaaDoorTurns
import Derived.Test.YtflabonifbhmnaaDoorIs
import Derived.Test.YtflabonifbhmnaaDoorPairs
import Derived.WalkSpells
import Derived.LoopTactic
import Derived.Shelf.Spec.TrailingZeros
namespace Go.Proofs.YtflabonifbhmnaaDoor
open Go.RowKit
set_option linter.unusedVariables false

def I64 (a : Int) : Prop := -9223372036854775808 ≤ a ∧ a ≤ 9223372036854775807
theorem I64_wf {a : Int} (h : (Lit.int .i64 a).wf = true) : I64 a := by
  have := Go.bounds_i64 h
  unfold I64; omega

theorem U8_wf {a : Int} (h : (Lit.int .u8 a).wf = true) : 0 ≤ a ∧ a ≤ 255 := Go.bounds_u8 h
theorem U32_wf {a : Int} (h : (Lit.int .u32 a).wf = true) : 0 ≤ a ∧ a ≤ 4294967295 := Go.bounds_u32 h

theorem bits_and_i64_nat (a b : Nat) (ha : a < 9223372036854775808) (hb : b < 9223372036854775808) : bits .and .i64 (a : Int) (b : Int) = ((a &&& b : Nat) : Int) := by
  have hx : a &&& b < 2 ^ 63 := Nat.and_lt_two_pow _ (by omega)
  have h1 : (BitVec.ofInt 64 (a : Int)).toNat = a := by
    rw [BitVec.ofInt_natCast, BitVec.toNat_ofNat]; exact Nat.mod_eq_of_lt (by omega)
  have h2 : (BitVec.ofInt 64 (b : Int)).toNat = b := by
    rw [BitVec.ofInt_natCast, BitVec.toNat_ofNat]; exact Nat.mod_eq_of_lt (by omega)
  show IntKind.i64.wrap ((BitVec.ofInt 64 (a : Int) &&& BitVec.ofInt 64 (b : Int)).toNat : Int) = _
  rw [BitVec.toNat_and, h1, h2, IntKind.wrap_i64]
  omega
theorem and1_i64 (m : Int) : bits .and .i64 m 1 = m % 2 := by
  show IntKind.i64.wrap ((BitVec.ofInt 64 m &&& BitVec.ofInt 64 1).toNat : Int) = _
  have h2 : (BitVec.ofInt 64 1).toNat = 1 := by decide
  rw [BitVec.toNat_and, h2, Nat.and_one_is_mod, BitVec.toNat_ofInt, IntKind.wrap_i64]
  omega

theorem revb_core (x a1 b1 c1 y a2 b2 c2 z a3 c3 r : Int) (hx : 0 ≤ x) (hy : 0 ≤ y) (hz : 0 ≤ z)
    (f1 : bits .and .u64 (x / 256) 71777214294589695 = a1) (f2 : bits .and .u64 x 71777214294589695 = b1) (f3 : IntKind.u64.wrap (b1 * 256) = c1) (f4 : bits .or .u64 a1 c1 = y)
    (g1 : bits .and .u64 (y / 65536) 281470681808895 = a2) (g2 : bits .and .u64 y 281470681808895 = b2) (g3 : IntKind.u64.wrap (b2 * 65536) = c2) (g4 : bits .or .u64 a2 c2 = z)
    (h1 : z / 4294967296 = a3) (h2 : IntKind.u64.wrap (z * 4294967296) = c3) (h3 : bits .or .u64 a3 c3 = r) (w : World) :
    Calls Tryd.prog 75 #[.int .u64 x] w fun e w' => e = .returned (.int .u64 r) ∧ w = w' := by
  go_enter Tryd.func75, Tryd.ntmps75
  go_wp2
  go_ret
  exact ⟨rfl, rfl⟩
theorem rev64_core (x a1 b1 c1 y a2 b2 c2 z a3 b3 c3 t r : Int) (hx : 0 ≤ x) (hy : 0 ≤ y) (hz : 0 ≤ z)
    (f1 : bits .and .u64 (x / 2) 6148914691236517205 = a1) (f2 : bits .and .u64 x 6148914691236517205 = b1) (f3 : IntKind.u64.wrap (b1 * 2) = c1) (f4 : bits .or .u64 a1 c1 = y)
    (g1 : bits .and .u64 (y / 4) 3689348814741910323 = a2) (g2 : bits .and .u64 y 3689348814741910323 = b2) (g3 : IntKind.u64.wrap (b2 * 4) = c2) (g4 : bits .or .u64 a2 c2 = z)
    (h1 : bits .and .u64 (z / 16) 1085102592571150095 = a3) (h2 : bits .and .u64 z 1085102592571150095 = b3) (h3 : IntKind.u64.wrap (b3 * 16) = c3) (h4 : bits .or .u64 a3 c3 = t)
    (k : ∀ w, Calls Tryd.prog 75 #[.int .u64 t] w fun e w' => e = .returned (.int .u64 r) ∧ w = w') (w : World) :
    Calls Tryd.prog 74 #[.int .u64 x] w fun e w' => e = .returned (.int .u64 r) ∧ w = w' := by
  go_enter Tryd.func74, Tryd.ntmps74
  go_wp2_with (go_at_call 75; ((with_reducible refine (k _).mono ?_); rintro e w' ⟨rfl, rfl⟩))
  go_ret
  exact ⟨rfl, rfl⟩

theorem step_a (x m d : Nat) (hx : x < 18446744073709551616) (hm : m < 18446744073709551616) : bits .and .u64 ((x : Int) / (d : Int)) (m : Int) = ((x / d &&& m : Nat) : Int) := by
  have := Nat.div_le_self x d
  rw [show (x : Int) / (d : Int) = ((x / d : Nat) : Int) from (Int.natCast_ediv _ _).symm, bits_and_u64_nat _ _ (by omega) hm]
theorem step_c (b d : Nat) : IntKind.u64.wrap ((b : Int) * (d : Int)) = ((b * d % 2 ^ 64 : Nat) : Int) := by
  rw [IntKind.wrap_u64, show (b : Int) * (d : Int) = ((b * d : Nat) : Int) from (Int.natCast_mul _ _).symm, show 2 ^ 64 = 18446744073709551616 from rfl]
  omega
theorem step_or (s m x : Nat) (hm : m < 18446744073709551616) : bits .or .u64 ((x / 2 ^ s &&& m : Nat) : Int) (((x &&& m) * 2 ^ s % 2 ^ 64 : Nat) : Int) = (stepBy s m x : Int) := by
  rw [bits_or_u64_nat _ _ (and_lt64 _ _ hm) (Nat.mod_lt _ (by decide))]; rfl
theorem step_last (x : Nat) (hx : x < 18446744073709551616) : stepBy 32 m5 x = x / 4294967296 ||| (x * 4294967296 % 18446744073709551616) := by
  unfold stepBy
  have e1 : ∀ a, a &&& m5 = a % 4294967296 := fun a => Nat.and_two_pow_sub_one_eq_mod a 32
  rw [e1, e1, show 2 ^ 32 = 4294967296 from rfl, show 2 ^ 64 = 18446744073709551616 from rfl, show x / 4294967296 % 4294967296 = x / 4294967296 by omega, show x % 4294967296 * 4294967296 % 18446744073709551616 = x * 4294967296 % 18446744073709551616 by omega]

theorem revb_any (x : Nat) (hx : x < 18446744073709551616) (w : World) :
    Calls Tryd.prog 75 #[.int .u64 (x : Int)] w fun e w' => e = .returned (.int .u64 (stepBy 32 m5 (stepBy 16 m4 (stepBy 8 m3 x)) : Nat)) ∧ w = w' := by
  have y1 : stepBy 8 m3 x < 18446744073709551616 := stepBy_lt 8 m3 x (by decide)
  obtain ⟨y, hy⟩ : ∃ y, stepBy 8 m3 x = y := ⟨_, rfl⟩
  rw [hy] at y1 ⊢
  have z1 : stepBy 16 m4 y < 18446744073709551616 := stepBy_lt 16 m4 y (by decide)
  obtain ⟨z, hz⟩ : ∃ z, stepBy 16 m4 y = z := ⟨_, rfl⟩
  rw [hz] at z1 ⊢
  refine revb_core (x : Int) _ ((x &&& m3 : Nat) : Int) _ (y : Int) _ ((y &&& m4 : Nat) : Int) _ (z : Int) ((z / 4294967296 : Nat) : Int) ((z * 4294967296 % 18446744073709551616 : Nat) : Int) _ (by omega) (by omega) (by omega)
    (step_a x m3 256 hx (by decide)) (bits_and_u64_nat x m3 hx (by decide)) (step_c _ 256) ?_ (step_a y m4 65536 y1 (by decide)) (bits_and_u64_nat y m4 y1 (by decide)) (step_c _ 65536) ?_ (by omega) ?_ ?_ w
  · rw [← hy]; exact step_or 8 m3 x (by decide)
  · rw [← hz]; exact step_or 16 m4 y (by decide)
  · rw [IntKind.wrap_u64]; omega
  · rw [bits_or_u64_nat _ _ (by omega) (by omega), ← step_last z z1]
theorem rev64_any (x : Nat) (hx : x < 18446744073709551616) (w : World) :
    Calls Tryd.prog 74 #[.int .u64 (x : Int)] w fun e w' => e = .returned (.int .u64 (revBy x : Nat)) ∧ w = w' := by
  unfold revBy
  have y1 : stepBy 1 m0 x < 18446744073709551616 := stepBy_lt 1 m0 x (by decide)
  obtain ⟨y, hy⟩ : ∃ y, stepBy 1 m0 x = y := ⟨_, rfl⟩
  rw [hy] at y1 ⊢
  have z1 : stepBy 2 m1 y < 18446744073709551616 := stepBy_lt 2 m1 y (by decide)
  obtain ⟨z, hz⟩ : ∃ z, stepBy 2 m1 y = z := ⟨_, rfl⟩
  rw [hz] at z1 ⊢
  have t1 : stepBy 4 m2 z < 18446744073709551616 := stepBy_lt 4 m2 z (by decide)
  obtain ⟨t, ht⟩ : ∃ t, stepBy 4 m2 z = t := ⟨_, rfl⟩
  rw [ht] at t1 ⊢
  refine rev64_core (x : Int) _ ((x &&& m0 : Nat) : Int) _ (y : Int) _ ((y &&& m1 : Nat) : Int) _ (z : Int) _ ((z &&& m2 : Nat) : Int) _ (t : Int) _ (by omega) (by omega) (by omega)
    (step_a x m0 2 hx (by decide)) (bits_and_u64_nat x m0 hx (by decide)) (step_c _ 2) ?_ (step_a y m1 4 y1 (by decide)) (bits_and_u64_nat y m1 y1 (by decide)) (step_c _ 4) ?_ (step_a z m2 16 z1 (by decide)) (bits_and_u64_nat z m2 z1 (by decide)) (step_c _ 16) ?_ (revb_any t t1) w
  · rw [← hy]; exact step_or 1 m0 x (by decide)
  · rw [← hz]; exact step_or 2 m1 y (by decide)
  · rw [← ht]; exact step_or 4 m2 z (by decide)

/-- The lowest k bits of n, the other way round, of any whole numbers: at most 62, and none of a k below 1. -/
def tv (n k : Int) : Int := (rv (min k.toNat 62) (n % 18446744073709551616).toNat : Int)
theorem tv_bd (n k : Int) : 0 ≤ tv n k ∧ tv n k < 4611686018427387904 := by
  unfold tv
  have h := rv_lt (min k.toNat 62) (n % 18446744073709551616).toNat
  have : 2 ^ (min k.toNat 62) ≤ 2 ^ 62 := Nat.pow_le_pow_right (by decide) (by omega)
  omega
theorem tv_top (n k : Int) (h0 : 1 ≤ k) (h : k ≤ 62) (x : Nat) (hx : (x : Int) = n % 18446744073709551616) : (revBy x : Int) / 2 ^ (64 - k).toNat = tv n k := by
  unfold tv
  rw [← hx, Int.toNat_natCast, show min k.toNat 62 = k.toNat by omega, ← revBy_top x k.toNat (by omega), show (64 - k).toNat = 64 - k.toNat by omega]
  rw [Int.natCast_ediv, Int.natCast_pow]; rfl

theorem turn_is (n k z : Int) (hn : I64 n) (hk : I64 k) (hz : tv n k = z) (w : World) : Calls Tryd.prog 72 #[.int .i64 n, .int .i64 k] w fun e w' => e = .returned (.int .i64 z) ∧ w = w' := by
  obtain ⟨n0, n1⟩ := hn
  obtain ⟨k0, k1⟩ := hk
  have hb := tv_bd n k
  rw [hz] at hb
  by_cases c : k < 1
  · have e0 : z = 0 := by rw [← hz]; unfold tv; rw [show min k.toNat 62 = 0 by omega]; rfl
    subst e0
    clear hz hb
    go_enter Tryd.func72, Tryd.ntmps72
    go_wp2
    go_ret
    exact ⟨rfl, rfl⟩
  · obtain ⟨x, hx⟩ : ∃ x : Nat, (x : Int) = n % 18446744073709551616 := ⟨(n % 18446744073709551616).toNat, by omega⟩
    have xl : x < 18446744073709551616 := by omega
    have e1 : IntKind.u64.wrap n = (x : Int) := by rw [IntKind.wrap_u64, hx]
    have K := fun w => rev64_any x xl w
    by_cases d : k ≤ 62
    · have e2 := tv_top n k (by omega) d x hx
      rw [hz] at e2
      have e3 : IntKind.i64.wrap z = z := by rw [IntKind.wrap_i64]; omega
      have r0 : (0 : Int) ≤ (revBy x : Int) := by omega
      obtain ⟨hb0, hb1⟩ := hb
      clear hz hx xl
      generalize (x : Int) = X at *
      generalize (revBy x : Int) = R at *
      go_enter Tryd.func72, Tryd.ntmps72
      go_wp2_with (go_at_call 74; ((with_reducible refine (K _).mono ?_); rintro e w' ⟨rfl, rfl⟩))
      go_ret
      exact ⟨rfl, rfl⟩
    · have e2 := tv_top n 62 (by omega) (by omega) x hx
      rw [show tv n 62 = tv n k by unfold tv; rw [show min k.toNat 62 = 62 by omega]; rfl, hz, show (2 : Int) ^ (64 - 62 : Int).toNat = 4 from rfl] at e2
      have e3 : IntKind.i64.wrap z = z := by rw [IntKind.wrap_i64]; omega
      have r0 : (0 : Int) ≤ (revBy x : Int) := by omega
      obtain ⟨hb0, hb1⟩ := hb
      clear hz hx xl
      generalize (x : Int) = X at *
      generalize (revBy x : Int) = R at *
      go_enter Tryd.func72, Tryd.ntmps72
      go_wp2_with (go_at_call 74; ((with_reducible refine (K _).mono ?_); rintro e w' ⟨rfl, rfl⟩))
      go_ret
      exact ⟨rfl, rfl⟩
end Go.Proofs.YtflabonifbhmnaaDoor
