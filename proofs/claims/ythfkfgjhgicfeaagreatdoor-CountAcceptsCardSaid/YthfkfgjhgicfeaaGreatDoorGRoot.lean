/-
  Turns: Bits the other way round, powers of two, and roots of unity, as plain mathematics (no Go in sight).
  Roots: What root.Of, root.Log, root.Turn come to: contracts for the walk.
  RootLog: What root.Of, root.Log come to, and what the document's answers for them do: contracts for the walk.
  RootRef: What the document's Log and Turn come to: contracts for the walk.
-/
import Derived.Test.YthfkfgjhgicfeaaGreatDoorGNum
import Derived.Lib.TrailingZeros
import Derived.WalkSpells
import Derived.LoopTactic
import Derived.Shelf.Spec.TrailingZeros
import Derived.Test.YthfkfgjhgicfeaaGreatDoorGRef
import Derived.Lib.LaidTab
namespace Go.Proofs.YthfkfgjhgicfeaaGreatDoor
set_option linter.unusedVariables false

/-- The lowest k bits of n, the other way round. -/
def rv : Nat → Nat → Nat
  | 0, _ => 0
  | k + 1, n => 2 * rv k n + n / 2 ^ k % 2
def m0 : Nat := 6148914691236517205
def m1 : Nat := 3689348814741910323
def m2 : Nat := 1085102592571150095
def m3 : Nat := 71777214294589695
/-! Powers of two. -/
theorem two_pow_and (k : Nat) : 2 ^ k &&& (2 ^ k - 1) = 0 := by
  rw [Nat.and_two_pow_sub_one_eq_mod, Nat.mod_self]
theorem and_pred {n : Nat} (h0 : 0 < n) (h : n &&& (n - 1) = 0) : n = 2 ^ n.log2 := by
  have h1 : 2 ^ n.log2 ≤ n := Nat.log2_self_le (by omega)
  have h2 : n < 2 ^ (n.log2 + 1) := Nat.lt_log2_self
  generalize n.log2 = k at *
  refine Classical.byContradiction fun hne => ?_
  have b1 : n.testBit k = true := by
    rw [Nat.testBit_eq_decide_div_mod_eq]
    have : n / 2 ^ k = 1 := by
      rw [Nat.pow_succ] at h2
      exact Nat.div_eq_of_lt_le (by omega) (by omega)
    rw [this]; rfl
  have b2 : (n - 1).testBit k = true := by
    rw [Nat.testBit_eq_decide_div_mod_eq]
    have : (n - 1) / 2 ^ k = 1 := by
      rw [Nat.pow_succ] at h2
      exact Nat.div_eq_of_lt_le (by omega) (by omega)
    rw [this]; rfl
  have := congrArg (fun z => z.testBit k) h
  simp only [Nat.testBit_and, b1, b2, Nat.zero_testBit] at this
  cases this
theorem ctz_pow (k : Nat) (hk : k < 64) : Lib.ctz 64 (2 ^ k) = k := by
  have : ∀ k, k < 64 → Lib.ctz 64 (2 ^ k) = k := by decide +kernel
  exact this k hk

/-! Roots of unity. -/
/-- A root of unity of the order 2^k. -/
def rootOf (k : Nat) : F := fpow seven (18446744069414584320 / 2 ^ k)
theorem root_pow (k j : Nat) (hk : k ≤ 32) (hj : j ≤ k) : fpow (rootOf k) (2 ^ j) = rootOf (k - j) := by
  unfold rootOf
  rw [← fpow_mul]
  congr 1
  have : ∀ k, k < 33 → ∀ j, j < k + 1 → 18446744069414584320 / 2 ^ k * 2 ^ j = 18446744069414584320 / 2 ^ (k - j) := by decide +kernel
  exact this k (by omega) j (by omega)
theorem root_zero : rootOf 0 = 1 := fermat seven (by decide +kernel)
theorem root_one : rootOf 1 = -1 := half_minus
theorem root_all (k : Nat) (hk : k ≤ 32) : fpow (rootOf k) (2 ^ k) = 1 := by rw [root_pow k k hk (Nat.le_refl _), Nat.sub_self, root_zero]
theorem root_half (k : Nat) (hk : k < 32) : fpow (rootOf (k + 1)) (2 ^ k) = -1 := by rw [root_pow (k + 1) k (by omega) (by omega), show k + 1 - k = 1 by omega, root_one]
theorem root_sq (k : Nat) (hk : k < 32) : rootOf (k + 1) * rootOf (k + 1) = rootOf k := by
  have := root_pow (k + 1) 1 (by omega) (by omega)
  rw [Nat.add_sub_cancel] at this
  rw [← this]; simp only [Nat.pow_one, fpow]; grind
end Go.Proofs.YthfkfgjhgicfeaaGreatDoor
namespace Go.Proofs.YthfkfgjhgicfeaaGreatDoor
open Go.RowKit
set_option linter.unusedVariables false

def I64 (a : Int) : Prop := -9223372036854775808 ≤ a ∧ a ≤ 9223372036854775807
theorem bits_and_i64_nat (a b : Nat) (ha : a < 9223372036854775808) (hb : b < 9223372036854775808) : bits .and .i64 (a : Int) (b : Int) = ((a &&& b : Nat) : Int) := by
  have hx : a &&& b < 2 ^ 63 := Nat.and_lt_two_pow _ (by omega)
  have h1 : (BitVec.ofInt 64 (a : Int)).toNat = a := by
    rw [BitVec.ofInt_natCast, BitVec.toNat_ofNat]; exact Nat.mod_eq_of_lt (by omega)
  have h2 : (BitVec.ofInt 64 (b : Int)).toNat = b := by
    rw [BitVec.ofInt_natCast, BitVec.toNat_ofNat]; exact Nat.mod_eq_of_lt (by omega)
  show IntKind.i64.wrap ((BitVec.ofInt 64 (a : Int) &&& BitVec.ofInt 64 (b : Int)).toNat : Int) = _
  rw [BitVec.toNat_and, h1, h2, IntKind.wrap_i64]
  omega
theorem step_a (x m d : Nat) (hx : x < 18446744073709551616) (hm : m < 18446744073709551616) : bits .and .u64 ((x : Int) / (d : Int)) (m : Int) = ((x / d &&& m : Nat) : Int) := by
  have := Nat.div_le_self x d
  rw [show (x : Int) / (d : Int) = ((x / d : Nat) : Int) from (Int.natCast_ediv _ _).symm, bits_and_u64_nat _ _ (by omega) hm]
end Go.Proofs.YthfkfgjhgicfeaaGreatDoor
namespace Go.Proofs.YthfkfgjhgicfeaaGreatDoor
open Go.RowKit
set_option linter.unusedVariables false

/-- The library's table in its variable. -/
def Tab (W : World) : Prop := TabAt 0 Lib.deBruijn64tab W
theorem Tab.keep {W w1 : World} (h : Tab W) (hb : Below W.heap.size W w1) : Tab w1 := fun j hj => bkeep hb (h j hj)

theorem Tab.of {W : World} {zs : List Int} (hg : Tryz.prog.globalNamed "math/bits.deBruijn64tab" = some 0) (h : Lib.TabIs Tryz.prog W "math/bits.deBruijn64tab" .u8 zs) (hz : zs = Lib.deBruijn64tab.map Int.ofNat := by rfl) : Tab W := by
  subst hz
  intro j hj
  rw [h.cell hg j (by simpa using hj)]
  simp [List.getD, hj]

theorem tz_core (x k idx : Nat) (w : World) (hx0 : ((x : Int) == 0) = false)
    (key : IntKind.u64.wrap (bits BinOp.and IntKind.u64 (x : Int) (IntKind.u64.wrap (-(x : Int))) * 285870213051353865) / 288230376151711744 = (idx : Int))
    (hi : idx < 64) (hk : k < 64) (hcell : w.cell? ⟨0, idx, none⟩ = some (.int .u8 k)) :
    Calls Tryz.prog 61 #[.int .u64 x] w fun e w' => e = .returned (.int .i64 k) ∧ w = w' := by
  go_enter Tryz.func61, Tryz.ntmps61
  go_wp2_with (simp only [key])
  go_ret
  exact ⟨rfl, rfl⟩
theorem tz_any (x : Nat) (hx : x < 18446744073709551616) (hx0 : x ≠ 0) (w : World) (ht : Tab w) :
    Calls Tryz.prog 61 #[.int .u64 x] w fun e w' => e = .returned (.int .i64 (Lib.ctz 64 x)) ∧ w = w' := by
  obtain ⟨hlow, hk⟩ := Lib.lowest_bit 64 x hx0 hx
  obtain ⟨hi, htab⟩ := Lib.deBruijn64_at _ hk
  have hcell := ht _ hi
  rw [htab] at hcell
  exact tz_core x _ _ w (by simp; omega) (tz64_key x _ hx hx0 hlow) hi hk hcell

/-- Which power of two a number is; -1: none. -/
def lg (n : Int) : Int := if 1 ≤ n ∧ n.toNat &&& (n.toNat - 1) = 0 then (n.toNat.log2 : Int) else -1
theorem lg_pow (k : Nat) : lg (2 ^ k : Nat) = (k : Int) := by
  unfold lg
  have h0 : 0 < 2 ^ k := Nat.two_pow_pos k
  rw [if_pos ⟨by omega, by rw [Int.toNat_natCast]; exact two_pow_and k⟩, Int.toNat_natCast, Nat.log2_two_pow]
theorem lg_none {n : Int} (hn : n ≤ 9223372036854775807) (h : ∀ k : Nat, k < 63 → n ≠ (2 ^ k : Nat)) : lg n = -1 := by
  unfold lg
  refine if_neg fun ⟨h1, h2⟩ => ?_
  have e := and_pred (by omega) h2
  have hk : n.toNat.log2 < 63 := by
    refine Nat.lt_of_not_le fun hle => ?_
    have : 2 ^ 63 ≤ 2 ^ n.toNat.log2 := Nat.pow_le_pow_right (by decide) hle
    omega
  exact h _ hk (by omega)

theorem log_is (n z : Int) (hn : I64 n) (hz : lg n = z) (w : World) (ht : Tab w) : Calls Tryz.prog 27 #[.int .i64 n] w fun e w' => e = .returned (.int .i64 z) ∧ w = w' := by
  obtain ⟨n0, n1⟩ := hn
  by_cases c : n < 1
  · have e0 : z = -1 := by rw [← hz]; unfold lg; rw [if_neg (by omega)]
    subst e0
    clear hz
    go_enter Tryz.func27, Tryz.ntmps27
    go_wp2
    go_ret
    exact ⟨rfl, rfl⟩
  · obtain ⟨m, rfl⟩ := Int.eq_ofNat_of_zero_le (by omega : 0 ≤ n)
    have e1 := bits_and_i64_nat m (m - 1) (by omega) (by omega)
    rw [show ((m - 1 : Nat) : Int) = (m : Int) - 1 by omega] at e1
    by_cases d : m &&& (m - 1) = 0
    · have e := and_pred (by omega) d
      have K := tz_any m (by omega) (by omega)
      have hk : m.log2 < 64 := by
        refine Nat.lt_of_not_le fun hle => ?_
        have : 2 ^ 64 ≤ 2 ^ m.log2 := Nat.pow_le_pow_right (by decide) hle
        omega
      have ec : Lib.ctz 64 m = m.log2 := by
        have := ctz_pow m.log2 hk
        rwa [← e] at this
      have ez : (m.log2 : Int) = z := by rw [← hz]; unfold lg; rw [if_pos ⟨by omega, by rw [Int.toNat_natCast]; exact d⟩, Int.toNat_natCast]
      rw [ec, ez] at K
      rw [d] at e1
      clear e ec ez hk hz d
      generalize (m : Int) = M at *
      have e2 : (bits BinOp.and IntKind.i64 M (M - 1) != 0) = false := by rw [e1]; rfl
      clear e1
      go_enter Tryz.func27, Tryz.ntmps27
      go_wp2_with (go_at_call 61; ((with_reducible refine (K _ ht).mono ?_); rintro e w' ⟨rfl, rfl⟩))
      go_ret
      exact ⟨rfl, rfl⟩
    · have e0 : z = -1 := by rw [← hz]; unfold lg; rw [if_neg (by rw [Int.toNat_natCast]; exact fun h => d h.2)]
      subst e0
      have e2 : (bits BinOp.and IntKind.i64 (m : Int) ((m : Int) - 1) != 0) = true := by rw [e1]; simp; omega
      clear hz d e1
      generalize (m : Int) = M at *
      go_enter Tryz.func27, Tryz.ntmps27
      go_wp2
      go_ret
      exact ⟨rfl, rfl⟩

/-- The root of any order; 0: there is none. -/
def ofv (k : Int) : F := if 0 ≤ k ∧ k ≤ 32 then rootOf k.toNat else 0
theorem ofv_in {k : Int} (h0 : 0 ≤ k) (h1 : k ≤ 32) : ofv k = rootOf k.toNat := if_pos ⟨h0, h1⟩
theorem ofv_out {k : Int} (h : ¬ (0 ≤ k ∧ k ≤ 32)) : ofv k = 0 := if_neg h

theorem of_is (k z : Int) (hz : enc (ofv k) = z) (w : World) : Calls Tryz.prog 67 #[.int .i64 k] w fun e w' => e = .returned (.int .u64 z) ∧ w = w' := by
  by_cases c : 0 ≤ k ∧ k ≤ 32
  · rw [ofv_in c.1 c.2] at hz
    obtain ⟨c0, c1⟩ := c
    have e1 : ((18446744069414584320 / 2 ^ k.toNat : Nat) : Int) = 18446744069414584320 / 2 ^ k.toNat := by rw [Int.natCast_ediv, Int.natCast_pow]; rfl
    have le := Nat.div_le_self 18446744069414584320 (2 ^ k.toNat)
    have eU : U (18446744069414584320 / 2 ^ k.toNat : Int) := by
      rw [← e1]
      generalize 18446744069414584320 / 2 ^ k.toNat = q at le
      unfold U; omega
    have K := pow_is 7 (18446744069414584320 / 2 ^ k.toNat) z (U_lit _ rfl rfl) eU (by rw [← e1, Int.toNat_natCast, ← hz]; rfl)
    clear hz le e1 eU
    go_enter Tryz.func67, Tryz.ntmps67
    go_wp2_with (go_at_call 102; ((with_reducible refine (K _).mono ?_); rintro e w' ⟨rfl, rfl⟩))
    go_ret
    exact ⟨rfl, rfl⟩
  · rw [ofv_out c] at hz
    have e0 : z = 0 := by rw [← hz]; rfl
    subst e0
    clear hz
    by_cases d : k < 0
    · clear c
      go_enter Tryz.func67, Tryz.ntmps67
      go_wp2
      go_ret
      exact ⟨rfl, rfl⟩
    · have d2 : 32 < k := by omega
      clear c
      go_enter Tryz.func67, Tryz.ntmps67
      go_wp2
      go_ret
      exact ⟨rfl, rfl⟩

theorem refof_is (k z : Int) (hz : enc (ofv k) = z) (w : World) : Calls Tryz.prog 98 #[.int .i64 k] w fun e w' => e = .returned (.int .u64 z) ∧ ∃ n, w' = w.drewN n := by
  by_cases c : 0 ≤ k ∧ k ≤ 32
  · rw [ofv_in c.1 c.2] at hz
    obtain ⟨c0, c1⟩ := c
    have e1 : ((18446744069414584320 / 2 ^ k.toNat : Nat) : Int) = 18446744069414584320 / 2 ^ k.toNat := by rw [Int.natCast_ediv, Int.natCast_pow]; rfl
    have le := Nat.div_le_self 18446744069414584320 (2 ^ k.toNat)
    have eU : U (18446744069414584320 / 2 ^ k.toNat : Int) := by
      rw [← e1]
      generalize 18446744069414584320 / 2 ^ k.toNat = q at le
      unfold U; omega
    have K := fun w => refpow_any 7 (18446744069414584320 / 2 ^ k.toNat) (U_lit _ rfl rfl) eU w
    rw [show enc (fpow (toF 7) (18446744069414584320 / 2 ^ k.toNat : Int).toNat) = z by rw [← e1, Int.toNat_natCast, ← hz]; rfl] at K
    clear hz le e1 eU
    go_enter Tryz.func98, Tryz.ntmps98
    go_wp2_with (go_at_call 97; ((with_reducible refine (K _).mono ?_); rintro e w' ⟨rfl, _, rfl⟩))
    go_ret
    exact ⟨rfl, _, rfl⟩
  · rw [ofv_out c] at hz
    have e0 : z = 0 := by rw [← hz]; rfl
    subst e0
    clear hz
    by_cases d : k < 0
    · clear c
      go_enter Tryz.func98, Tryz.ntmps98
      go_wp2
      go_ret
      exact ⟨rfl, 0, rfl⟩
    · have d2 : 32 < k := by omega
      clear c
      go_enter Tryz.func98, Tryz.ntmps98
      go_wp2
      go_ret
      exact ⟨rfl, 0, rfl⟩
end Go.Proofs.YthfkfgjhgicfeaaGreatDoor
namespace Go.Proofs.YthfkfgjhgicfeaaGreatDoor
open Go.RowKit
set_option linter.unusedVariables false

def NoPow (n : Int) (k : Nat) : Prop := ∀ j : Nat, j < k → n ≠ (2 ^ j : Nat)
theorem NoPow.zero (n : Int) : NoPow n 0 := fun j h => by omega
theorem NoPow.succ {n : Int} {k : Nat} (h : NoPow n k) (hn : ¬ n = (2 ^ k : Nat)) : NoPow n (k + 1) := fun j hj => by
  by_cases e : j = k
  · subst e; exact hn
  · exact h j (by omega)

theorem wrap64_pow (k : Nat) (h : k < 63) : wrap64 (2 ^ k) = ((2 ^ k : Nat) : Int) := by
  have : ∀ k, k < 63 → wrap64 (2 ^ k) = ((2 ^ k : Nat) : Int) := by decide +kernel
  exact this k h

theorem reflog_is (n z : Int) (hn : I64 n) (hz : lg n = z) (w : World) : Calls Tryz.prog 30 #[.int .i64 n] w fun e w' => e = .returned (.int .i64 z) ∧ w = w' := by
  have HZ := Lib.hid hz
  have HN := Lib.hid hn
  clear hz hn
  go_enter Tryz.func30, Tryz.ntmps30
  go_wp2
  go_loop [3] (fun i => ∃ k : Nat, k ≤ 63 ∧ i = .int .i64 k ∧ NoPow n k) (fun i => 63 - (intOf i).toNat)
  case atStart => exact ⟨0, by omega, rfl, NoPow.zero n⟩
  case round =>
    obtain ⟨k, hk, rfl, hp⟩ := hrel
    by_cases h : k < 63
    · have e := wrap64_pow k h
      by_cases hq : n = ((2 ^ k : Nat) : Int)
      · have ez : (k : Int) = z := by rw [← HZ.out, hq]; exact (lg_pow k).symm
        have EZ := Lib.hid ez
        have b : (n == ((2 ^ k : Nat) : Int)) = true := by simpa using hq
        clear hp hq ez
        generalize ((2 ^ k : Nat) : Int) = P at *
        go_wp2
        go_ret
        exact ⟨ret_int EZ.out, rfl⟩
      · have HP := Lib.hid (hp.succ hq)
        have b : (n == ((2 ^ k : Nat) : Int)) = false := by simpa using hq
        clear hp hq
        generalize ((2 ^ k : Nat) : Int) = P at *
        go_wp2
        go_round
        case rel => exact ⟨k + 1, by omega, by go_num, HP.out⟩
        case measure => simp [intOf]; omega
    · obtain rfl : k = 63 := by omega
      have ez : -1 = z := by rw [← HZ.out]; exact (lg_none HN.out.2 hp).symm
      have EZ := Lib.hid ez
      clear ez hp
      go_wp2
      go_ret
      exact ⟨ret_int EZ.out, rfl⟩

end Go.Proofs.YthfkfgjhgicfeaaGreatDoor
