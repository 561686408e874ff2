/-
  Turns: Bits the other way round, powers of two, and roots of unity, as plain mathematics (no Go in sight).
  Roots: What root.Of, root.Log, root.Turn come to: contracts for the walk.
  RootLog: What root.Of, root.Log come to, and what the document's answers for them do: contracts for the walk.
  RootRef: What the document's Log and Turn come to: contracts for the walk.
-/
import Derived.Test.YthfkfgjhgicfeaaDoorGNum
import Derived.Lib.TrailingZeros
import Derived.WalkSpells
import Derived.LoopTactic
import Derived.Shelf.Spec.TrailingZeros
import Derived.Test.YthfkfgjhgicfeaaDoorGRef
import Derived.Lib.LaidTab
namespace Go.Proofs.YthfkfgjhgicfeaaDoor
set_option linter.unusedVariables false

/-- The lowest k bits of n, the other way round. -/
def rv : Nat → Nat → Nat
  | 0, _ => 0
  | k + 1, n => 2 * rv k n + n / 2 ^ k % 2
theorem rv_succ (k n : Nat) : rv (k + 1) n = 2 * rv k n + n / 2 ^ k % 2 := rfl
theorem rv_bit : ∀ k n j, (rv k n).testBit j = (decide (j < k) && n.testBit (k - 1 - j))
  | 0, n, j => by simp [rv]
  | k + 1, n, 0 => by
    rw [rv_succ, Nat.testBit_zero]
    have h : n.testBit k = decide (n / 2 ^ k % 2 = 1) := by
      rw [Nat.testBit_eq_decide_div_mod_eq]
    simp only [Nat.add_sub_cancel, Nat.sub_zero, h]
    simp
  | k + 1, n, j + 1 => by
    rw [rv_succ, Nat.testBit_succ, show (2 * rv k n + n / 2 ^ k % 2) / 2 = rv k n by omega, rv_bit k n j]
    simp only [Nat.add_lt_add_iff_right, show k + 1 - 1 - (j + 1) = k - 1 - j by omega]
theorem rv_lt : ∀ k n, rv k n < 2 ^ k
  | 0, n => by simp [rv]
  | k + 1, n => by
    have := rv_lt k n
    rw [rv_succ, Nat.pow_succ]; omega
theorem rv_rv (k n : Nat) : rv k (rv k n) = n % 2 ^ k := by
  apply Nat.eq_of_testBit_eq
  intro j
  rw [rv_bit, rv_bit, Nat.testBit_mod_two_pow]
  by_cases h : j < k
  · simp only [h, decide_true, Bool.true_and, show k - 1 - j < k by omega, show k - 1 - (k - 1 - j) = j by omega]
  · simp [h]

/-- One step: runs of s bits change places, by a mask of every other run. -/
def stepBy (s m x : Nat) : Nat := (x / 2 ^ s &&& m) ||| ((x &&& m) * 2 ^ s % 2 ^ 64)
def maskB (s m : Nat) : Bool := (List.range 128).all fun i => m.testBit i == (decide (i < 64) && decide (i / s % 2 = 0))
theorem maskB_spec {s m : Nat} (h : maskB s m = true) (i : Nat) (hi : i < 128) : m.testBit i = (decide (i < 64) && decide (i / s % 2 = 0)) := by
  have := List.all_eq_true.1 h i (List.mem_range.2 hi)
  simpa using this
theorem mul_pow_div (x s i : Nat) : (x / 2 ^ s).testBit i = x.testBit (i + s) := by
  rw [Nat.testBit_div_two_pow]
def sw (s i : Nat) : Nat := if i / s % 2 = 0 then i + s else i - s
theorem step_bit (s m x i : Nat) (hs : s ∈ [1, 2, 4, 8, 16, 32]) (hm : maskB s m = true) (hi : i < 64) :
    (stepBy s m x).testBit i = x.testBit (sw s i) := by
  unfold sw
  have h1 := maskB_spec hm i (by omega)
  unfold stepBy
  rw [Nat.testBit_or, Nat.testBit_and, mul_pow_div, Nat.testBit_mod_two_pow, Nat.testBit_mul_two_pow, Nat.testBit_and, h1]
  simp only [hi, decide_true, Bool.true_and]
  have hs0 : 0 < s := by simp at hs; omega
  by_cases c : i / s % 2 = 0
  · simp only [c, if_true, decide_true, Bool.and_true]
    by_cases d : s ≤ i
    · have h2 := maskB_spec hm (i - s) (by omega)
      have e : (i - s) / s % 2 = 1 := by
        rw [show i = (i - s) + s by omega, Nat.add_div_right _ hs0] at c
        omega
      rw [h2, e]; simp
    · simp [d]
  · simp only [c, if_false, decide_false, Bool.and_false, Bool.false_or]
    have d : s ≤ i := by
      refine Nat.le_of_not_lt fun h => c ?_
      rw [Nat.div_eq_of_lt h]
    have h2 := maskB_spec hm (i - s) (by omega)
    have e : (i - s) / s % 2 = 0 := by
      rw [show i = (i - s) + s by omega, Nat.add_div_right _ hs0] at c
      omega
    rw [h2, e]; simp [d, show i - s < 64 by omega]

def m0 : Nat := 6148914691236517205
def m1 : Nat := 3689348814741910323
def m2 : Nat := 1085102592571150095
def m3 : Nat := 71777214294589695
def m4 : Nat := 281470681808895
def m5 : Nat := 4294967295
/-- All bits the other way round, as the library does it. -/
def revBy (x : Nat) : Nat := stepBy 32 m5 (stepBy 16 m4 (stepBy 8 m3 (stepBy 4 m2 (stepBy 2 m1 (stepBy 1 m0 x)))))
theorem sw_all : ∀ i, i < 64 → sw 32 i < 64 ∧ sw 16 (sw 32 i) < 64 ∧ sw 8 (sw 16 (sw 32 i)) < 64 ∧ sw 4 (sw 8 (sw 16 (sw 32 i))) < 64 ∧ sw 2 (sw 4 (sw 8 (sw 16 (sw 32 i)))) < 64 ∧ sw 1 (sw 2 (sw 4 (sw 8 (sw 16 (sw 32 i))))) = 63 - i := by decide +kernel
theorem revBy_bit (x i : Nat) (hi : i < 64) : (revBy x).testBit i = x.testBit (63 - i) := by
  obtain ⟨h1, h2, h3, h4, h5, h6⟩ := sw_all i hi
  unfold revBy
  rw [step_bit 32 m5 _ i (by decide) (by decide +kernel) hi]
  rw [step_bit 16 m4 _ _ (by decide) (by decide +kernel) h1]
  rw [step_bit 8 m3 _ _ (by decide) (by decide +kernel) h2]
  rw [step_bit 4 m2 _ _ (by decide) (by decide +kernel) h3]
  rw [step_bit 2 m1 _ _ (by decide) (by decide +kernel) h4]
  rw [step_bit 1 m0 _ _ (by decide) (by decide +kernel) h5]
  exact congrArg _ h6
theorem and_lt64 (a m : Nat) (hm : m < 2 ^ 64) : a &&& m < 2 ^ 64 := Nat.lt_of_le_of_lt Nat.and_le_right hm
theorem stepBy_lt (s m x : Nat) (hm : m < 2 ^ 64) : stepBy s m x < 2 ^ 64 := by
  unfold stepBy
  exact Nat.or_lt_two_pow (and_lt64 _ _ hm) (Nat.mod_lt _ (by decide))
theorem revBy_lt (x : Nat) : revBy x < 2 ^ 64 := stepBy_lt _ _ _ (by decide)
theorem revBy_top (x k : Nat) (hk : k ≤ 64) : revBy x / 2 ^ (64 - k) = rv k x := by
  apply Nat.eq_of_testBit_eq
  intro j
  rw [mul_pow_div, rv_bit]
  by_cases h : j < k
  · rw [revBy_bit x _ (by omega)]
    simp only [h, decide_true, Bool.true_and, show 63 - (j + (64 - k)) = k - 1 - j by omega]
  · have : (revBy x).testBit (j + (64 - k)) = false := Nat.testBit_lt_two_pow (Nat.lt_of_lt_of_le (revBy_lt x) (Nat.pow_le_pow_right (by decide) (by omega)))
    rw [this]; simp [h]

/-! Powers of two. -/
theorem two_pow_and (k : Nat) : 2 ^ k &&& (2 ^ k - 1) = 0 := by
  rw [Nat.and_two_pow_sub_one_eq_mod, Nat.mod_self]
theorem and_pred {n : Nat} (h0 : 0 < n) (h : n &&& (n - 1) = 0) : n = 2 ^ n.log2 := by
  have h1 : 2 ^ n.log2 ≤ n := Nat.log2_self_le (by omega)
  have h2 : n < 2 ^ (n.log2 + 1) := Nat.lt_log2_self
  generalize n.log2 = k at *
  refine Classical.byContradiction fun hne => ?_
  have b1 : n.testBit k = true := by
    rw [Nat.testBit_eq_decide_div_mod_eq]
    have : n / 2 ^ k = 1 := by
      rw [Nat.pow_succ] at h2
      exact Nat.div_eq_of_lt_le (by omega) (by omega)
    rw [this]; rfl
  have b2 : (n - 1).testBit k = true := by
    rw [Nat.testBit_eq_decide_div_mod_eq]
    have : (n - 1) / 2 ^ k = 1 := by
      rw [Nat.pow_succ] at h2
      exact Nat.div_eq_of_lt_le (by omega) (by omega)
    rw [this]; rfl
  have := congrArg (fun z => z.testBit k) h
  simp only [Nat.testBit_and, b1, b2, Nat.zero_testBit] at this
  cases this
theorem ctz_pow (k : Nat) (hk : k < 64) : Lib.ctz 64 (2 ^ k) = k := by
  have : ∀ k, k < 64 → Lib.ctz 64 (2 ^ k) = k := by decide +kernel
  exact this k hk

/-! Roots of unity. -/
/-- A root of unity of the order 2^k. -/
def rootOf (k : Nat) : F := fpow seven (18446744069414584320 / 2 ^ k)
theorem root_pow (k j : Nat) (hk : k ≤ 32) (hj : j ≤ k) : fpow (rootOf k) (2 ^ j) = rootOf (k - j) := by
  unfold rootOf
  rw [← fpow_mul]
  congr 1
  have : ∀ k, k < 33 → ∀ j, j < k + 1 → 18446744069414584320 / 2 ^ k * 2 ^ j = 18446744069414584320 / 2 ^ (k - j) := by decide +kernel
  exact this k (by omega) j (by omega)
theorem root_zero : rootOf 0 = 1 := fermat seven (by decide +kernel)
theorem root_one : rootOf 1 = -1 := half_minus
theorem root_all (k : Nat) (hk : k ≤ 32) : fpow (rootOf k) (2 ^ k) = 1 := by rw [root_pow k k hk (Nat.le_refl _), Nat.sub_self, root_zero]
theorem root_half (k : Nat) (hk : k < 32) : fpow (rootOf (k + 1)) (2 ^ k) = -1 := by rw [root_pow (k + 1) k (by omega) (by omega), show k + 1 - k = 1 by omega, root_one]
theorem root_sq (k : Nat) (hk : k < 32) : rootOf (k + 1) * rootOf (k + 1) = rootOf k := by
  have := root_pow (k + 1) 1 (by omega) (by omega)
  rw [Nat.add_sub_cancel] at this
  rw [← this]; simp only [Nat.pow_one, fpow]; grind
end Go.Proofs.YthfkfgjhgicfeaaDoor
namespace Go.Proofs.YthfkfgjhgicfeaaDoor
open Go.RowKit
set_option linter.unusedVariables false

def I64 (a : Int) : Prop := -9223372036854775808 ≤ a ∧ a ≤ 9223372036854775807
theorem I64_wf {a : Int} (h : (Lit.int .i64 a).wf = true) : I64 a := by
  have := Go.bounds_i64 h
  unfold I64; omega

theorem U8_wf {a : Int} (h : (Lit.int .u8 a).wf = true) : 0 ≤ a ∧ a ≤ 255 := Go.bounds_u8 h
theorem U32_wf {a : Int} (h : (Lit.int .u32 a).wf = true) : 0 ≤ a ∧ a ≤ 4294967295 := Go.bounds_u32 h

theorem bits_and_i64_nat (a b : Nat) (ha : a < 9223372036854775808) (hb : b < 9223372036854775808) : bits .and .i64 (a : Int) (b : Int) = ((a &&& b : Nat) : Int) := by
  have hx : a &&& b < 2 ^ 63 := Nat.and_lt_two_pow _ (by omega)
  have h1 : (BitVec.ofInt 64 (a : Int)).toNat = a := by
    rw [BitVec.ofInt_natCast, BitVec.toNat_ofNat]; exact Nat.mod_eq_of_lt (by omega)
  have h2 : (BitVec.ofInt 64 (b : Int)).toNat = b := by
    rw [BitVec.ofInt_natCast, BitVec.toNat_ofNat]; exact Nat.mod_eq_of_lt (by omega)
  show IntKind.i64.wrap ((BitVec.ofInt 64 (a : Int) &&& BitVec.ofInt 64 (b : Int)).toNat : Int) = _
  rw [BitVec.toNat_and, h1, h2, IntKind.wrap_i64]
  omega
theorem and1_i64 (m : Int) : bits .and .i64 m 1 = m % 2 := by
  show IntKind.i64.wrap ((BitVec.ofInt 64 m &&& BitVec.ofInt 64 1).toNat : Int) = _
  have h2 : (BitVec.ofInt 64 1).toNat = 1 := by decide
  rw [BitVec.toNat_and, h2, Nat.and_one_is_mod, BitVec.toNat_ofInt, IntKind.wrap_i64]
  omega


theorem step_a (x m d : Nat) (hx : x < 18446744073709551616) (hm : m < 18446744073709551616) : bits .and .u64 ((x : Int) / (d : Int)) (m : Int) = ((x / d &&& m : Nat) : Int) := by
  have := Nat.div_le_self x d
  rw [show (x : Int) / (d : Int) = ((x / d : Nat) : Int) from (Int.natCast_ediv _ _).symm, bits_and_u64_nat _ _ (by omega) hm]
theorem step_c (b d : Nat) : IntKind.u64.wrap ((b : Int) * (d : Int)) = ((b * d % 2 ^ 64 : Nat) : Int) := by
  rw [IntKind.wrap_u64, show (b : Int) * (d : Int) = ((b * d : Nat) : Int) from (Int.natCast_mul _ _).symm, show 2 ^ 64 = 18446744073709551616 from rfl]
  omega
theorem step_or (s m x : Nat) (hm : m < 18446744073709551616) : bits .or .u64 ((x / 2 ^ s &&& m : Nat) : Int) (((x &&& m) * 2 ^ s % 2 ^ 64 : Nat) : Int) = (stepBy s m x : Int) := by
  rw [bits_or_u64_nat _ _ (and_lt64 _ _ hm) (Nat.mod_lt _ (by decide))]; rfl
theorem step_last (x : Nat) (hx : x < 18446744073709551616) : stepBy 32 m5 x = x / 4294967296 ||| (x * 4294967296 % 18446744073709551616) := by
  unfold stepBy
  have e1 : ∀ a, a &&& m5 = a % 4294967296 := fun a => Nat.and_two_pow_sub_one_eq_mod a 32
  rw [e1, e1, show 2 ^ 32 = 4294967296 from rfl, show 2 ^ 64 = 18446744073709551616 from rfl, show x / 4294967296 % 4294967296 = x / 4294967296 by omega, show x % 4294967296 * 4294967296 % 18446744073709551616 = x * 4294967296 % 18446744073709551616 by omega]


/-- The lowest k bits of n, the other way round, of any whole numbers: at most 62, and none of a k below 1. -/
def tv (n k : Int) : Int := (rv (min k.toNat 62) (n % 18446744073709551616).toNat : Int)
theorem tv_bd (n k : Int) : 0 ≤ tv n k ∧ tv n k < 4611686018427387904 := by
  unfold tv
  have h := rv_lt (min k.toNat 62) (n % 18446744073709551616).toNat
  have : 2 ^ (min k.toNat 62) ≤ 2 ^ 62 := Nat.pow_le_pow_right (by decide) (by omega)
  omega
theorem tv_top (n k : Int) (h0 : 1 ≤ k) (h : k ≤ 62) (x : Nat) (hx : (x : Int) = n % 18446744073709551616) : (revBy x : Int) / 2 ^ (64 - k).toNat = tv n k := by
  unfold tv
  rw [← hx, Int.toNat_natCast, show min k.toNat 62 = k.toNat by omega, ← revBy_top x k.toNat (by omega), show (64 - k).toNat = 64 - k.toNat by omega]
  rw [Int.natCast_ediv, Int.natCast_pow]; rfl

end Go.Proofs.YthfkfgjhgicfeaaDoor
namespace Go.Proofs.YthfkfgjhgicfeaaDoor
open Go.RowKit
set_option linter.unusedVariables false

/-- The library's table in its variable. -/
def Tab (W : World) : Prop := TabAt 0 Lib.deBruijn64tab W
theorem Tab.keep {W w1 : World} (h : Tab W) (hb : Below W.heap.size W w1) : Tab w1 := fun j hj => bkeep hb (h j hj)

theorem Tab.of {W : World} {zs : List Int} (hg : Tryd.prog.globalNamed "math/bits.deBruijn64tab" = some 0) (h : Lib.TabIs Tryd.prog W "math/bits.deBruijn64tab" .u8 zs) (hz : zs = Lib.deBruijn64tab.map Int.ofNat := by rfl) : Tab W := by
  subst hz
  intro j hj
  rw [h.cell hg j (by simpa using hj)]
  simp [List.getD, hj]

theorem tz_core (x k idx : Nat) (w : World) (hx0 : ((x : Int) == 0) = false)
    (key : IntKind.u64.wrap (bits BinOp.and IntKind.u64 (x : Int) (IntKind.u64.wrap (-(x : Int))) * 285870213051353865) / 288230376151711744 = (idx : Int))
    (hi : idx < 64) (hk : k < 64) (hcell : w.cell? ⟨0, idx, none⟩ = some (.int .u8 k)) :
    Calls Tryd.prog 41 #[.int .u64 x] w fun e w' => e = .returned (.int .i64 k) ∧ w = w' := by
  go_enter Tryd.func41, Tryd.ntmps41
  go_wp2_with (simp only [key])
  go_ret
  exact ⟨rfl, rfl⟩
theorem tz_any (x : Nat) (hx : x < 18446744073709551616) (hx0 : x ≠ 0) (w : World) (ht : Tab w) :
    Calls Tryd.prog 41 #[.int .u64 x] w fun e w' => e = .returned (.int .i64 (Lib.ctz 64 x)) ∧ w = w' := by
  obtain ⟨hlow, hk⟩ := Lib.lowest_bit 64 x hx0 hx
  obtain ⟨hi, htab⟩ := Lib.deBruijn64_at _ hk
  have hcell := ht _ hi
  rw [htab] at hcell
  exact tz_core x _ _ w (by simp; omega) (tz64_key x _ hx hx0 hlow) hi hk hcell

/-- Which power of two a number is; -1: none. -/
def lg (n : Int) : Int := if 1 ≤ n ∧ n.toNat &&& (n.toNat - 1) = 0 then (n.toNat.log2 : Int) else -1
theorem lg_pow (k : Nat) : lg (2 ^ k : Nat) = (k : Int) := by
  unfold lg
  have h0 : 0 < 2 ^ k := Nat.two_pow_pos k
  rw [if_pos ⟨by omega, by rw [Int.toNat_natCast]; exact two_pow_and k⟩, Int.toNat_natCast, Nat.log2_two_pow]
theorem lg_none {n : Int} (hn : n ≤ 9223372036854775807) (h : ∀ k : Nat, k < 63 → n ≠ (2 ^ k : Nat)) : lg n = -1 := by
  unfold lg
  refine if_neg fun ⟨h1, h2⟩ => ?_
  have e := and_pred (by omega) h2
  have hk : n.toNat.log2 < 63 := by
    refine Nat.lt_of_not_le fun hle => ?_
    have : 2 ^ 63 ≤ 2 ^ n.toNat.log2 := Nat.pow_le_pow_right (by decide) hle
    omega
  exact h _ hk (by omega)

theorem log_is (n z : Int) (hn : I64 n) (hz : lg n = z) (w : World) (ht : Tab w) : Calls Tryd.prog 20 #[.int .i64 n] w fun e w' => e = .returned (.int .i64 z) ∧ w = w' := by
  obtain ⟨n0, n1⟩ := hn
  by_cases c : n < 1
  · have e0 : z = -1 := by rw [← hz]; unfold lg; rw [if_neg (by omega)]
    subst e0
    clear hz
    go_enter Tryd.func20, Tryd.ntmps20
    go_wp2
    go_ret
    exact ⟨rfl, rfl⟩
  · obtain ⟨m, rfl⟩ := Int.eq_ofNat_of_zero_le (by omega : 0 ≤ n)
    have e1 := bits_and_i64_nat m (m - 1) (by omega) (by omega)
    rw [show ((m - 1 : Nat) : Int) = (m : Int) - 1 by omega] at e1
    by_cases d : m &&& (m - 1) = 0
    · have e := and_pred (by omega) d
      have K := tz_any m (by omega) (by omega)
      have hk : m.log2 < 64 := by
        refine Nat.lt_of_not_le fun hle => ?_
        have : 2 ^ 64 ≤ 2 ^ m.log2 := Nat.pow_le_pow_right (by decide) hle
        omega
      have ec : Lib.ctz 64 m = m.log2 := by
        have := ctz_pow m.log2 hk
        rwa [← e] at this
      have ez : (m.log2 : Int) = z := by rw [← hz]; unfold lg; rw [if_pos ⟨by omega, by rw [Int.toNat_natCast]; exact d⟩, Int.toNat_natCast]
      rw [ec, ez] at K
      rw [d] at e1
      clear e ec ez hk hz d
      generalize (m : Int) = M at *
      have e2 : (bits BinOp.and IntKind.i64 M (M - 1) != 0) = false := by rw [e1]; rfl
      clear e1
      go_enter Tryd.func20, Tryd.ntmps20
      go_wp2_with (go_at_call 41; ((with_reducible refine (K _ ht).mono ?_); rintro e w' ⟨rfl, rfl⟩))
      go_ret
      exact ⟨rfl, rfl⟩
    · have e0 : z = -1 := by rw [← hz]; unfold lg; rw [if_neg (by rw [Int.toNat_natCast]; exact fun h => d h.2)]
      subst e0
      have e2 : (bits BinOp.and IntKind.i64 (m : Int) ((m : Int) - 1) != 0) = true := by rw [e1]; simp; omega
      clear hz d e1
      generalize (m : Int) = M at *
      go_enter Tryd.func20, Tryd.ntmps20
      go_wp2
      go_ret
      exact ⟨rfl, rfl⟩

/-- The root of any order; 0: there is none. -/
def ofv (k : Int) : F := if 0 ≤ k ∧ k ≤ 32 then rootOf k.toNat else 0
theorem ofv_in {k : Int} (h0 : 0 ≤ k) (h1 : k ≤ 32) : ofv k = rootOf k.toNat := if_pos ⟨h0, h1⟩
theorem ofv_out {k : Int} (h : ¬ (0 ≤ k ∧ k ≤ 32)) : ofv k = 0 := if_neg h

theorem of_is (k z : Int) (hz : enc (ofv k) = z) (w : World) : Calls Tryd.prog 46 #[.int .i64 k] w fun e w' => e = .returned (.int .u64 z) ∧ w = w' := by
  by_cases c : 0 ≤ k ∧ k ≤ 32
  · rw [ofv_in c.1 c.2] at hz
    obtain ⟨c0, c1⟩ := c
    have e1 : ((18446744069414584320 / 2 ^ k.toNat : Nat) : Int) = 18446744069414584320 / 2 ^ k.toNat := by rw [Int.natCast_ediv, Int.natCast_pow]; rfl
    have le := Nat.div_le_self 18446744069414584320 (2 ^ k.toNat)
    have eU : U (18446744069414584320 / 2 ^ k.toNat : Int) := by
      rw [← e1]
      generalize 18446744069414584320 / 2 ^ k.toNat = q at le
      unfold U; omega
    have K := pow_is 7 (18446744069414584320 / 2 ^ k.toNat) z (U_lit _ rfl rfl) eU (by rw [← e1, Int.toNat_natCast, ← hz]; rfl)
    clear hz le e1 eU
    go_enter Tryd.func46, Tryd.ntmps46
    go_wp2_with (go_at_call 79; ((with_reducible refine (K _).mono ?_); rintro e w' ⟨rfl, rfl⟩))
    go_ret
    exact ⟨rfl, rfl⟩
  · rw [ofv_out c] at hz
    have e0 : z = 0 := by rw [← hz]; rfl
    subst e0
    clear hz
    by_cases d : k < 0
    · clear c
      go_enter Tryd.func46, Tryd.ntmps46
      go_wp2
      go_ret
      exact ⟨rfl, rfl⟩
    · have d2 : 32 < k := by omega
      clear c
      go_enter Tryd.func46, Tryd.ntmps46
      go_wp2
      go_ret
      exact ⟨rfl, rfl⟩

theorem refof_is (k z : Int) (hz : enc (ofv k) = z) (w : World) : Calls Tryd.prog 69 #[.int .i64 k] w fun e w' => e = .returned (.int .u64 z) ∧ ∃ n, w' = w.drewN n := by
  by_cases c : 0 ≤ k ∧ k ≤ 32
  · rw [ofv_in c.1 c.2] at hz
    obtain ⟨c0, c1⟩ := c
    have e1 : ((18446744069414584320 / 2 ^ k.toNat : Nat) : Int) = 18446744069414584320 / 2 ^ k.toNat := by rw [Int.natCast_ediv, Int.natCast_pow]; rfl
    have le := Nat.div_le_self 18446744069414584320 (2 ^ k.toNat)
    have eU : U (18446744069414584320 / 2 ^ k.toNat : Int) := by
      rw [← e1]
      generalize 18446744069414584320 / 2 ^ k.toNat = q at le
      unfold U; omega
    have K := fun w => refpow_any 7 (18446744069414584320 / 2 ^ k.toNat) (U_lit _ rfl rfl) eU w
    rw [show enc (fpow (toF 7) (18446744069414584320 / 2 ^ k.toNat : Int).toNat) = z by rw [← e1, Int.toNat_natCast, ← hz]; rfl] at K
    clear hz le e1 eU
    go_enter Tryd.func69, Tryd.ntmps69
    go_wp2_with (go_at_call 68; ((with_reducible refine (K _).mono ?_); rintro e w' ⟨rfl, _, rfl⟩))
    go_ret
    exact ⟨rfl, _, rfl⟩
  · rw [ofv_out c] at hz
    have e0 : z = 0 := by rw [← hz]; rfl
    subst e0
    clear hz
    by_cases d : k < 0
    · clear c
      go_enter Tryd.func69, Tryd.ntmps69
      go_wp2
      go_ret
      exact ⟨rfl, 0, rfl⟩
    · have d2 : 32 < k := by omega
      clear c
      go_enter Tryd.func69, Tryd.ntmps69
      go_wp2
      go_ret
      exact ⟨rfl, 0, rfl⟩
end Go.Proofs.YthfkfgjhgicfeaaDoor
namespace Go.Proofs.YthfkfgjhgicfeaaDoor
open Go.RowKit
set_option linter.unusedVariables false

def NoPow (n : Int) (k : Nat) : Prop := ∀ j : Nat, j < k → n ≠ (2 ^ j : Nat)
theorem NoPow.zero (n : Int) : NoPow n 0 := fun j h => by omega
theorem NoPow.succ {n : Int} {k : Nat} (h : NoPow n k) (hn : ¬ n = (2 ^ k : Nat)) : NoPow n (k + 1) := fun j hj => by
  by_cases e : j = k
  · subst e; exact hn
  · exact h j (by omega)

theorem wrap64_pow (k : Nat) (h : k < 63) : wrap64 (2 ^ k) = ((2 ^ k : Nat) : Int) := by
  have : ∀ k, k < 63 → wrap64 (2 ^ k) = ((2 ^ k : Nat) : Int) := by decide +kernel
  exact this k h

theorem reflog_is (n z : Int) (hn : I64 n) (hz : lg n = z) (w : World) : Calls Tryd.prog 32 #[.int .i64 n] w fun e w' => e = .returned (.int .i64 z) ∧ w = w' := by
  have HZ := Lib.hid hz
  have HN := Lib.hid hn
  clear hz hn
  go_enter Tryd.func32, Tryd.ntmps32
  go_wp2
  go_loop [3] (fun i => ∃ k : Nat, k ≤ 63 ∧ i = .int .i64 k ∧ NoPow n k) (fun i => 63 - (intOf i).toNat)
  case atStart => exact ⟨0, by omega, rfl, NoPow.zero n⟩
  case round =>
    obtain ⟨k, hk, rfl, hp⟩ := hrel
    by_cases h : k < 63
    · have e := wrap64_pow k h
      by_cases hq : n = ((2 ^ k : Nat) : Int)
      · have ez : (k : Int) = z := by rw [← HZ.out, hq]; exact (lg_pow k).symm
        have EZ := Lib.hid ez
        have b : (n == ((2 ^ k : Nat) : Int)) = true := by simpa using hq
        clear hp hq ez
        generalize ((2 ^ k : Nat) : Int) = P at *
        go_wp2
        go_ret
        exact ⟨ret_int EZ.out, rfl⟩
      · have HP := Lib.hid (hp.succ hq)
        have b : (n == ((2 ^ k : Nat) : Int)) = false := by simpa using hq
        clear hp hq
        generalize ((2 ^ k : Nat) : Int) = P at *
        go_wp2
        go_round
        case rel => exact ⟨k + 1, by omega, by go_num, HP.out⟩
        case measure => simp [intOf]; omega
    · obtain rfl : k = 63 := by omega
      have ez : -1 = z := by rw [← HZ.out]; exact (lg_none HN.out.2 hp).symm
      have EZ := Lib.hid ez
      clear ez hp
      go_wp2
      go_ret
      exact ⟨ret_int EZ.out, rfl⟩

theorem bit_mod (n : Int) (j : Nat) (hj : j < 64) : n / 2 ^ j % 2 = (((n % 18446744073709551616).toNat / 2 ^ j % 2 : Nat) : Int) := by
  obtain ⟨N, hN⟩ : ∃ N : Nat, (N : Int) = n % 18446744073709551616 := ⟨(n % 18446744073709551616).toNat, by omega⟩
  rw [← hN, Int.toNat_natCast]
  have e : n = (N : Int) + 2 ^ j * (2 ^ (63 - j) * (2 * (n / 18446744073709551616))) := by
    have : (2 : Int) ^ j * (2 ^ (63 - j) * (2 * (n / 18446744073709551616))) = 18446744073709551616 * (n / 18446744073709551616) := by
      rw [← Int.mul_assoc, ← Int.pow_add, show j + (63 - j) = 63 by omega, ← Int.mul_assoc]; rfl
    rw [this]; omega
  have h2 : (2 : Int) ^ j ≠ 0 := Int.ne_of_gt (Int.pow_pos (by decide))
  rw [e, Int.add_mul_ediv_left _ _ h2, show (2 : Int) ^ (63 - j) * (2 * (n / 18446744073709551616)) = 2 * (2 ^ (63 - j) * (n / 18446744073709551616)) by rw [Int.mul_left_comm]]
  rw [Int.add_mul_emod_self_left]
  rw [Int.natCast_emod, Int.natCast_ediv, Int.natCast_pow]; rfl

/-- The lowest j bits, the other way round, step by step. -/
def tj (n : Int) (j : Nat) : Int := (rv j (n % 18446744073709551616).toNat : Int)
theorem tj_zero (n : Int) : tj n 0 = 0 := rfl
theorem tj_succ (n : Int) (j : Nat) (hj : j < 64) : tj n j * 2 + n / 2 ^ j % 2 = tj n (j + 1) := by
  rw [bit_mod n j hj]; unfold tj; rw [rv_succ]; omega
theorem tj_bd (n : Int) (j : Nat) (hj : j < 62) : 0 ≤ tj n j ∧ tj n j < 2305843009213693952 := by
  unfold tj
  have := rv_lt j (n % 18446744073709551616).toNat
  have h2 : 2 ^ j ≤ 2 ^ 61 := Nat.pow_le_pow_right (by decide) (by omega)
  omega
theorem tj_end (n k : Int) (j : Nat) (h : j = min k.toNat 62) : tj n j = tv n k := by subst h; rfl

end Go.Proofs.YthfkfgjhgicfeaaDoor
