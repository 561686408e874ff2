/-
  What root.Of, root.Log come to, and what the document's answers for them do: contracts for the walk.
-/
import Derived.Test.YtflabonifbhmnaaDoorRoots
import Derived.Test.YtflabonifbhmnaaDoorPairRefB
import Derived.Lib.LaidTab
namespace Go.Proofs.YtflabonifbhmnaaDoor
open Go.RowKit
set_option linter.unusedVariables false

/-- The library's table in its variable. -/
def Tab (W : World) : Prop := TabAt 2 Lib.deBruijn64tab W
theorem Tab.keep {W w1 : World} (h : Tab W) (hb : Below W.heap.size W w1) : Tab w1 := fun j hj => bkeep hb (h j hj)

theorem Tab.of {W : World} {zs : List Int} (hg : Tryd.prog.globalNamed "math/bits.deBruijn64tab" = some 2) (h : Lib.TabIs Tryd.prog W "math/bits.deBruijn64tab" .u8 zs) (hz : zs = Lib.deBruijn64tab.map Int.ofNat := by rfl) : Tab W := by
  subst hz
  intro j hj
  rw [h.cell hg j (by simpa using hj)]
  simp [List.getD, hj]

theorem tz_core (x k idx : Nat) (w : World) (hx0 : ((x : Int) == 0) = false)
    (key : IntKind.u64.wrap (bits BinOp.and IntKind.u64 (x : Int) (IntKind.u64.wrap (-(x : Int))) * 285870213051353865) / 288230376151711744 = (idx : Int))
    (hi : idx < 64) (hk : k < 64) (hcell : w.cell? ⟨2, idx, none⟩ = some (.int .u8 k)) :
    Calls Tryd.prog 67 #[.int .u64 x] w fun e w' => e = .returned (.int .i64 k) ∧ w = w' := by
  go_enter Tryd.func67, Tryd.ntmps67
  go_wp2_with (simp only [key])
  go_ret
  exact ⟨rfl, rfl⟩
theorem tz_any (x : Nat) (hx : x < 18446744073709551616) (hx0 : x ≠ 0) (w : World) (ht : Tab w) :
    Calls Tryd.prog 67 #[.int .u64 x] w fun e w' => e = .returned (.int .i64 (Lib.ctz 64 x)) ∧ w = w' := by
  obtain ⟨hlow, hk⟩ := Lib.lowest_bit 64 x hx0 hx
  obtain ⟨hi, htab⟩ := Lib.deBruijn64_at _ hk
  have hcell := ht _ hi
  rw [htab] at hcell
  exact tz_core x _ _ w (by simp; omega) (tz64_key x _ hx hx0 hlow) hi hk hcell

/-- Which power of two a number is; -1: none. -/
def lg (n : Int) : Int := if 1 ≤ n ∧ n.toNat &&& (n.toNat - 1) = 0 then (n.toNat.log2 : Int) else -1
theorem lg_pow (k : Nat) : lg (2 ^ k : Nat) = (k : Int) := by
  unfold lg
  have h0 : 0 < 2 ^ k := Nat.two_pow_pos k
  rw [if_pos ⟨by omega, by rw [Int.toNat_natCast]; exact two_pow_and k⟩, Int.toNat_natCast, Nat.log2_two_pow]
theorem lg_none {n : Int} (hn : n ≤ 9223372036854775807) (h : ∀ k : Nat, k < 63 → n ≠ (2 ^ k : Nat)) : lg n = -1 := by
  unfold lg
  refine if_neg fun ⟨h1, h2⟩ => ?_
  have e := and_pred (by omega) h2
  have hk : n.toNat.log2 < 63 := by
    refine Nat.lt_of_not_le fun hle => ?_
    have : 2 ^ 63 ≤ 2 ^ n.toNat.log2 := Nat.pow_le_pow_right (by decide) hle
    omega
  exact h _ hk (by omega)

theorem log_is (n z : Int) (hn : I64 n) (hz : lg n = z) (w : World) (ht : Tab w) : Calls Tryd.prog 47 #[.int .i64 n] w fun e w' => e = .returned (.int .i64 z) ∧ w = w' := by
  obtain ⟨n0, n1⟩ := hn
  by_cases c : n < 1
  · have e0 : z = -1 := by rw [← hz]; unfold lg; rw [if_neg (by omega)]
    subst e0
    clear hz
    go_enter Tryd.func47, Tryd.ntmps47
    go_wp2
    go_ret
    exact ⟨rfl, rfl⟩
  · obtain ⟨m, rfl⟩ := Int.eq_ofNat_of_zero_le (by omega : 0 ≤ n)
    have e1 := bits_and_i64_nat m (m - 1) (by omega) (by omega)
    rw [show ((m - 1 : Nat) : Int) = (m : Int) - 1 by omega] at e1
    by_cases d : m &&& (m - 1) = 0
    · have e := and_pred (by omega) d
      have K := tz_any m (by omega) (by omega)
      have hk : m.log2 < 64 := by
        refine Nat.lt_of_not_le fun hle => ?_
        have : 2 ^ 64 ≤ 2 ^ m.log2 := Nat.pow_le_pow_right (by decide) hle
        omega
      have ec : Lib.ctz 64 m = m.log2 := by
        have := ctz_pow m.log2 hk
        rwa [← e] at this
      have ez : (m.log2 : Int) = z := by rw [← hz]; unfold lg; rw [if_pos ⟨by omega, by rw [Int.toNat_natCast]; exact d⟩, Int.toNat_natCast]
      rw [ec, ez] at K
      rw [d] at e1
      clear e ec ez hk hz d
      generalize (m : Int) = M at *
      have e2 : (bits BinOp.and IntKind.i64 M (M - 1) != 0) = false := by rw [e1]; rfl
      clear e1
      go_enter Tryd.func47, Tryd.ntmps47
      go_wp2_with (go_at_call 67; ((with_reducible refine (K _ ht).mono ?_); rintro e w' ⟨rfl, rfl⟩))
      go_ret
      exact ⟨rfl, rfl⟩
    · have e0 : z = -1 := by rw [← hz]; unfold lg; rw [if_neg (by rw [Int.toNat_natCast]; exact fun h => d h.2)]
      subst e0
      have e2 : (bits BinOp.and IntKind.i64 (m : Int) ((m : Int) - 1) != 0) = true := by rw [e1]; simp; omega
      clear hz d e1
      generalize (m : Int) = M at *
      go_enter Tryd.func47, Tryd.ntmps47
      go_wp2
      go_ret
      exact ⟨rfl, rfl⟩

/-- The root of any order; 0: there is none. -/
def ofv (k : Int) : F := if 0 ≤ k ∧ k ≤ 32 then rootOf k.toNat else 0
theorem ofv_in {k : Int} (h0 : 0 ≤ k) (h1 : k ≤ 32) : ofv k = rootOf k.toNat := if_pos ⟨h0, h1⟩
theorem ofv_out {k : Int} (h : ¬ (0 ≤ k ∧ k ≤ 32)) : ofv k = 0 := if_neg h

theorem of_is (k z : Int) (hz : enc (ofv k) = z) (w : World) : Calls Tryd.prog 35 #[.int .i64 k] w fun e w' => e = .returned (.int .u64 z) ∧ w = w' := by
  by_cases c : 0 ≤ k ∧ k ≤ 32
  · rw [ofv_in c.1 c.2] at hz
    obtain ⟨c0, c1⟩ := c
    have e1 : ((18446744069414584320 / 2 ^ k.toNat : Nat) : Int) = 18446744069414584320 / 2 ^ k.toNat := by rw [Int.natCast_ediv, Int.natCast_pow]; rfl
    have le := Nat.div_le_self 18446744069414584320 (2 ^ k.toNat)
    have eU : U (18446744069414584320 / 2 ^ k.toNat : Int) := by
      rw [← e1]
      generalize 18446744069414584320 / 2 ^ k.toNat = q at le
      unfold U; omega
    have K := pow_is 7 (18446744069414584320 / 2 ^ k.toNat) z (U_lit _ rfl rfl) eU (by rw [← e1, Int.toNat_natCast, ← hz]; rfl)
    clear hz le e1 eU
    go_enter Tryd.func35, Tryd.ntmps35
    go_wp2_with (go_at_call 52; ((with_reducible refine (K _).mono ?_); rintro e w' ⟨rfl, rfl⟩))
    go_ret
    exact ⟨rfl, rfl⟩
  · rw [ofv_out c] at hz
    have e0 : z = 0 := by rw [← hz]; rfl
    subst e0
    clear hz
    by_cases d : k < 0
    · clear c
      go_enter Tryd.func35, Tryd.ntmps35
      go_wp2
      go_ret
      exact ⟨rfl, rfl⟩
    · have d2 : 32 < k := by omega
      clear c
      go_enter Tryd.func35, Tryd.ntmps35
      go_wp2
      go_ret
      exact ⟨rfl, rfl⟩

theorem refof_is (k z : Int) (hz : enc (ofv k) = z) (w : World) : Calls Tryd.prog 29 #[.int .i64 k] w fun e w' => e = .returned (.int .u64 z) ∧ ∃ n, w' = w.drewN n := by
  by_cases c : 0 ≤ k ∧ k ≤ 32
  · rw [ofv_in c.1 c.2] at hz
    obtain ⟨c0, c1⟩ := c
    have e1 : ((18446744069414584320 / 2 ^ k.toNat : Nat) : Int) = 18446744069414584320 / 2 ^ k.toNat := by rw [Int.natCast_ediv, Int.natCast_pow]; rfl
    have le := Nat.div_le_self 18446744069414584320 (2 ^ k.toNat)
    have eU : U (18446744069414584320 / 2 ^ k.toNat : Int) := by
      rw [← e1]
      generalize 18446744069414584320 / 2 ^ k.toNat = q at le
      unfold U; omega
    have K := fun w => refpow_any 7 (18446744069414584320 / 2 ^ k.toNat) (U_lit _ rfl rfl) eU w
    rw [show enc (fpow (toF 7) (18446744069414584320 / 2 ^ k.toNat : Int).toNat) = z by rw [← e1, Int.toNat_natCast, ← hz]; rfl] at K
    clear hz le e1 eU
    go_enter Tryd.func29, Tryd.ntmps29
    go_wp2_with (go_at_call 30; ((with_reducible refine (K _).mono ?_); rintro e w' ⟨rfl, _, rfl⟩))
    go_ret
    exact ⟨rfl, _, rfl⟩
  · rw [ofv_out c] at hz
    have e0 : z = 0 := by rw [← hz]; rfl
    subst e0
    clear hz
    by_cases d : k < 0
    · clear c
      go_enter Tryd.func29, Tryd.ntmps29
      go_wp2
      go_ret
      exact ⟨rfl, 0, rfl⟩
    · have d2 : 32 < k := by omega
      clear c
      go_enter Tryd.func29, Tryd.ntmps29
      go_wp2
      go_ret
      exact ⟨rfl, 0, rfl⟩
end Go.Proofs.YtflabonifbhmnaaDoor
