/-
  math/bits.Len64 and LeadingZeros64: how many bits a number takes; how many are 0 ahead of it.
-/
import Derived.Test.YthmpojefoiojeaaDoorWorkM
import Derived.Lib.Strings
import Derived.Lib.Slices
import Derived.Lib.Small
import Derived.Lib.Walk
namespace Go.Proofs.YthmpojefoiojeaaDoor
open Go Go.RowKit
set_option linter.unusedVariables false

set_option maxRecDepth 100000 in
theorem tab_all : ∀ i : Fin 256, (Lib.len8tab[i.val]'(by rw [Lib.len8tab_size]; exact i.isLt)).toNat = Lib.bitLen i.val := by decide +kernel
/-- The upper bits, k of them shifted out: what the table of eight bits tells, and k, are how many bits there are. -/
theorem len_part (x : Int) (k : Nat) (y : Int) (hh : y.toNat < Lib.len8tab.size) (h0 : 0 ≤ y) (h1 : y ≤ 255) (hy : y.toNat = x.toNat / 2 ^ k) (hk : k = 0 ∨ 2 ^ k ≤ x.toNat) (hx : x.toNat < 18446744073709551616) : wrap64 ((k : Int) + wrap64 ((Lib.len8tab[y.toNat]'hh).toNat : Int)) = (Lib.bitLen x.toNat : Int) := by
  have e : (Lib.len8tab[y.toNat]'hh).toNat = Lib.bitLen y.toNat := tab_all ⟨y.toNat, by omega⟩
  have hm := Lib.bitLen_le8' y h0 h1
  have hs : k + Lib.bitLen y.toNat = Lib.bitLen x.toNat := by
    rw [hy]
    rcases hk with rfl | hk
    · simp
    · exact (Lib.bitLen_shift k x.toNat hk hx).symm
  have hb := Lib.bitLen_le x.toNat 64 (Nat.le_refl _) (by simp only [Nat.reducePow]; omega)
  rw [e, IntWalk.wrap64_in (Lib.bitLen y.toNat : Int) (by omega), IntWalk.wrap64_in _ (by omega)]
  omega
theorem len_part0 (x : Int) (hh : x.toNat < Lib.len8tab.size) (h0 : 0 ≤ x) (h1 : x ≤ 255) : wrap64 (wrap64 ((Lib.len8tab[x.toNat]'hh).toNat : Int)) = (Lib.bitLen x.toNat : Int) := by
  have := len_part x 0 x hh h0 h1 (by simp) (Or.inl rfl) (by omega)
  simpa using this
set_option maxHeartbeats 4000000 in
set_option maxRecDepth 100000 in
theorem len64_is (x : Int) (hx : U x) (w : World) : Calls Tryd.prog 26 #[.int .u64 x] w fun e w' => e = .returned (.int .i64 (Lib.bitLen x.toNat)) ∧ w' = w := by
  obtain ⟨h0, h1⟩ := hx
  have hsz : (Lib.len8tab.size : Int) = 256 := by rw [Lib.len8tab_size]; rfl
  go_enter Tryd.func26, Tryd.ntmps26
  go_wp2
  all_goals (go_ret; refine ⟨congrArg Ending.returned (congrArg (Value.int IntKind.i64) ?_), rfl⟩)
  all_goals first
    | exact len_part0 x _ (by omega) (by omega)
    | exact len_part x 56 (x / 4294967296 / 65536 / 256) _ (by omega) (by omega) (by simp only [Nat.reducePow]; omega) (by simp only [Nat.reducePow]; omega) (by omega)
    | exact len_part x 48 (x / 4294967296 / 65536) _ (by omega) (by omega) (by simp only [Nat.reducePow]; omega) (by simp only [Nat.reducePow]; omega) (by omega)
    | exact len_part x 40 (x / 4294967296 / 256) _ (by omega) (by omega) (by simp only [Nat.reducePow]; omega) (by simp only [Nat.reducePow]; omega) (by omega)
    | exact len_part x 32 (x / 4294967296) _ (by omega) (by omega) (by simp only [Nat.reducePow]; omega) (by simp only [Nat.reducePow]; omega) (by omega)
    | exact len_part x 24 (x / 65536 / 256) _ (by omega) (by omega) (by simp only [Nat.reducePow]; omega) (by simp only [Nat.reducePow]; omega) (by omega)
    | exact len_part x 16 (x / 65536) _ (by omega) (by omega) (by simp only [Nat.reducePow]; omega) (by simp only [Nat.reducePow]; omega) (by omega)
    | exact len_part x 8 (x / 256) _ (by omega) (by omega) (by simp only [Nat.reducePow]; omega) (by simp only [Nat.reducePow]; omega) (by omega)
    | exact len_part x 0 (x) _ (by omega) (by omega) (by simp only [Nat.reducePow]; omega) (by simp only [Nat.reducePow]; omega) (by omega)
set_option maxHeartbeats 1000000 in
theorem lead_is (x : Int) (hx : U x) (w : World) : Calls Tryd.prog 19 #[.int .u64 x] w fun e w' => e = .returned (.int .i64 (lz x)) ∧ w' = w := by
  have hb := Lib.bitLen_le x.toNat 64 (Nat.le_refl _) (by have := hx.2; simp only [Nat.reducePow]; omega)
  have k1 := fun W => len64_is x hx W
  unfold lz
  generalize Lib.bitLen x.toNat = m at *
  have hw : wrap64 (64 - (m : Int)) = 64 - m := IntWalk.wrap64_in _ (by omega)
  clear hx
  go_enter Tryd.func19, Tryd.ntmps19
  go_wp2_with (go_at_call 26; (with_reducible refine (k1 _).mono ?_); rintro e w1 ⟨rfl, rfl⟩)
  go_ret
  exact ⟨rfl, rfl⟩
end Go.Proofs.YthmpojefoiojeaaDoor
