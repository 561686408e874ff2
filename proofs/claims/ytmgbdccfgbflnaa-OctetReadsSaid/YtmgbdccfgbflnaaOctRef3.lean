/-
  What the document's Row and Pairs come to.
-/
import Derived.Test.YtmgbdccfgbflnaaOctRef2
namespace Go.Proofs.Ytmgbdccfgbflnaa
open Go Go.RowKit
set_option linter.unusedVariables false

def rowT (zs : List Int) (k : Nat) : ByteArray := cat (fun j => eightB (zs.getD j 0)) k
theorem rowT_size (zs : List Int) (k : Nat) : (rowT zs k).size = 8 * k := by unfold rowT; rw [cat_size, lens_eight]
theorem rowT_next (zs : List Int) (k : Nat) : rowT zs k ++ eightB (zs.getD k 0) = rowT zs (k + 1) := rfl
def RowUp (w : World) (zs : List Int) (s i : Value) (W : World) : Prop := ∃ k : Nat, k ≤ zs.length ∧ s = .string (rowT zs k) ∧ i = .int .i64 k ∧ Below w.heap.size w W
set_option maxHeartbeats 1000000 in
theorem rrow_is (a : Option Addr) (len cap : Nat) (zs : List Int) (w : World) (hr : RowA w a len zs) (hu : ∀ n ∈ zs, U n) (hl : len ≤ 100000) :
    Calls Try.prog 11 #[.slice a len cap] w fun e w' => e = .returned (.string (rowB zs)) ∧ Below w.heap.size w w' := by
  obtain ⟨rfl, hlm, hcell⟩ := hr
  unfold maxLen at hlm
  have HL := Lib.hid hl
  have HC := Lib.hid hcell; have HU := Lib.hid (U_getD hu)
  clear hcell hu
  go_enter Try.func11, Try.ntmps11
  go_upto_region 3 with fail
  go_loopw [3, 4] (RowUp w zs) (fun _ i _ => zs.length - (intOf i).toNat)
  case atStart => exact ⟨0, Nat.zero_le _, rfl, rfl, Below.refl _ _⟩
  case round =>
    obtain ⟨k, hk, rfl, rfl, hB⟩ := hrel
    by_cases hlt : k < zs.length
    · obtain ⟨b, off, rfl, g0⟩ := HC.out k hlt
      have g := bkeep hB g0
      clear g0
      have hlt' : (k : Int) < (zs.length : Int) := by omega
      have hk1 := rowT_next zs k
      have hs := rowT_size zs k
      have hs2 := eightB_size (zs.getD k 0)
      have ke := fun W => reight_is (zs.getD k 0) (HU.out k hlt) W
      generalize zs.getD k 0 = z at *
      generalize rowT zs k = s at *
      obtain ⟨s', hs'⟩ : ∃ s', rowT zs (k + 1) = s' := ⟨_, rfl⟩
      rw [hs'] at hk1
      have HS' := Lib.hid hs'
      clear hs'
      generalize eightB z = q at *
      go_wp2_with (go_at_call 9; ((with_reducible refine (ke _).mono ?_); rintro e w1 ⟨rfl, hb⟩; replace hB := bthen hB hb; clear hb))
      go_roundw
      case rel => exact ⟨k + 1, by omega, by rw [HS'.out], by go_num, hB⟩
      case measure => simp [intOf]; omega
    · obtain rfl : k = zs.length := by omega
      go_wp2
      go_ret
      exact ⟨rfl, hB⟩
end Go.Proofs.Ytmgbdccfgbflnaa
