/-
  What slices.Clone of texts, and the program's Root, Climb and Path, come to.
-/
import Derived.Test.YtfnmlegikcogoaaDoorTreeM
import Derived.Test.YtfnmlegikcogoaaDoorGTree
import Derived.Test.YtfnmlegikcogoaaDoorLProg
import Derived.Deep.OwnRows
import Derived.Lib.SliceRun
namespace Go.Proofs.YtfnmlegikcogoaaDoor
open Go Go.RowKit
set_option linter.unusedVariables false

def GClimbRel (w : World) (s0 : ByteArray) (i0 : Nat) (g : Nat → ByteArray) (n : Nat) (s i k : Value) (W : World) : Prop :=
  ∃ j : Nat, j ≤ n ∧ k = .int .i64 j ∧ i = .int .i64 ((i0 / 2 ^ j : Nat) : Int) ∧ s = .string (climbB s0 i0 g j) ∧ Below w.heap.size w W
set_option maxHeartbeats 1000000 in
theorem gclimb_is (s : ByteArray) (i : Nat) (a : Option Addr) (n c : Nat) (g : Nat → ByteArray) (w : World) (h : StrA w a n g) (hn : n ≤ 70) (hg : ∀ k, k < n → (g k).size ≤ 100) (hs : s.size ≤ 100) (hi : i ≤ 9223372036854775807) (hT : TabB w) :
    Calls Tryd.prog 41 #[.string s, .int .i64 i, .slice a n c] w fun e w' => e = .returned (.string (climbB s i g n)) ∧ Below w.heap.size w w' := by
  have HG := Lib.hid hg; have HS := Lib.hid h
  have hsz := Lib.hid (climb_size s i g 100 hs (by omega))
  have HT := Lib.hid hT
  clear h hg hT
  go_enter Tryd.func41, Tryd.ntmps41
  go_upto_region 2 with fail
  go_loopw [0, 1, 11] (GClimbRel w s i g n) (fun _ _ k _ => n - (intOf k).toNat)
  case atStart => exact ⟨0, Nat.zero_le _, rfl, by simp, rfl, Below.refl _ _⟩
  case round =>
    obtain ⟨j, hj, rfl, rfl, rfl, hB⟩ := hrel
    by_cases hlt : j < n
    · obtain ⟨b, off, rfl, g0⟩ := HS.out.2 j hlt
      have g1 := bkeep hB g0
      clear g0
      have hlt' : (j : Int) < (n : Int) := by omega
      have h1 := HG.out j hlt
      have h2 := hsz.out j
      have hst := Lib.hid (show climbB s i g (j + 1) = if i / 2 ^ j % 2 = 0 then nodeB (climbB s i g j) (g j) else nodeB (g j) (climbB s i g j) from rfl)
      have hh := Lib.hid (half_pow i j)
      have hq : i / 2 ^ j ≤ 9223372036854775807 := Nat.le_trans (Nat.div_le_self _ _) hi
      have hT1 := HT.out.keep hB
      generalize climbB s i g j = x at *
      generalize g j = y at *
      generalize i / 2 ^ j = q at *
      have hd : (q : Int).tdiv 2 = ((q / 2 : Nat) : Int) := by rw [Int.tdiv_eq_ediv_of_nonneg (by omega)]; omega
      have hd2 : IntKind.i64.wrap ((q / 2 : Nat) : Int) = ((q / 2 : Nat) : Int) := IntWalk.i64_in _ (by omega)
      by_cases hp : q % 2 = 0
      · have hm : (q : Int).tmod 2 = 0 := by rw [Int.tmod_eq_emod_of_nonneg (by omega)]; omega
        have kn := glnode_is x y wr (by omega) hT1
        have hz := Lib.hid (hst.out.trans (if_pos hp))
        clear hst hT1
        generalize nodeB x y = z at *
        go_wp2_with (go_at_call 50; ((with_reducible refine kn.mono ?_); rintro e w1 ⟨rfl, hb⟩; replace hB := bthen hB hb; clear hb))
        go_roundw
        case rel => exact ⟨j + 1, by omega, by go_num, by rw [hh.out]; go_num, by rw [hz.out], hB⟩
        case measure => simp [intOf]; omega
      · have hm : (q : Int).tmod 2 = 1 := by rw [Int.tmod_eq_emod_of_nonneg (by omega)]; omega
        have kn := glnode_is y x wr (by omega) hT1
        have hz := Lib.hid (hst.out.trans (if_neg hp))
        clear hst hT1
        generalize nodeB y x = z at *
        go_wp2_with (go_at_call 50; ((with_reducible refine kn.mono ?_); rintro e w1 ⟨rfl, hb⟩; replace hB := bthen hB hb; clear hb))
        go_roundw
        case rel => exact ⟨j + 1, by omega, by go_num, by rw [hh.out]; go_num, by rw [hz.out], hB⟩
        case measure => simp [intOf]; omega
    · obtain rfl : j = n := by omega
      go_wp2
      go_ret
      exact ⟨rfl, hB⟩
/-- A path under way. -/
def pathV (p : Nat → ByteArray) (j m : Nat) : Value := .string (if m < j then p m else ⟨#[]⟩)
theorem pathV_step (p : Nat → ByteArray) (j m : Nat) : (if m = j then .string (p j) else pathV p j m) = pathV p (j + 1) m := by
  unfold pathV
  by_cases e : m = j
  · subst e; rw [if_pos rfl, if_pos (by omega)]
  · rw [if_neg e]
    by_cases h : m < j
    · rw [if_pos h, if_pos (by omega)]
    · rw [if_neg h, if_neg (by omega)]
def GPathRel (w : World) (g : Nat) (f : Nat → ByteArray) (i0 K : Nat) (i k : Value) (W : World) : Prop :=
  ∃ j : Nat, j ≤ K ∧ k = .int .i64 j ∧ i = .int .i64 ((i0 / 2 ^ j : Nat) : Int) ∧ Below w.heap.size w W ∧ Arr W g K (pathV (pathB f i0) j)
end Go.Proofs.YtfnmlegikcogoaaDoor
