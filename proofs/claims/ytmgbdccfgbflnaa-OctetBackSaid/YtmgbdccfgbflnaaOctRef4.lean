/-
  What the document's Pairs comes to.
-/
import Derived.Test.YtmgbdccfgbflnaaOctRef3
import Derived.Test.YtmgbdccfgbflnaaLoose
import Derived.Lib.QuietBelow
import Derived.BigQuiet
namespace Go.Proofs.Ytmgbdccfgbflnaa
open Go Go.RowKit Go.Sort Go.BigFrame
set_option linter.unusedVariables false

def pairT (zs : List (Int × Int)) : Nat → ByteArray
  | 0 => ⟨#[]⟩
  | k + 1 => (pairT zs k ++ eightB (zs.getD k (0, 0)).1) ++ eightB (zs.getD k (0, 0)).2
def pairB (zs : List (Int × Int)) : ByteArray := pairT zs zs.length
theorem pairT_size (zs : List (Int × Int)) : ∀ k, (pairT zs k).size = 16 * k
  | 0 => rfl
  | k + 1 => by rw [pairT, ByteArray.size_append, ByteArray.size_append, pairT_size zs k, eightB_size, eightB_size]; omega
def flatN : List (Int × Int) → List Int
  | [] => []
  | z :: l => z.1 :: z.2 :: flatN l
theorem flatN_len : ∀ zs, (flatN zs).length = 2 * zs.length
  | [] => rfl
  | z :: l => by simp [flatN, flatN_len l]; omega
theorem flatN_even : ∀ (zs : List (Int × Int)) (k : Nat), (flatN zs).getD (2 * k) 0 = (zs.getD k (0, 0)).1
  | [], k => by simp [flatN]
  | z :: l, 0 => rfl
  | z :: l, k + 1 => by
    have := flatN_even l k
    rw [show 2 * (k + 1) = 2 * k + 1 + 1 by omega, flatN, List.getD_cons_succ, List.getD_cons_succ, List.getD_cons_succ, this]
theorem flatN_odd : ∀ (zs : List (Int × Int)) (k : Nat), (flatN zs).getD (2 * k + 1) 0 = (zs.getD k (0, 0)).2
  | [], k => by simp [flatN]
  | z :: l, 0 => rfl
  | z :: l, k + 1 => by
    have := flatN_odd l k
    rw [show 2 * (k + 1) + 1 = 2 * k + 1 + 1 + 1 by omega, flatN, List.getD_cons_succ, List.getD_cons_succ, List.getD_cons_succ, this]
theorem pairT_row (zs : List (Int × Int)) : ∀ k, pairT zs k = rowT (flatN zs) (2 * k)
  | 0 => rfl
  | k + 1 => by
    rw [pairT, pairT_row zs k, show 2 * (k + 1) = 2 * k + 1 + 1 by omega, ← rowT_next, ← rowT_next, flatN_even, flatN_odd]
theorem pairB_row (zs : List (Int × Int)) : pairB zs = rowB (flatN zs) := by
  unfold pairB rowB
  rw [pairT_row, flatN_len]
  rfl
def PairUp (w : World) (zs : List (Int × Int)) (s i : Value) (W : World) : Prop := ∃ k : Nat, k ≤ zs.length ∧ s = .string (pairT zs k) ∧ i = .int .i64 k ∧ Below w.heap.size w W
set_option maxHeartbeats 1000000 in
theorem rpairs_is (a : Option Addr) (len cap : Nat) (zs : List (Int × Int)) (w : World) (hr : QRowA w a len zs) (hu : ∀ n ∈ zs, U n.1 ∧ U n.2) (hl : len ≤ 100000) :
    Calls Try.prog 13 #[.slice a len cap] w fun e w' => e = .returned (.string (pairB zs)) ∧ Below w.heap.size w w' := by
  obtain ⟨rfl, hlm, hcell⟩ := hr
  unfold maxLen at hlm
  have HL := Lib.hid hl
  have HU : Hid (∀ k, k < zs.length → U (zs.getD k (0, 0)).1 ∧ U (zs.getD k (0, 0)).2) := Lib.hid fun k hk => by
    simp only [List.getD, List.getElem?_eq_getElem hk]
    exact hu _ (List.getElem_mem hk)
  have HC := Lib.hid hcell
  clear hcell hu
  go_enter Try.func13, Try.ntmps13
  go_upto_region 3 with fail
  go_loopw [3, 4] (PairUp w zs) (fun _ i _ => zs.length - (intOf i).toNat)
  case atStart => exact ⟨0, Nat.zero_le _, rfl, rfl, Below.refl _ _⟩
  case round =>
    obtain ⟨k, hk, rfl, rfl, hB⟩ := hrel
    by_cases hlt : k < zs.length
    · obtain ⟨b, off, rfl, g0, g1⟩ := HC.out k hlt
      have c0 := bkeep hB g0; have c1 := bkeep hB g1
      clear g0 g1
      have hlt' : (k : Int) < (zs.length : Int) := by omega
      have hs := pairT_size zs k
      have hs2 := eightB_size (zs.getD k (0, 0)).1
      have hs3 := eightB_size (zs.getD k (0, 0)).2
      have k1 := fun W => reight_is (zs.getD k (0, 0)).1 (HU.out k hlt).1 W
      have k2 := fun W => reight_is (zs.getD k (0, 0)).2 (HU.out k hlt).2 W
      obtain ⟨s', hs'⟩ : ∃ s', pairT zs (k + 1) = s' := ⟨_, rfl⟩
      have hk1 : pairT zs k ++ eightB (zs.getD k (0, 0)).1 ++ eightB (zs.getD k (0, 0)).2 = s' := hs'
      have HS' := Lib.hid hs'
      clear hs'
      generalize zs.getD k (0, 0) = z at *
      obtain ⟨z1, z2⟩ := z
      simp only at *
      generalize pairT zs k = s at *
      generalize eightB z1 = q1 at *
      generalize eightB z2 = q2 at *
      go_upto_region 5 with fail
      replace c0 := fun q : Regrown => cell_regrown c0 q.d q.os
      replace c1 := fun q : Regrown => cell_regrown c1 q.d q.os
      refine wp_region_quiet_below (by kernel_rfl) (by kernel_rfl) ?_
      repeat (first | go_big_quiet_step (first
        | (go_at_call 9; (first | with_reducible exact Calls.regrown_of (k1 _) | with_reducible exact Calls.regrown_of (k2 _)))) | quiet_step (fail))
      refine wpQuiet_nil ?_
      rintro _ ⟨pq, rfl⟩
      replace hB := bthen hB (below_regrown wr pq.d pq.os)
      go_wp2
      go_roundw
      case rel => exact ⟨k + 1, by omega, by rw [HS'.out], by go_num, hB⟩
      case measure => simp [intOf]; omega
    · obtain rfl : k = zs.length := by omega
      go_wp2
      go_ret
      exact ⟨rfl, hB⟩
end Go.Proofs.Ytmgbdccfgbflnaa
