/-
  What the document's Eight, Number, Row come to: contracts for the walk.
-/
import Derived.Test.YtmgbdccfgbflnaaOctM
import Derived.Test.YtmgbdccfgbflnaaOwn
import Derived.IntWalk
namespace Go.Proofs.Ytmgbdccfgbflnaa
open Go Go.RowKit
set_option linter.unusedVariables false

theorem info8 : (Try.prog.info? 5).map (fun i => (i.zero, i.size, i.bytes)) = some (some (.int .u8 0), 1, 1) := by kernel_rfl
def octF (n : Int) (i j : Nat) : Value := .int .u8 (if j < i then oct n j else 0)
def EightHead (w : World) (n : Int) (g : Nat) (s : Value) (W : World) : Prop := ∃ i : Nat, i ≤ 8 ∧ s = .int .i64 i ∧ Below w.heap.size w W ∧ Arr W g 8 (octF n i)
theorem octF_set (n : Int) (i : Nat) : ∀ j, (if j = i then Value.int .u8 (oct n i) else octF n i j) = octF n (i + 1) j := by
  intro j
  unfold octF
  by_cases h : j = i
  · subst h; rw [if_pos rfl, if_pos (by omega)]
  · rw [if_neg h]
    by_cases h2 : j < i
    · rw [if_pos h2, if_pos (by omega)]
    · rw [if_neg h2, if_neg (by omega)]
set_option maxHeartbeats 1000000 in
theorem reight_is (n : Int) (hn : U n) (w : World) : Calls Try.prog 9 #[.int .u64 n] w fun e w' => e = .returned (.string (eightB n)) ∧ Below w.heap.size w w' := by
  have hmk := fun W => run_make_row' (P := Try.prog) 44 5 (.int .u8 0) 1 Try.underlying44 info8 rfl .i64 .i64 8 (by omega) (by omega) W
  simp only [show ((8 : Nat) : Int) = 8 from rfl] at hmk
  go_enter Try.func9, Try.ntmps9
  go_upto_region 2 with fail
  refine wp_gen (fun W => Below w.heap.size w W ∧ Arr W w.heap.size 8 (octF n 0)) ⟨(Below.refl _ _).alloc (Nat.le_refl _) _, (Arr.new w #[.int .u8 0] 8 _).same (fun j _ => by simp [octF, Nat.mod_one])⟩ ?_
  clear hmk
  rintro W ⟨hB, hA⟩
  go_upto_region 3 with fail
  go_loopw [4] (EightHead w n w.heap.size) (fun i _ => 8 - (intOf i).toNat)
  case atStart => exact ⟨0, by omega, rfl, hB, hA⟩
  case round =>
    clear hB hA
    obtain ⟨i, hi, rfl, hB, hA⟩ := hrel
    by_cases hlt : i < 8
    · have hi8 : (i : Int) < 8 := by omega
      have hw1 : IntKind.i64.wrap (8 * (i : Int)) = ((8 * i : Nat) : Int) := by rw [IntWalk.i64_in _ (by omega)]; omega
      have hw2 : IntKind.u64.wrap ((8 * i : Nat) : Int) = ((8 * i : Nat) : Int) := by rw [IntKind.wrap_u64]; omega
      have hp : (2 : Int) ^ (8 * i) = 256 ^ i := by rw [Int.pow_mul]; rfl
      have HB := Lib.hid hB; have HA := Lib.hid hA
      obtain ⟨c, fz⟩ := hA i hlt
      clear hB hA
      go_upto_region 4 with fail
      refine wp_gen (fun W => Below w.heap.size w W ∧ Arr W w.heap.size 8 (octF n (i + 1))) ⟨HB.out.setCell (Nat.le_refl _) _, (HA.out.set i _ hlt).same (fun j _ => octF_set n i j)⟩ ?_
      clear HB HA c fz
      rintro W2 ⟨hB, hA⟩
      go_wp2
      go_roundw
      case rel => exact ⟨i + 1, by omega, by go_num, hB, hA⟩
      case measure => simp [intOf]; omega
    · obtain rfl : i = 8 := by omega
      have hcv := run_convert_bytes_arg (P := Try.prog) wr 44 5 rfl rfl w.heap.size 0 8 8 ((List.range 8).map (oct n)) (by simp) (fun j hj => by rw [Nat.zero_add, (hA j hj).1]; unfold octF; rw [if_pos hj]; simp [List.getD, hj]) 9 rfl
      have hcv' : strOfNums ((List.range 8).map (oct n)) = eightB n := rfl
      rw [hcv'] at hcv
      clear hcv' hA
      go_wp2
      go_ret
      exact ⟨rfl, hB⟩
end Go.Proofs.Ytmgbdccfgbflnaa
