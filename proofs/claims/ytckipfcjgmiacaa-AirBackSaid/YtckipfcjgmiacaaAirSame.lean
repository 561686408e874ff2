/-
  What the document's Same of layer 18 comes to, of the same ones.
-/
import Derived.Test.YtckipfcjgmiacaaAirRef
import Derived.BigQuiet
namespace Go.Proofs.Ytckipfcjgmiacaa
open Go Go.RowKit
set_option linter.unusedVariables false

def SameRel18 (w0 : World) (n : Nat) (i : Value) (W : World) : Prop := ∃ k : Nat, k ≤ n ∧ i = .int .i64 k ∧ Below w0.heap.size w0 W
set_option maxRecDepth 100000 in
set_option maxHeartbeats 8000000 in
theorem rasame_is (A : AirP) (p p' : AirAt) (w : World) (hf : FewAir A) (hA : AirA w A p) (hA2 : AirA w A p') : Calls Try.prog 23 #[A.val p, A.val p'] w fun e w' => e = .returned (.bool true) ∧ Below w.heap.size w w' := by
  obtain ⟨f1, f2, f3⟩ := hf
  have HA := Lib.hid hA; have HA2 := Lib.hid hA2
  clear hA hA2
  go_enter Try.func23, Try.ntmps23
  go_upto_region 1 with fail
  obtain ⟨g, hg⟩ : ∃ g, w.heap.size = g := ⟨_, rfl⟩
  refine wp_gen (fun W => Below w.heap.size w W ∧ AirC W g A p ∧ AirC W (g + 1) A p') ⟨((Below.refl _ _).alloc (Nat.le_refl _) _).alloc (by simp) _, by rw [← hg]; simp [AirC, go_sem], by rw [← hg]; simp [AirC, go_sem]⟩ ?_
  rintro w0 ⟨hB0, hC, hC2⟩
  simp only [hg]
  have HB0 := Lib.hid hB0; have HC := Lib.hid hC; have HC2 := Lib.hid hC2
  obtain ⟨x0, x1, x2, x3, x4⟩ := hC
  obtain ⟨y0, y1, y2, y3, y4⟩ := hC2
  clear hB0 hg
  go_upto_region 4 with fail
  have hBs := Below.refl w0.heap.size w0
  clear x0 x1 x2 x3 x4 y0 y1 y2 y3 y4
  go_loopw [5] (SameRel18 w0 A.steps.length) (fun i _ => A.steps.length - (intOf i).toNat)
  case atStart => exact ⟨0, Nat.zero_le _, rfl, hBs⟩
  case round =>
    clear hBs
    obtain ⟨k, hk2, rfl, hB⟩ := hrel
    obtain ⟨x0, x1, x2, x3, x4⟩ := HC.out.keep hB
    obtain ⟨y0, y1, y2, y3, y4⟩ := HC2.out.keep hB
    by_cases hlt : k < A.steps.length
    · have hltI : (k : Int) < (A.steps.length : Int) := by omega
      have hk0 : (0 : Int) ≤ (k : Int) := by omega
      obtain ⟨b1, o1, e1, s1⟩ := ((HA.out.keep (bthen HB0.out hB)).1).2 k hlt
      obtain ⟨b2, o2, e2, s2⟩ := ((HA2.out.keep (bthen HB0.out hB)).1).2 k hlt
      rw [e1] at x2; rw [e2] at y2
      clear e1 e2
      generalize tx A.steps k = T at *
      have HB := Lib.hid hB
      clear hB
      go_upto_region 6 with fail
      go_quiet (fail)
      go_wp2_with fail
      go_roundw
      case rel => exact ⟨k + 1, by omega, by go_num, below_drewN HB.out _⟩
      case measure => simp [intOf]; omega
    · obtain rfl : k = A.steps.length := by omega
      have hBs := hB
      go_upto_region 9 with fail
      clear hB x0 x1 x2 x3 x4 y0 y1 y2 y3 y4
      go_loopw [6] (SameRel18 w0 A.rules.length) (fun i _ => A.rules.length - (intOf i).toNat)
      case atStart => exact ⟨0, Nat.zero_le _, rfl, hBs⟩
      case round =>
        clear hBs
        obtain ⟨k, hk2, rfl, hB⟩ := hrel
        obtain ⟨x0, x1, x2, x3, x4⟩ := HC.out.keep hB
        obtain ⟨y0, y1, y2, y3, y4⟩ := HC2.out.keep hB
        by_cases hlt : k < A.rules.length
        · have hltI : (k : Int) < (A.rules.length : Int) := by omega
          have hk0 : (0 : Int) ≤ (k : Int) := by omega
          obtain ⟨b1, o1, e1, s1⟩ := ((HA.out.keep (bthen HB0.out hB)).2.1).2 k hlt
          obtain ⟨b2, o2, e2, s2⟩ := ((HA2.out.keep (bthen HB0.out hB)).2.1).2 k hlt
          rw [e1] at x3; rw [e2] at y3
          clear e1 e2
          generalize tx A.rules k = T at *
          have HB := Lib.hid hB
          clear hB
          go_upto_region 11 with fail
          go_quiet (fail)
          go_wp2_with fail
          go_roundw
          case rel => exact ⟨k + 1, by omega, by go_num, below_drewN HB.out _⟩
          case measure => simp [intOf]; omega
        · obtain rfl : k = A.rules.length := by omega
          have hBs := hB
          go_upto_region 14 with fail
          clear hB x0 x1 x2 x3 x4 y0 y1 y2 y3 y4
          go_loopw [7] (SameRel18 w0 A.bounds.length) (fun i _ => A.bounds.length - (intOf i).toNat)
          case atStart => exact ⟨0, Nat.zero_le _, rfl, hBs⟩
          case round =>
            clear hBs
            obtain ⟨k, hk2, rfl, hB⟩ := hrel
            obtain ⟨x0, x1, x2, x3, x4⟩ := HC.out.keep hB
            obtain ⟨y0, y1, y2, y3, y4⟩ := HC2.out.keep hB
            by_cases hlt : k < A.bounds.length
            · have hltI : (k : Int) < (A.bounds.length : Int) := by omega
              have hk0 : (0 : Int) ≤ (k : Int) := by omega
              obtain ⟨b1, o1, e1, s1, s1'⟩ := (HA.out.keep (bthen HB0.out hB)).2.2.1.2.2 k hlt
              obtain ⟨b2, o2, e2, s2, s2'⟩ := (HA2.out.keep (bthen HB0.out hB)).2.2.1.2.2 k hlt
              rw [e1] at x4; rw [e2] at y4
              clear e1 e2
              generalize A.bounds.getD k (0, 0) = T at *
              obtain ⟨t1, t2⟩ := T
              dsimp only at s1 s1' s2 s2'
              have HB := Lib.hid hB
              clear hB
              go_upto_region 16 with fail
              go_quiet (fail)
              go_wp2_with fail
              go_roundw
              case rel => exact ⟨k + 1, by omega, by go_num, below_drewN HB.out _⟩
              case measure => simp [intOf]; omega
            · obtain rfl : k = A.bounds.length := by omega
              have HBE := Lib.hid (bthen HB0.out hB)
              clear hB
              go_wp2_with fail
              go_ret
              exact ⟨rfl, HBE.out⟩
end Go.Proofs.Ytckipfcjgmiacaa
