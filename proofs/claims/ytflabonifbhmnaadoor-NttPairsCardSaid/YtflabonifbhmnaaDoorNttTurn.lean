/-
  What ntt.turn comes to: each number, and each pair, where the bits of its place, the other way round, tell.
-/
import Derived.Test.YtflabonifbhmnaaDoorBut
import Derived.Test.YtflabonifbhmnaaDoorButter
import Derived.Test.YtflabonifbhmnaaDoorRoots
import Derived.RegionTactic
namespace Go.Proofs.YtflabonifbhmnaaDoor
open Go.RowKit
set_option linter.unusedVariables false

theorem tv_rv (k i : Nat) (hk : k ≤ 20) (hi : i < 2 ^ k) : tv i k = (rv k i : Int) := by
  have h1 : 2 ^ k ≤ 2 ^ 20 := Nat.pow_le_pow_right (by decide) hk
  unfold tv
  rw [Int.toNat_natCast, show min k 62 = k by omega, Int.emod_eq_of_lt (by omega) (by omega), Int.toNat_natCast]
def TurnRel (w : World) (g k n : Nat) (z : Nat → Int) (i : Value) (W : World) : Prop :=
  ∃ m : Nat, m ≤ n ∧ i = .int .i64 m ∧ But g w W ∧ Arr W g n (fun j => .int .u64 (tu k z m j))

set_option maxHeartbeats 4000000 in
theorem turn_u (g cap k : Nat) (hk : k ≤ 20) (z : Nat → Int) (w : World) (hA : Arr w g (2 ^ k) (fun j => .int .u64 (z j))) :
    Calls Tryd.prog 65 #[.slice (some ⟨g, 0, none⟩) (2 ^ k) cap, .int .i64 k] w fun e w' => e = .returned (.tuple #[]) ∧ But g w w' ∧ Arr w' g (2 ^ k) (fun j => .int .u64 (z (rv k j))) := by
  have hN : 2 ^ k ≤ 2 ^ 20 := Nat.pow_le_pow_right (by decide) hk
  have hT := Lib.hid (tv_rv k · hk)
  have hS := Lib.hid (tu_start k z); have hE := Lib.hid (tu_end k z); have hL := Lib.hid (rv_lt k)
  have hst := Lib.hid (fun i p => tu_stay k z i p); have hsw := Lib.hid (fun i p => tu_swap k z i p); have hfr := Lib.hid (tu_fresh k z)
  have H0 := Lib.hid (hA.same (f' := fun j => .int .u64 (tu k z 0 j)) (fun j hj => by rw [hS.out j]))
  clear hA
  generalize hn : 2 ^ k = n at *
  clear hn
  go_enter Tryd.func65, Tryd.ntmps65
  go_wp2_with fail
  go_loopw [8] (TurnRel w g k n z) (fun i _ => n - (intOf i).toNat)
  case atStart => exact ⟨0, Nat.zero_le _, rfl, But.refl _ _, H0.out⟩
  case round =>
    obtain ⟨m, hm, rfl, hB, hA⟩ := hrel
    by_cases hlt : m < n
    · have K := turn_is m k (rv k m) (by unfold I64; omega) (by unfold I64; omega) (hT.out m hlt)
      have hl : rv k m < n := hL.out m
      by_cases h2 : m < rv k m
      · obtain ⟨e0, e1⟩ := hfr.out m hlt h2
        have hA2 := (hA.set m (.int .u64 (z (rv k m))) hlt).set (rv k m) (.int .u64 (z m)) hl
        obtain ⟨c0, f0⟩ := hA m hlt
        obtain ⟨c1, f1⟩ := hA (rv k m) hl
        dsimp only at c0 c1
        rw [e0] at c0
        rw [e1] at c1
        have HA2 := Lib.hid (hA2.same (f' := fun j => .int .u64 (tu k z (m + 1) j)) (fun j hj => by
          have := hsw.out m j hlt hj h2
          rw [this]
          by_cases a1 : j = rv k m
          · rw [if_pos a1, if_pos a1]
          · rw [if_neg a1, if_neg a1]
            by_cases a2 : j = m
            · rw [if_pos a2, if_pos a2]
            · rw [if_neg a2, if_neg a2]))
        have HB := Lib.hid hB
        clear hA hB e0 e1 hA2
        have h3 : (m : Int) < (rv k m : Int) := by omega
        generalize rv k m = r at *
        go_wp2_with (go_at_call 72; ((with_reducible refine (K _).mono ?_); rintro e w' ⟨rfl, rfl⟩))
        go_region
        all_goals
          go_wp2_with fail
          go_roundw
          case rel => exact ⟨m + 1, by omega, by go_num, ((HB.out.setCell (Or.inl rfl) _).setCell (Or.inl rfl) _).drew, HA2.out⟩
          case measure => simp [intOf]; omega
      · have HA2 := Lib.hid (hA.same (f' := fun j => .int .u64 (tu k z (m + 1) j)) (fun j hj => by
          rw [hst.out m j hlt hj (by omega)]))
        have HB := Lib.hid hB
        clear hA hB
        have h3 : ¬ (m : Int) < (rv k m : Int) := by omega
        generalize rv k m = r at *
        go_wp2_with (go_at_call 72; ((with_reducible refine (K _).mono ?_); rintro e w' ⟨rfl, rfl⟩))
        go_roundw
        case rel => exact ⟨m + 1, by omega, by go_num, HB.out, HA2.out⟩
        case measure => simp [intOf]; omega
    · have : m = n := by omega
      subst this
      have HA2 := Lib.hid (hA.same (f' := fun j => .int .u64 (z (rv k j))) (fun j hj => by
        rw [hE.out j hj]))
      have HB := Lib.hid hB
      clear hA hB
      go_wp2_with fail
      go_end0
      exact ⟨rfl, HB.out, HA2.out⟩
def TurnRelQ (w : World) (g k n : Nat) (z : Nat → Int × Int) (i : Value) (W : World) : Prop :=
  ∃ m : Nat, m ≤ n ∧ i = .int .i64 m ∧ But g w W ∧ Arr W g (n * 2) (pc (tu k z m))

set_option maxHeartbeats 4000000 in
theorem turn_q (g cap k : Nat) (hk : k ≤ 20) (z : Nat → Int × Int) (w : World) (hA : Arr w g (2 ^ k * 2) (pc z)) :
    Calls Tryd.prog 69 #[.slice (some ⟨g, 0, none⟩) (2 ^ k) cap, .int .i64 k] w fun e w' => e = .returned (.tuple #[]) ∧ But g w w' ∧ Arr w' g (2 ^ k * 2) (pc fun j => z (rv k j)) := by
  have hN : 2 ^ k ≤ 2 ^ 20 := Nat.pow_le_pow_right (by decide) hk
  have hT := Lib.hid (tv_rv k · hk)
  have hS := Lib.hid (tu_start k z); have hE := Lib.hid (tu_end k z); have hL := Lib.hid (rv_lt k)
  have hst := Lib.hid (fun i p => tu_stay k z i p); have hsw := Lib.hid (fun i p => tu_swap k z i p); have hfr := Lib.hid (tu_fresh k z)
  have H0 := Lib.hid (hA.same (pc_same (y := tu k z 0) (fun j hj => by rw [hS.out j])))
  clear hA
  generalize hn : 2 ^ k = n at *
  clear hn
  go_enter Tryd.func69, Tryd.ntmps69
  go_wp2_with fail
  go_loopw [8] (TurnRelQ w g k n z) (fun i _ => n - (intOf i).toNat)
  case atStart => exact ⟨0, Nat.zero_le _, rfl, But.refl _ _, H0.out⟩
  case round =>
    obtain ⟨m, hm, rfl, hB, hA⟩ := hrel
    by_cases hlt : m < n
    · have K := turn_is m k (rv k m) (by unfold I64; omega) (by unfold I64; omega) (hT.out m hlt)
      have hl : rv k m < n := hL.out m
      by_cases h2 : m < rv k m
      · obtain ⟨e0, e1⟩ := hfr.out m hlt h2
        have hA2 := (hA.setq m (z (rv k m)).1 (z (rv k m)).2 hlt).setq (rv k m) (z m).1 (z m).2 hl
        obtain ⟨c0, d0, f0, k0⟩ := hA.cells m hlt
        obtain ⟨c1, d1, f1, k1⟩ := hA.cells (rv k m) hl
        rw [e0] at c0 d0
        rw [e1] at c1 d1
        have HA2 := Lib.hid (hA2.same (pc_same (y := tu k z (m + 1)) (fun j hj => by
          have := hsw.out m j hlt hj h2
          rw [this])))
        have HB := Lib.hid hB
        clear hA hB e0 e1 hA2
        have h3 : (m : Int) < (rv k m : Int) := by omega
        generalize rv k m = r at *
        go_wp2_with (go_at_call 72; ((with_reducible refine (K _).mono ?_); rintro e w' ⟨rfl, rfl⟩))
        go_region
        all_goals
          go_wp2_with fail
          go_roundw
          case rel => exact ⟨m + 1, by omega, by go_num, ((((HB.out.setCell (Or.inl rfl) _).setCell (Or.inl rfl) _).setCell (Or.inl rfl) _).setCell (Or.inl rfl) _).drew, HA2.out⟩
          case measure => simp [intOf]; omega
      · have HA2 := Lib.hid (hA.same (pc_same (y := tu k z (m + 1)) (fun j hj => by
          rw [hst.out m j hlt hj (by omega)])))
        have HB := Lib.hid hB
        clear hA hB
        have h3 : ¬ (m : Int) < (rv k m : Int) := by omega
        generalize rv k m = r at *
        go_wp2_with (go_at_call 72; ((with_reducible refine (K _).mono ?_); rintro e w' ⟨rfl, rfl⟩))
        go_roundw
        case rel => exact ⟨m + 1, by omega, by go_num, HB.out, HA2.out⟩
        case measure => simp [intOf]; omega
    · have : m = n := by omega
      subst this
      have HA2 := Lib.hid (hA.same (pc_same (y := fun j => z (rv k j)) (fun j hj => by
        rw [hE.out j hj])))
      have HB := Lib.hid hB
      clear hA hB
      go_wp2_with fail
      go_end0
      exact ⟨rfl, HB.out, HA2.out⟩
end Go.Proofs.YtflabonifbhmnaaDoor
