/-
  The walk of NttHalf: it answers true, where the program's calls do what is asked of them.
-/
import Derived.Test.YtflabonifbhmnaaDoorNAwake
import Derived.Deep.QuietTactic
import Derived.BigQuiet
namespace Go.Proofs.YtflabonifbhmnaaDoor
open Go.RowKit Go.Sort Go.BigFrame
set_option linter.unusedVariables false

theorem half_at (zs : List Int) (s : F) (k i : Nat) (hk : k < 32) (h : i < 2 ^ k) : (forthL zs s (k + 1)).getD (2 * i) 0 = (forthL zs s k).getD i 0 := by
  rw [forthL_at zs s (k + 1) (2 * i) (by rw [Nat.pow_succ]; omega), forthL_at zs s k i h, pt_half s k i hk]

set_option maxHeartbeats 8000000 in
theorem nhalf_body (hF : AskForth) (hBk : AskBack) (hP : AskPoints) (a : Option Addr) (len cap : Nat) (zs : List Int) (zi k : Int) (hz : U zi) (hk : 0 ≤ k ∧ k ≤ 255) (w : World) (ht : Tab w) (hr : Row w (.slice a len cap) zs) (hu : ∀ n ∈ zs, U n) :
    Calls Tryd.prog 8 #[.slice a len cap, .int .u64 zi, .int .u8 k] w fun e w' => e = .returned (.bool true) ∧ Below w.heap.size w w' := by
  have hlm := hr.at.2.1
  have hzl := hr.at.1
  unfold maxLen at hlm
  have aw := fun W t => nawake_any hF hBk hP W t
  have hB := Below.refl w.heap.size w
  obtain ⟨k0, k1⟩ := hk
  obtain ⟨m, hm⟩ : ∃ m : Nat, k % 6 = m := ⟨(k % 6).toNat, by omega⟩
  have hm6 : m < 6 := by omega
  have e1 := wrap64_pow m (by omega)
  by_cases hc : len ≤ 2 ^ m
  · have f1 := fun W h t => hF.yes a len cap zs zi m W hz (by omega) h hu (by omega) t
    have f2 := fun W h t => hF.yes a len cap zs zi (m + 1) W hz (by omega) h hu (by rw [Nat.pow_succ]; omega) t
    rw [show (((m + 1 : Nat) : Int)) = (m : Int) + 1 by omega] at f2
    have HH := Lib.hid (half_at zs (toF zi) m)
    have HL := Lib.hid (forthL_len zs (toF zi) m)
    have HL2 := Lib.hid (forthL_len zs (toF zi) (m + 1))
    unfold NewOk at f1 f2
    generalize forthL zs (toF zi) m = xs at *
    generalize forthL zs (toF zi) (m + 1) = ys at *
    have e3 : 2 ^ (m + 1) = 2 * 2 ^ m := by rw [Nat.pow_succ]; omega
    have hP6 : 2 ^ m ≤ 2 ^ 5 := Nat.pow_le_pow_right (by decide) (by omega)
    rw [e3] at f2
    obtain ⟨n, hn⟩ : ∃ n, 2 ^ m = n := ⟨_, rfl⟩
    have HN := Lib.hid hn
    rw [hn] at f1 f2 e1 hc hP6
    have hc' : (len : Int) ≤ (n : Int) := by omega
    clear hn e3 hu hF hBk hP hz hzl
    go_enter Tryd.func8, Tryd.ntmps8
    go_upto_region 5 with ((go_at_call 10; ((with_reducible refine (f1 _ hr ht).mono ?_); rintro e w1 ⟨a1, c1, rfl, hb, h1⟩; replace hr := hr.below hb; replace ht := ht.keep hb; replace hB := bthen hB hb; clear hb)))
    go_upto_region 6 with ((go_at_call 10; ((with_reducible refine (f2 _ hr ht).mono ?_); rintro e w2 ⟨a2, c2, rfl, hb, h2⟩; replace ht := ht.keep hb; replace h1 := h1.below hb; replace hB := bthen hB hb; clear hb)))
    clear hr f1 f2
    have hn2 : ((2 * n : Nat) : Int) = 2 * (n : Int) := by omega
    go_upto_region 9 with fail
    have H1 := Lib.hid h1.at; have H2 := Lib.hid h2.at
    clear h1 h2
    go_loopw [12] (fun i W' => ∃ j : Nat, j ≤ n ∧ i = .int .i64 j ∧ Below w2.heap.size w2 W') (fun i _ => n - (intOf i).toNat)
    case atStart => exact ⟨0, Nat.zero_le _, rfl, Below.refl _ _⟩
    case round =>
      obtain ⟨j, hj, rfl, hW⟩ := hrel
      by_cases hlt : j < n
      · obtain ⟨b, off, rfl, g0⟩ := (H1.out.keep hW).2.2 j hlt
        obtain ⟨b2, off2, rfl, g1⟩ := (H2.out.keep hW).2.2 (2 * j) (by omega)
        have e2 := HH.out j (by omega) (by rw [HN.out]; exact hlt)
        rw [e2] at g1
        clear e2
        have HW := Lib.hid hW
        clear hW
        generalize xs.getD j 0 = z at *
        have hj0 : (0 : Int) ≤ (j : Int) := by omega
        have hlt' : (j : Int) < (n : Int) := by omega
        have hl2 : 2 * (j : Int) < 2 * (n : Int) := by omega
        have q1 : IntKind.i64.wrap (2 * (j : Int)) = 2 * (j : Int) := by rw [IntKind.wrap_i64]; omega
        have q2 : (2 * (j : Int)).toNat = 2 * j := by omega
        have q3 : 0 ≤ 2 * (j : Int) := by omega
        go_upto_region 11 with fail
        go_quiet (fail)
        clear q1 q2
        go_wp2
        go_roundw
        case rel => exact ⟨j + 1, by omega, by go_num, below_drewN HW.out _⟩
        case measure => simp [intOf]; omega
      · replace ht := ht.keep hW
        replace hB := bthen hB hW
        go_wp2_with (go_at_call 9; ((with_reducible refine (aw _ ht).mono ?_); rintro e w3 ⟨rfl, hb⟩; replace hB := bthen hB hb))
        go_ret
        exact ⟨rfl, hB⟩
  · have P0 := Nat.two_pow_pos m
    generalize 2 ^ m = n at *
    have c2 : (n : Int) < (len : Int) := by omega
    clear hr hu hF hBk hP hc
    go_enter Tryd.func8, Tryd.ntmps8
    go_wp2_with (go_at_call 9; ((with_reducible refine (aw _ ht).mono ?_); rintro e w1 ⟨rfl, hb⟩))
    go_ret
    exact ⟨rfl, hb⟩
end Go.Proofs.YtflabonifbhmnaaDoor
