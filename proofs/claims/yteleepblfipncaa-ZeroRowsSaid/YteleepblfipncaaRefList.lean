/-
  What the document's Sum and Prod of layer 1 come to: contracts for the walk.
-/
import Derived.Test.YteleepblfipncaaRef
namespace Go.Proofs.Yteleepblfipncaa
open Go.RowKit
set_option linter.unusedVariables false

set_option maxHeartbeats 1000000 in
theorem refprod_any (v : Value) (zs : List Int) (w : World) (hr : Row w v zs) (hu : ∀ n ∈ zs, U n) : Calls Try.prog 45 #[v] w fun e w' => e = .returned (.int .u64 (enc (fprod (zs.map toF)))) ∧ ∃ n, w' = w.drewN n := by
  rcases hr with ⟨rfl, rfl⟩ | ⟨ad, cap, rfl, rfl⟩ | ⟨b, off, cap, rfl, hc, hm, hcell⟩
  · clear hu
    go_enter Try.func45, Try.ntmps45
    go_wp2
    go_loop [4, 3] (fun i o => i = .int .i64 0 ∧ o = .int .u64 1) (fun _ _ => 0)
    case atStart => exact ⟨rfl, rfl⟩
    case round =>
      obtain ⟨rfl, rfl⟩ := hrel
      go_wp2
      go_ret
      exact ⟨rfl, 0, rfl⟩
  · clear hu
    go_enter Try.func45, Try.ntmps45
    go_wp2
    go_loop [4, 3] (fun i o => i = .int .i64 0 ∧ o = .int .u64 1) (fun _ _ => 0)
    case atStart => exact ⟨rfl, rfl⟩
    case round =>
      obtain ⟨rfl, rfl⟩ := hrel
      go_wp2
      go_ret
      exact ⟨rfl, 0, rfl⟩
  · unfold maxLen at hm
    have hu' := fun k => U_getD hu k
    have hs := fun k => heads_succ zs k
    have ha := fun k => heads_all zs k
    have h00 : fprod (heads zs 0) = 1 := by rw [heads_zero]; rfl
    have HS := Lib.hid hs; have HA := Lib.hid ha; have HC := Lib.hid hcell; have HU := Lib.hid hu'; have H0 := Lib.hid h00
    clear hs ha hcell hu hu' h00
    generalize hzl : zs.length = len at *
    have HZ := Lib.hid hzl; clear hzl
    go_enter Try.func45, Try.ntmps45
    go_wp2
    go_loopw [4, 3] (fun i o w' => ∃ k : Nat, k ≤ len ∧ i = .int .i64 k ∧ o = .int .u64 (enc (fprod (heads zs k))) ∧ ∃ m, w' = w.drewN m) (fun i _ _ => len - (intOf i).toNat)
    case atStart => exact ⟨0, Nat.zero_le _, rfl, by rw [H0.out]; rfl, 0, rfl⟩
    case round =>
      obtain ⟨k, hk, rfl, rfl, m, rfl⟩ := hrel
      by_cases hlt : k < len
      · have g := HC.out k hlt
        have gU := HU.out k hlt
        have m1 := fun w => refmul_any (enc (fprod (heads zs k))) (zs.getD k 0) (enc_U _) gU w
        have e2 := HS.out k hlt
        have E2 : Hid (fprod (heads zs (k + 1)) = fprod (heads zs k) * toF (zs.getD k 0)) := Lib.hid (by rw [e2, fprod_append]; simp only [fprod]; grind)
        clear e2
        simp only [toF_enc] at m1
        generalize zs.getD k 0 = z at *
        go_wp2_with (go_at_call 22; ((with_reducible refine (m1 _).mono ?_); rintro e w' ⟨rfl, _, rfl⟩))
        go_roundw
        case rel => exact ⟨k + 1, by omega, by go_num, by rw [E2.out], _, rfl⟩
        case measure => simp [intOf]; omega
      · go_wp2
        go_ret
        exact ⟨ret_int (by rw [HA.out k (by omega)]), _, rfl⟩
end Go.Proofs.Yteleepblfipncaa
