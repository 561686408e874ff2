/-
  The walk of ZeroGap: it answers true. (Written by gen_zlaws.py.)
-/
import Derived.Test.YteleepblfipncaaZAwake
import Derived.Test.YteleepblfipncaaZRef
import Derived.Test.YteleepblfipncaaZLaw
namespace Go.Proofs.Yteleepblfipncaa
open Go.RowKit Go.Sort Go.BigFrame
set_option linter.unusedVariables false

set_option maxHeartbeats 2000000 in
theorem zgap_walk (a b k : Int) (ha : U a) (hb : U b) (hk : 0 ≤ k ∧ k ≤ 255) (w : World) : Calls Try.prog 7 #[.agg #[.int .u64 a, .int .u64 b], .int .u8 k] w fun e w' => e = .returned (.bool true) ∧ Below w.heap.size w w' := by
  obtain ⟨n, hn, hlt⟩ := mod_nat k 10 hk.1 (by decide)
  have hq : Int.tmod k 10 = (n : Int) := by rw [Int.tmod_eq_emod_of_nonneg hk.1]; exact hn
  have hn32 : n ≤ 32 := by omega
  have hx := rep_raw ha hb
  obtain ⟨x, hxx⟩ : ∃ x : F2, ⟨toF a, toF b⟩ = x := ⟨_, rfl⟩
  rw [hxx] at hx
  obtain ⟨M, hM⟩ : ∃ M, ((2 ^ n : Nat) : Int) = M := ⟨_, rfl⟩
  have hp := Nat.pow_le_pow_right (n := 2) (by decide) (by omega : n ≤ 9)
  have hp0 := Nat.two_pow_pos n
  have m0 : 1 ≤ M := by omega
  have m1 : M ≤ 512 := by omega
  have e1 := wrapu_pow hn32
  have e2 := wrapi_pow' hn32
  rw [hM] at e1 e2
  have rl := rowv_last n M hn32 hM
  have hMU : U M := by rw [← hM]; exact pow2_U hn32
  have hMn : M.toNat = 2 ^ n := by rw [← hM, Int.toNat_natCast]
  clear ha hb hxx hk hp hp0 hM
  by_cases hd : x - lift (last n) = 0
  · have hxl : x = lift (last n) := qsub_zero.1 hd
    have g1 := zgap_no n a b x hn32 hx hd
    have k1 := radd_q a b 0 0 x 0 x hx rep_zero (F2.add_zero x)
    have k2 := fun W => is_below (zrow_is n (M - 1) (enc (last n)) ⟨by omega, by omega⟩ (by rw [rl]) W)
    have k3 := rlift_q (enc (last n)) x (enc_U _) (by rw [toF_enc]; exact hxl.symm)
    generalize enc x.a = xa at *
    generalize enc x.b = xb at *
    generalize enc (last n) = l at *
    clear hxl hd hx hn32 hMU hMn rl
    go_enter Try.func7, Try.ntmps7
    go_upto_region 1 with fail
    refine wp_gen (fun W => Below w.heap.size w W ∧ Var W w.heap.size a b) ⟨(Below.refl _ _).alloc (Nat.le_refl _) _, by simp [Var, go_sem]⟩ ?_
    rintro W ⟨hB, hV⟩
    have HX := Lib.hid hV
    obtain ⟨c0, c1, _, _⟩ := hV
    go_upto_region 3 with (go_at_call 10; ((with_reducible refine (g1 _).mono ?_); rintro e w1 ⟨rfl, hb⟩))
    refine wp_gen (fun W => Below w.heap.size w W ∧ Var W w.heap.size a b) ⟨(bthen hB hb).alloc (bthen hB hb).size _, (HX.out.keep hb).alloc _⟩ ?_
    clear hb hB HX c0 c1 g1
    rintro W2 ⟨hB, ⟨c0, c1, _, _⟩⟩
    go_wp2_with ((first
      | (go_at_call 9; (with_reducible refine (zawake_any _).mono ?_))
      | (go_at_call 23; (with_reducible refine (k1 _).mono ?_))
      | (go_at_call 12; (with_reducible refine (k2 _).mono ?_))
      | (go_at_call 20; (with_reducible refine (k3 _).mono ?_))); rintro e w1 ⟨rfl, hb⟩; replace c0 := bkeep hb c0; replace c1 := bkeep hb c1; replace hB := bthen hB hb; clear hb)
    go_ret
    exact ⟨rfl, hB⟩
  · obtain ⟨z, hz⟩ : ∃ z, gapv x n = z := ⟨_, rfl⟩
    obtain ⟨d, hdd⟩ : ∃ d, x - lift (last n) = d := ⟨_, rfl⟩
    obtain ⟨y, hy⟩ : ∃ y, qpow x (2 ^ n) = y := ⟨_, rfl⟩
    obtain ⟨t, ht⟩ : ∃ t, y - 1 = t := ⟨_, rfl⟩
    have g1 := zgap_yes n a b x z hn32 hx hd hz
    have hm := gap_mul x n hd
    rw [hz, hdd, hy, ht] at hm
    have k1 := zspot_is n (M - 1) a b x d ⟨by omega, by omega⟩ hx (by rw [rl]; exact hdd)
    have k2 := rmul_q (enc z.a) (enc z.b) (enc d.a) (enc d.b) z d t (rep_enc z) (rep_enc d) hm
    have k3 := rpow_q a b M x hx hMU
    rw [hMn, hy] at k3
    have k4 := rsub_q (enc y.a) (enc y.b) 1 0 y 1 t (rep_enc y) rep_one ht
    generalize enc z.a = za at *
    generalize enc z.b = zb at *
    generalize enc d.a = da at *
    generalize enc d.b = db at *
    generalize enc y.a = ya at *
    generalize enc y.b = yb at *
    generalize enc t.a = ta at *
    generalize enc t.b = tb at *
    clear hd hx hn32 hMU hMn rl hz hdd hy ht hm
    go_enter Try.func7, Try.ntmps7
    go_upto_region 1 with fail
    refine wp_gen (fun W => Below w.heap.size w W ∧ Var W w.heap.size a b) ⟨(Below.refl _ _).alloc (Nat.le_refl _) _, by simp [Var, go_sem]⟩ ?_
    rintro W ⟨hB, hV⟩
    have HX := Lib.hid hV
    obtain ⟨c0, c1, _, _⟩ := hV
    go_upto_region 3 with (go_at_call 10; ((with_reducible refine (g1 _).mono ?_); rintro e w1 ⟨rfl, hb⟩))
    refine wp_gen (fun W => Below w.heap.size w W ∧ Var W w.heap.size a b ∧ Var W w1.heap.size za zb) ⟨(bthen hB hb).alloc (bthen hB hb).size _, (HX.out.keep hb).alloc _, Var.new _ _ _ _⟩ ?_
    generalize w1.heap.size = g7 at *
    clear hb hB HX c0 c1 g1
    rintro W2 ⟨hB, ⟨c0, c1, _, _⟩, ⟨p0, p1, _, _⟩⟩
    go_upto_region 5 with fail
    replace c0 := fun q : Regrown => cell_regrown c0 q.d q.os
    replace c1 := fun q : Regrown => cell_regrown c1 q.d q.os
    replace p0 := fun q : Regrown => cell_regrown p0 q.d q.os
    replace p1 := fun q : Regrown => cell_regrown p1 q.d q.os
    refine wp_region_quiet_below (by kernel_rfl) (by kernel_rfl) ?_
    repeat (first | go_big_quiet_step (first
      | (go_at_call 9; (with_reducible exact Calls.regrown_of (zawake_any _)))
      | (go_at_call 16; (with_reducible exact Calls.regrown_of (k1 _)))
      | (go_at_call 24; (with_reducible exact Calls.regrown_of (k2 _)))
      | (go_at_call 26; (with_reducible exact Calls.regrown_of (k3 _)))
      | (go_at_call 25; (with_reducible exact Calls.regrown_of (k4 _)))) | quiet_step (fail))
    refine wpQuiet_nil ?_
    rintro _ ⟨pq, rfl⟩
    go_wp2
    go_ret
    exact ⟨by simp, bthen hB (below_regrown _ _ _)⟩
end Go.Proofs.Yteleepblfipncaa
