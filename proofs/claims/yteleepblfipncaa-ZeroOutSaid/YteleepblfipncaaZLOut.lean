/-
  The walk of ZeroOut: it answers true. (Written by gen_zlaws.py.)
-/
import Derived.Test.YteleepblfipncaaZAwake
import Derived.Test.YteleepblfipncaaZRef
import Derived.Test.YteleepblfipncaaZLaw
namespace Go.Proofs.Yteleepblfipncaa
open Go.RowKit Go.Sort Go.BigFrame
set_option linter.unusedVariables false

set_option maxHeartbeats 2000000 in
theorem zout_walk (a b k m : Int) (ha : U a) (hb : U b) (hk : I64 k) (hm : I64 m) (w : World) : Calls Try.prog 4 #[.agg #[.int .u64 a, .int .u64 b], .int .i64 k, .int .i64 m] w fun e w' => e = .returned (.bool true) ∧ Below w.heap.size w w' := by
  by_cases h1 : k < 0
  · clear hk hm
    go_enter Try.func4, Try.ntmps4
    go_upto_region 1 with fail
    refine wp_gen (fun W => Below w.heap.size w W ∧ Var W w.heap.size a b) ⟨(Below.refl _ _).alloc (Nat.le_refl _) _, by simp [Var, go_sem]⟩ ?_
    rintro W ⟨hB, hV⟩
    go_wp2_with (go_at_call 9; ((with_reducible refine (zawake_any _).mono ?_); rintro e w1 ⟨rfl, hb⟩; replace hB := bthen hB hb; clear hb))
    go_ret
    exact ⟨rfl, hB⟩
  by_cases h2 : 30 < k
  · clear hk hm
    go_enter Try.func4, Try.ntmps4
    go_upto_region 1 with fail
    refine wp_gen (fun W => Below w.heap.size w W ∧ Var W w.heap.size a b) ⟨(Below.refl _ _).alloc (Nat.le_refl _) _, by simp [Var, go_sem]⟩ ?_
    rintro W ⟨hB, hV⟩
    go_wp2_with (go_at_call 9; ((with_reducible refine (zawake_any _).mono ?_); rintro e w1 ⟨rfl, hb⟩; replace hB := bthen hB hb; clear hb))
    go_ret
    exact ⟨rfl, hB⟩
  by_cases h3 : m < 0
  · clear hk hm
    go_enter Try.func4, Try.ntmps4
    go_upto_region 1 with fail
    refine wp_gen (fun W => Below w.heap.size w W ∧ Var W w.heap.size a b) ⟨(Below.refl _ _).alloc (Nat.le_refl _) _, by simp [Var, go_sem]⟩ ?_
    rintro W ⟨hB, hV⟩
    go_wp2_with (go_at_call 9; ((with_reducible refine (zawake_any _).mono ?_); rintro e w1 ⟨rfl, hb⟩; replace hB := bthen hB hb; clear hb))
    go_ret
    exact ⟨rfl, hB⟩
  by_cases h4 : 30 < m
  · clear hk hm
    go_enter Try.func4, Try.ntmps4
    go_upto_region 1 with fail
    refine wp_gen (fun W => Below w.heap.size w W ∧ Var W w.heap.size a b) ⟨(Below.refl _ _).alloc (Nat.le_refl _) _, by simp [Var, go_sem]⟩ ?_
    rintro W ⟨hB, hV⟩
    go_wp2_with (go_at_call 9; ((with_reducible refine (zawake_any _).mono ?_); rintro e w1 ⟨rfl, hb⟩; replace hB := bthen hB hb; clear hb))
    go_ret
    exact ⟨rfl, hB⟩
  obtain ⟨K, rfl⟩ : ∃ K : Nat, k = (K : Int) := ⟨k.toNat, by omega⟩
  obtain ⟨M, rfl⟩ : ∃ M : Nat, m = (M : Int) := ⟨m.toNat, by omega⟩
  have hx := rep_raw ha hb
  have c2 := zout_is K M a b _ _ (by omega) (by omega) hx rfl
  have c3 := rzout_is K M a b _ _ (by omega) (by omega) hx rfl
  generalize outv _ K M = r at *
  clear hx ha hb hk hm
  have n1 : (K : Int) ≤ 30 := by omega
  have n2 : (M : Int) ≤ 30 := by omega
  go_enter Try.func4, Try.ntmps4
  go_upto_region 1 with fail
  refine wp_gen (fun W => Below w.heap.size w W ∧ Var W w.heap.size a b) ⟨(Below.refl _ _).alloc (Nat.le_refl _) _, by simp [Var, go_sem]⟩ ?_
  rintro W ⟨hB, hV⟩
  go_upto_region 3 with fail
  obtain ⟨c0, c1, _, _⟩ := hV
  replace c0 := fun q : Regrown => cell_regrown c0 q.d q.os
  replace c1 := fun q : Regrown => cell_regrown c1 q.d q.os
  refine wp_region_quiet_below (by kernel_rfl) (by kernel_rfl) ?_
  repeat (first | go_big_quiet_step (first
    | (go_at_call 9; (with_reducible exact Calls.regrown_of (zawake_any _)))
    | (go_at_call 18; (with_reducible exact Calls.regrown_of (c2 _)))
    | (go_at_call 19; (with_reducible exact Calls.regrown_of (c3 _)))) | quiet_step (fail))
  refine wpQuiet_nil ?_
  rintro _ ⟨pq, rfl⟩
  go_wp2
  go_ret
  exact ⟨by simp, bthen hB (below_regrown _ _ _)⟩
end Go.Proofs.Yteleepblfipncaa
