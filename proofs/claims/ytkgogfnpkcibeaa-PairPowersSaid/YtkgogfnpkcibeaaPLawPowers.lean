/-
  The walk of PairPowers: it answers true.
-/
import Derived.Test.YtkgogfnpkcibeaaPAwake
import Derived.Test.YtkgogfnpkcibeaaPairRefSum
import Derived.Lib.QuietBelow
import Derived.BigQuiet
import Derived.Test.YtkgogfnpkcibeaaOpenPairs
namespace Go.Proofs.Ytkgogfnpkcibeaa
open Go.RowKit Go.Sort Go.BigFrame
set_option linter.unusedVariables false

set_option maxRecDepth 100000 in
set_option maxHeartbeats 4000000 in
theorem ppowers_walk (a b n : Int) (v : Option Addr) (len cap : Nat) (zs : List (Int × Int)) (ha : U a) (hb : U b) (hn : U n) (w : World) (hp : IsPairs w v len cap zs) :
    Calls Try.prog 4 #[.agg #[.int .u64 a, .int .u64 b], .int .u64 n, .slice v len cap] w fun e w' => e = .returned (.bool true) ∧ Below w.heap.size w w' := by
  obtain ⟨hr, hzl, hu⟩ := hp.row
  have hcap : len ≤ maxLen := by
    rcases hp with ⟨_, h, _⟩ | ⟨_, _, h1, h2, _⟩
    · omega
    · omega
  unfold maxLen at hcap
  have rx := rep_raw ha hb
  obtain ⟨x, hx⟩ : ∃ x : F2, ⟨toF a, toF b⟩ = x := ⟨_, rfl⟩
  rw [hx] at rx
  have k1 := ppow_q a b n x rx hn
  have r1 := rpow_q a b n x rx hn
  have k2 := fun W (hW : Below w.heap.size w W) => psum_q (.slice v len cap) zs W (hr.keep hW) hu
  have r2 := fun W (hW : Below w.heap.size w W) => rsum_q (.slice v len cap) zs W (hr.keep hW) hu
  obtain ⟨z1, e1⟩ : ∃ v, qpow x n.toNat = v := ⟨_, rfl⟩
  obtain ⟨z2, e2⟩ : ∃ v, qsum (zs.map toQ) = v := ⟨_, rfl⟩
  rw [e1] at k1 r1
  rw [e2] at k2 r2
  have hi : ∃ (p q : Int) (r : Bool), (∀ W, Calls Try.prog 28 #[.agg #[.int .u64 a, .int .u64 b]] W fun e w' => e = .returned (.tuple #[.agg #[.int .u64 p, .int .u64 q], .bool r]) ∧ Below W.heap.size W w') ∧
      (∀ W, Calls Try.prog 29 #[.agg #[.int .u64 a, .int .u64 b]] W fun e w' => e = .returned (.tuple #[.agg #[.int .u64 p, .int .u64 q], .bool r]) ∧ Below W.heap.size W w') := by
    by_cases h0 : x = 0
    · exact ⟨0, 0, false, pinv_no a b x rx h0, rinv_no a b x rx h0⟩
    · exact ⟨_, _, true, pinv_yes a b x _ rx h0 rfl, rinv_yes a b x _ rx h0 rfl⟩
  obtain ⟨p, q, r, k3, r3⟩ := hi
  clear e1 e2 hx rx ha hb hn hr hzl hu hp
  by_cases h100 : len ≤ 100
  · have hl : (len : Int) ≤ 100 := by omega
    clear h100
    go_enter Try.func4, Try.ntmps4
    go_upto_region 3 with fail
    refine wp_gen (fun W => Below w.heap.size w W ∧ Var W w.heap.size a b) ⟨(Below.refl _ _).alloc (Nat.le_refl _) _, by simp [Var, go_sem]⟩ ?_
    rintro W ⟨hB, ⟨c0, c1, f0, f1⟩⟩
    clear f0 f1
    go_upto_region 4 with ((go_at_call 28; ((with_reducible refine (k3 _).mono ?_); rintro e w1 ⟨rfl, hb⟩; replace c0 := bkeep hb c0; replace c1 := bkeep hb c1; replace hB := bthen hB hb; clear hb)))
    refine wp_gen (fun W => Below w.heap.size w W ∧ W.cell? ⟨w.heap.size, 0, none⟩ = some (.int .u64 a) ∧ W.cell? ⟨w.heap.size, 1, none⟩ = some (.int .u64 b) ∧ W.cell? ⟨w1.heap.size, 0, none⟩ = some (.int .u64 p) ∧ W.cell? ⟨w1.heap.size, 1, none⟩ = some (.int .u64 q)) ⟨hB.alloc hB.size _, akeep c0 _, akeep c1 _, (Var.new _ _ _ _).1, (Var.new _ _ _ _).2.1⟩ ?_
    generalize w1.heap.size = g7 at *
    clear hB c0 c1
    rintro W2 ⟨hB, c0, c1, d0, d1⟩
    go_upto_region 5 with ((go_at_call 29; ((with_reducible refine (r3 _).mono ?_); rintro e w2 ⟨rfl, hb⟩; replace c0 := bkeep hb c0; replace c1 := bkeep hb c1; replace d0 := bkeep hb d0; replace d1 := bkeep hb d1; replace hB := bthen hB hb; clear hb)))
    refine wp_gen (fun W => Below w.heap.size w W ∧ W.cell? ⟨w.heap.size, 0, none⟩ = some (.int .u64 a) ∧ W.cell? ⟨w.heap.size, 1, none⟩ = some (.int .u64 b) ∧ W.cell? ⟨g7, 0, none⟩ = some (.int .u64 p) ∧ W.cell? ⟨g7, 1, none⟩ = some (.int .u64 q) ∧ W.cell? ⟨w2.heap.size, 0, none⟩ = some (.int .u64 p) ∧ W.cell? ⟨w2.heap.size, 1, none⟩ = some (.int .u64 q)) ⟨hB.alloc hB.size _, akeep c0 _, akeep c1 _, akeep d0 _, akeep d1 _, (Var.new _ _ _ _).1, (Var.new _ _ _ _).2.1⟩ ?_
    generalize w2.heap.size = g9 at *
    clear hB c0 c1 d0 d1
    rintro W3 ⟨hB, c0, c1, d0, d1, e0, e1⟩
    replace k2 := fun p : Regrown => k2 _ (bthen hB (below_regrown W3 p.d p.os))
    replace r2 := fun p : Regrown => r2 _ (bthen hB (below_regrown W3 p.d p.os))
    replace c0 := fun q : Regrown => cell_regrown c0 q.d q.os
    replace c1 := fun q : Regrown => cell_regrown c1 q.d q.os
    replace d0 := fun q : Regrown => cell_regrown d0 q.d q.os
    replace d1 := fun q : Regrown => cell_regrown d1 q.d q.os
    replace e0 := fun q : Regrown => cell_regrown e0 q.d q.os
    replace e1 := fun q : Regrown => cell_regrown e1 q.d q.os
    refine wp_region_quiet_below (by kernel_rfl) (by kernel_rfl) ?_
    repeat (first | go_big_quiet_step (first
      | (go_at_call 9; (with_reducible exact Calls.regrown_of (pawake_any _)))
      | (go_at_call 30; (with_reducible exact Calls.regrown_of (k1 _)))
      | (go_at_call 31; (with_reducible exact Calls.regrown_of (r1 _)))
      | (go_at_call 32; (with_reducible exact Calls.regrown_of (k2 _)))
      | (go_at_call 33; (with_reducible exact Calls.regrown_of (r2 _)))) | quiet_step (fail))
    refine wpQuiet_nil ?_
    rintro _ ⟨pq, rfl⟩
    go_wp2
    go_ret
    exact ⟨rfl, bthen hB (below_regrown _ _ _)⟩
  · have hl : 100 < (len : Int) := by omega
    go_enter Try.func4, Try.ntmps4
    go_wp2_with (go_at_call 9; ((with_reducible refine (pawake_any _).mono ?_); rintro e w1 ⟨rfl, hb⟩))
    go_ret
    exact ⟨rfl, bthen ((Below.refl _ _).alloc (Nat.le_refl _) _) hb⟩
end Go.Proofs.Ytkgogfnpkcibeaa
