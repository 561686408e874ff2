/-
  The walk of ZeroRows: it answers true. (Written by gen_zlaws.py.)
-/
import Derived.Test.YteleepblfipncaaZAwake
import Derived.Test.YteleepblfipncaaZRef
import Derived.Test.YteleepblfipncaaZLaw
namespace Go.Proofs.Yteleepblfipncaa
open Go.RowKit Go.Sort Go.BigFrame
set_option linter.unusedVariables false


set_option maxHeartbeats 2000000 in
theorem zrows_a (k i j : Int) (n : Nat) (A B M : Int) (xa xb ya yb r0 p0' sa sb : Int) (hq : Int.tmod k 8 = (n : Int)) (hn : (n : Int) < 8) (e2 : wrap64 (2 ^ n) = M) (m0 : 1 ≤ M) (m1 : M ≤ 128) (hi0 : 0 ≤ i) (hi1 : i ≤ 65535) (hj0 : 0 ≤ j) (hj1 : j ≤ 65535)
    (qa : Int.tmod i M = A) (qb : Int.tmod j M = B) (ha : A < M) (hb' : B < M) (ha0 : 0 ≤ A) (hb0 : 0 ≤ B) (hl : A = M - 1) (hs : B = A) (z0 : sa = 0) (z1 : sb = 0)
    (c1 : ∀ W, Calls Try.prog 12 #[.int .i64 n, .int .i64 A] W fun e w' => e = .returned (.int .u64 r0) ∧ Below W.heap.size W w')
    (c2 : ∀ W, Calls Try.prog 20 #[.int .u64 r0] W fun e w' => e = .returned (.agg #[.int .u64 xa, .int .u64 xb]) ∧ Below W.heap.size W w')
    (c3 : ∀ W, Calls Try.prog 10 #[.agg #[.int .u64 xa, .int .u64 xb], .int .i64 n] W fun e w' => e = .returned (.tuple #[.agg #[.int .u64 0, .int .u64 0], .bool false]) ∧ Below W.heap.size W w')
    (c4 : ∀ W, Calls Try.prog 18 #[.agg #[.int .u64 xa, .int .u64 xb], .int .i64 n, .int .i64 (n + 1)] W fun e w' => e = .returned (.bool false) ∧ Below W.heap.size W w')
    (c5 : ∀ W, Calls Try.prog 14 #[.int .i64 n, .int .i64 A] W fun e w' => e = .returned (.int .u64 p0') ∧ Below W.heap.size W w')
    (c6 : ∀ W, Calls Try.prog 20 #[.int .u64 p0'] W fun e w' => e = .returned (.agg #[.int .u64 ya, .int .u64 yb]) ∧ Below W.heap.size W w')
    (c7 : ∀ W, Calls Try.prog 18 #[.agg #[.int .u64 ya, .int .u64 yb], .int .i64 0, .int .i64 n] W fun e w' => e = .returned (.bool false) ∧ Below W.heap.size W w')
    (c8 : ∀ W, Calls Try.prog 16 #[.agg #[.int .u64 xa, .int .u64 xb], .int .i64 n, .int .i64 B] W fun e w' => e = .returned (.agg #[.int .u64 sa, .int .u64 sb]) ∧ Below W.heap.size W w') (w : World) :
    Calls Try.prog 5 #[.int .u8 k, .int .u16 i, .int .u16 j] w fun e w' => e = .returned (.bool true) ∧ Below w.heap.size w w' := by
  subst hs z0 z1 hl
  go_enter Try.func5, Try.ntmps5
  go_upto_region 3 with fail
  simp only [e2]
  refine wp_region_quiet_below (by kernel_rfl) (by kernel_rfl) ?_
  repeat (first | go_big_quiet_step (fail) | quiet_step (fail))
  refine wpQuiet_nil ?_
  rintro _ ⟨pq, rfl⟩
  have HB := Lib.hid (below_regrown w pq.d pq.os)
  go_upto_region 5 with ((first
    | (go_at_call 12; (with_reducible refine (c1 _).mono ?_))
    | (go_at_call 20; (with_reducible refine (c2 _).mono ?_))); rintro e w1 ⟨rfl, hb⟩; replace HB := Lib.hid (bthen HB.out hb); clear hb)
  refine wp_gen (fun W => Below w.heap.size w W ∧ Var W w1.heap.size xa xb) ⟨HB.out.alloc HB.out.size _, Var.new _ _ _ _⟩ ?_
  generalize w1.heap.size = g1 at *
  clear HB
  rintro W ⟨hB, hV⟩
  have HX := Lib.hid hV
  obtain ⟨d0, d1, _, _⟩ := hV
  go_upto_region 6 with (go_at_call 10; ((with_reducible refine (c3 _).mono ?_); rintro e w1 ⟨rfl, hb⟩))
  refine wp_gen (fun W => Below w.heap.size w W ∧ Var W g1 xa xb ∧ Var W w1.heap.size 0 0) ⟨(bthen hB hb).alloc (bthen hB hb).size _, (HX.out.keep hb).alloc _, Var.new _ _ _ _⟩ ?_
  generalize w1.heap.size = g2 at *
  clear hb hB HX d0 d1 c3
  rintro W2 ⟨hB, ⟨d0, d1, _, _⟩, ⟨p0, p1, _, _⟩⟩
  go_wp2_with ((first
    | (go_at_call 9; (with_reducible refine (zawake_any _).mono ?_))
    | (go_at_call 14; (with_reducible refine (c5 _).mono ?_))
    | (go_at_call 18; (first | with_reducible refine (c4 _).mono ?_ | with_reducible refine (c7 _).mono ?_))
    | (go_at_call 20; (with_reducible refine (c6 _).mono ?_))
    | (go_at_call 16; (with_reducible refine (c8 _).mono ?_))); rintro e w1 ⟨rfl, hb⟩; replace d0 := bkeep hb d0; replace d1 := bkeep hb d1; replace p0 := bkeep hb p0; replace p1 := bkeep hb p1; replace hB := bthen hB hb; clear hb)
  go_ret
  exact ⟨by simp <;> omega, hB⟩

set_option maxHeartbeats 2000000 in
theorem zrows_b (k i j : Int) (n : Nat) (A B M : Int) (xa xb ya yb r0 p0' sa sb : Int) (hq : Int.tmod k 8 = (n : Int)) (hn : (n : Int) < 8) (e2 : wrap64 (2 ^ n) = M) (m0 : 1 ≤ M) (m1 : M ≤ 128) (hi0 : 0 ≤ i) (hi1 : i ≤ 65535) (hj0 : 0 ≤ j) (hj1 : j ≤ 65535)
    (qa : Int.tmod i M = A) (qb : Int.tmod j M = B) (ha : A < M) (hb' : B < M) (ha0 : 0 ≤ A) (hb0 : 0 ≤ B) (hl : A = M - 1) (hs : ¬ A = B) (z0 : (sa == 0) = false)
    (c1 : ∀ W, Calls Try.prog 12 #[.int .i64 n, .int .i64 A] W fun e w' => e = .returned (.int .u64 r0) ∧ Below W.heap.size W w')
    (c2 : ∀ W, Calls Try.prog 20 #[.int .u64 r0] W fun e w' => e = .returned (.agg #[.int .u64 xa, .int .u64 xb]) ∧ Below W.heap.size W w')
    (c3 : ∀ W, Calls Try.prog 10 #[.agg #[.int .u64 xa, .int .u64 xb], .int .i64 n] W fun e w' => e = .returned (.tuple #[.agg #[.int .u64 0, .int .u64 0], .bool false]) ∧ Below W.heap.size W w')
    (c4 : ∀ W, Calls Try.prog 18 #[.agg #[.int .u64 xa, .int .u64 xb], .int .i64 n, .int .i64 (n + 1)] W fun e w' => e = .returned (.bool false) ∧ Below W.heap.size W w')
    (c5 : ∀ W, Calls Try.prog 14 #[.int .i64 n, .int .i64 A] W fun e w' => e = .returned (.int .u64 p0') ∧ Below W.heap.size W w')
    (c6 : ∀ W, Calls Try.prog 20 #[.int .u64 p0'] W fun e w' => e = .returned (.agg #[.int .u64 ya, .int .u64 yb]) ∧ Below W.heap.size W w')
    (c7 : ∀ W, Calls Try.prog 18 #[.agg #[.int .u64 ya, .int .u64 yb], .int .i64 0, .int .i64 n] W fun e w' => e = .returned (.bool false) ∧ Below W.heap.size W w')
    (c8 : ∀ W, Calls Try.prog 16 #[.agg #[.int .u64 xa, .int .u64 xb], .int .i64 n, .int .i64 B] W fun e w' => e = .returned (.agg #[.int .u64 sa, .int .u64 sb]) ∧ Below W.heap.size W w') (w : World) :
    Calls Try.prog 5 #[.int .u8 k, .int .u16 i, .int .u16 j] w fun e w' => e = .returned (.bool true) ∧ Below w.heap.size w w' := by
  subst hl
  go_enter Try.func5, Try.ntmps5
  go_upto_region 3 with fail
  simp only [e2]
  refine wp_region_quiet_below (by kernel_rfl) (by kernel_rfl) ?_
  repeat (first | go_big_quiet_step (fail) | quiet_step (fail))
  refine wpQuiet_nil ?_
  rintro _ ⟨pq, rfl⟩
  have HB := Lib.hid (below_regrown w pq.d pq.os)
  go_upto_region 5 with ((first
    | (go_at_call 12; (with_reducible refine (c1 _).mono ?_))
    | (go_at_call 20; (with_reducible refine (c2 _).mono ?_))); rintro e w1 ⟨rfl, hb⟩; replace HB := Lib.hid (bthen HB.out hb); clear hb)
  refine wp_gen (fun W => Below w.heap.size w W ∧ Var W w1.heap.size xa xb) ⟨HB.out.alloc HB.out.size _, Var.new _ _ _ _⟩ ?_
  generalize w1.heap.size = g1 at *
  clear HB
  rintro W ⟨hB, hV⟩
  have HX := Lib.hid hV
  obtain ⟨d0, d1, _, _⟩ := hV
  go_upto_region 6 with (go_at_call 10; ((with_reducible refine (c3 _).mono ?_); rintro e w1 ⟨rfl, hb⟩))
  refine wp_gen (fun W => Below w.heap.size w W ∧ Var W g1 xa xb ∧ Var W w1.heap.size 0 0) ⟨(bthen hB hb).alloc (bthen hB hb).size _, (HX.out.keep hb).alloc _, Var.new _ _ _ _⟩ ?_
  generalize w1.heap.size = g2 at *
  clear hb hB HX d0 d1 c3
  rintro W2 ⟨hB, ⟨d0, d1, _, _⟩, ⟨p0, p1, _, _⟩⟩
  go_wp2_with ((first
    | (go_at_call 9; (with_reducible refine (zawake_any _).mono ?_))
    | (go_at_call 14; (with_reducible refine (c5 _).mono ?_))
    | (go_at_call 18; (first | with_reducible refine (c4 _).mono ?_ | with_reducible refine (c7 _).mono ?_))
    | (go_at_call 20; (with_reducible refine (c6 _).mono ?_))
    | (go_at_call 16; (with_reducible refine (c8 _).mono ?_))); rintro e w1 ⟨rfl, hb⟩; replace d0 := bkeep hb d0; replace d1 := bkeep hb d1; replace p0 := bkeep hb p0; replace p1 := bkeep hb p1; replace hB := bthen hB hb; clear hb)
  go_ret
  exact ⟨by simp <;> omega, hB⟩

set_option maxHeartbeats 2000000 in
theorem zrows_c (k i j : Int) (n : Nat) (A B M : Int) (xa xb ya yb r0 p0' sa sb : Int) (hq : Int.tmod k 8 = (n : Int)) (hn : (n : Int) < 8) (e2 : wrap64 (2 ^ n) = M) (m0 : 1 ≤ M) (m1 : M ≤ 128) (hi0 : 0 ≤ i) (hi1 : i ≤ 65535) (hj0 : 0 ≤ j) (hj1 : j ≤ 65535)
    (qa : Int.tmod i M = A) (qb : Int.tmod j M = B) (ha : A < M) (hb' : B < M) (ha0 : 0 ≤ A) (hb0 : 0 ≤ B) (hl : ¬ A = M - 1) (hs : B = A) (z0 : sa = 0) (z1 : sb = 0)
    (c1 : ∀ W, Calls Try.prog 12 #[.int .i64 n, .int .i64 A] W fun e w' => e = .returned (.int .u64 r0) ∧ Below W.heap.size W w')
    (c2 : ∀ W, Calls Try.prog 20 #[.int .u64 r0] W fun e w' => e = .returned (.agg #[.int .u64 xa, .int .u64 xb]) ∧ Below W.heap.size W w')
    (c3 : ∀ W, Calls Try.prog 10 #[.agg #[.int .u64 xa, .int .u64 xb], .int .i64 n] W fun e w' => e = .returned (.tuple #[.agg #[.int .u64 0, .int .u64 0], .bool true]) ∧ Below W.heap.size W w')
    (c4 : ∀ W, Calls Try.prog 18 #[.agg #[.int .u64 xa, .int .u64 xb], .int .i64 n, .int .i64 (n + 1)] W fun e w' => e = .returned (.bool false) ∧ Below W.heap.size W w')
    (c5 : ∀ W, Calls Try.prog 14 #[.int .i64 n, .int .i64 A] W fun e w' => e = .returned (.int .u64 p0') ∧ Below W.heap.size W w')
    (c6 : ∀ W, Calls Try.prog 20 #[.int .u64 p0'] W fun e w' => e = .returned (.agg #[.int .u64 ya, .int .u64 yb]) ∧ Below W.heap.size W w')
    (c7 : ∀ W, Calls Try.prog 18 #[.agg #[.int .u64 ya, .int .u64 yb], .int .i64 0, .int .i64 n] W fun e w' => e = .returned (.bool false) ∧ Below W.heap.size W w')
    (c8 : ∀ W, Calls Try.prog 16 #[.agg #[.int .u64 xa, .int .u64 xb], .int .i64 n, .int .i64 B] W fun e w' => e = .returned (.agg #[.int .u64 sa, .int .u64 sb]) ∧ Below W.heap.size W w') (w : World) :
    Calls Try.prog 5 #[.int .u8 k, .int .u16 i, .int .u16 j] w fun e w' => e = .returned (.bool true) ∧ Below w.heap.size w w' := by
  subst hs z0 z1
  go_enter Try.func5, Try.ntmps5
  go_upto_region 3 with fail
  simp only [e2]
  refine wp_region_quiet_below (by kernel_rfl) (by kernel_rfl) ?_
  repeat (first | go_big_quiet_step (fail) | quiet_step (fail))
  refine wpQuiet_nil ?_
  rintro _ ⟨pq, rfl⟩
  have HB := Lib.hid (below_regrown w pq.d pq.os)
  go_upto_region 5 with ((first
    | (go_at_call 12; (with_reducible refine (c1 _).mono ?_))
    | (go_at_call 20; (with_reducible refine (c2 _).mono ?_))); rintro e w1 ⟨rfl, hb⟩; replace HB := Lib.hid (bthen HB.out hb); clear hb)
  refine wp_gen (fun W => Below w.heap.size w W ∧ Var W w1.heap.size xa xb) ⟨HB.out.alloc HB.out.size _, Var.new _ _ _ _⟩ ?_
  generalize w1.heap.size = g1 at *
  clear HB
  rintro W ⟨hB, hV⟩
  have HX := Lib.hid hV
  obtain ⟨d0, d1, _, _⟩ := hV
  go_upto_region 6 with (go_at_call 10; ((with_reducible refine (c3 _).mono ?_); rintro e w1 ⟨rfl, hb⟩))
  refine wp_gen (fun W => Below w.heap.size w W ∧ Var W g1 xa xb ∧ Var W w1.heap.size 0 0) ⟨(bthen hB hb).alloc (bthen hB hb).size _, (HX.out.keep hb).alloc _, Var.new _ _ _ _⟩ ?_
  generalize w1.heap.size = g2 at *
  clear hb hB HX d0 d1 c3
  rintro W2 ⟨hB, ⟨d0, d1, _, _⟩, ⟨p0, p1, _, _⟩⟩
  go_wp2_with ((first
    | (go_at_call 9; (with_reducible refine (zawake_any _).mono ?_))
    | (go_at_call 14; (with_reducible refine (c5 _).mono ?_))
    | (go_at_call 18; (first | with_reducible refine (c4 _).mono ?_ | with_reducible refine (c7 _).mono ?_))
    | (go_at_call 20; (with_reducible refine (c6 _).mono ?_))
    | (go_at_call 16; (with_reducible refine (c8 _).mono ?_))); rintro e w1 ⟨rfl, hb⟩; replace d0 := bkeep hb d0; replace d1 := bkeep hb d1; replace p0 := bkeep hb p0; replace p1 := bkeep hb p1; replace hB := bthen hB hb; clear hb)
  go_ret
  exact ⟨by simp <;> omega, hB⟩

set_option maxHeartbeats 2000000 in
theorem zrows_d (k i j : Int) (n : Nat) (A B M : Int) (xa xb ya yb r0 p0' sa sb : Int) (hq : Int.tmod k 8 = (n : Int)) (hn : (n : Int) < 8) (e2 : wrap64 (2 ^ n) = M) (m0 : 1 ≤ M) (m1 : M ≤ 128) (hi0 : 0 ≤ i) (hi1 : i ≤ 65535) (hj0 : 0 ≤ j) (hj1 : j ≤ 65535)
    (qa : Int.tmod i M = A) (qb : Int.tmod j M = B) (ha : A < M) (hb' : B < M) (ha0 : 0 ≤ A) (hb0 : 0 ≤ B) (hl : ¬ A = M - 1) (hs : ¬ A = B) (z0 : (sa == 0) = false)
    (c1 : ∀ W, Calls Try.prog 12 #[.int .i64 n, .int .i64 A] W fun e w' => e = .returned (.int .u64 r0) ∧ Below W.heap.size W w')
    (c2 : ∀ W, Calls Try.prog 20 #[.int .u64 r0] W fun e w' => e = .returned (.agg #[.int .u64 xa, .int .u64 xb]) ∧ Below W.heap.size W w')
    (c3 : ∀ W, Calls Try.prog 10 #[.agg #[.int .u64 xa, .int .u64 xb], .int .i64 n] W fun e w' => e = .returned (.tuple #[.agg #[.int .u64 0, .int .u64 0], .bool true]) ∧ Below W.heap.size W w')
    (c4 : ∀ W, Calls Try.prog 18 #[.agg #[.int .u64 xa, .int .u64 xb], .int .i64 n, .int .i64 (n + 1)] W fun e w' => e = .returned (.bool false) ∧ Below W.heap.size W w')
    (c5 : ∀ W, Calls Try.prog 14 #[.int .i64 n, .int .i64 A] W fun e w' => e = .returned (.int .u64 p0') ∧ Below W.heap.size W w')
    (c6 : ∀ W, Calls Try.prog 20 #[.int .u64 p0'] W fun e w' => e = .returned (.agg #[.int .u64 ya, .int .u64 yb]) ∧ Below W.heap.size W w')
    (c7 : ∀ W, Calls Try.prog 18 #[.agg #[.int .u64 ya, .int .u64 yb], .int .i64 0, .int .i64 n] W fun e w' => e = .returned (.bool false) ∧ Below W.heap.size W w')
    (c8 : ∀ W, Calls Try.prog 16 #[.agg #[.int .u64 xa, .int .u64 xb], .int .i64 n, .int .i64 B] W fun e w' => e = .returned (.agg #[.int .u64 sa, .int .u64 sb]) ∧ Below W.heap.size W w') (w : World) :
    Calls Try.prog 5 #[.int .u8 k, .int .u16 i, .int .u16 j] w fun e w' => e = .returned (.bool true) ∧ Below w.heap.size w w' := by
  go_enter Try.func5, Try.ntmps5
  go_upto_region 3 with fail
  simp only [e2]
  refine wp_region_quiet_below (by kernel_rfl) (by kernel_rfl) ?_
  repeat (first | go_big_quiet_step (fail) | quiet_step (fail))
  refine wpQuiet_nil ?_
  rintro _ ⟨pq, rfl⟩
  have HB := Lib.hid (below_regrown w pq.d pq.os)
  go_upto_region 5 with ((first
    | (go_at_call 12; (with_reducible refine (c1 _).mono ?_))
    | (go_at_call 20; (with_reducible refine (c2 _).mono ?_))); rintro e w1 ⟨rfl, hb⟩; replace HB := Lib.hid (bthen HB.out hb); clear hb)
  refine wp_gen (fun W => Below w.heap.size w W ∧ Var W w1.heap.size xa xb) ⟨HB.out.alloc HB.out.size _, Var.new _ _ _ _⟩ ?_
  generalize w1.heap.size = g1 at *
  clear HB
  rintro W ⟨hB, hV⟩
  have HX := Lib.hid hV
  obtain ⟨d0, d1, _, _⟩ := hV
  go_upto_region 6 with (go_at_call 10; ((with_reducible refine (c3 _).mono ?_); rintro e w1 ⟨rfl, hb⟩))
  refine wp_gen (fun W => Below w.heap.size w W ∧ Var W g1 xa xb ∧ Var W w1.heap.size 0 0) ⟨(bthen hB hb).alloc (bthen hB hb).size _, (HX.out.keep hb).alloc _, Var.new _ _ _ _⟩ ?_
  generalize w1.heap.size = g2 at *
  clear hb hB HX d0 d1 c3
  rintro W2 ⟨hB, ⟨d0, d1, _, _⟩, ⟨p0, p1, _, _⟩⟩
  go_wp2_with ((first
    | (go_at_call 9; (with_reducible refine (zawake_any _).mono ?_))
    | (go_at_call 14; (with_reducible refine (c5 _).mono ?_))
    | (go_at_call 18; (first | with_reducible refine (c4 _).mono ?_ | with_reducible refine (c7 _).mono ?_))
    | (go_at_call 20; (with_reducible refine (c6 _).mono ?_))
    | (go_at_call 16; (with_reducible refine (c8 _).mono ?_))); rintro e w1 ⟨rfl, hb⟩; replace d0 := bkeep hb d0; replace d1 := bkeep hb d1; replace p0 := bkeep hb p0; replace p1 := bkeep hb p1; replace hB := bthen hB hb; clear hb)
  go_ret
  exact ⟨by simp <;> omega, hB⟩

theorem outv_row (k i : Nat) (m : Nat) (hk : k ≤ 32) : outv (lift (rw' k i)) k m = false := by
  unfold outv
  rw [row_all k i hk]
  simp
theorem outv_pla (k i : Nat) (hk : k ≤ 32) : outv (lift (pla k i)) 0 k = false := by
  unfold outv
  have e : qpow (lift (pla k i)) (2 ^ k) = lift (fpow 7 (2 ^ k)) := by
    rw [lift_qpow]; unfold pla; rw [mul_fpow, rw_all k i hk]; congr 1; grind
  rw [e]
  simp
theorem zrows_walk (k i j : Int) (hk : 0 ≤ k ∧ k ≤ 255) (hi : 0 ≤ i ∧ i ≤ 65535) (hj : 0 ≤ j ∧ j ≤ 65535) (w : World) :
    Calls Try.prog 5 #[.int .u8 k, .int .u16 i, .int .u16 j] w fun e w' => e = .returned (.bool true) ∧ Below w.heap.size w w' := by
  obtain ⟨n, hn, hlt⟩ := mod_nat k 8 hk.1 (by decide)
  have hq : Int.tmod k 8 = (n : Int) := by rw [Int.tmod_eq_emod_of_nonneg hk.1]; exact hn
  have hn32 : n ≤ 32 := by omega
  obtain ⟨M, hM⟩ : ∃ M, ((2 ^ n : Nat) : Int) = M := ⟨_, rfl⟩
  have hp := Nat.pow_le_pow_right (n := 2) (by decide) (by omega : n ≤ 7)
  have hp0 := Nat.two_pow_pos n
  have m0 : 1 ≤ M := by omega
  have m1 : M ≤ 128 := by omega
  have e2 := wrapi_pow' hn32
  rw [hM] at e2
  obtain ⟨A, hA, hA'⟩ := mod_nat i M hi.1 (by omega)
  obtain ⟨B, hB, hB'⟩ := mod_nat j M hj.1 (by omega)
  have qa : Int.tmod i M = (A : Int) := by rw [Int.tmod_eq_emod_of_nonneg hi.1]; exact hA
  have qb : Int.tmod j M = (B : Int) := by rw [Int.tmod_eq_emod_of_nonneg hj.1]; exact hB
  have lA : A < 2 ^ n := by omega
  have lB : B < 2 ^ n := by omega
  have c1 := fun W => is_below (zrow_is n A (enc (rw' n A)) ⟨by omega, by omega⟩ (by rw [rowv_nat n A hn32]) W)
  have c2 := rlift_q (enc (rw' n A)) (lift (rw' n A)) (enc_U _) (by rw [toF_enc])
  have c4 := zout_is n (n + 1) _ _ (lift (rw' n A)) false hn32 (by omega) (rep_enc _) (outv_row n A (n + 1) hn32)
  rw [show (((n + 1 : Nat)) : Int) = (n : Int) + 1 by omega] at c4
  have c5 := fun W => is_below (zplace_is n A (enc (pla n A)) ⟨by omega, by omega⟩ (by rw [rowv_nat n A hn32]; rfl) W)
  have c6 := rlift_q (enc (pla n A)) (lift (pla n A)) (enc_U _) (by rw [toF_enc])
  have c7 := zout_is 0 n _ _ (lift (pla n A)) false (by decide) hn32 (rep_enc _) (outv_pla n A hn32)
  have c8 := zspot_is n B _ _ (lift (rw' n A)) (lift (rw' n A) - lift (rw' n B)) ⟨by omega, by omega⟩ (rep_enc _) (by rw [rowv_nat n B hn32])
  have hsn := fun h : A ≠ B => fun h0 => h ((spot_row n A B hn32 lA lB).1 h0)
  have hss : ¬ A = B → (enc (lift (rw' n A) - lift (rw' n B)).a == 0) = false := by
    intro h
    have h1 : ¬ lift (rw' n A) - lift (rw' n B) = 0 := fun h0 => h ((spot_row n A B hn32 lA lB).1 h0)
    rcases zero_cases (lift (rw' n A) - lift (rw' n B)) with ⟨h2, _⟩ | ⟨_, h2⟩ | ⟨_, h2, h3⟩
    · exact absurd h2 h1
    · exact h2
    · exact absurd (F2.eq (enc_inj.mp (h2.trans enc_zero.symm)) (by show (0 : F) - 0 = 0; decide +kernel)) h1
  by_cases hl : A = 2 ^ n - 1
  · have c3 := zgap_no n _ _ (lift (rw' n A)) hn32 (rep_enc _) ((row_last n A hn32 lA).2 hl)
    by_cases hs : A = B
    · have hz : lift (rw' n A) - lift (rw' n B) = 0 := (spot_row n A B hn32 lA lB).2 hs
      exact zrows_a k i j n A B M _ _ _ _ _ _ _ _ hq hlt e2 m0 m1 hi.1 hi.2 hj.1 hj.2 qa qb hA' hB' (by omega) (by omega) (by omega) (by omega) (by rw [hz]; rfl) (by rw [hz]; rfl) c1 c2 c3 c4 c5 c6 c7 c8 w
    · exact zrows_b k i j n A B M _ _ _ _ _ _ _ _ hq hlt e2 m0 m1 hi.1 hi.2 hj.1 hj.2 qa qb hA' hB' (by omega) (by omega) (by omega) (by omega) (hss hs) c1 c2 c3 c4 c5 c6 c7 c8 w
  · have c3 := zgap_yes n _ _ (lift (rw' n A)) 0 hn32 (rep_enc _) (fun h => hl ((row_last n A hn32 lA).1 h)) (gap_row n A hn32)
    rw [show enc (0 : F2).a = 0 from rfl, show enc (0 : F2).b = 0 from rfl] at c3
    by_cases hs : A = B
    · have hz : lift (rw' n A) - lift (rw' n B) = 0 := (spot_row n A B hn32 lA lB).2 hs
      exact zrows_c k i j n A B M _ _ _ _ _ _ _ _ hq hlt e2 m0 m1 hi.1 hi.2 hj.1 hj.2 qa qb hA' hB' (by omega) (by omega) (by omega) (by omega) (by rw [hz]; rfl) (by rw [hz]; rfl) c1 c2 c3 c4 c5 c6 c7 c8 w
    · exact zrows_d k i j n A B M _ _ _ _ _ _ _ _ hq hlt e2 m0 m1 hi.1 hi.2 hj.1 hj.2 qa qb hA' hB' (by omega) (by omega) (by omega) (by omega) (hss hs) c1 c2 c3 c4 c5 c6 c7 c8 w
end Go.Proofs.Yteleepblfipncaa
