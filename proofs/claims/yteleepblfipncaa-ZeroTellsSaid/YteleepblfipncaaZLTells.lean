/-
  The walk of ZeroTells: it answers true. (Written by gen_zlaws.py.)
-/
import Derived.Test.YteleepblfipncaaZAwake
import Derived.Test.YteleepblfipncaaZRef
import Derived.Test.YteleepblfipncaaZLaw
namespace Go.Proofs.Yteleepblfipncaa
open Go.RowKit Go.Sort Go.BigFrame
set_option linter.unusedVariables false

set_option maxHeartbeats 2000000 in
theorem ztells_walk (a b k i : Int) (ha : U a) (hb : U b) (hk : I64 k) (hi : I64 i) (w : World) : Calls Try.prog 3 #[.agg #[.int .u64 a, .int .u64 b], .int .i64 k, .int .i64 i] w fun e w' => e = .returned (.bool true) ∧ Below w.heap.size w w' := by
  by_cases h1 : k < 0
  · clear hi hk
    go_enter Try.func3, Try.ntmps3
    go_upto_region 1 with fail
    refine wp_gen (fun W => Below w.heap.size w W ∧ Var W w.heap.size a b) ⟨(Below.refl _ _).alloc (Nat.le_refl _) _, by simp [Var, go_sem]⟩ ?_
    rintro W ⟨hB, hV⟩
    go_wp2_with (go_at_call 9; ((with_reducible refine (zawake_any _).mono ?_); rintro e w1 ⟨rfl, hb⟩; replace hB := bthen hB hb; clear hb))
    go_ret
    exact ⟨rfl, hB⟩
  by_cases h2 : 20 < k
  · clear hi hk
    go_enter Try.func3, Try.ntmps3
    go_upto_region 1 with fail
    refine wp_gen (fun W => Below w.heap.size w W ∧ Var W w.heap.size a b) ⟨(Below.refl _ _).alloc (Nat.le_refl _) _, by simp [Var, go_sem]⟩ ?_
    rintro W ⟨hB, hV⟩
    go_wp2_with (go_at_call 9; ((with_reducible refine (zawake_any _).mono ?_); rintro e w1 ⟨rfl, hb⟩; replace hB := bthen hB hb; clear hb))
    go_ret
    exact ⟨rfl, hB⟩
  by_cases h3 : 1099511627776 < i
  · clear hi hk
    go_enter Try.func3, Try.ntmps3
    go_upto_region 1 with fail
    refine wp_gen (fun W => Below w.heap.size w W ∧ Var W w.heap.size a b) ⟨(Below.refl _ _).alloc (Nat.le_refl _) _, by simp [Var, go_sem]⟩ ?_
    rintro W ⟨hB, hV⟩
    go_wp2_with (go_at_call 9; ((with_reducible refine (zawake_any _).mono ?_); rintro e w1 ⟨rfl, hb⟩; replace hB := bthen hB hb; clear hb))
    go_ret
    exact ⟨rfl, hB⟩
  obtain ⟨K, rfl⟩ : ∃ K : Nat, k = (K : Int) := ⟨k.toNat, by omega⟩
  have hx := rep_raw ha hb
  obtain ⟨x, hxx⟩ : ∃ x : F2, ⟨toF a, toF b⟩ = x := ⟨_, rfl⟩
  rw [hxx] at hx
  clear ha hb hk hxx
  obtain ⟨s, hs⟩ : ∃ s, x - lift (rowv K i) = s := ⟨_, rfl⟩
  have c2 := fun W => is_below (zrow_is K i _ hi rfl W)
  have c3 := fun W => ref_below (rzrow_is K i _ hi rfl W)
  have c4 := fun W => is_below (zplace_is K i _ hi rfl W)
  have c5 := fun W => ref_below (rzplace_is K i _ hi rfl W)
  have c6 := zspot_is K i a b x s hi hx hs
  have c7 := rzspot_is K i a b x s hi hx hs
  have hK : K ≤ 32 := by omega
  generalize enc (rowv K i) = rr at *
  generalize enc (7 * rowv K i) = pp at *
  generalize enc s.a = sa at *
  generalize enc s.b = sb at *
  have n1 : (K : Int) ≤ 20 := by omega
  have n2 : i ≤ 1099511627776 := by omega
  clear hs
  by_cases hd : x - lift (last K) = 0
  · have g1 := zgap_no K a b x hK hx hd
    have g2 := rzgap_no K a b x hK hx hd
    clear hx hd hK hi
    go_enter Try.func3, Try.ntmps3
    go_upto_region 1 with fail
    refine wp_gen (fun W => Below w.heap.size w W ∧ Var W w.heap.size a b) ⟨(Below.refl _ _).alloc (Nat.le_refl _) _, by simp [Var, go_sem]⟩ ?_
    rintro W ⟨hB, hV⟩
    have HX := Lib.hid hV
    obtain ⟨c0, c1, _, _⟩ := hV
    go_upto_region 4 with (go_at_call 10; ((with_reducible refine (g1 _).mono ?_); rintro e w1 ⟨rfl, hb⟩))
    refine wp_gen (fun W => Below w.heap.size w W ∧ Var W w.heap.size a b ∧ Var W w1.heap.size 0 0) ⟨(bthen hB hb).alloc (bthen hB hb).size _, (HX.out.keep hb).alloc _, Var.new _ _ _ _⟩ ?_
    generalize w1.heap.size = g7 at *
    clear hb hB HX c0 c1 g1
    rintro W2 ⟨hB, hV, hG⟩
    have HX := Lib.hid hV; have HG := Lib.hid hG
    obtain ⟨c0, c1, _, _⟩ := hV
    clear hG
    go_upto_region 5 with (go_at_call 11; ((with_reducible refine (g2 _).mono ?_); rintro e w1 ⟨rfl, hb⟩))
    refine wp_gen (fun W => Below w.heap.size w W ∧ Var W w.heap.size a b ∧ Var W g7 0 0 ∧ Var W w1.heap.size 0 0) ⟨(bthen hB hb).alloc (bthen hB hb).size _, (HX.out.keep hb).alloc _, (HG.out.keep hb).alloc _, Var.new _ _ _ _⟩ ?_
    generalize w1.heap.size = g9 at *
    clear hb hB HX HG c0 c1 g2
    rintro W3 ⟨hB, ⟨c0, c1, _, _⟩, ⟨p0, p1, _, _⟩, ⟨q0, q1, _, _⟩⟩
    replace c0 := fun q : Regrown => cell_regrown c0 q.d q.os
    replace c1 := fun q : Regrown => cell_regrown c1 q.d q.os
    replace p0 := fun q : Regrown => cell_regrown p0 q.d q.os
    replace p1 := fun q : Regrown => cell_regrown p1 q.d q.os
    replace q0 := fun q : Regrown => cell_regrown q0 q.d q.os
    replace q1 := fun q : Regrown => cell_regrown q1 q.d q.os
    refine wp_region_quiet_below (by kernel_rfl) (by kernel_rfl) ?_
    repeat (first | go_big_quiet_step (first
      | (go_at_call 9; (with_reducible exact Calls.regrown_of (zawake_any _)))
      | (go_at_call 12; (with_reducible exact Calls.regrown_of (c2 _)))
      | (go_at_call 13; (with_reducible exact Calls.regrown_of (c3 _)))
      | (go_at_call 14; (with_reducible exact Calls.regrown_of (c4 _)))
      | (go_at_call 15; (with_reducible exact Calls.regrown_of (c5 _)))
      | (go_at_call 16; (with_reducible exact Calls.regrown_of (c6 _)))
      | (go_at_call 17; (with_reducible exact Calls.regrown_of (c7 _)))) | quiet_step (fail))
    refine wpQuiet_nil ?_
    rintro _ ⟨pq, rfl⟩
    go_wp2
    go_ret
    exact ⟨rfl, bthen hB (below_regrown _ _ _)⟩
  · obtain ⟨z, hz⟩ : ∃ z, gapv x K = z := ⟨_, rfl⟩
    have g1 := zgap_yes K a b x z hK hx hd hz
    have g2 := rzgap_yes K a b x z hK hx hd hz
    generalize enc z.a = za at *
    generalize enc z.b = zb at *
    clear hx hd hK hi hz
    go_enter Try.func3, Try.ntmps3
    go_upto_region 1 with fail
    refine wp_gen (fun W => Below w.heap.size w W ∧ Var W w.heap.size a b) ⟨(Below.refl _ _).alloc (Nat.le_refl _) _, by simp [Var, go_sem]⟩ ?_
    rintro W ⟨hB, hV⟩
    have HX := Lib.hid hV
    obtain ⟨c0, c1, _, _⟩ := hV
    go_upto_region 4 with (go_at_call 10; ((with_reducible refine (g1 _).mono ?_); rintro e w1 ⟨rfl, hb⟩))
    refine wp_gen (fun W => Below w.heap.size w W ∧ Var W w.heap.size a b ∧ Var W w1.heap.size za zb) ⟨(bthen hB hb).alloc (bthen hB hb).size _, (HX.out.keep hb).alloc _, Var.new _ _ _ _⟩ ?_
    generalize w1.heap.size = g7 at *
    clear hb hB HX c0 c1 g1
    rintro W2 ⟨hB, hV, hG⟩
    have HX := Lib.hid hV; have HG := Lib.hid hG
    obtain ⟨c0, c1, _, _⟩ := hV
    clear hG
    go_upto_region 5 with (go_at_call 11; ((with_reducible refine (g2 _).mono ?_); rintro e w1 ⟨rfl, hb⟩))
    refine wp_gen (fun W => Below w.heap.size w W ∧ Var W w.heap.size a b ∧ Var W g7 za zb ∧ Var W w1.heap.size za zb) ⟨(bthen hB hb).alloc (bthen hB hb).size _, (HX.out.keep hb).alloc _, (HG.out.keep hb).alloc _, Var.new _ _ _ _⟩ ?_
    generalize w1.heap.size = g9 at *
    clear hb hB HX HG c0 c1 g2
    rintro W3 ⟨hB, ⟨c0, c1, _, _⟩, ⟨p0, p1, _, _⟩, ⟨q0, q1, _, _⟩⟩
    replace c0 := fun q : Regrown => cell_regrown c0 q.d q.os
    replace c1 := fun q : Regrown => cell_regrown c1 q.d q.os
    replace p0 := fun q : Regrown => cell_regrown p0 q.d q.os
    replace p1 := fun q : Regrown => cell_regrown p1 q.d q.os
    replace q0 := fun q : Regrown => cell_regrown q0 q.d q.os
    replace q1 := fun q : Regrown => cell_regrown q1 q.d q.os
    refine wp_region_quiet_below (by kernel_rfl) (by kernel_rfl) ?_
    repeat (first | go_big_quiet_step (first
      | (go_at_call 9; (with_reducible exact Calls.regrown_of (zawake_any _)))
      | (go_at_call 12; (with_reducible exact Calls.regrown_of (c2 _)))
      | (go_at_call 13; (with_reducible exact Calls.regrown_of (c3 _)))
      | (go_at_call 14; (with_reducible exact Calls.regrown_of (c4 _)))
      | (go_at_call 15; (with_reducible exact Calls.regrown_of (c5 _)))
      | (go_at_call 16; (with_reducible exact Calls.regrown_of (c6 _)))
      | (go_at_call 17; (with_reducible exact Calls.regrown_of (c7 _)))) | quiet_step (fail))
    refine wpQuiet_nil ?_
    rintro _ ⟨pq, rfl⟩
    go_wp2
    go_ret
    exact ⟨rfl, bthen hB (below_regrown _ _ _)⟩
end Go.Proofs.Yteleepblfipncaa
