/-
  The walk of WorkTells: it answers true, where the program's calls do what is asked of them. (Written by gen_wlaws.py.)
-/
import Derived.Test.YthmpojefoiojeaaDoorWAw
namespace Go.Proofs.YthmpojefoiojeaaDoor
open Go Go.RowKit Go.Sort Go.BigFrame
set_option linter.unusedVariables false

set_option maxRecDepth 100000 in
set_option maxHeartbeats 8000000 in
theorem wtells_body (G : World → Prop) (hA : AskWork G) (aw : ∀ W, G W → Calls Tryd.prog 7 #[] W fun e w' => e = .returned (.bool true) ∧ Below W.heap.size W w') (s : ByteArray) (c n want : Int) (w : World) (hG0 : G w) (hs : s.size ≤ maxLen) (hn : U n) (hw : -9223372036854775808 ≤ want ∧ want ≤ 9223372036854775807) :
    Calls Tryd.prog 3 #[.agg #[.string s, .int .i64 c], .int .u64 n, .int .i64 want] w fun e w' => e = .returned (.bool true) ∧ Below w.heap.size w w' := by
  have HK := Lib.hid (fun (W W' : World) => @AskWork.keep G hA W W')
  have HG0 := Lib.hid hG0
  have hAh := Lib.hid hA
  unfold maxLen at hs
  clear hA hG0
  go_enter Tryd.func3, Tryd.ntmps3
  go_upto_region 1 with fail
  refine wp_gen (fun W => Below w.heap.size w W ∧ Duo W w.heap.size (.string s) (.int .i64 c)) ⟨(Below.refl _ _).alloc (Nat.le_refl _) _, by simp [Duo, go_sem]⟩ ?_
  obtain ⟨g3, hg⟩ : ∃ g, w.heap.size = g := ⟨_, rfl⟩
  rintro W1 ⟨hB, hS⟩
  rw [hg] at hS
  simp only [hg]
  have HB := Lib.hid hB; have HS := Lib.hid hS
  obtain ⟨x0, x1, _, _⟩ := hS
  clear hB hg
  by_cases b0 : (200 : Int) < (s.size : Int)
  · go_wp2_with (go_at_call 7; (with_reducible refine (aw _ (HK.out _ _ HG0.out HB.out)).mono ?_); rintro e w1 ⟨rfl, hb⟩; replace HB := Lib.hid (bthen HB.out hb); clear hb)
    go_ret
    exact ⟨rfl, HB.out⟩
  obtain ⟨r, hr⟩ : ∃ r, decide (weightB s n ≥ want) = r := ⟨_, rfl⟩
  have k1 := fun W hg => hAh.out.weight s c n W (by omega) hn hg
  have k2 := fun W => rweight_is s c n W (by omega) hn
  have k3 := fun W hg => hAh.out.meets_is s c n want r W (by omega) hn hw hr hg
  have k4 := fun W => rmeets_is s c n want r W (by omega) hn hr
  generalize weightB s n = wt at *
  clear hr HS
  go_upto_region 3 with fail
  have x0' := x0
  clear x0
  have x0 := fun q : Regrown => cell_regrown x0' q.d q.os
  clear x0'
  have x1' := x1
  clear x1
  have x1 := fun q : Regrown => cell_regrown x1' q.d q.os
  clear x1'
  refine wp_region_quiet_below (by kernel_rfl) (by kernel_rfl) ?_
  repeat (first | go_big_quiet_step (first
    | (go_at_call 8; with_reducible exact Calls.regrown_of (k1 _ (HK.out _ _ HG0.out (bthen HB.out (below_regrown _ _ _)))))
    | (go_at_call 9; with_reducible exact Calls.regrown_of (k2 _))
    | (go_at_call 10; with_reducible exact Calls.regrown_of (k3 _ (HK.out _ _ HG0.out (bthen HB.out (below_regrown _ _ _)))))
    | (go_at_call 11; with_reducible exact Calls.regrown_of (k4 _))
    | (go_at_call 7; with_reducible exact Calls.regrown_of (aw _ (HK.out _ _ HG0.out (bthen HB.out (below_regrown _ _ _)))))) | quiet_step (fail))
  refine wpQuiet_nil ?_
  rintro _ ⟨pq, rfl⟩
  replace HB := Lib.hid (bthen HB.out (below_regrown _ pq.d pq.os))
  go_wp2_with fail
  go_ret
  exact ⟨rfl, HB.out⟩
end Go.Proofs.YthmpojefoiojeaaDoor
