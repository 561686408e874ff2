/-
  The walk of RootTells: it answers true.
-/
import Derived.Test.YtbhnbpagjmeffaaDoorRAwake
namespace Go.Proofs.YtbhnbpagjmeffaaDoor
open Go.RowKit Go.Sort Go.BigFrame
set_option linter.unusedVariables false

set_option maxHeartbeats 4000000 in
theorem rtells_walk (n k : Int) (hn : I64 n) (hk : I64 k) (w : World) (ht : Tab w) : Calls Tryd.prog 3 #[.int .i64 n, .int .i64 k] w fun e w' => e = .returned (.bool true) ∧ Below w.heap.size w w' := by
  obtain ⟨a, ha⟩ : ∃ z, enc (ofv k) = z := ⟨_, rfl⟩
  obtain ⟨b, hb⟩ : ∃ z, lg n = z := ⟨_, rfl⟩
  obtain ⟨c, hc⟩ : ∃ z, tv n k = z := ⟨_, rfl⟩
  have o1 := of_is k a ha
  have o2 := fun W => ref_below (refof_is k a ha W)
  have l1 := log_is n b hn hb
  have l2 := reflog_is n b hn hb
  have t1 := turn_is n k c hn hk hc
  have t2 := refturn_is n k c hc
  have hB := Below.refl w.heap.size w
  clear ha hb hc hn hk
  go_enter Tryd.func3, Tryd.ntmps3
  go_wp2_with (first
    | (go_at_call 10; ((with_reducible refine (o1 _).mono ?_); rintro e w' ⟨rfl, rfl⟩))
    | (go_at_call 12; ((with_reducible refine (l1 _ ht).mono ?_); rintro e w' ⟨rfl, rfl⟩))
    | (go_at_call 13; ((with_reducible refine (l2 _).mono ?_); rintro e w' ⟨rfl, rfl⟩))
    | (go_at_call 14; ((with_reducible refine (t1 _).mono ?_); rintro e w' ⟨rfl, rfl⟩))
    | (go_at_call 15; ((with_reducible refine (t2 _).mono ?_); rintro e w' ⟨rfl, rfl⟩))
    | ((first
        | (go_at_call 9; (with_reducible refine (rawake_any _ ht).mono ?_))
        | (go_at_call 11; (with_reducible refine (o2 _).mono ?_)))
       rintro e w1 ⟨rfl, hb⟩; replace ht := ht.keep hb; replace hB := bthen hB hb; clear hb))
  go_ret
  exact ⟨rfl, hB⟩
end Go.Proofs.YtbhnbpagjmeffaaDoor
