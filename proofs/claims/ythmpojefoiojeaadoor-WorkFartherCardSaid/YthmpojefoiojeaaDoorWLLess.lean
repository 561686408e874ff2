/-
  The walk of WorkLess: it answers true, where the program's calls do what is asked of them. (Written by gen_wlaws.py.)
-/
import Derived.Test.YthmpojefoiojeaaDoorWAw
namespace Go.Proofs.YthmpojefoiojeaaDoor
open Go Go.RowKit Go.Sort Go.BigFrame
set_option linter.unusedVariables false

def LessRel (w : World) (g3 : Nat) (s : ByteArray) (c : Int) (i : Value) (W : World) : Prop := ∃ k : Nat, k ≤ 65 ∧ i = .int .i64 k ∧ Below w.heap.size w W ∧ W.cell? ⟨g3, 0, none⟩ = some (.string s) ∧ W.cell? ⟨g3, 1, none⟩ = some (.int .i64 c)
set_option maxRecDepth 100000 in
set_option maxHeartbeats 8000000 in
theorem wless_body (G : World → Prop) (hA : AskWork G) (aw : ∀ W, G W → Calls Tryd.prog 7 #[] W fun e w' => e = .returned (.bool true) ∧ Below W.heap.size W w') (s : ByteArray) (c n : Int) (w : World) (hG0 : G w) (hs : s.size ≤ maxLen) (hn : U n) :
    Calls Tryd.prog 5 #[.agg #[.string s, .int .i64 c], .int .u64 n] w fun e w' => e = .returned (.bool true) ∧ Below w.heap.size w w' := by
  have HK := Lib.hid (fun (W W' : World) => @AskWork.keep G hA W W')
  have HG0 := Lib.hid hG0
  have hAh := Lib.hid hA
  unfold maxLen at hs
  clear hA hG0
  go_enter Tryd.func5, Tryd.ntmps5
  go_upto_region 1 with fail
  refine wp_gen (fun W => Below w.heap.size w W ∧ Duo W w.heap.size (.string s) (.int .i64 c)) ⟨(Below.refl _ _).alloc (Nat.le_refl _) _, by simp [Duo, go_sem]⟩ ?_
  obtain ⟨g2, hg⟩ : ∃ g, w.heap.size = g := ⟨_, rfl⟩
  rintro W1 ⟨hB, hS⟩
  rw [hg] at hS
  simp only [hg]
  have HB := Lib.hid hB; have HS := Lib.hid hS
  obtain ⟨x0, x1, _, _⟩ := hS
  clear hB hg
  by_cases b0 : (200 : Int) < (s.size : Int)
  · go_wp2_with (go_at_call 7; (with_reducible refine (aw _ (HK.out _ _ HG0.out HB.out)).mono ?_); rintro e w1 ⟨rfl, hb⟩; replace HB := Lib.hid (bthen HB.out hb); clear hb)
    go_ret
    exact ⟨rfl, HB.out⟩
  have hb := weightB_bd s n
  have k1 := fun W hg => hAh.out.weight s c n W (by omega) hn hg
  have k2 := fun (want : Int) hw (r : Bool) hr W hg => hAh.out.meets_is s c n want r W (by omega) hn hw hr hg
  generalize weightB s n = wt at *
  clear HS
  go_upto_region 5 with (go_at_call 8; (with_reducible refine (k1 _ (HK.out _ _ HG0.out HB.out)).mono ?_); rintro e w1 ⟨rfl, hbw⟩; replace HB := Lib.hid (bthen HB.out hbw); replace x0 := bkeep hbw x0; replace x1 := bkeep hbw x1; clear hbw)
  have hB := HB.out
  clear k1
  go_loopw [6] (LessRel w g2 s c) (fun i _ => 65 - (intOf i).toNat)
  case atStart => exact ⟨0, Nat.zero_le _, rfl, hB, x0, x1⟩
  case round =>
    clear hB HB x0 x1
    obtain ⟨j, hj, rfl, hB, x0, x1⟩ := hrel
    have HB := Lib.hid hB
    clear hB
    by_cases hlt : j ≤ 64
    · have hlt' : (j : Int) ≤ 64 := by omega
      by_cases hle : (j : Int) ≤ wt
      · have k5 := k2 (j : Int) (by omega) true (decide_eq_true hle)
        go_wp2_with (go_at_call 10; (with_reducible refine (k5 _ (HK.out _ _ HG0.out HB.out)).mono ?_); rintro e w1 ⟨rfl, hbw⟩; replace HB := Lib.hid (bthen HB.out hbw); replace x0 := bkeep hbw x0; replace x1 := bkeep hbw x1; clear hbw)
        go_roundw
        case rel => exact ⟨j + 1, by omega, by go_num, HB.out, x0, x1⟩
        case measure => simp [intOf]; omega
      · have k5 := k2 (j : Int) (by omega) false (decide_eq_false (by omega))
        go_wp2_with (go_at_call 10; (with_reducible refine (k5 _ (HK.out _ _ HG0.out HB.out)).mono ?_); rintro e w1 ⟨rfl, hbw⟩; replace HB := Lib.hid (bthen HB.out hbw); replace x0 := bkeep hbw x0; replace x1 := bkeep hbw x1; clear hbw)
        go_roundw
        case rel => exact ⟨j + 1, by omega, by go_num, HB.out, x0, x1⟩
        case measure => simp [intOf]; omega
    · have hlt' : ¬ (j : Int) ≤ 64 := by omega
      obtain ⟨hb0, hb1⟩ := hb
      have hge : wt ≥ 0 := hb0
      go_wp2_with (go_at_call 7; (with_reducible refine (aw _ (HK.out _ _ HG0.out HB.out)).mono ?_); rintro e w1 ⟨rfl, hbw⟩; replace HB := Lib.hid (bthen HB.out hbw); replace x0 := bkeep hbw x0; replace x1 := bkeep hbw x1; clear hbw)
      go_ret
      exact ⟨rfl, HB.out⟩
end Go.Proofs.YthmpojefoiojeaaDoor
