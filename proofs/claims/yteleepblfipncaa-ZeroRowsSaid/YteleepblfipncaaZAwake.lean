/-
  The document's examples of layer 6: the call 'awake' answers true.
-/
import Derived.Test.YteleepblfipncaaZGap
import Derived.Test.YteleepblfipncaaZOut
namespace Go.Proofs.Yteleepblfipncaa
open Go.RowKit
set_option linter.unusedVariables false

theorem I64_lit (a : Int) (h : decide (-9223372036854775808 ≤ a) = true) (h' : decide (a ≤ 9223372036854775807) = true) : I64 a := ⟨of_decide_eq_true h, of_decide_eq_true h'⟩
theorem row11 : rowv 1 1 = -1 := by
  have h := rowv_nat 1 1 (by decide)
  rw [show (((1 : Nat) : Int)) = 1 from rfl] at h
  rw [h]; unfold rw'; rw [root_one]; decide +kernel
theorem row10 : rowv 1 0 = 1 := by
  have h := rowv_nat 1 0 (by decide)
  rw [show (((1 : Nat) : Int)) = 1 from rfl, show (((0 : Nat) : Int)) = 0 from rfl] at h
  rw [h]; rfl
theorem last1 : last 1 = -1 := by unfold last; unfold rw'; rw [root_one]; decide +kernel
def ax1 : F2 := ⟨1, 0⟩
def axm : F2 := ⟨-1, 0⟩
def ax2 : F2 := ⟨2, 0⟩
def ax7 : F2 := ⟨7, 0⟩
theorem gap11 : gapv ax1 1 = 0 := by
  unfold gapv
  rw [show qpow ax1 (2 ^ 1) - 1 = 0 by decide +kernel, F2.zero_mul]
theorem ref_of_eq (a b : Int) (x : F2) (ha : U a) (hb : U b) (h1 : toF a = x.a) (h2 : toF b = x.b) : Rep a b x := ⟨ha, hb, h1, h2⟩

set_option maxRecDepth 100000 in
set_option maxHeartbeats 4000000 in
theorem zawake_any (w : World) : Calls Try.prog 9 #[] w fun e w' => e = .returned (.bool true) ∧ Below w.heap.size w w' := by
  have r1 : Rep 1 0 ax1 := ⟨U_lit _ rfl rfl, U_lit _ rfl rfl, by decide +kernel, by decide +kernel⟩
  have rm : Rep 18446744069414584320 0 axm := ⟨U_lit _ rfl rfl, U_lit _ rfl rfl, by decide +kernel, by decide +kernel⟩
  have r2 : Rep 2 0 ax2 := ⟨U_lit _ rfl rfl, U_lit _ rfl rfl, by decide +kernel, by decide +kernel⟩
  have r7 : Rep 7 0 ax7 := ⟨U_lit _ rfl rfl, U_lit _ rfl rfl, by decide +kernel, by decide +kernel⟩
  have g1 := zgap_yes 1 1 0 ax1 0 (by decide) r1 (by rw [last1]; decide +kernel) gap11
  have g2 := zgap_no 1 18446744069414584320 0 axm (by decide) rm (by rw [last1]; decide +kernel)
  have c1 := zrow_is 1 1 18446744069414584320 (I64_lit _ rfl rfl) (by rw [row11]; decide +kernel)
  have c2 := zrow_is 1 0 1 (I64_lit _ rfl rfl) (by rw [row10]; decide +kernel)
  have c3 := zplace_is 1 1 18446744069414584314 (I64_lit _ rfl rfl) (by rw [row11]; decide +kernel)
  have c4 := zspot_is 1 0 1 0 ax1 0 (I64_lit _ rfl rfl) r1 (by rw [row10]; decide +kernel)
  have c5 := zout_is 1 2 2 0 ax2 true (by decide) (by decide) r2 (by decide +kernel)
  have c6 := zout_is 1 2 7 0 ax7 false (by decide) (by decide) r7 (by decide +kernel)
  have c7 := zout_is 1 2 1 0 ax1 false (by decide) (by decide) r1 (by decide +kernel)
  have c8 := zout_is 1 2 0 0 0 false (by decide) (by decide) rep_zero (by decide +kernel)
  have c9 := zrow_is 3 (-1) 0 (I64_lit _ rfl rfl) (by rw [rowv_neg (by decide)]; rfl)
  simp only [show enc (0 : F2).a = 0 from rfl, show enc (0 : F2).b = 0 from rfl, show (((1 : Nat) : Int)) = 1 from rfl, show (((2 : Nat) : Int)) = 2 from rfl] at g1 g2 c4 c5 c6 c7 c8
  clear r1 rm r2 r7
  go_enter Try.func9, Try.ntmps9
  go_upto_region 2 with (go_at_call 10; ((with_reducible refine (g1 _).mono ?_); rintro e w1 ⟨rfl, hb⟩))
  refine wp_gen (fun W => Below w.heap.size w W ∧ Var W w1.heap.size 0 0) ⟨hb.alloc hb.size _, Var.new _ _ _ _⟩ ?_
  generalize w1.heap.size = g at *
  clear hb
  rintro W ⟨hB, hV⟩
  go_upto_region 3 with (go_at_call 10; ((with_reducible refine (g2 _).mono ?_); rintro e w1 ⟨rfl, hb⟩))
  refine wp_gen (fun W => Below w.heap.size w W ∧ Var W g 0 0) ⟨(bthen hB hb).alloc (bthen hB hb).size _, (hV.keep hb).alloc _⟩ ?_
  clear hb hB hV
  rintro W2 ⟨hB, ⟨d0, d1, _, _⟩⟩
  go_wp2_with (first
    | (go_at_call 12; ((first | with_reducible refine (c1 _).mono ?_ | with_reducible refine (c2 _).mono ?_ | with_reducible refine (c9 _).mono ?_); rintro e w' ⟨rfl, rfl⟩))
    | (go_at_call 14; ((with_reducible refine (c3 _).mono ?_); rintro e w' ⟨rfl, rfl⟩))
    | ((first
        | (go_at_call 16; (with_reducible refine (c4 _).mono ?_))
        | (go_at_call 18; (first | with_reducible refine (c5 _).mono ?_ | with_reducible refine (c6 _).mono ?_ | with_reducible refine (c7 _).mono ?_ | with_reducible refine (c8 _).mono ?_))); rintro e w1 ⟨rfl, hb⟩; replace hB := bthen hB hb; replace d0 := bkeep hb d0; replace d1 := bkeep hb d1; clear hb))
  go_ret
  exact ⟨rfl, hB⟩
end Go.Proofs.Yteleepblfipncaa
