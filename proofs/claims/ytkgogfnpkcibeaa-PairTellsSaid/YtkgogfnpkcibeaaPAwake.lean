/-
  The document's examples of layer 2: the call 'awake' answers true.
-/
import Derived.Test.YtkgogfnpkcibeaaPairSum
import Derived.RowKit3
namespace Go.Proofs.Ytkgogfnpkcibeaa
open Go.RowKit
set_option linter.unusedVariables false

theorem akeep {W : World} {p : Addr} {v : Value} (h : W.cell? p = some v) (o : Obj) : (W.alloc o).cell? p = some v :=
  bkeep ((Below.refl _ _).alloc (Nat.le_refl _) _) h

theorem pmul_is (a b c d e f : Int) (ha : U a ∧ U b) (hc : U c ∧ U d) (h1 : enc ((⟨toF a, toF b⟩ : F2) * ⟨toF c, toF d⟩).a = e) (h2 : enc ((⟨toF a, toF b⟩ : F2) * ⟨toF c, toF d⟩).b = f) (w : World) : Calls Try.prog 14 #[.agg #[.int .u64 a, .int .u64 b], .agg #[.int .u64 c, .int .u64 d]] w fun x w' => x = .returned (.agg #[.int .u64 e, .int .u64 f]) ∧ Below w.heap.size w w' := by
  subst h1 h2; exact pmul_q a b c d _ _ _ (rep_raw ha.1 ha.2) (rep_raw hc.1 hc.2) rfl w
theorem pinv_is (a b e f : Int) (ha : U a ∧ U b) (h : (⟨toF a, toF b⟩ : F2) * ⟨toF e, toF f⟩ = 1) (h1 : enc (toF e) = e) (h2 : enc (toF f) = f) (w : World) : Calls Try.prog 28 #[.agg #[.int .u64 a, .int .u64 b]] w fun x w' => x = .returned (.tuple #[.agg #[.int .u64 e, .int .u64 f], .bool true]) ∧ Below w.heap.size w w' := by
  have hq := qinv_unique h
  have h0 : (⟨toF a, toF b⟩ : F2) ≠ 0 := by intro h0; rw [h0, F2.zero_mul] at h; exact F2.one_ne_zero h.symm
  have k := pinv_yes a b _ _ (rep_raw ha.1 ha.2) h0 hq.symm w
  simp only [h1, h2] at k
  exact k
theorem pturn_is (a b e f : Int) (ha : U a ∧ U b) (h1 : enc (turn (⟨toF a, toF b⟩ : F2)).a = e) (h2 : enc (turn (⟨toF a, toF b⟩ : F2)).b = f) (w : World) : Calls Try.prog 20 #[.agg #[.int .u64 a, .int .u64 b]] w fun x w' => x = .returned (.agg #[.int .u64 e, .int .u64 f]) ∧ Below w.heap.size w w' := by
  subst h1 h2; exact pturn_q a b _ _ (rep_raw ha.1 ha.2) rfl w
theorem pnorm_is (a b e : Int) (ha : U a ∧ U b) (h1 : enc (norm (⟨toF a, toF b⟩ : F2)) = e) (w : World) : Calls Try.prog 22 #[.agg #[.int .u64 a, .int .u64 b]] w fun x w' => x = .returned (.int .u64 e) ∧ Below w.heap.size w w' := by
  subst h1; exact pnorm_q a b _ _ (rep_raw ha.1 ha.2) rfl w
theorem lift_is (a e f : Int) (ha : U a) (h1 : enc (lift (toF a)).a = e) (h2 : enc (lift (toF a)).b = f) (w : World) : Calls Try.prog 24 #[.int .u64 a] w fun x w' => x = .returned (.agg #[.int .u64 e, .int .u64 f]) ∧ Below w.heap.size w w' := by
  subst h1 h2; exact lift_q a _ ha rfl w
theorem pright_is (a b : Int) (r : Bool) (h : (decide (a < 18446744069414584321) && decide (b < 18446744069414584321)) = r) (w : World) : Calls Try.prog 26 #[.agg #[.int .u64 a, .int .u64 b]] w fun e w' => e = .returned (.bool r) ∧ Below w.heap.size w w' := by
  subst h; exact pright_q a b w

/-- A slice of three pairs that was just made. -/
theorem qrow_three (W : World) (a b c d e f : Int) (t : TypeId) : QRow (W.alloc (.cells #[.int .u64 a, .int .u64 b, .int .u64 c, .int .u64 d, .int .u64 e, .int .u64 f] t)) (.slice (some ⟨W.heap.size, 0, none⟩) 3 3) [(a, b), (c, d), (e, f)] := by
  right; right
  refine ⟨W.heap.size, 0, 3, rfl, by simp, by unfold maxLen; omega, ?_⟩
  intro i hi
  have : i = 0 ∨ i = 1 ∨ i = 2 := by simp at hi; omega
  rcases this with rfl | rfl | rfl <;> simp [go_sem]
theorem psum_three (a b c d e f x y : Int) (W : World) (t : TypeId) (ha : U a ∧ U b) (hc : U c ∧ U d) (he : U e ∧ U f) (h1 : enc (qsum ([(a, b), (c, d), (e, f)].map toQ)).a = x) (h2 : enc (qsum ([(a, b), (c, d), (e, f)].map toQ)).b = y) :
    Calls Try.prog 32 #[.slice (some ⟨W.heap.size, 0, none⟩) 3 3] (W.alloc (.cells #[.int .u64 a, .int .u64 b, .int .u64 c, .int .u64 d, .int .u64 e, .int .u64 f] t)) fun z w' => z = .returned (.agg #[.int .u64 x, .int .u64 y]) ∧ Below W.heap.size W w' := by
  subst h1 h2
  refine (psum_q _ _ _ (qrow_three W a b c d e f t) ?_).mono fun z w' ⟨hz, hb⟩ => ⟨hz, bthen ((Below.refl _ _).alloc (Nat.le_refl _) _) hb⟩
  intro n hn
  simp at hn
  rcases hn with rfl | rfl | rfl <;> assumption

theorem UU_lit (a b : Int) (h : decide (0 ≤ a ∧ a < 18446744073709551616 ∧ 0 ≤ b ∧ b < 18446744073709551616) = true) : U a ∧ U b := by
  have := of_decide_eq_true h
  unfold U; omega

set_option maxHeartbeats 4000000 in
theorem pawake_any (w : World) : Calls Try.prog 9 #[] w fun e w' => e = .returned (.bool true) ∧ Below w.heap.size w w' := by
  have i1 := pinv_is 0 1 0 2635249152773512046 (UU_lit _ _ rfl) (by decide +kernel) (by decide +kernel) (by decide +kernel)
  have i2 := pinv_no 18446744069414584321 0 0 ⟨U_lit _ rfl rfl, U_lit _ rfl rfl, by decide +kernel, by decide +kernel⟩ rfl
  have c1 := pmul_is 0 1 0 1 7 0 (UU_lit _ _ rfl) (UU_lit _ _ rfl) (by decide +kernel) (by decide +kernel)
  have c2 := pmul_is 0 2635249152773512046 0 1 1 0 (UU_lit _ _ rfl) (UU_lit _ _ rfl) (by decide +kernel) (by decide +kernel)
  have c3 := pturn_is 3 1 3 18446744069414584320 (UU_lit _ _ rfl) (by decide +kernel) (by decide +kernel)
  have c4 := pnorm_is 3 1 2 (UU_lit _ _ rfl) (by decide +kernel)
  have c5 := fun W t => psum_three 0 1 0 1 1 0 1 2 W t (UU_lit _ _ rfl) (UU_lit _ _ rfl) (UU_lit _ _ rfl) (by decide +kernel) (by decide +kernel)
  have c6 := lift_is 5 5 0 (U_lit _ rfl rfl) (by decide +kernel) (by decide +kernel)
  have c7 := pright_is 0 1 true (by decide)
  have c8 := pright_is 0 18446744069414584321 false (by decide)
  go_enter Try.func9, Try.ntmps9
  go_upto_region 2 with fail
  refine wp_gen (fun W => Below w.heap.size w W ∧ Var W w.heap.size 0 1) ⟨(Below.refl _ _).alloc (Nat.le_refl _) _, Var.new _ _ _ _⟩ ?_
  rintro W ⟨hB, ⟨d0, d1, e0, e1⟩⟩
  go_upto_region 3 with ((go_at_call 28; ((with_reducible refine (i1 _).mono ?_); rintro e w1 ⟨rfl, hb⟩; replace e0 := bfree hb d0 e0; replace e1 := bfree hb d1 e1; replace d0 := bkeep hb d0; replace d1 := bkeep hb d1; replace hB := bthen hB hb; clear hb)))
  refine wp_gen (fun W => Below w.heap.size w W ∧ Var W w.heap.size 0 1 ∧ Var W w1.heap.size 0 2635249152773512046) ⟨hB.alloc hB.size _, Var.alloc ⟨d0, d1, e0, e1⟩ _, Var.new _ _ _ _⟩ ?_
  generalize w1.heap.size = g2 at *
  clear hB d0 d1 e0 e1
  rintro W2 ⟨hB, h1, h2⟩
  go_upto_region 4 with ((go_at_call 28; ((with_reducible refine (i2 _).mono ?_); rintro e w3 ⟨rfl, hb⟩; replace h1 := h1.keep hb; replace h2 := h2.keep hb; replace hB := bthen hB hb; clear hb)))
  refine wp_gen (fun W => Below w.heap.size w W ∧ Var W w.heap.size 0 1 ∧ Var W g2 0 2635249152773512046) ⟨hB.alloc hB.size _, h1.alloc _, h2.alloc _⟩ ?_
  clear hB h1 h2
  rintro W4 ⟨hB, ⟨d0, d1, e0, e1⟩, ⟨b0, b1, a0, a1⟩⟩
  clear e0 e1 a0 a1
  go_wp2_with (first
    | (go_at_call 32; ((with_reducible refine (c5 _ _).mono ?_); rintro e w1 ⟨rfl, hb⟩; replace b0 := bkeep hb b0; replace b1 := bkeep hb b1; replace d0 := bkeep hb d0; replace d1 := bkeep hb d1; replace hB := bthen hB hb; clear hb))
    | ((first
        | (go_at_call 14; ((with_reducible first | refine (c1 _).mono ?_ | refine (c2 _).mono ?_)))
        | (go_at_call 20; (with_reducible refine (c3 _).mono ?_))
        | (go_at_call 22; (with_reducible refine (c4 _).mono ?_))
        | (go_at_call 24; (with_reducible refine (c6 _).mono ?_))
        | (go_at_call 26; ((with_reducible first | refine (c7 _).mono ?_ | refine (c8 _).mono ?_))))
       rintro e w1 ⟨rfl, hb⟩; replace b0 := bkeep hb b0; replace b1 := bkeep hb b1; replace d0 := bkeep hb d0; replace d1 := bkeep hb d1; replace hB := bthen hB hb; clear hb))
  go_ret
  exact ⟨rfl, hB⟩
end Go.Proofs.Ytkgogfnpkcibeaa
