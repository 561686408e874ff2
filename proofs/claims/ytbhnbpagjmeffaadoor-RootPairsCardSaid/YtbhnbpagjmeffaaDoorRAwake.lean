/-
  The document's examples of layer 3: the call 'awake' answers true.
-/
import Derived.Test.YtbhnbpagjmeffaaDoorInvertQ
import Derived.Test.YtbhnbpagjmeffaaDoorPairRefB
import Derived.Test.YtbhnbpagjmeffaaDoorRootRef
import Derived.RowKit3
namespace Go.Proofs.YtbhnbpagjmeffaaDoor
open Go.RowKit Go.Sort Go.BigFrame
set_option linter.unusedVariables false

theorem row_two {W : World} {g : Nat} {x y : Int} (h0 : W.cell? ⟨g, 0, none⟩ = some (.int .u64 x)) (h1 : W.cell? ⟨g, 1, none⟩ = some (.int .u64 y)) : Row W (.slice (some ⟨g, 0, none⟩) 2 2) [x, y] := by
  right; right
  refine ⟨g, 0, 2, rfl, by simp, by unfold maxLen; omega, ?_⟩
  intro i hi
  have : i = 0 ∨ i = 1 := by simp at hi; omega
  rcases this with rfl | rfl
  · exact h0
  · exact h1
theorem qrow_one {W : World} {g : Nat} {x y : Int} (h0 : W.cell? ⟨g, 0, none⟩ = some (.int .u64 x)) (h1 : W.cell? ⟨g, 1, none⟩ = some (.int .u64 y)) : QRow W (.slice (some ⟨g, 0, none⟩) 1 1) [(x, y)] := by
  right; right
  refine ⟨g, 0, 1, rfl, by simp, by unfold maxLen; omega, ?_⟩
  intro i hi
  have : i = 0 := by simp at hi; omega
  subst this
  exact ⟨h0, h1⟩

theorem ex_one (x y : Int) (hx : U x ∧ U y) (W : World) (t : TypeId) (h0 : Nil0 [x, y]) :
    Calls Tryd.prog 16 #[.slice (some ⟨W.heap.size, 0, none⟩) 2 2] (W.alloc (.cells #[.int .u64 x, .int .u64 y] t)) fun e w' => ∃ g : Nat, e = .returned (.tuple #[.slice (some ⟨g, 0, none⟩) 2 2, .bool true]) ∧ Below W.heap.size W w' ∧ w'.cell? ⟨g, 1, none⟩ = some (.int .u64 (enc (finv (toF y)))) := by
  have hr : RowA (W.alloc (.cells #[.int .u64 x, .int .u64 y] t)) (some ⟨W.heap.size, 0, none⟩) 2 [x, y] := (row_two (by simp [go_sem]) (by simp [go_sem])).at (cap := 2)
  refine (rinvert_yes _ 2 2 _ _ hr (by intro n hn; simp at hn; rcases hn with rfl | rfl; exact hx.1; exact hx.2) (by omega) h0).mono ?_
  rintro e w' ⟨g, he, hb, hrow⟩
  refine ⟨g, he, bthen ((Below.refl _ _).alloc (Nat.le_refl _) _) hb, ?_⟩
  obtain ⟨_, _, hc⟩ := hrow.at
  obtain ⟨b, off, e1, e2⟩ := hc 1 (by simp)
  cases e1
  exact e2
theorem ex_no (x y : Int) (hx : U x ∧ U y) (W : World) (t : TypeId) (h0 : ¬ Nil0 [x, y]) :
    Calls Tryd.prog 16 #[.slice (some ⟨W.heap.size, 0, none⟩) 2 2] (W.alloc (.cells #[.int .u64 x, .int .u64 y] t)) fun e w' => e = .returned (.tuple #[.slice none 0 0, .bool false]) ∧ Below W.heap.size W w' := by
  have hr : RowA (W.alloc (.cells #[.int .u64 x, .int .u64 y] t)) (some ⟨W.heap.size, 0, none⟩) 2 [x, y] := (row_two (by simp [go_sem]) (by simp [go_sem])).at (cap := 2)
  refine (rinvert_no _ 2 2 _ _ hr (by intro n hn; simp at hn; rcases hn with rfl | rfl; exact hx.1; exact hx.2) (by omega) h0).mono ?_
  rintro e w' ⟨he, hb⟩
  exact ⟨he, bthen ((Below.refl _ _).alloc (Nat.le_refl _) _) hb⟩
theorem ex_pair (x y : Int) (hx : U x ∧ U y) (W : World) (t : TypeId) (h0 : Nil0Q [(x, y)]) :
    Calls Tryd.prog 18 #[.slice (some ⟨W.heap.size, 0, none⟩) 1 1] (W.alloc (.cells #[.int .u64 x, .int .u64 y] t)) fun e w' => ∃ g : Nat, e = .returned (.tuple #[.slice (some ⟨g, 0, none⟩) 1 1, .bool true]) ∧ Below W.heap.size W w' ∧
      w'.cell? ⟨g, 0, none⟩ = some (.int .u64 (enc (qinv ⟨toF x, toF y⟩).a)) ∧ w'.cell? ⟨g, 1, none⟩ = some (.int .u64 (enc (qinv ⟨toF x, toF y⟩).b)) := by
  have hr : QRowA (W.alloc (.cells #[.int .u64 x, .int .u64 y] t)) (some ⟨W.heap.size, 0, none⟩) 1 [(x, y)] := (qrow_one (by simp [go_sem]) (by simp [go_sem])).at (cap := 1)
  refine (rinvertq_yes _ 1 1 _ _ hr (by intro n hn; simp at hn; subst hn; exact hx) (by omega) h0).mono ?_
  rintro e w' ⟨g, he, hb, hrow⟩
  refine ⟨g, he, bthen ((Below.refl _ _).alloc (Nat.le_refl _) _) hb, ?_⟩
  obtain ⟨_, _, hc⟩ := hrow.at
  obtain ⟨b, off, e1, e2, e3⟩ := hc 0 (by simp)
  cases e1
  exact ⟨e2, e3⟩

theorem nil0_two {x y : Int} (hx : toF x ≠ 0) (hy : toF y ≠ 0) : Nil0 [x, y] := by
  intro k hk
  have : k = 0 ∨ k = 1 := by simp at hk; omega
  rcases this with rfl | rfl
  · exact hx
  · exact hy
theorem nil0_no {x y : Int} (hy : toF y = 0) : ¬ Nil0 [x, y] := fun h => h 1 (by simp) hy
theorem nil0q_one {x y : Int} (hx : (⟨toF x, toF y⟩ : F2) ≠ 0) : Nil0Q [(x, y)] := by
  intro k hk
  have : k = 0 := by simp at hk; omega
  subst this
  exact hx

set_option maxHeartbeats 4000000 in
theorem rawake_any (w : World) (ht : Tab w) : Calls Tryd.prog 9 #[] w fun e w' => e = .returned (.bool true) ∧ Below w.heap.size w w' := by
  have i1 := fun W t => ex_one 2 18446744069414584320 ⟨U_lit _ rfl rfl, U_lit _ rfl rfl⟩ W t (nil0_two (by decide +kernel) (by decide +kernel))
  rw [show enc (finv (toF 18446744069414584320)) = 18446744069414584320 by rw [show finv (toF 18446744069414584320) = toF 18446744069414584320 from (finv_unique _ _ (by decide +kernel)).symm]; decide +kernel] at i1
  have i2 := fun W t => ex_no 2 18446744069414584321 ⟨U_lit _ rfl rfl, U_lit _ rfl rfl⟩ W t (nil0_no (by decide +kernel))
  have i3 := fun W t => ex_pair 0 1 ⟨U_lit _ rfl rfl, U_lit _ rfl rfl⟩ W t (nil0q_one (by decide +kernel))
  obtain ⟨q, hq⟩ : ∃ q : F2, qinv ⟨toF 0, toF 1⟩ = q := ⟨_, rfl⟩
  have hq1 : q * ⟨toF 0, toF 1⟩ = 1 := by rw [← hq, F2.mul_comm]; exact mul_qinv _ (by decide +kernel)
  rw [hq] at i3
  have r1 := rmul_q (enc q.a) (enc q.b) 0 1 q ⟨toF 0, toF 1⟩ 1 (rep_enc q) (rep_raw (U_lit _ rfl rfl) (U_lit _ rfl rfl)) hq1
  rw [show enc (1 : F2).a = 1 from rfl, show enc (1 : F2).b = 0 from rfl] at r1
  generalize enc q.a = q1 at *
  generalize enc q.b = q2 at *
  have o0 := of_is 0 1 (by rw [ofv_in (by decide) (by decide), show (0 : Int).toNat = 0 from rfl, root_zero]; rfl)
  have o1 := of_is 1 18446744069414584320 (by rw [ofv_in (by decide) (by decide), show (1 : Int).toNat = 1 from rfl, root_one]; decide +kernel)
  obtain ⟨o, ho⟩ : ∃ z, enc (ofv 2) = z := ⟨_, rfl⟩
  have o2 := of_is 2 o ho
  have o3 := of_is 33 0 (by rw [ofv_out (by decide)]; rfl)
  have hoo : enc (toF o * toF o) = 18446744069414584320 := by
    rw [← ho, toF_enc, ofv_in (by decide) (by decide), show (2 : Int).toNat = 1 + 1 from rfl, root_sq 1 (by decide), root_one]; decide +kernel
  have o4 := fun W => ref_below (refmul_any o o (by rw [← ho]; exact enc_U _) (by rw [← ho]; exact enc_U _) W)
  rw [hoo] at o4
  have g1 := log_is 8 3 (by unfold I64; omega) (by decide +kernel)
  have g2' := log_is 6 (-1) (by unfold I64; omega) (by decide +kernel)
  have t1 := turn_is 6 3 3 (by unfold I64; omega) (by unfold I64; omega) (by decide +kernel)
  have t2 := turn_is 1 4 8 (by unfold I64; omega) (by unfold I64; omega) (by decide +kernel)
  clear hq hq1 ho hoo
  go_enter Tryd.func9, Tryd.ntmps9
  go_upto_region 2 with ((go_at_call 16; ((with_reducible refine (i1 _ _).mono ?_); rintro e w1 ⟨g, rfl, hB, c1⟩)))
  refine wp_gen (fun W => Below w.heap.size w W ∧ Tab W ∧ W.cell? ⟨g, 1, none⟩ = some (.int .u64 18446744069414584320)) ⟨hB, ht.keep hB, c1⟩ ?_
  clear ht hB c1
  rintro W ⟨hB, ht, c1⟩
  go_upto_region 3 with ((go_at_call 16; ((with_reducible refine (i2 _ _).mono ?_); rintro e w1 ⟨rfl, hb⟩; replace ht := ht.keep hb; replace c1 := bkeep hb c1; replace hB := bthen hB hb; clear hb)))
  refine wp_gen (fun W => Below w.heap.size w W ∧ Tab W ∧ W.cell? ⟨g, 1, none⟩ = some (.int .u64 18446744069414584320)) ⟨hB, ht, c1⟩ ?_
  clear ht hB c1
  rintro W ⟨hB, ht, c1⟩
  go_upto_region 4 with ((go_at_call 18; ((with_reducible refine (i3 _ _).mono ?_); rintro e w1 ⟨g2, rfl, hb, d0, d1⟩; replace ht := ht.keep hb; replace c1 := bkeep hb c1; replace hB := bthen hB hb; clear hb)))
  refine wp_gen (fun W => Below w.heap.size w W ∧ Tab W ∧ W.cell? ⟨g, 1, none⟩ = some (.int .u64 18446744069414584320) ∧ W.cell? ⟨g2, 0, none⟩ = some (.int .u64 q1) ∧ W.cell? ⟨g2, 1, none⟩ = some (.int .u64 q2)) ⟨hB, ht, c1, d0, d1⟩ ?_
  clear ht hB c1 d0 d1
  rintro W ⟨hB, ht, c1, d0, d1⟩
  go_wp2_with (first
    | (go_at_call 12; ((with_reducible first | refine (g1 _ ht).mono ?_ | refine (g2' _ ht).mono ?_); rintro e w' ⟨rfl, rfl⟩))
    | (go_at_call 10; ((with_reducible first | refine (o0 _).mono ?_ | refine (o1 _).mono ?_ | refine (o2 _).mono ?_ | refine (o3 _).mono ?_); rintro e w' ⟨rfl, rfl⟩))
    | (go_at_call 14; ((with_reducible first | refine (t1 _).mono ?_ | refine (t2 _).mono ?_); rintro e w' ⟨rfl, rfl⟩))
    | ((first
        | (go_at_call 22; (with_reducible refine (o4 _).mono ?_))
        | (go_at_call 25; (with_reducible refine (r1 _).mono ?_)))
       rintro e w1 ⟨rfl, hb⟩; replace ht := ht.keep hb; replace c1 := bkeep hb c1; replace d0 := bkeep hb d0; replace d1 := bkeep hb d1; replace hB := bthen hB hb; clear hb))
  go_ret
  exact ⟨rfl, hB⟩
end Go.Proofs.YtbhnbpagjmeffaaDoor
