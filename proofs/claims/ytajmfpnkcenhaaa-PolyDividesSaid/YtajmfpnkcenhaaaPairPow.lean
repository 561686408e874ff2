/-
  What pair.Inv, pair.Pow come to: contracts for the walk.
-/
import Derived.Test.YtajmfpnkcenhaaaPairs
import Derived.LoopTactic
import Derived.Deep.DeepCutAuto
namespace Go.Proofs.Ytajmfpnkcenhaaa
open Go.RowKit
set_option linter.unusedVariables false

theorem pinv_no (a b : Int) (x : F2) (hx : Rep a b x) (h : x = 0) (w : World) : Calls Try.prog 37 #[.agg #[.int .u64 a, .int .u64 b]] w fun e w' => e = .returned (.tuple #[.agg #[.int .u64 0, .int .u64 0], .bool false]) ∧ Below w.heap.size w w' := by
  have k1 := pnorm_q a b x 0 hx (by rw [h]; exact norm_zero)
  have k2 := inv_no (enc 0) (enc_U _) (toF_enc 0)
  clear hx h
  go_enter Try.func37, Try.ntmps37
  go_upto_region 1 with fail
  refine wp_gen (fun W => Below w.heap.size w W ∧ Var W w.heap.size a b ∧ Var W (w.heap.size + 1) 0 0) ⟨((Below.refl _ _).alloc (Nat.le_refl _) _).alloc (by simp) _, by simp [Var, go_sem], by simp [Var, go_sem]⟩ ?_
  rintro W ⟨hB, hV, hR⟩
  obtain ⟨c0, c1, f0, f1⟩ := hV
  obtain ⟨d0, d1, e0, e1⟩ := hR
  go_wp2_with (first | (go_at_call 52; ((with_reducible refine (k1 _).mono ?_); rintro e w1 ⟨rfl, hb⟩; replace e0 := bfree hb d0 e0; replace e1 := bfree hb d1 e1; replace d0 := bkeep hb d0; replace d1 := bkeep hb d1; replace hB := bthen hB hb; clear hb c0 c1 f0 f1)) | (go_at_call 51; ((with_reducible refine (k2 _).mono ?_); rintro e w' ⟨rfl, rfl⟩)))
  exact bodyPost_ret (v := .tuple #[.agg #[.int .u64 0, .int .u64 0], .bool false]) (by simp [results, Try.results37, go_sem, d0, d1]) rfl ⟨rfl, (hB.setCell (by simp) _).setCell (by simp) _⟩

theorem pinv_yes (a b : Int) (x z : F2) (hx : Rep a b x) (h : x ≠ 0) (hz : qinv x = z) (w : World) : Calls Try.prog 37 #[.agg #[.int .u64 a, .int .u64 b]] w fun e w' => e = .returned (.tuple #[.agg #[.int .u64 (enc z.a), .int .u64 (enc z.b)], .bool true]) ∧ Below w.heap.size w w' := by
  obtain ⟨n, hn⟩ : ∃ n, norm x = n := ⟨_, rfl⟩
  have hn0 : n ≠ 0 := fun h0 => h (norm_eq_zero (hn.trans h0))
  obtain ⟨i, hi⟩ : ∃ i, finv n = i := ⟨_, rfl⟩
  obtain ⟨t, ht⟩ : ∃ t, turn x = t := ⟨_, rfl⟩
  have k1 := pnorm_q a b x n hx hn
  have k2 := inv_yes (enc n) (enc_U _) (by rw [toF_enc]; exact hn0)
  rw [toF_enc, show fpow n 18446744069414584319 = i from hi] at k2
  have k3 := pturn_q a b x t hx ht
  have k4 := pscale_q (enc t.a) (enc t.b) (enc i) t z (rep_enc t) (enc_U _) (by rw [toF_enc, ← hz, ← ht, ← hi, ← hn]; rfl)
  clear hx h hz hn hn0 hi ht
  go_enter Try.func37, Try.ntmps37
  go_upto_region 1 with fail
  refine wp_gen (fun W => Below w.heap.size w W ∧ Var W w.heap.size a b ∧ Var W (w.heap.size + 1) 0 0) ⟨((Below.refl _ _).alloc (Nat.le_refl _) _).alloc (by simp) _, by simp [Var, go_sem], by simp [Var, go_sem]⟩ ?_
  rintro W ⟨hB, hV, hR⟩
  obtain ⟨c0, c1, f0, f1⟩ := hV
  obtain ⟨d0, d1, e0, e1⟩ := hR
  go_wp2_with (first
    | (go_at_call 51; ((with_reducible refine (k2 _).mono ?_); rintro e w' ⟨rfl, rfl⟩))
    | ((first
        | (go_at_call 52; (with_reducible refine (k1 _).mono ?_))
        | (go_at_call 54; (with_reducible refine (k3 _).mono ?_))
        | (go_at_call 53; (with_reducible refine (k4 _).mono ?_)))
       rintro e w1 ⟨rfl, hb⟩; replace e0 := bfree hb d0 e0; replace e1 := bfree hb d1 e1; replace d0 := bkeep hb d0; replace d1 := bkeep hb d1; replace c0 := bkeep hb c0; replace c1 := bkeep hb c1; replace hB := bthen hB hb; clear hb))
  exact bodyPost_ret (v := .tuple #[.agg #[.int .u64 (enc z.a), .int .u64 (enc z.b)], .bool true]) (by simp [results, Try.results37, go_sem, d0, d1]) rfl ⟨rfl, (hB.setCell (by simp) _).setCell (by simp) _⟩

/-- What is left to do: out times base to the k. -/
def QPowInv (x : F2) (n : Int) (k : Int) (o b : F2) : Prop := o * qpow b k.toNat = qpow x n.toNat
theorem qpowInv_start (x : F2) (n : Int) : QPowInv x n n 1 x := by unfold QPowInv; rw [F2.one_mul]
theorem qpowInv_end {x : F2} {n : Int} {o b : F2} (h : QPowInv x n 0 o b) : o = qpow x n.toNat := by unfold QPowInv at h; rw [← h]; exact (F2.mul_one _).symm
theorem qpowInv_odd {x : F2} {n k : Int} {o b : F2} (h0 : 0 < k) (h : k % 2 = 1) (hp : QPowInv x n k o b) : QPowInv x n (k / 2) (o * b) (b * b) := by
  unfold QPowInv at *
  rw [← hp, qpow_two, show k.toNat = 2 * (k / 2).toNat + 1 by omega, qpow_succ]
  simp only [F2.mul_assoc, F2.mul_comm]
theorem qpowInv_even {x : F2} {n k : Int} {o b : F2} (h0 : 0 < k) (h : ¬ k % 2 = 1) (hp : QPowInv x n k o b) : QPowInv x n (k / 2) o (b * b) := by
  unfold QPowInv at *
  rw [← hp, qpow_two, show k.toNat = 2 * (k / 2).toNat by omega]

/-- The loop of a power: the number that is left, the base's variable, and what both variables hold. -/
def PowHead (w : World) (x : F2) (n : Int) (g4 g5 : Nat) (i bp : Value) (W : World) : Prop :=
  ∃ (k : Int) (g6 : Nat) (ba bb : Int) (o b : F2), U k ∧ QPowInv x n k o b ∧ Rep ba bb b ∧ i = .int .u64 k ∧ bp = .pointer (some ⟨g6, 0, none⟩) ∧
    Below w.heap.size w W ∧ Var W g4 0 0 ∧ Var W g5 (enc o.a) (enc o.b) ∧ Var W g6 ba bb ∧ g6 ≠ g4 ∧ g6 ≠ g5 ∧ w.heap.size ≤ g6

end Go.Proofs.Ytajmfpnkcenhaaa
