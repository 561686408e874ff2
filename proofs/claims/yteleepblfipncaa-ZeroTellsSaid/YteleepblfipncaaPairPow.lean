/-
  What pair.Inv, pair.Pow come to: contracts for the walk.
-/
import Derived.Test.YteleepblfipncaaPairs
import Derived.LoopTactic
import Derived.Deep.DeepCutAuto
namespace Go.Proofs.Yteleepblfipncaa
open Go.RowKit
set_option linter.unusedVariables false

theorem pinv_no (a b : Int) (x : F2) (hx : Rep a b x) (h : x = 0) (w : World) : Calls Try.prog 28 #[.agg #[.int .u64 a, .int .u64 b]] w fun e w' => e = .returned (.tuple #[.agg #[.int .u64 0, .int .u64 0], .bool false]) ∧ Below w.heap.size w w' := by
  have k1 := pnorm_q a b x 0 hx (by rw [h]; exact norm_zero)
  have k2 := inv_no (enc 0) (enc_U _) (toF_enc 0)
  clear hx h
  go_enter Try.func28, Try.ntmps28
  go_upto_region 1 with fail
  refine wp_gen (fun W => Below w.heap.size w W ∧ Var W w.heap.size a b ∧ Var W (w.heap.size + 1) 0 0) ⟨((Below.refl _ _).alloc (Nat.le_refl _) _).alloc (by simp) _, by simp [Var, go_sem], by simp [Var, go_sem]⟩ ?_
  rintro W ⟨hB, hV, hR⟩
  obtain ⟨c0, c1, f0, f1⟩ := hV
  obtain ⟨d0, d1, e0, e1⟩ := hR
  go_wp2_with (first | (go_at_call 48; ((with_reducible refine (k1 _).mono ?_); rintro e w1 ⟨rfl, hb⟩; replace e0 := bfree hb d0 e0; replace e1 := bfree hb d1 e1; replace d0 := bkeep hb d0; replace d1 := bkeep hb d1; replace hB := bthen hB hb; clear hb c0 c1 f0 f1)) | (go_at_call 47; ((with_reducible refine (k2 _).mono ?_); rintro e w' ⟨rfl, rfl⟩)))
  exact bodyPost_ret (v := .tuple #[.agg #[.int .u64 0, .int .u64 0], .bool false]) (by simp [results, Try.results28, go_sem, d0, d1]) rfl ⟨rfl, (hB.setCell (by simp) _).setCell (by simp) _⟩

theorem pinv_yes (a b : Int) (x z : F2) (hx : Rep a b x) (h : x ≠ 0) (hz : qinv x = z) (w : World) : Calls Try.prog 28 #[.agg #[.int .u64 a, .int .u64 b]] w fun e w' => e = .returned (.tuple #[.agg #[.int .u64 (enc z.a), .int .u64 (enc z.b)], .bool true]) ∧ Below w.heap.size w w' := by
  obtain ⟨n, hn⟩ : ∃ n, norm x = n := ⟨_, rfl⟩
  have hn0 : n ≠ 0 := fun h0 => h (norm_eq_zero (hn.trans h0))
  obtain ⟨i, hi⟩ : ∃ i, finv n = i := ⟨_, rfl⟩
  obtain ⟨t, ht⟩ : ∃ t, turn x = t := ⟨_, rfl⟩
  have k1 := pnorm_q a b x n hx hn
  have k2 := inv_yes (enc n) (enc_U _) (by rw [toF_enc]; exact hn0)
  rw [toF_enc, show fpow n 18446744069414584319 = i from hi] at k2
  have k3 := pturn_q a b x t hx ht
  have k4 := pscale_q (enc t.a) (enc t.b) (enc i) t z (rep_enc t) (enc_U _) (by rw [toF_enc, ← hz, ← ht, ← hi, ← hn]; rfl)
  clear hx h hz hn hn0 hi ht
  go_enter Try.func28, Try.ntmps28
  go_upto_region 1 with fail
  refine wp_gen (fun W => Below w.heap.size w W ∧ Var W w.heap.size a b ∧ Var W (w.heap.size + 1) 0 0) ⟨((Below.refl _ _).alloc (Nat.le_refl _) _).alloc (by simp) _, by simp [Var, go_sem], by simp [Var, go_sem]⟩ ?_
  rintro W ⟨hB, hV, hR⟩
  obtain ⟨c0, c1, f0, f1⟩ := hV
  obtain ⟨d0, d1, e0, e1⟩ := hR
  go_wp2_with (first
    | (go_at_call 47; ((with_reducible refine (k2 _).mono ?_); rintro e w' ⟨rfl, rfl⟩))
    | ((first
        | (go_at_call 48; (with_reducible refine (k1 _).mono ?_))
        | (go_at_call 50; (with_reducible refine (k3 _).mono ?_))
        | (go_at_call 49; (with_reducible refine (k4 _).mono ?_)))
       rintro e w1 ⟨rfl, hb⟩; replace e0 := bfree hb d0 e0; replace e1 := bfree hb d1 e1; replace d0 := bkeep hb d0; replace d1 := bkeep hb d1; replace c0 := bkeep hb c0; replace c1 := bkeep hb c1; replace hB := bthen hB hb; clear hb))
  exact bodyPost_ret (v := .tuple #[.agg #[.int .u64 (enc z.a), .int .u64 (enc z.b)], .bool true]) (by simp [results, Try.results28, go_sem, d0, d1]) rfl ⟨rfl, (hB.setCell (by simp) _).setCell (by simp) _⟩

/-- What is left to do: out times base to the k. -/
def QPowInv (x : F2) (n : Int) (k : Int) (o b : F2) : Prop := o * qpow b k.toNat = qpow x n.toNat
theorem qpowInv_start (x : F2) (n : Int) : QPowInv x n n 1 x := by unfold QPowInv; rw [F2.one_mul]
theorem qpowInv_end {x : F2} {n : Int} {o b : F2} (h : QPowInv x n 0 o b) : o = qpow x n.toNat := by unfold QPowInv at h; rw [← h]; exact (F2.mul_one _).symm
theorem qpowInv_odd {x : F2} {n k : Int} {o b : F2} (h0 : 0 < k) (h : k % 2 = 1) (hp : QPowInv x n k o b) : QPowInv x n (k / 2) (o * b) (b * b) := by
  unfold QPowInv at *
  rw [← hp, qpow_two, show k.toNat = 2 * (k / 2).toNat + 1 by omega, qpow_succ]
  simp only [F2.mul_assoc, F2.mul_comm]
theorem qpowInv_even {x : F2} {n k : Int} {o b : F2} (h0 : 0 < k) (h : ¬ k % 2 = 1) (hp : QPowInv x n k o b) : QPowInv x n (k / 2) o (b * b) := by
  unfold QPowInv at *
  rw [← hp, qpow_two, show k.toNat = 2 * (k / 2).toNat by omega]

/-- The loop of a power: the number that is left, the base's variable, and what both variables hold. -/
def PowHead (w : World) (x : F2) (n : Int) (g4 g5 : Nat) (i bp : Value) (W : World) : Prop :=
  ∃ (k : Int) (g6 : Nat) (ba bb : Int) (o b : F2), U k ∧ QPowInv x n k o b ∧ Rep ba bb b ∧ i = .int .u64 k ∧ bp = .pointer (some ⟨g6, 0, none⟩) ∧
    Below w.heap.size w W ∧ Var W g4 0 0 ∧ Var W g5 (enc o.a) (enc o.b) ∧ Var W g6 ba bb ∧ g6 ≠ g4 ∧ g6 ≠ g5 ∧ w.heap.size ≤ g6

set_option maxHeartbeats 1000000 in
theorem ppow_q (a b n : Int) (x : F2) (hx : Rep a b x) (hn : U n) (w : World) : Calls Try.prog 30 #[.agg #[.int .u64 a, .int .u64 b], .int .u64 n] w fun e w' => e = .returned (.agg #[.int .u64 (enc (qpow x n.toNat).a), .int .u64 (enc (qpow x n.toNat).b)]) ∧ Below w.heap.size w w' := by
  have hs := qpowInv_start x n
  have k1 := lift_q 1 1 (U_lit _ rfl rfl) (by decide +kernel)
  go_enter Try.func30, Try.ntmps30
  go_upto_region 1 with fail
  refine wp_gen (fun W => Below w.heap.size w W ∧ Var W w.heap.size a b ∧ Var W (w.heap.size + 1) 0 0) ⟨((Below.refl _ _).alloc (Nat.le_refl _) _).alloc (by simp) _, by simp [Var, go_sem], by simp [Var, go_sem]⟩ ?_
  rintro W ⟨hB, hV, hR⟩
  go_upto_region 2 with ((go_at_call 31; ((with_reducible refine (k1 _).mono ?_); rintro e w1 ⟨rfl, hb⟩; replace hV := hV.keep hb; replace hR := hR.keep hb; replace hB := bthen hB hb; clear hb)))
  refine wp_gen (fun W => Below w.heap.size w W ∧ Var W w.heap.size a b ∧ Var W (w.heap.size + 1) 0 0 ∧ Var W w1.heap.size (enc (1 : F2).a) (enc (1 : F2).b)) ⟨hB.alloc hB.size _, hV.alloc _, hR.alloc _, Var.new _ _ _ _⟩ ?_
  have lt5 := hB.size
  have l4 := hR.lt
  generalize w1.heap.size = g5 at *
  clear hB hV hR
  rintro W ⟨hB, hV, hR, hO⟩
  have hlt := hO.lt
  obtain ⟨c0, c1, f0, f1⟩ := hV
  go_upto_region 3 with fail
  clear c0 c1 f0 f1
  go_loopw [1, 6] (PowHead w x n (w.heap.size + 1) g5) (fun i _ _ => (intOf i).toNat)
  case atStart => exact ⟨n, W.heap.size, a, b, 1, x, hn, hs, hx, rfl, rfl, hB.alloc hB.size _, hR.alloc _, hO.alloc _, Var.new _ _ _ _, by omega, by omega, hB.size⟩
  case round =>
    clear hB hR hO hs hx hn k1
    obtain ⟨k, g6, ba, bb, o, q, hk, hp, hq, rfl, rfl, hB, h4, h5, h6, n4, n5, n0⟩ := hrel
    have m1 := pmul_q (enc o.a) (enc o.b) ba bb o q _ (rep_enc o) hq rfl
    have m2 := pmul_q ba bb ba bb q q _ hq hq rfl
    have hk0 := hk.1
    have hb1 := and1 k hk
    have l5 := h5.lt
    have l6 := h6.lt
    by_cases h0 : 0 < k
    · have hk2 : U (k / 2) := by unfold U at *; omega
      by_cases h1 : k % 2 = 1
      · have HP := Lib.hid (qpowInv_odd h0 h1 hp)
        rw [h1] at hb1
        clear h1 hp
        obtain ⟨c0, c1, f0, f1⟩ := h5
        obtain ⟨d0, d1, e0, e1⟩ := h6
        go_upto_region 7 with ((go_at_call 32; ((with_reducible refine (m1 _).mono ?_); rintro e w1 ⟨rfl, hb⟩; replace f0 := bfree hb c0 f0; replace f1 := bfree hb c1 f1; replace c0 := bkeep hb c0; replace c1 := bkeep hb c1; replace e0 := bfree hb d0 e0; replace e1 := bfree hb d1 e1; replace d0 := bkeep hb d0; replace d1 := bkeep hb d1; replace h4 := h4.keep hb; replace hB := bthen hB hb; clear hb)))
        refine wp_gen (fun W => Below w.heap.size w W ∧ Var W (w.heap.size + 1) 0 0 ∧ Var W g5 (enc (o * q).a) (enc (o * q).b) ∧ Var W g6 ba bb) ⟨(hB.setCell (by simp; omega) _).setCell (by simp; omega) _, (h4.far (by omega) _ _).far (by omega) _ _, Var.set ⟨c0, c1, f0, f1⟩ _ _, (Var.far ⟨d0, d1, e0, e1⟩ (by omega) _ _).far (by omega) _ _⟩ ?_
        clear hB h4 c0 c1 f0 f1 d0 d1 e0 e1
        rintro W2 ⟨hB, h4, h5, ⟨d0, d1, e0, e1⟩⟩
        go_upto_region 8 with ((go_at_call 32; ((with_reducible refine (m2 _).mono ?_); rintro e w1 ⟨rfl, hb⟩; replace e0 := bfree hb d0 e0; replace e1 := bfree hb d1 e1; replace d0 := bkeep hb d0; replace d1 := bkeep hb d1; replace h4 := h4.keep hb; replace h5 := h5.keep hb; replace hB := bthen hB hb; clear hb)))
        refine wp_gen (fun W => Below w.heap.size w W ∧ Var W (w.heap.size + 1) 0 0 ∧ Var W g5 (enc (o * q).a) (enc (o * q).b) ∧ Var W g6 (enc (q * q).a) (enc (q * q).b)) ⟨(hB.setCell (by simp; omega) _).setCell (by simp; omega) _, (h4.far (by omega) _ _).far (by omega) _ _, (h5.far (by omega) _ _).far (by omega) _ _, Var.set ⟨d0, d1, e0, e1⟩ _ _⟩ ?_
        clear hB h4 h5 d0 d1 e0 e1
        rintro W3 ⟨hB, h4, h5, ⟨d0, d1, e0, e1⟩⟩
        go_wp2
        go_roundw
        case rel => exact ⟨k / 2, W3.heap.size, _, _, o * q, q * q, hk2, HP.out, rep_enc _, rfl, rfl, hB.alloc hB.size _, h4.alloc _, h5.alloc _, Var.new _ _ _ _, by have := h4.lt; omega, by have := h5.lt; omega, hB.size⟩
        case measure => simp [intOf]; omega
      · have HP := Lib.hid (qpowInv_even h0 h1 hp)
        have hb2 : bits .and .u64 k 1 = 0 := by omega
        clear h1 hp hb1
        obtain ⟨d0, d1, e0, e1⟩ := h6
        go_upto_region 8 with ((go_at_call 32; ((with_reducible refine (m2 _).mono ?_); rintro e w1 ⟨rfl, hb⟩; replace e0 := bfree hb d0 e0; replace e1 := bfree hb d1 e1; replace d0 := bkeep hb d0; replace d1 := bkeep hb d1; replace h4 := h4.keep hb; replace h5 := h5.keep hb; replace hB := bthen hB hb; clear hb)))
        refine wp_gen (fun W => Below w.heap.size w W ∧ Var W (w.heap.size + 1) 0 0 ∧ Var W g5 (enc o.a) (enc o.b) ∧ Var W g6 (enc (q * q).a) (enc (q * q).b)) ⟨(hB.setCell (by simp; omega) _).setCell (by simp; omega) _, (h4.far (by omega) _ _).far (by omega) _ _, (h5.far (by omega) _ _).far (by omega) _ _, Var.set ⟨d0, d1, e0, e1⟩ _ _⟩ ?_
        clear hB h4 h5 d0 d1 e0 e1
        rintro W3 ⟨hB, h4, h5, ⟨d0, d1, e0, e1⟩⟩
        go_wp2
        go_roundw
        case rel => exact ⟨k / 2, W3.heap.size, _, _, o, q * q, hk2, HP.out, rep_enc _, rfl, rfl, hB.alloc hB.size _, h4.alloc _, h5.alloc _, Var.new _ _ _ _, by have := h4.lt; omega, by have := h5.lt; omega, hB.size⟩
        case measure => simp [intOf]; omega
    · obtain rfl : k = 0 := by omega
      have HP := Lib.hid (qpowInv_end hp)
      clear hp hb1
      obtain ⟨c0, c1, f0, f1⟩ := h5
      obtain ⟨d0, d1, e0, e1⟩ := h4
      go_wp2
      refine bodyPost_ret (v := .agg #[.int .u64 (enc o.a), .int .u64 (enc o.b)]) (by simp [results, Try.results30, go_sem, d0, d1]) rfl ⟨by rw [← HP.out], (hB.setCell (by simp) _).setCell (by simp) _⟩
end Go.Proofs.Yteleepblfipncaa
