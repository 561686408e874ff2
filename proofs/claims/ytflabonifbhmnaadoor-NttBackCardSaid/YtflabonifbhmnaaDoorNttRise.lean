/-
  What the method rise comes to: each number, and each pair, times a first number and as many of another as stand ahead of it.
-/
import Derived.Test.YtflabonifbhmnaaDoorBut
import Derived.Test.YtflabonifbhmnaaDoorPow
import Derived.Test.YtflabonifbhmnaaDoorPairPow
namespace Go.Proofs.YtflabonifbhmnaaDoor
open Go.RowKit
set_option linter.unusedVariables false

abbrev addU : Value := .func (.func 43) #[] #[]
abbrev subU : Value := .func (.func 44) #[] #[]
abbrev mulU' : Value := .func (.func 45) #[] #[]
abbrev kindU : Value := .agg #[addU, subU, mulU']
abbrev addQ : Value := .func (.func 53) #[] #[]
abbrev subQ : Value := .func (.func 54) #[] #[]
abbrev scaleQ : Value := .func (.func 55) #[] #[]
abbrev kindQ : Value := .agg #[addQ, subQ, scaleQ]

/-- Numbers under way: the first m are done. -/
def RiseRel (w : World) (g n : Nat) (z : Nat → Int) (r : Nat → Int) (f b : F) (i0 i : Value) (W : World) : Prop :=
  ∃ (m : Nat) (y : Int), m ≤ n ∧ i = .int .i64 m ∧ i0 = .int .u64 y ∧ U y ∧ toF y = f * fpow b m ∧ But g w W ∧ W.cell? ⟨w.heap.size, 2, none⟩ = some mulU' ∧ Arr W g n (fun j => .int .u64 (if j < m then r j else z j))
theorem rise_fin {n m : Nat} {z r : Nat → Int} {v : Int} (hv : r m = v) : ∀ j, j < n → (if j = m then Value.int .u64 v else .int .u64 (if j < m then r j else z j)) = .int .u64 (if j < m + 1 then r j else z j) := by
  intro j hj
  by_cases h : j = m
  · subst h; rw [if_pos rfl, if_pos (by omega), hv]
  · rw [if_neg h]
    by_cases h2 : j < m
    · rw [if_pos h2, if_pos (by omega)]
    · rw [if_neg h2, if_neg (by omega)]

set_option maxHeartbeats 4000000 in
theorem rise_u (g n cap : Nat) (hn : n ≤ 1048576) (h0 : 0 < n) (x : Nat → F) (fi bi : Int) (hf : U fi) (hb : U bi) (f b : F) (hf2 : toF fi = f) (hb2 : toF bi = b) (cc : Bool) (w : World) (h : ArrF cc w g n x) :
    Calls Tryd.prog 34 #[kindU, .slice (some ⟨g, 0, none⟩) n cap, .int .u64 fi, .int .u64 bi] w fun e w' => e = .returned (.tuple #[]) ∧ But g w w' ∧ Arr w' g n (fun j => .int .u64 (enc (x j * (f * fpow b j)))) := by
  obtain ⟨z, hA, hz⟩ := h
  have hg := hA.lt h0
  have HZ := Lib.hid hz
  have HR := Lib.hid (fun j => (rfl : enc (x j * (f * fpow b j)) = enc (x j * (f * fpow b j))))
  have H0 := Lib.hid (hA.alloc (.cells #[addU, subU, mulU'] 44))
  have HF := Lib.hid hf2; have HB2 := Lib.hid hb2
  clear hA hz hf2 hb2
  go_enter Tryd.func34, Tryd.ntmps34
  go_wp2_with fail
  go_loopw [2, 12] (RiseRel w g n z (fun j => enc (x j * (f * fpow b j))) f b) (fun _ i _ => n - (intOf i).toNat)
  case atStart => exact ⟨0, fi, Nat.zero_le _, rfl, rfl, hf, by rw [HF.out, fpow_zero]; grind, (But.refl _ _).alloc _, by simp [go_sem], H0.out.same (fun j hj => by rw [if_neg (Nat.not_lt_zero _)])⟩
  case round =>
    obtain ⟨m, y, hm, rfl, rfl, hU, hy, hB, hc, hA⟩ := hrel
    by_cases hlt : m < n
    · have hz := HZ.out m hlt
      have m1 := mul_is (z m) y (enc (x m * (f * fpow b m))) hz.1 hU (by rw [hz.2.1, hy])
      have m2 := mul_is y bi (enc (f * fpow b (m + 1))) hU hb (by rw [hy, HB2.out, fpow_succ]; congr 1; grind)
      have HA := Lib.hid ((hA.set m (.int .u64 (enc (x m * (f * fpow b m)))) hlt).same (rise_fin (r := fun j => enc (x j * (f * fpow b j))) rfl))
      have HC := Lib.hid ((World.cell?_setCell_far wr ⟨g, m, none⟩ ⟨w.heap.size, 2, none⟩ (.int .u64 (enc (x m * (f * fpow b m)))) (by show g ≠ w.heap.size; omega)).trans hc)
      have HB := Lib.hid hB
      obtain ⟨c0, f0⟩ := hA m hlt
      dsimp only at c0
      rw [if_neg (Nat.lt_irrefl _)] at c0
      clear hA hB hz hy
      go_wp2_with (go_at_call 45; ((first | (with_reducible refine (m1 _).mono ?_) | (with_reducible refine (m2 _).mono ?_)); rintro e w' ⟨rfl, rfl⟩))
      go_roundw
      case rel => exact ⟨m + 1, _, by omega, by go_num, rfl, enc_U _, toF_enc _, HB.out.setCell (Or.inl rfl) _, HC.out, HA.out⟩
      case measure => simp [intOf]; omega
    · have : m = n := by omega
      subst this
      have HA := Lib.hid (hA.same (f' := fun j => .int .u64 (enc (x j * (f * fpow b j)))) (fun j hj => by rw [if_pos hj]))
      have HB := Lib.hid hB
      clear hA hB
      go_wp2_with fail
      go_end0
      exact ⟨rfl, HB.out, HA.out⟩

/-- Pairs under way: the first m are done. -/
def RiseRelQ (w : World) (g n : Nat) (z : Nat → Int × Int) (r : Nat → F2) (f b : F) (i0 i : Value) (W : World) : Prop :=
  ∃ (m : Nat) (y : Int), m ≤ n ∧ i = .int .i64 m ∧ i0 = .int .u64 y ∧ U y ∧ toF y = f * fpow b m ∧ But g w W ∧ w.heap.size < W.heap.size ∧ W.cell? ⟨w.heap.size, 2, none⟩ = some scaleQ ∧ Arr W g (n * 2) (pc fun j => if j < m then encP (r j) else z j)
theorem riseq_fin {n m : Nat} {z : Nat → Int × Int} {r : Nat → F2} {v : F2} (hv : r m = v) : ∀ j, j < n → (if j = m then (enc v.a, enc v.b) else if j < m then encP (r j) else z j) = if j < m + 1 then encP (r j) else z j := by
  intro j hj
  by_cases h : j = m
  · subst h; rw [if_pos rfl, if_pos (by omega), ← hv]; rfl
  · rw [if_neg h]
    by_cases h2 : j < m
    · rw [if_pos h2, if_pos (by omega)]
    · rw [if_neg h2, if_neg (by omega)]

set_option maxHeartbeats 4000000 in
theorem rise_q (g n cap : Nat) (hn : n ≤ 1048576) (h0 : 0 < n) (x : Nat → F2) (fi bi : Int) (hf : U fi) (hb : U bi) (f b : F) (hf2 : toF fi = f) (hb2 : toF bi = b) (cc : Bool) (w : World) (h : ArrQ cc w g n x) :
    Calls Tryd.prog 56 #[kindQ, .slice (some ⟨g, 0, none⟩) n cap, .int .u64 fi, .int .u64 bi] w fun e w' => e = .returned (.tuple #[]) ∧ But g w w' ∧ Arr w' g (n * 2) (pc fun j => encP (scale (x j) (f * fpow b j))) := by
  obtain ⟨z, hA, hz⟩ := h
  have hg := hA.lt (by omega)
  have HZ := Lib.hid hz
  have H0 := Lib.hid (hA.alloc (.cells #[addQ, subQ, scaleQ] 57))
  have HF := Lib.hid hf2; have HB2 := Lib.hid hb2
  clear hA hz hf2 hb2
  go_enter Tryd.func56, Tryd.ntmps56
  go_wp2_with fail
  go_loopw [2, 12] (RiseRelQ w g n z (fun j => scale (x j) (f * fpow b j)) f b) (fun _ i _ => n - (intOf i).toNat)
  case atStart => exact ⟨0, fi, Nat.zero_le _, rfl, rfl, hf, by rw [HF.out, fpow_zero]; grind, (But.refl _ _).alloc _, by simp, by simp [go_sem], H0.out.same (pc_same fun j hj => by rw [if_neg (Nat.not_lt_zero _)])⟩
  case round =>
    obtain ⟨m, y, hm, rfl, rfl, hU, hy, hB, hs, hc, hA⟩ := hrel
    by_cases hlt : m < n
    · have hz := HZ.out m hlt
      have m1 := pscale_q (z m).1 (z m).2 y (x m) (scale (x m) (f * fpow b m)) hz.1 hU (by rw [hy])
      have m2 := mul_is y bi (enc (f * fpow b (m + 1))) hU hb (by rw [hy, HB2.out, fpow_succ]; congr 1; grind)
      obtain ⟨c0, c1, f0, f1⟩ := hA.cells m hlt
      rw [if_neg (Nat.lt_irrefl _)] at c0 c1
      clear hz hy
      generalize hZ : z m = zm at *
      obtain ⟨z0, z1⟩ := zm
      dsimp only at c0 c1 m1
      go_upto_region 4 with fail
      refine wp_gen (fun W => But g w W ∧ w.heap.size < W.heap.size ∧ W.cell? ⟨w.heap.size, 2, none⟩ = some scaleQ ∧ Arr W g (n * 2) (pc fun j => if j < m then encP (scale (x j) (f * fpow b j)) else z j) ∧ Var W wr.heap.size z0 z1) ⟨hB.alloc _, by simp; omega, by simp [go_sem, hc, hs], hA.alloc _, Var.new _ _ _ _⟩ ?_
      clear hB hs hc hA c0 c1 f0 f1
      rintro W ⟨hB, hs, hc, hA, ⟨v0, v1, w0, w1⟩⟩
      go_upto_region 5 with ((go_at_call 55; ((with_reducible refine (m1 _).mono ?_); rintro e W1 ⟨rfl, hb1⟩; replace hA := hA.keep hb1; replace hc := bkeep hb1 hc; replace hs := Nat.lt_of_lt_of_le hs hb1.size; replace hB := hB.then hb1; obtain ⟨c0, c1, f0, f1⟩ := hA.cells m hlt; clear hb1 v0 v1 w0 w1)))
      refine wp_gen (fun W => But g w W ∧ w.heap.size < W.heap.size ∧ W.cell? ⟨w.heap.size, 2, none⟩ = some scaleQ ∧ Arr W g (n * 2) (pc fun j => if j < m + 1 then encP (scale (x j) (f * fpow b j)) else z j)) ⟨(hB.setCell (Or.inl rfl) _).setCell (Or.inl rfl) _, by simp; exact hs, (World.cell?_setCell_far _ _ _ _ (by show g ≠ w.heap.size; omega)).trans ((World.cell?_setCell_far _ _ _ _ (by show g ≠ w.heap.size; omega)).trans hc), (hA.setq m _ _ hlt).same (pc_same (riseq_fin (r := fun j => scale (x j) (f * fpow b j)) rfl))⟩ ?_
      clear hB hs hc hA c0 c1 f0 f1
      rintro W2 ⟨hB, hs, hc, hA⟩
      go_wp2_with (go_at_call 45; ((with_reducible refine (m2 _).mono ?_); rintro e w' ⟨rfl, rfl⟩))
      go_roundw
      case rel => exact ⟨m + 1, _, by omega, by go_num, rfl, enc_U _, toF_enc _, hB, hs, hc, hA⟩
      case measure => simp [intOf]; omega
    · have : m = n := by omega
      subst this
      have HA := Lib.hid (hA.same (pc_same (y := fun j => encP (scale (x j) (f * fpow b j))) (fun j hj => by rw [if_pos hj])))
      have HB := Lib.hid hB
      clear hA hB
      go_wp2_with fail
      go_end0
      exact ⟨rfl, HB.out, HA.out⟩
end Go.Proofs.YtflabonifbhmnaaDoor
