/-
  What the document's Right of layer 22 comes to.
-/
import Derived.Test.YteghnaocncmiaaaJudgeM
namespace Go.Proofs.Yteghnaocncmiaaa
open Go Go.RowKit
set_option linter.unusedVariables false

theorem pw_cast (M : Nat) : (2 : Int) ^ M = ((2 ^ M : Nat) : Int) := by simp
theorem pw_wrap (M : Nat) (h : M ≤ 40) : wrap64 ((2 : Int) ^ M) = ((2 ^ M : Nat) : Int) := by
  have h1 : 2 ^ M ≤ 2 ^ 40 := Nat.pow_le_pow_right (by decide) h
  rw [pw_cast]
  generalize 2 ^ M = x at *
  exact IntWalk.wrap64_in _ (by omega)
theorem w_add (a b : Nat) (ha : a ≤ 1000000000) (hb : b ≤ 1000000000) : IntKind.i64.wrap ((a : Int) + (b : Int)) = ((a + b : Nat) : Int) ∧ wrap64 ((a : Int) + (b : Int)) = ((a + b : Nat) : Int) :=
  ⟨by rw [IntWalk.i64_in _ (by omega)]; omega, by rw [IntWalk.wrap64_in _ (by omega)]; omega⟩
theorem w_sub (a b : Nat) (h : b ≤ a) (ha : a ≤ 1000000000) : IntKind.i64.wrap ((a : Int) - (b : Int)) = ((a - b : Nat) : Int) ∧ wrap64 ((a : Int) - (b : Int)) = ((a - b : Nat) : Int) :=
  ⟨by rw [IntWalk.i64_in _ (by omega)]; omega, by rw [IntWalk.wrap64_in _ (by omega)]; omega⟩
theorem w_sub1 (a : Nat) (h : 1 ≤ a) (ha : a ≤ 1000000000) : IntKind.i64.wrap ((a : Int) - 1) = ((a - 1 : Nat) : Int) ∧ wrap64 ((a : Int) - 1) = ((a - 1 : Nat) : Int) :=
  ⟨by rw [IntWalk.i64_in _ (by omega)]; omega, by rw [IntWalk.wrap64_in _ (by omega)]; omega⟩
theorem w_sub2 (a : Nat) (h : 2 ≤ a) (ha : a ≤ 1000000000) : IntKind.i64.wrap ((a : Int) - 2) = ((a - 2 : Nat) : Int) ∧ wrap64 ((a : Int) - 2) = ((a - 2 : Nat) : Int) :=
  ⟨by rw [IntWalk.i64_in _ (by omega)]; omega, by rw [IntWalk.wrap64_in _ (by omega)]; omega⟩
theorem w_less (a : Nat) (ha : a ≤ 1000000000) : IntKind.i64.wrap ((a : Int) - 1) = (a : Int) - 1 ∧ wrap64 ((a : Int) - 1) = (a : Int) - 1 :=
  ⟨IntWalk.i64_in _ (by omega), IntWalk.wrap64_in _ (by omega)⟩
theorem w_one (a : Nat) (ha : a ≤ 1000000000) : IntKind.i64.wrap ((a : Int) + 1) = ((a + 1 : Nat) : Int) ∧ wrap64 ((a : Int) + 1) = ((a + 1 : Nat) : Int) :=
  ⟨by rw [IntWalk.i64_in _ (by omega)]; omega, by rw [IntWalk.wrap64_in _ (by omega)]; omega⟩
theorem w_u64 (a : Nat) (ha : a ≤ 1000000000) : IntKind.u64.wrap (a : Int) = (a : Int) := by rw [IntKind.wrap_u64]; omega
def RjBox (W : World) (g : Nat) (bl fo qu gr : Int) : Prop := W.cell? ⟨g, 0, none⟩ = some (.int .i64 bl) ∧ W.cell? ⟨g, 1, none⟩ = some (.int .i64 fo) ∧ W.cell? ⟨g, 2, none⟩ = some (.int .i64 qu) ∧ W.cell? ⟨g, 3, none⟩ = some (.int .i64 gr)
theorem RjBox.keep {W W' : World} {g : Nat} {bl fo qu gr : Int} (h : RjBox W g bl fo qu gr) (hb : Below W.heap.size W W') : RjBox W' g bl fo qu gr := ⟨bkeep hb h.1, bkeep hb h.2.1, bkeep hb h.2.2.1, bkeep hb h.2.2.2⟩
set_option maxRecDepth 100000 in
set_option maxHeartbeats 8000000 in
theorem rjright_is (k bl fo qu gr : Int) (a : Option Addr) (n c : Nat) (pl : Int) (la : Option Addr) (ln lc : Nat) (fa : Option Addr) (fn fc : Nat) (r : Bool) (w : World) (hr : decide (rightJ k bl fo n pl ln fn) = r) :
    Calls Try.prog 10 #[.int .i64 k, .agg #[.int .i64 bl, .int .i64 fo, .int .i64 qu, .int .i64 gr], .slice a n c, .int .i64 pl, .slice la ln lc, .slice fa fn fc] w fun e w' => e = .returned (.bool r) ∧ Below w.heap.size w w' := by
  have HNO : Hid (¬ rightJ k bl fo n pl ln fn → false = r) := Lib.hid fun h => by rw [← hr]; exact (decide_eq_false h).symm
  have HYES : Hid (rightJ k bl fo n pl ln fn → true = r) := Lib.hid fun h => by rw [← hr]; exact (decide_eq_true h).symm
  clear hr
  go_enter Try.func10, Try.ntmps10
  go_upto_region 1 with fail
  obtain ⟨g, hg⟩ : ∃ g, w.heap.size = g := ⟨_, rfl⟩
  refine wp_gen (fun W => Below w.heap.size w W ∧ RjBox W g bl fo qu gr) ⟨(Below.refl _ _).alloc (Nat.le_refl _) _, by subst hg; simp [RjBox, go_sem]⟩ ?_
  rintro w0 ⟨hB0, c0, c1, c2, c3⟩
  simp only [hg]
  have HB := Lib.hid hB0
  clear hB0 hg
  by_cases h1 : k < 0
  · have e := HNO.out (fun h => by have := h.1.1; omega)
    subst e
    clear HNO HYES
    go_wp2_with fail
    go_ret
    exact ⟨rfl, HB.out⟩
  by_cases h2 : 10 < k
  · have e := HNO.out (fun h => by have := h.1.2.1; omega)
    subst e
    clear HNO HYES
    go_wp2_with fail
    go_ret
    exact ⟨rfl, HB.out⟩
  by_cases h3 : bl < 1
  · have e := HNO.out (fun h => by have := h.1.2.2.1; omega)
    subst e
    clear HNO HYES
    go_wp2_with fail
    go_ret
    exact ⟨rfl, HB.out⟩
  by_cases h4 : 4 < bl
  · have e := HNO.out (fun h => by have := h.1.2.2.2.1; omega)
    subst e
    clear HNO HYES
    go_wp2_with fail
    go_ret
    exact ⟨rfl, HB.out⟩
  by_cases h5 : fo < 0
  · have e := HNO.out (fun h => by have := h.1.2.2.2.2.1; omega)
    subst e
    clear HNO HYES
    go_wp2_with fail
    go_ret
    exact ⟨rfl, HB.out⟩
  by_cases h6 : k < fo
  · have e := HNO.out (fun h => by have := h.1.2.2.2.2.2; omega)
    subst e
    clear HNO HYES
    go_wp2_with fail
    go_ret
    exact ⟨rfl, HB.out⟩
  obtain ⟨K, rfl⟩ := Int.eq_ofNat_of_zero_le (show 0 ≤ k by omega)
  obtain ⟨B, rfl⟩ := Int.eq_ofNat_of_zero_le (show 0 ≤ bl by omega)
  obtain ⟨O, rfl⟩ := Int.eq_ofNat_of_zero_le (show 0 ≤ fo by omega)
  have b1 : K ≤ 10 := by omega
  have b2 : 1 ≤ B ∧ B ≤ 4 := by omega
  have b3 : O ≤ K := by omega
  obtain ⟨M, hM⟩ : ∃ M, K + B = M := ⟨_, rfl⟩
  have hM1 : 1 ≤ M ∧ M ≤ 14 := by omega
  have HJ : Hid (rightJ (K : Int) (B : Int) (O : Int) n pl ln fn ↔ ((n : Int) = (O : Int) ∧ 0 ≤ pl ∧ pl < ((2 ^ (M - 1) : Nat) : Int) ∧ (ln : Int) = max 0 ((O : Int) - 1) ∧ (fn : Int) = ((2 ^ (K - O) : Nat) : Int))) := Lib.hid (by
    have e1 : ((K : Int) + (B : Int) - 1).toNat = M - 1 := by omega
    have e2 : ((K : Int) - (O : Int)).toNat = K - O := by omega
    unfold rightJ
    rw [e1, e2]
    exact ⟨fun h => h.2, fun h => ⟨⟨by omega, by omega, by omega, by omega, by omega, by omega⟩, h⟩⟩)
  obtain ⟨w1, w1'⟩ := w_add K B (by omega) (by omega)
  rw [hM] at w1 w1'
  have hMd : M - 1 ≤ 40 := by omega
  have hKd : K - O ≤ 40 := by omega
  have g1 := w_sub1 M hM1.1 (by have := hM1.2; omega)
  have g2 := w_sub K O b3 (by omega)
  have g3 := w_u64 (M - 1) (by omega)
  have g4 := w_u64 (K - O) (by omega)
  have g5 := w_less O (by omega)
  have g6 := pw_wrap (M - 1) hMd
  have g7 := pw_wrap (K - O) hKd
  obtain ⟨m1, hm1⟩ : ∃ m, M - 1 = m := ⟨_, rfl⟩
  obtain ⟨d, hd⟩ : ∃ m, K - O = m := ⟨_, rfl⟩
  rw [hm1] at g1 g3 g6 HJ hMd
  rw [hd] at g2 g4 g7 HJ hKd
  obtain ⟨X, hX⟩ : ∃ X, 2 ^ m1 = X := ⟨_, rfl⟩
  obtain ⟨Y, hY⟩ : ∃ X, 2 ^ d = X := ⟨_, rfl⟩
  rw [hX] at g6 HJ
  rw [hY] at g7 HJ
  obtain ⟨g1, g1'⟩ := g1
  obtain ⟨g2, g2'⟩ := g2
  obtain ⟨g5, g5'⟩ := g5
  clear hM hM1 hm1 hd hX hY b1 b2 b3
  go_upto_region 3 with fail
  clear h1 h2 h3 h4 h5 h6
  by_cases n1 : (n : Int) = (O : Int)
  case neg =>
    have e := HNO.out (fun h => n1 (HJ.out.1 h).1)
    subst e
    clear HNO HYES HJ
    go_wp2_with fail
    go_ret
    exact ⟨rfl, HB.out⟩
  by_cases n2 : 0 ≤ pl
  case neg =>
    have e := HNO.out (fun h => n2 (HJ.out.1 h).2.1)
    subst e
    clear HNO HYES HJ
    go_wp2_with fail
    go_ret
    exact ⟨rfl, HB.out⟩
  by_cases n3 : pl < (X : Int)
  case neg =>
    have e := HNO.out (fun h => n3 (HJ.out.1 h).2.2.1)
    subst e
    clear HNO HYES HJ
    go_wp2_with fail
    go_ret
    exact ⟨rfl, HB.out⟩
  by_cases n4 : (ln : Int) = max 0 ((O : Int) - 1)
  case neg =>
    have e := HNO.out (fun h => n4 (HJ.out.1 h).2.2.2.1)
    subst e
    clear HNO HYES HJ
    go_wp2_with fail
    go_ret
    exact ⟨rfl, HB.out⟩
  by_cases n5 : (fn : Int) = (Y : Int)
  case neg =>
    have e := HNO.out (fun h => n5 (HJ.out.1 h).2.2.2.2)
    subst e
    clear HNO HYES HJ
    go_wp2_with fail
    go_ret
    exact ⟨by first | rfl | (simp; exact n5) | (simp; omega) | (rw [beq_eq_false_iff_ne.2 n5]; rfl), HB.out⟩
  have e := HYES.out (HJ.out.2 ⟨n1, n2, n3, n4, n5⟩)
  subst e
  clear HNO HYES HJ
  go_wp2_with fail
  go_ret
  exact ⟨rfl, HB.out⟩
end Go.Proofs.Yteghnaocncmiaaa
