/-
  What the document's Judge of layer 22 comes to, whatever it is given.
-/
import Derived.Test.YteghnaocncmiaaaJudgeRefJ
namespace Go.Proofs.Yteghnaocncmiaaa
open Go Go.RowKit Go.Sort Go.BigFrame
set_option linter.unusedVariables false

set_option maxRecDepth 100000 in
set_option maxHeartbeats 8000000 in
theorem rjwrong_is (k bl fo qu gr : Int) (a : Option Addr) (n c : Nat) (pl : Int) (first : Quad) (la : Option Addr) (ln lc : Nat) (fa : Option Addr) (fn fc : Nat) (w : World) (hj : ¬ rightJ k bl fo n pl ln fn) :
    Calls Try.prog 12 #[.int .i64 k, .agg #[.int .i64 bl, .int .i64 fo, .int .i64 qu, .int .i64 gr], .slice a n c, .int .i64 pl, quadV first, .slice la ln lc, .slice fa fn fc] w fun e w' => e = .returned (.bool false) ∧ Below w.heap.size w w' := by
  have kR := fun W => rjright_is k bl fo qu gr a n c pl la ln lc fa fn fc false W (decide_eq_false hj)
  obtain ⟨⟨q0, q1⟩, ⟨q2, q3⟩⟩ := first
  clear hj
  go_enter Try.func12, Try.ntmps12
  go_upto_region 1 with fail
  obtain ⟨g, hg⟩ : ∃ g, w.heap.size = g := ⟨_, rfl⟩
  obtain ⟨g', hg'⟩ : ∃ h, g + 1 = h := ⟨_, rfl⟩
  refine wp_gen (fun W => Below w.heap.size w W ∧ RjBox W g bl fo qu gr ∧ QuadC W g' ((q0, q1), (q2, q3))) ⟨((Below.refl _ _).alloc (Nat.le_refl _) _).alloc (by simp) _, by subst hg' hg; simp [RjBox, go_sem], by subst hg' hg; simp [QuadC, go_sem]⟩ ?_
  rintro w0 ⟨hB0, hP, hQ⟩
  simp only [hg, hg']
  have HB := Lib.hid hB0
  obtain ⟨c0, c1, c2, c3⟩ := hP
  obtain ⟨d0, d1, d2, d3⟩ := hQ
  clear hB0 hg hg'
  go_wp2_with (go_at_call 10; (with_reducible refine (kR _).mono ?_); rintro e w1 ⟨rfl, hb⟩; replace c0 := bkeep hb c0; replace c1 := bkeep hb c1; replace d0 := bkeep hb d0; replace d1 := bkeep hb d1; replace d2 := bkeep hb d2; replace d3 := bkeep hb d3; replace HB := Lib.hid (bthen HB.out hb); clear hb)
  go_ret
  exact ⟨rfl, HB.out⟩
theorem rjjudge_is (k bl fo qu gr : Int) (a : Option Addr) (n c : Nat) (bys : QL) (pl : Int) (first : Quad) (la : Option Addr) (ln lc : Nat) (layers : List Quad) (fa : Option Addr) (fn fc : Nat) (fin : QL) (r : Bool) (w : World) (hby : QRowA w a n bys) (hbu : ∀ n ∈ bys, U n.1 ∧ U n.2) (hq : UsQ first) (hly : QuadsA w la ln layers) (hlu : ∀ q ∈ layers, UsQ q) (hf : QRowA w fa fn fin) (hfu : ∀ n ∈ fin, U n.1 ∧ U n.2)
    (hr : judgeB k bl fo bys pl first layers fin = r) :
    Calls Try.prog 12 #[.int .i64 k, .agg #[.int .i64 bl, .int .i64 fo, .int .i64 qu, .int .i64 gr], .slice a n c, .int .i64 pl, quadV first, .slice la ln lc, .slice fa fn fc] w fun e w' => e = .returned (.bool r) ∧ Below w.heap.size w w' := by
  unfold judgeB at hr
  rw [hby.1, hly.1, hf.1] at hr
  by_cases hj : rightJ k bl fo n pl ln fn
  · rw [if_pos hj] at hr
    obtain ⟨K, rfl⟩ := Int.eq_ofNat_of_zero_le hj.1.1
    obtain ⟨B, rfl⟩ := Int.eq_ofNat_of_zero_le (show 0 ≤ bl by have := hj.1.2.2.1; omega)
    rw [show ((K : Int) + (B : Int)).toNat = K + B from by rw [← Int.natCast_add, Int.toNat_natCast]] at hr
    by_cases h0 : fo = 0
    · rw [if_pos h0] at hr
      subst h0
      exact rjnone_is K B qu gr a n c pl first la ln lc fa fn fc fin r w hq hf hfu hj hr
    · rw [if_neg h0] at hr
      exact rjfold_is K B fo qu gr a n c bys pl first la ln lc layers fa fn fc fin r w hby hbu hq hly hlu hf hfu hj h0 hr
  · rw [if_neg hj] at hr
    subst hr
    exact rjwrong_is k bl fo qu gr a n c pl first la ln lc fa fn fc w hj
end Go.Proofs.Yteghnaocncmiaaa
