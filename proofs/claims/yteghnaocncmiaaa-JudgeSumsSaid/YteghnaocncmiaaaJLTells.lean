/-
  Layer 22's first statement. (Written by gen_jl.py.)
-/
import Derived.Test.YteghnaocncmiaaaJudgeRefK
import Derived.Test.YteghnaocncmiaaaJAwake
namespace Go.Proofs.Yteghnaocncmiaaa
open Go Go.RowKit Go.Sort Go.BigFrame
set_option linter.unusedVariables false

abbrev caseV (k bl fo qu gr : Int) (a : Option Addr) (n c : Nat) (pl : Int) (q : Quad) (la : Option Addr) (ln lc : Nat) (fa : Option Addr) (fn fc : Nat) : Value := .agg #[.int .i64 k, .int .i64 bl, .int .i64 fo, .int .i64 qu, .int .i64 gr, .slice a n c, .int .i64 pl, .int .u64 q.1.1, .int .u64 q.1.2, .int .u64 q.2.1, .int .u64 q.2.2, .slice la ln lc, .slice fa fn fc]
def CaseB (W : World) (g : Nat) (k bl fo qu gr : Int) (a : Option Addr) (n c : Nat) (pl : Int) (q : Quad) (la : Option Addr) (ln lc : Nat) (fa : Option Addr) (fn fc : Nat) : Prop := W.cell? ⟨g, 0, none⟩ = some (.int .i64 k) ∧ W.cell? ⟨g, 1, none⟩ = some (.int .i64 bl) ∧ W.cell? ⟨g, 2, none⟩ = some (.int .i64 fo) ∧ W.cell? ⟨g, 3, none⟩ = some (.int .i64 qu) ∧ W.cell? ⟨g, 4, none⟩ = some (.int .i64 gr) ∧ W.cell? ⟨g, 5, none⟩ = some (.slice a n c) ∧ W.cell? ⟨g, 6, none⟩ = some (.int .i64 pl) ∧ W.cell? ⟨g, 7, none⟩ = some (.int .u64 q.1.1) ∧ W.cell? ⟨g, 8, none⟩ = some (.int .u64 q.1.2) ∧ W.cell? ⟨g, 9, none⟩ = some (.int .u64 q.2.1) ∧ W.cell? ⟨g, 10, none⟩ = some (.int .u64 q.2.2) ∧ W.cell? ⟨g, 11, none⟩ = some (.slice la ln lc) ∧ W.cell? ⟨g, 12, none⟩ = some (.slice fa fn fc)
theorem CaseB.keep {W W' : World} {g : Nat} {k bl fo qu gr : Int} {a : Option Addr} {n c : Nat} {pl : Int} {q : Quad} {la : Option Addr} {ln lc : Nat} {fa : Option Addr} {fn fc : Nat} (h : CaseB W g k bl fo qu gr a n c pl q la ln lc fa fn fc) (hb : Below W.heap.size W W') : CaseB W' g k bl fo qu gr a n c pl q la ln lc fa fn fc := by
  obtain ⟨e0, e1, e2, e3, e4, e5, e6, e7, e8, e9, e10, e11, e12⟩ := h
  exact ⟨bkeep hb e0, bkeep hb e1, bkeep hb e2, bkeep hb e3, bkeep hb e4, bkeep hb e5, bkeep hb e6, bkeep hb e7, bkeep hb e8, bkeep hb e9, bkeep hb e10, bkeep hb e11, bkeep hb e12⟩
set_option maxRecDepth 100000 in
set_option maxHeartbeats 8000000 in
theorem jshort (k bl fo qu gr : Int) (a : Option Addr) (n c : Nat) (pl : Int) (q : Quad) (la : Option Addr) (ln lc : Nat) (fa : Option Addr) (fn fc : Nat) (r : Bool) (w : World) (hr : decide (n ≤ 12 ∧ ln ≤ 12 ∧ fn ≤ 70) = r) :
    Calls Try.prog 7 #[caseV k bl fo qu gr a n c pl q la ln lc fa fn fc] w fun e w' => e = .returned (.bool r) ∧ Below w.heap.size w w' := by
  obtain ⟨⟨q0, q1⟩, ⟨q2, q3⟩⟩ := q
  have HR := Lib.hid hr
  clear hr
  go_enter Try.func7, Try.ntmps7
  go_upto_region 1 with fail
  obtain ⟨g, hg⟩ : ∃ g, w.heap.size = g := ⟨_, rfl⟩
  refine wp_gen (fun W => Below w.heap.size w W ∧ CaseB W g k bl fo qu gr a n c pl ((q0, q1), (q2, q3)) la ln lc fa fn fc) ⟨(Below.refl _ _).alloc (Nat.le_refl _) _, by subst hg; simp [CaseB, go_sem]⟩ ?_
  rintro w0 ⟨hB, hC⟩
  simp only [hg]
  have HB := Lib.hid hB
  obtain ⟨e0, e1, e2, e3, e4, e5, e6, e7, e8, e9, e10, e11, e12⟩ := hC
  clear hB hg e0 e1 e2 e3 e4 e6 e7 e8 e9 e10
  by_cases h1 : (n : Int) ≤ 12
  · by_cases h2 : (ln : Int) ≤ 12
    · by_cases h3 : (fn : Int) ≤ 70
      · obtain rfl : r = true := by rw [← HR.out]; exact decide_eq_true ⟨by omega, by omega, by omega⟩
        go_wp2_with fail
        go_ret
        exact ⟨rfl, HB.out⟩
      · obtain rfl : r = false := by rw [← HR.out]; exact decide_eq_false (fun h => h3 (by omega))
        go_wp2_with fail
        go_ret
        exact ⟨rfl, HB.out⟩
    · obtain rfl : r = false := by rw [← HR.out]; exact decide_eq_false (fun h => h2 (by omega))
      go_wp2_with fail
      go_ret
      exact ⟨rfl, HB.out⟩
  · obtain rfl : r = false := by rw [← HR.out]; exact decide_eq_false (fun h => h1 (by omega))
    go_wp2_with fail
    go_ret
    exact ⟨rfl, HB.out⟩
set_option maxRecDepth 100000 in
set_option maxHeartbeats 8000000 in
theorem judge_tells (G : World → Prop) (hA : AskJudge G) (k bl fo qu gr : Int) (a : Option Addr) (n c : Nat) (pl : Int) (q : Quad) (la : Option Addr) (ln lc : Nat) (fa : Option Addr) (fn fc : Nat) (bys : QL) (layers : List Quad) (fin : QL) (w : World) (hG : G w) (hk : I64 k) (hbl : I64 bl) (hfo : I64 fo) (hpl : I64 pl) (hby : QRowA w a n bys) (hbu : ∀ n ∈ bys, U n.1 ∧ U n.2) (hq : UsQ q) (hly : QuadsA w la ln layers) (hlu : ∀ q ∈ layers, UsQ q) (hf : QRowA w fa fn fin) (hfu : ∀ n ∈ fin, U n.1 ∧ U n.2) :
    Calls Try.prog 3 #[caseV k bl fo qu gr a n c pl q la ln lc fa fn fc] w fun e w' => e = .returned (.bool true) ∧ Below w.heap.size w w' := by
  have aw := fun W (h : Below w.heap.size w W) => jawake G hA W (hA.keep hG h)
  obtain ⟨r0, hr0⟩ : ∃ r, decide (n ≤ 12 ∧ ln ≤ 12 ∧ fn ≤ 70) = r := ⟨_, rfl⟩
  have ks := fun W => jshort k bl fo qu gr a n c pl q la ln lc fa fn fc r0 W hr0
  have k1 := fun W (h : Below w.heap.size w W) => hA.right k bl fo qu gr a n c bys pl la ln lc layers fa fn fc fin _ W hk hbl hfo hpl (hby.keep h) (hly.keep h) (hf.keep h) rfl (hA.keep hG h)
  have k2 := fun W (h : Below w.heap.size w W) => rjright_is k bl fo qu gr a n c pl la ln lc fa fn fc (decide (rightJ k bl fo bys.length pl layers.length fin.length)) W (by rw [hby.1, hly.1, hf.1])
  have k3 := fun W (h : Below w.heap.size w W) => hA.judge k bl fo qu gr a n c bys pl q la ln lc layers fa fn fc fin _ W hk hbl hfo hpl (hby.keep h) hbu hq (hly.keep h) hlu (hf.keep h) hfu rfl (hA.keep hG h)
  have k4 := fun W (h : Below w.heap.size w W) => rjjudge_is k bl fo qu gr a n c bys pl q la ln lc layers fa fn fc fin _ W (hby.keep h) hbu hq (hly.keep h) hlu (hf.keep h) hfu rfl
  generalize decide (rightJ k bl fo bys.length pl layers.length fin.length) = v1 at *
  generalize judgeB k bl fo bys pl q layers fin = v2 at *
  obtain ⟨⟨q0, q1⟩, ⟨q2, q3⟩⟩ := q
  clear hr0 hA hG hby hly hf hbu hlu hfu hq hk hbl hfo hpl
  go_enter Try.func3, Try.ntmps3
  go_upto_region 1 with fail
  obtain ⟨g, hg⟩ : ∃ g, w.heap.size = g := ⟨_, rfl⟩
  refine wp_gen (fun W => Below w.heap.size w W ∧ CaseB W g k bl fo qu gr a n c pl ((q0, q1), (q2, q3)) la ln lc fa fn fc) ⟨(Below.refl _ _).alloc (Nat.le_refl _) _, by subst hg; simp [CaseB, go_sem]⟩ ?_
  rintro w0 ⟨hB, hC⟩
  simp only [hg]
  have HB := Lib.hid hB; have HC := Lib.hid hC
  obtain ⟨e0, e1, e2, e3, e4, e5, e6, e7, e8, e9, e10, e11, e12⟩ := hC
  clear hB hg
  cases r0
  · go_wp2_with (first
      | (go_at_call 7; (with_reducible refine (ks _).mono ?_); rintro e w1 ⟨rfl, hb⟩; replace HB := Lib.hid (bthen HB.out hb); clear hb)
      | (go_at_call 8; (with_reducible refine (aw _ HB.out).mono ?_); rintro e w1 ⟨rfl, hb⟩; replace HB := Lib.hid (bthen HB.out hb); clear hb))
    go_ret
    exact ⟨rfl, HB.out⟩
  · go_upto_region 3 with (go_at_call 7; (with_reducible refine (ks _).mono ?_); rintro e w1 ⟨rfl, hb⟩; replace HC := Lib.hid (HC.out.keep hb); replace HB := Lib.hid (bthen HB.out hb); clear hb)
    clear e0 e1 e2 e3 e4 e5 e6 e7 e8 e9 e10 e11 e12 ks
    obtain ⟨e0, e1, e2, e3, e4, e5, e6, e7, e8, e9, e10, e11, e12⟩ := HC.out
    have aw := fun W (h : Below w1.heap.size w1 W) => aw W (bthen HB.out h)
    have k1 := fun W (h : Below w1.heap.size w1 W) => k1 W (bthen HB.out h)
    have k2 := fun W (h : Below w1.heap.size w1 W) => k2 W (bthen HB.out h)
    have k3 := fun W (h : Below w1.heap.size w1 W) => k3 W (bthen HB.out h)
    have k4 := fun W (h : Below w1.heap.size w1 W) => k4 W (bthen HB.out h)
    replace e0 := fun q : Regrown => cell_regrown e0 q.d q.os
    replace e1 := fun q : Regrown => cell_regrown e1 q.d q.os
    replace e2 := fun q : Regrown => cell_regrown e2 q.d q.os
    replace e3 := fun q : Regrown => cell_regrown e3 q.d q.os
    replace e4 := fun q : Regrown => cell_regrown e4 q.d q.os
    replace e5 := fun q : Regrown => cell_regrown e5 q.d q.os
    replace e6 := fun q : Regrown => cell_regrown e6 q.d q.os
    replace e7 := fun q : Regrown => cell_regrown e7 q.d q.os
    replace e8 := fun q : Regrown => cell_regrown e8 q.d q.os
    replace e9 := fun q : Regrown => cell_regrown e9 q.d q.os
    replace e10 := fun q : Regrown => cell_regrown e10 q.d q.os
    replace e11 := fun q : Regrown => cell_regrown e11 q.d q.os
    replace e12 := fun q : Regrown => cell_regrown e12 q.d q.os
    refine wp_region_quiet_below (by kernel_rfl) (by kernel_rfl) ?_
    repeat (first | go_big_quiet_step (first
      | (go_at_call 8; with_reducible exact Calls.regrown_of (aw _ (below_regrown w1 _ _)))
      | (go_at_call 9; with_reducible exact Calls.regrown_of (k1 _ (below_regrown w1 _ _)))
      | (go_at_call 10; with_reducible exact Calls.regrown_of (k2 _ (below_regrown w1 _ _)))
      | (go_at_call 11; with_reducible exact Calls.regrown_of (k3 _ (below_regrown w1 _ _)))
      | (go_at_call 12; with_reducible exact Calls.regrown_of (k4 _ (below_regrown w1 _ _)))) | quiet_step (fail))
    refine wpQuiet_nil ?_
    rintro _ ⟨pq, rfl⟩
    have HBE := Lib.hid (bthen HB.out (below_regrown w1 pq.d pq.os))
    clear e0 e1 e2 e3 e4 e5 e6 e7 e8 e9 e10 e11 e12 HB aw k1 k2 k3 k4
    go_wp2_with fail
    go_ret
    exact ⟨rfl, HBE.out⟩
end Go.Proofs.Yteghnaocncmiaaa
