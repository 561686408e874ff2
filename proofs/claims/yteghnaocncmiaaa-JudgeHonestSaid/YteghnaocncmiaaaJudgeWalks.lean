/-
  The walks of layer 22's statements: they answer true.
-/
import Derived.Test.YteghnaocncmiaaaJudgeProg
import Derived.Test.YteghnaocncmiaaaJudgeArg
import Derived.Test.YteghnaocncmiaaaJLHonest
import Derived.Test.YteghnaocncmiaaaJLFirst
import Derived.Test.YteghnaocncmiaaaJLSums
namespace Go.Proofs.Yteghnaocncmiaaa
open Go Go.RowKit Go.Deep
set_option linter.unusedVariables false

theorem jtells_walk (v0 : Value) (w : World) (h0 : shCase.Arg w v0) : Calls Try.prog 3 #[v0] w fun e w' => e = .returned (.bool true) ∧ Below w.heap.size w w' := by
  obtain ⟨k, bl, fo, qu, gr, a, n, c, pl, q, la, ln, lc, fa, fn, fc, bys, layers, fin, rfl, ⟨hk, hbl, hfo, hpl⟩, ⟨hby, hbu⟩, hq, ⟨hly, hlu⟩, hf, hfu⟩ := arg_case h0
  exact judge_tells _ ask22 k bl fo qu gr a n c pl q la ln lc fa fn fc bys layers fin w trivial hk hbl hfo hpl hby hbu hq hly hlu hf hfu
theorem jhonest_walk (v0 v1 v2 : Value) (w : World) (h0 : (Sh.slice shPair).Arg w v0) (h1 : (Sh.slice shPair).Arg w v1) (h2 : (Sh.rep 3 (.int .u8)).Arg w v2) : Calls Try.prog 4 #[v0, v1, v2] w fun e w' => e = .returned (.bool true) ∧ Below w.heap.size w w' := by
  obtain ⟨a, n, c, rfl, hs⟩ := h0.slice
  obtain ⟨l, hq, hu⟩ := hs.qrow
  obtain ⟨a2, n2, c2, rfl, hs2⟩ := h1.slice
  obtain ⟨ys, hq2, hu2⟩ := hs2.qrow
  obtain ⟨ds, rfl, h'⟩ := h2.arr
  obtain ⟨ts, hl', rfl, hy⟩ := holds_rep h'
  match ts, hl' with
  | [t0, t1, t2], _ => exact judge_honestB _ ask22 a n c l a2 n2 c2 ys t0 t1 t2 w trivial hq hu hq2 hu2 hs.caps.1 (by have := bounds_u8 (hy t0 (by simp)); omega) (by have := bounds_u8 (hy t1 (by simp)); omega) (by have := bounds_u8 (hy t2 (by simp)); omega)
theorem jfirst_walk (v0 v1 : Value) (w : World) (h0 : shCase.Arg w v0) (h1 : shPair.Arg w v1) : Calls Try.prog 5 #[v0, v1] w fun e w' => e = .returned (.bool true) ∧ Below w.heap.size w w' := by
  obtain ⟨k, bl, fo, qu, gr, a, n, c, pl, q, la, ln, lc, fa, fn, fc, bys, layers, fin, rfl, ⟨hk, hbl, hfo, hpl⟩, ⟨hby, hbu⟩, hq, ⟨hly, hlu⟩, hf, hfu⟩ := arg_case h0
  obtain ⟨o0, o1, rfl, ho0, ho1⟩ := arg_pair h1
  exact judge_firstB _ ask22 k bl fo qu gr a n c pl q la ln lc fa fn fc o0 o1 bys layers fin w trivial hk hbl hfo hpl hby hbu hq hly hlu hf hfu ⟨ho0, ho1⟩
theorem jsums_walk (v0 v1 : Value) (w : World) (h0 : shCase.Arg w v0) (h1 : shCase.Arg w v1) : Calls Try.prog 6 #[v0, v1] w fun e w' => e = .returned (.bool true) ∧ Below w.heap.size w w' := by
  obtain ⟨k, bl, fo, qu, gr, a, n, c, pl, q, la, ln, lc, fa, fn, fc, bys, layers, fin, rfl, ⟨hk, hbl, hfo, hpl⟩, ⟨hby, hbu⟩, hq, ⟨hly, hlu⟩, hf, hfu⟩ := arg_case h0
  obtain ⟨dk, dbl, dfo, dqu, dgr, da, dn, dc, dpl, p, dla, dln, dlc, dfa, dfn, dfc, dbys, layd, find, rfl, _, _, hp, ⟨hdl, hdu⟩, hdf, hdfu⟩ := arg_case h1
  exact judge_sumsB _ ask22 k bl fo qu gr a n c pl q la ln lc fa fn fc dk dbl dfo dqu dgr da dn dc dpl p dla dln dlc dfa dfn dfc bys layers fin layd find w trivial hk hbl hfo hpl hby hbu hq hly hlu hf hfu hp hdl hdu hdf hdfu
end Go.Proofs.Yteghnaocncmiaaa
