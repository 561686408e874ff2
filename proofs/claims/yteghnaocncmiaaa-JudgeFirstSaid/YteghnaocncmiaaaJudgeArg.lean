/-
  What is judged, as an argument.
-/
import Derived.Test.YteghnaocncmiaaaJLTells
import Derived.Test.YteghnaocncmiaaaJudgeQ
import Derived.Test.YteghnaocncmiaaaPairArg
namespace Go.Proofs.Yteghnaocncmiaaa
open Go Go.RowKit Go.Deep
set_option linter.unusedVariables false

abbrev shQuad : Sh := .rep 2 shPair
abbrev shParams : Sh := .both (.int .i64) (.both (.int .i64) (.both (.int .i64) (.both (.int .i64) .unit)))
abbrev shCase : Sh := .both (.int .i64) (.both shParams (.both (.slice shPair) (.both (.int .i64) (.both shQuad (.both (.slice shQuad) (.both (.slice shPair) .unit))))))
theorem holds_quad {W : World} {cs : List Value} (h : shQuad.Holds W cs) : ∃ q : Quad, cs = quadL q ∧ UsQ q := by
  obtain ⟨zs, hl, rfl, hu⟩ := holds_pairs h
  match zs, hl, hu with
  | [p, r], _, hu => exact ⟨(p, r), rfl, hu p (by simp), hu r (by simp)⟩
theorem SliceOf.quads {W : World} {a : Option Addr} {len cap : Nat} (h : SliceOf W shQuad a len cap) : ∃ qs : List Quad, QuadsA W a len qs ∧ (∀ q ∈ qs, UsQ q) := by
  obtain ⟨h1, h2, h3, h4⟩ := h
  obtain ⟨f, hf⟩ := choose_lt (n := len) (α := Quad) (p := fun i s => (∃ b off : Nat, a = some ⟨b, off, none⟩ ∧ W.cell? ⟨b, off + i * 4, none⟩ = some (.int .u64 s.1.1) ∧ W.cell? ⟨b, off + i * 4 + 1, none⟩ = some (.int .u64 s.1.2) ∧ W.cell? ⟨b, off + i * 4 + 2, none⟩ = some (.int .u64 s.2.1) ∧ W.cell? ⟨b, off + i * 4 + 3, none⟩ = some (.int .u64 s.2.2)) ∧ UsQ s) (fun i hi => by
    obtain ⟨b, off, l, e, hl, hc, hq⟩ := h4 i hi
    obtain ⟨q, rfl, hu⟩ := holds_quad hq
    have c0 := hc 0 (by decide)
    have c1 := hc 1 (by decide)
    have c2 := hc 2 (by decide)
    have c3 := hc 3 (by decide)
    exact ⟨q, ⟨b, off, e, by simpa [Sh.width, quadL] using c0, by simpa [Sh.width, Nat.add_assoc, quadL] using c1, by simpa [Sh.width, Nat.add_assoc, quadL] using c2, by simpa [Sh.width, Nat.add_assoc, quadL] using c3⟩, hu⟩)
  refine ⟨(List.range len).map f, ⟨by simp, by omega, fun k hk => ?_⟩, fun o ho => ?_⟩
  · rw [range_getD _ _ _ _ hk]
    exact (hf k hk).1
  · obtain ⟨i, hi, rfl⟩ := List.mem_map.1 ho
    exact (hf i (List.mem_range.1 hi)).2
theorem arg_case {W : World} {v : Value} (h : shCase.Arg W v) : ∃ (k bl fo qu gr : Int) (a : Option Addr) (n c : Nat) (pl : Int) (q : Quad) (la : Option Addr) (ln lc : Nat) (fa : Option Addr) (fn fc : Nat) (bys : QL) (layers : List Quad) (fin : QL),
    v = caseV k bl fo qu gr a n c pl q la ln lc fa fn fc ∧ (I64 k ∧ I64 bl ∧ I64 fo ∧ I64 pl) ∧ (QRowA W a n bys ∧ ∀ n ∈ bys, U n.1 ∧ U n.2) ∧ UsQ q ∧ (QuadsA W la ln layers ∧ ∀ q ∈ layers, UsQ q) ∧ QRowA W fa fn fin ∧ ∀ n ∈ fin, U n.1 ∧ U n.2 := by
  obtain ⟨cs, rfl, l1, m1, rfl, ⟨k, rfl, hk⟩, l2, m2, rfl, hp, l3, m3, rfl, hby, l4, m4, rfl, ⟨pl, rfl, hpl⟩, l5, m5, rfl, hq, l6, m6, rfl, hly, l7, m7, rfl, hf, hu⟩ := h.agg
  obtain rfl := hu
  obtain ⟨p1, r1, rfl, ⟨bl, rfl, hbl⟩, p2, r2, rfl, ⟨fo, rfl, hfo⟩, p3, r3, rfl, ⟨qu, rfl, hqu⟩, p4, r4, rfl, ⟨gr, rfl, hgr⟩, hr⟩ := hp
  obtain rfl := hr
  obtain ⟨a, n, c, rfl, sby⟩ := Sh.Holds.slice hby
  obtain ⟨la, ln, lc, rfl, sly⟩ := Sh.Holds.slice hly
  obtain ⟨fa, fn, fc, rfl, sf⟩ := Sh.Holds.slice hf
  obtain ⟨q, rfl, hqU⟩ := holds_quad hq
  obtain ⟨bys, h1, h2⟩ := sby.qrow
  obtain ⟨layers, h3, h4⟩ := sly.quads
  obtain ⟨fin, h5, h6⟩ := sf.qrow
  exact ⟨k, bl, fo, qu, gr, a, n, c, pl, q, la, ln, lc, fa, fn, fc, bys, layers, fin, rfl, ⟨bounds_i64 hk, bounds_i64 hbl, bounds_i64 hfo, bounds_i64 hpl⟩, ⟨h1, h2⟩, hqU, ⟨h3, h4⟩, h5, h6⟩
end Go.Proofs.Yteghnaocncmiaaa
