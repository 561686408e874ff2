/-
  The walk of CountAccepts.
-/
import Derived.Test.YthfkfgjhgicfeaaGreatDoorGCntPro
import Derived.Test.YthfkfgjhgicfeaaGreatDoorCLAccepts
import Derived.Test.YthfkfgjhgicfeaaGreatDoorTabF
import Derived.Test.YthfkfgjhgicfeaaGreatDoorGArgs
import Derived.Test.YthfkfgjhgicfeaaGreatDoorPairArg
namespace Go.Proofs.YthfkfgjhgicfeaaGreatDoor
open Go Go.RowKit Go.Deep
set_option linter.unusedVariables false

theorem SliceOf.tabq {W : World} {a : Option Addr} {len cap : Nat} (h : SliceOf W (.slice shPair) a len cap) :
    ∃ rows : List QL, TabQ W a len rows ∧ UsT rows ∧ ∀ k, k < len → ∀ b off ak ck, a = some ⟨b, off, none⟩ → W.cell? ⟨b, off + k, none⟩ = some (.slice ak (rows.getD k []).length ck) → (rows.getD k []).length ≤ ck := by
  obtain ⟨h1, h2, h3, h4⟩ := h
  obtain ⟨f, hf⟩ := choose_lt (n := len) (α := QL) (p := fun i s => (∃ b off : Nat, a = some ⟨b, off, none⟩ ∧ ∃ (ak : Option Addr) (ck : Nat), W.cell? ⟨b, off + i, none⟩ = some (.slice ak s.length ck) ∧ QRowA W ak s.length s ∧ s.length ≤ ck) ∧ UsR s) (fun i hi => by
    obtain ⟨b, off, l, e, hl, hc, hh⟩ := h4 i hi
    obtain ⟨ak, n, ck, rfl, hs⟩ := Sh.Holds.slice hh
    obtain ⟨zs, hz, hu⟩ := hs.qrow
    obtain rfl := hz.1
    have c0 := hc 0 (by decide)
    exact ⟨zs, ⟨b, off, e, ak, ck, by simpa [Sh.width] using c0, hz, hs.1⟩, hu⟩)
  refine ⟨(List.range len).map f, ⟨by simp, by omega, fun k hk => ?_⟩, fun o ho => ?_, fun k hk b off ak ck e hc => ?_⟩
  · rw [range_getD _ _ _ _ hk]
    obtain ⟨b, off, e, ak, ck, c, hq, _⟩ := (hf k hk).1
    exact ⟨b, off, e, ak, ck, c, hq⟩
  · obtain ⟨i, hi, rfl⟩ := List.mem_map.1 ho
    exact (hf i (List.mem_range.1 hi)).2
  · rw [range_getD _ _ _ _ hk] at hc ⊢
    obtain ⟨b', off', e', ak', ck', c, hq, hl⟩ := (hf k hk).1
    rw [e] at e'
    cases e'
    rw [c] at hc
    cases hc
    exact hl
abbrev shPrm : Sh := .both (.int .i64) (.both (.int .i64) (.both (.int .i64) (.both (.int .i64) .unit)))
abbrev shAcc : Sh := .both (.int .i64) (.both shPrm (.both (.slice shPair) (.both (.slice (.slice shPair)) (.both (.int .i64) (.both (.slice shPair) .unit)))))
theorem accepts_walk (v0 : Value) (w : World) (h0 : shAcc.Arg w v0) (hT : LaidF w) : Calls Tryz.prog 3 #[v0] w fun e w' => e = .returned (.bool true) ∧ Below w.heap.size w w' := by
  obtain ⟨cs, rfl, l1, m1, rfl, ⟨k, rfl, hk⟩, l2, m2, rfl, hp, l3, m3, rfl, hby, l4, m4, rfl, hws, l5, m5, rfl, ⟨pl, rfl, hpl⟩, l7, m7, rfl, hf, hu⟩ := h0.agg
  obtain rfl := hu
  obtain ⟨p1, r1, rfl, ⟨bl, rfl, hbl⟩, p2, r2, rfl, ⟨fo, rfl, hfo⟩, p3, r3, rfl, ⟨qu, rfl, hqu⟩, p4, r4, rfl, ⟨gr, rfl, hgr⟩, hr⟩ := hp
  obtain rfl := hr
  obtain ⟨a, n, c, rfl, sby⟩ := Sh.Holds.slice hby
  obtain ⟨ta, tn, tc, rfl, sws⟩ := Sh.Holds.slice hws
  obtain ⟨fa, fn, fc, rfl, sf⟩ := Sh.Holds.slice hf
  obtain ⟨bys, h1, h2⟩ := sby.qrow
  obtain ⟨rows, h3, h4, h5⟩ := sws.tabq
  obtain ⟨fin, h6, h7⟩ := sf.qrow
  exact count_accepts _ ask23 k bl fo qu gr pl a n c bys ta tn tc rows fa fn fc fin w (tabF_of hT) (bounds_i64 hfo) (bounds_i64 hpl) h1 h2 h3 h4 (fun h0 b off ak ck e hc => h5 0 h0 b off ak ck e (by rw [Nat.add_zero]; exact hc)) h6 h7
end Go.Proofs.YthfkfgjhgicfeaaGreatDoor
