/-
  Arguments, opened: what is opened at a place (numbers, pairs, texts), two of them; rows of numbers. No function of the program is named.
-/
import Derived.Test.YtfnmlegikcogoaaDoorOpenPairs
import Derived.Test.YtfnmlegikcogoaaDoorOpenStr2
import Derived.Lib.SmallJoins
namespace Go.Proofs.YtfnmlegikcogoaaDoor
open Go Go.RowKit Go.ChangeShapes Go.WideShapes Go.Deep Go.Joins
set_option linter.unusedVariables false

/-- A slice of numbers, as it comes. -/
def Came (k : IntKind) (w : World) (a : Option Addr) (len cap : Nat) (zs : List Int) : Prop :=
  (a = none ∧ len = 0 ∧ cap = 0 ∧ zs = []) ∨ ∃ x, a = some x ∧ len ≤ cap ∧ cap ≤ maxLen ∧ zs.length = cap ∧ (∀ i, i < zs.length → w.cell? (x.add i) = some (.int k (zs.getD i 0))) ∧ ∀ n ∈ zs, (Lit.int k n).wf = true
theorem Came.row {w : World} {a : Option Addr} {len cap : Nat} {z0 : List Int} (h : Came .u64 w a len cap z0) : RowA w a len (z0.take len) ∧ ∀ n ∈ z0.take len, U n := by
  obtain ⟨hr, _, hwf⟩ := Row.came h
  exact ⟨hr.at, fun n hn => U_wf (hwf n hn)⟩
section
variable {H : Type} {enc : TypeId × Value → H} {P : Program} {W : World} {t e : TypeId} {fuel : Nat} {c : Value} {x : DataW H × List MemPlace}
theorem Came.of {k : IntKind} (ht : P.underlying t = some (.slice e)) (he : P.underlying e = some (.int k)) (hc : P.cellsOf e = 1) (h : DataW.trod enc P W 0 (fun _ => true) true fuel t [c] = some x) : ∃ a len cap zs, c = .slice a len cap ∧ Came k W a len cap zs := by
  rcases open_ints ht he hc h with ⟨hcs, _⟩ | ⟨y, l, m, zs, hcs, _, hl, hm, hz, _, hcell, hwz⟩
  · simp at hcs
    exact ⟨none, 0, 0, [], hcs, .inl ⟨rfl, rfl, rfl, rfl⟩⟩
  · simp at hcs
    exact ⟨some y, l, m, zs, hcs, .inr ⟨_, rfl, hl, hm, by simpa using hz, hcell, hwz⟩⟩
theorem IsStrs.of1 (ht : P.underlying t = some (.slice e)) (he : P.underlying e = some .string) (hc : P.cellsOf e = 1) (h : DataW.trod enc P W 0 (fun _ => true) true fuel t [c] = some x) : ∃ a len cap f, c = .slice a len cap ∧ IsStrs W a len cap f := by
  rcases open_strs ht he hc h with ⟨hcs, _⟩ | ⟨y, l, m, mm, Sx, hcs, _, hl, hm, hmm, _, hi⟩
  · simp at hcs
    exact ⟨none, 0, 0, fun _ => ⟨#[]⟩, hcs, .inl ⟨rfl, rfl, rfl⟩⟩
  · simp at hcs
    exact ⟨some y, l, m, Sx, hcs, .inr ⟨_, rfl, hl, hm, fun i hil => hi i (by rw [hmm]; simp; omega)⟩⟩
theorem IsPairs.of1 {f0 f1 : Field} (ht : P.underlying t = some (.slice e)) (he : P.underlying e = some (.struct #[f0, f1])) (ce : P.cellsOf e = 2) (o0 : f0.offset = 0) (o1 : f1.offset = 1) (c0 : P.cellsOf f0.type = 1) (c1 : P.cellsOf f1.type = 1) (u0 : P.underlying f0.type = some (.int .u64)) (u1 : P.underlying f1.type = some (.int .u64))
    (h : DataW.trod enc P W 0 (fun _ => true) true fuel t [c] = some x) : ∃ a len cap zs, c = .slice a len cap ∧ IsPairs W a len cap zs := by
  rcases open_slice_pairs ht he ce o0 o1 c0 c1 h with ⟨hcs, _⟩ | ⟨y, l, m, _, _, _, _, _, _, _, _, hcs, _⟩
  · simp at hcs
    subst hcs
    obtain ⟨zs, hz⟩ := IsPairs.of (a := none) (len := 0) (cap := 0) ht he ce o0 o1 c0 c1 u0 u1 h
    exact ⟨none, 0, 0, zs, rfl, hz⟩
  · simp at hcs
    subst hcs
    obtain ⟨zs, hz⟩ := IsPairs.of (a := some y) (len := l) (cap := m) ht he ce o0 o1 c0 c1 u0 u1 h
    exact ⟨some y, l, m, zs, rfl, hz⟩
/-- What is opened at a place: numbers, pairs, the path. -/
def IsOpen (w : World) (a : Option Addr) (len cap : Nat) (zs : List Int) (b : Option Addr) (lenb capb : Nat) (qs : List (Int × Int)) (p : Option Addr) (n cp : Nat) (g : Nat → ByteArray) : Prop :=
  Came .u64 w a len cap zs ∧ IsPairs w b lenb capb qs ∧ IsStrs w p n cp g
theorem IsOpen.of {f0 f1 f2 g0 g1 : Field} {e0 e1 e2 : TypeId} {r : Reach} {b0 : Nat} {v : Value} {d : DataW H} {pl : List MemPlace} (hs : P.underlying t = some (.struct #[f0, f1, f2])) (hone : oneCellFields P #[f0, f1, f2] = true) (hC : P.cellsOf t = 3)
    (t0 : P.underlying f0.type = some (.slice e0)) (k0 : P.underlying e0 = some (.int .u64)) (c0 : P.cellsOf e0 = 1)
    (t1 : P.underlying f1.type = some (.slice e1)) (k1 : P.underlying e1 = some (.struct #[g0, g1])) (c1 : P.cellsOf e1 = 2) (o0 : g0.offset = 0) (o1 : g1.offset = 1) (cg0 : P.cellsOf g0.type = 1) (cg1 : P.cellsOf g1.type = 1) (u0 : P.underlying g0.type = some (.int .u64)) (u1 : P.underlying g1.type = some (.int .u64))
    (t2 : P.underlying f2.type = some (.slice e2)) (k2 : P.underlying e2 = some .string) (c2 : P.cellsOf e2 = 1)
    (hv : Value.okWide P W r b0 t v) (h : DataW.Trod enc P W 0 (fun _ => true) true t v d pl) :
    ∃ a len cap zs b lenb capb qs p n cp g, v = .agg #[.slice a len cap, .slice b lenb capb, .slice p n cp] ∧ IsOpen W a len cap zs b lenb capb qs p n cp g := by
  obtain ⟨v0, v1, v2, y0, y1, y2, m, rfl, _, _, h0, h1, h2⟩ := open_agg3 hs hone hC hv h
  obtain ⟨a, len, cap, zs, rfl, hz⟩ := Came.of t0 k0 c0 h0
  obtain ⟨b, lenb, capb, qs, rfl, hq⟩ := IsPairs.of1 t1 k1 c1 o0 o1 cg0 cg1 u0 u1 h1
  obtain ⟨p, n, cp, g, rfl, hg⟩ := IsStrs.of1 t2 k2 c2 h2
  exact ⟨a, len, cap, zs, b, lenb, capb, qs, p, n, cp, g, rfl, hz, hq, hg⟩
/-- Two of them. -/
theorem IsOpen.of_cells {f0 f1 f2 g0 g1 : Field} {e0 e1 e2 : TypeId} {c0 c1 c2 : Value} (hs : P.underlying t = some (.struct #[f0, f1, f2])) (hone : oneCellFields P #[f0, f1, f2] = true)
    (t0 : P.underlying f0.type = some (.slice e0)) (k0 : P.underlying e0 = some (.int .u64)) (z0 : P.cellsOf e0 = 1)
    (t1 : P.underlying f1.type = some (.slice e1)) (k1 : P.underlying e1 = some (.struct #[g0, g1])) (z1 : P.cellsOf e1 = 2) (o0 : g0.offset = 0) (o1 : g1.offset = 1) (cg0 : P.cellsOf g0.type = 1) (cg1 : P.cellsOf g1.type = 1) (u0 : P.underlying g0.type = some (.int .u64)) (u1 : P.underlying g1.type = some (.int .u64))
    (t2 : P.underlying f2.type = some (.slice e2)) (k2 : P.underlying e2 = some .string) (z2 : P.cellsOf e2 = 1)
    (h : DataW.trod enc P W 0 (fun _ => true) true fuel t [c0, c1, c2] = some x) :
    ∃ a len cap zs b lenb capb qs p n cp g, c0 = .slice a len cap ∧ c1 = .slice b lenb capb ∧ c2 = .slice p n cp ∧ IsOpen W a len cap zs b lenb capb qs p n cp g := by
  obtain ⟨y0, y1, y2, n, hx, _, h0, h1, h2⟩ := trod_struct3 hs h
  obtain ⟨q0, r0⟩ := hone_of hone 0 f0 rfl
  obtain ⟨q1, r1⟩ := hone_of hone 1 f1 rfl
  obtain ⟨q2, r2⟩ := hone_of hone 2 f2 rfl
  simp only [q0, r0, q1, r1, q2, r2, List.drop_zero, List.drop_succ_cons, List.take_succ_cons, List.take_zero] at h0 h1 h2
  obtain ⟨a, len, cap, zs, rfl, hz⟩ := Came.of t0 k0 z0 h0
  obtain ⟨b, lenb, capb, qs, rfl, hq⟩ := IsPairs.of1 t1 k1 z1 o0 o1 cg0 cg1 u0 u1 h1
  obtain ⟨p, m, cp, g, rfl, hg⟩ := IsStrs.of1 t2 k2 z2 h2
  exact ⟨a, len, cap, zs, b, lenb, capb, qs, p, m, cp, g, rfl, rfl, rfl, hz, hq, hg⟩
theorem IsOpen.of2 {f0 f1 f2 g0 g1 : Field} {e0 e1 e2 : TypeId} {r : Reach} {b0 : Nat} {v : Value} {d : DataW H} {pl : List MemPlace} (ha : P.underlying t = some (.array 2 e)) (ce : P.cellsOf e = 3) (ct : P.cellsOf t = 6) (hs : P.underlying e = some (.struct #[f0, f1, f2])) (hone : oneCellFields P #[f0, f1, f2] = true)
    (t0 : P.underlying f0.type = some (.slice e0)) (k0 : P.underlying e0 = some (.int .u64)) (z0 : P.cellsOf e0 = 1)
    (t1 : P.underlying f1.type = some (.slice e1)) (k1 : P.underlying e1 = some (.struct #[g0, g1])) (z1 : P.cellsOf e1 = 2) (o0 : g0.offset = 0) (o1 : g1.offset = 1) (cg0 : P.cellsOf g0.type = 1) (cg1 : P.cellsOf g1.type = 1) (u0 : P.underlying g0.type = some (.int .u64)) (u1 : P.underlying g1.type = some (.int .u64))
    (t2 : P.underlying f2.type = some (.slice e2)) (k2 : P.underlying e2 = some .string) (z2 : P.cellsOf e2 = 1)
    (hv : Value.okWide P W r b0 t v) (h : DataW.Trod enc P W 0 (fun _ => true) true t v d pl) :
    ∃ a len cap zs b lenb capb qs p n cp g, ∃ a' len' cap' zs' b' lenb' capb' qs' p' n' cp' g', v = .agg #[.slice a len cap, .slice b lenb capb, .slice p n cp, .slice a' len' cap', .slice b' lenb' capb', .slice p' n' cp'] ∧ IsOpen W a len cap zs b lenb capb qs p n cp g ∧ IsOpen W a' len' cap' zs' b' lenb' capb' qs' p' n' cp' g' := by
  obtain ⟨cs, rfl, hsz⟩ := okWide_array ha hv
  obtain ⟨fuel, hx⟩ := h
  obtain ⟨xs, q, _, hxd, hl, hxl, hi⟩ := DataW.trod_array ha hx
  have hlen : cs.size = 6 := by omega
  obtain ⟨c0, c1, c2, c3, c4, c5, rfl⟩ : ∃ c0 c1 c2 c3 c4 c5, cs = #[c0, c1, c2, c3, c4, c5] := by
    obtain ⟨l⟩ := cs
    match l, hlen with
    | [c0, c1, c2, c3, c4, c5], _ => exact ⟨c0, c1, c2, c3, c4, c5, rfl⟩
  have hcells : (Value.cells (.agg #[c0, c1, c2, c3, c4, c5])).toList = [c0, c1, c2, c3, c4, c5] := by simp [Value.cells]
  rw [hcells, ce] at hi
  obtain ⟨y0, y1, rfl⟩ : ∃ y0 y1, xs = [y0, y1] := by
    match xs, hxl with
    | [y0, y1], _ => exact ⟨y0, y1, rfl⟩
  have h0 := hi 0 (by decide)
  have h1 := hi 1 (by decide)
  simp at h0 h1
  obtain ⟨a, len, cap, zs, b, lenb, capb, qs, p, n, cp, g, rfl, rfl, rfl, hA⟩ := IsOpen.of_cells hs hone t0 k0 z0 t1 k1 z1 o0 o1 cg0 cg1 u0 u1 t2 k2 z2 h0
  obtain ⟨a', len', cap', zs', b', lenb', capb', qs', p', n', cp', g', rfl, rfl, rfl, hA'⟩ := IsOpen.of_cells hs hone t0 k0 z0 t1 k1 z1 o0 o1 cg0 cg1 u0 u1 t2 k2 z2 h1
  exact ⟨a, len, cap, zs, b, lenb, capb, qs, p, n, cp, g, a', len', cap', zs', b', lenb', capb', qs', p', n', cp', g', rfl, hA, hA'⟩
/-- Rows of numbers. -/
def IsRows (w : World) (a : Option Addr) (len cap : Nat) (R : Nat → Option Addr × Nat × Nat × List Int) : Prop :=
  (a = none ∧ len = 0 ∧ cap = 0) ∨ ∃ y, a = some y ∧ len ≤ cap ∧ cap ≤ maxLen ∧ ∀ i, i < len → w.cell? (y.add i) = some (.slice (R i).1 (R i).2.1 (R i).2.2.1) ∧ Came .u64 w (R i).1 (R i).2.1 (R i).2.2.1 (R i).2.2.2
theorem IsRows.of {e' : TypeId} {a : Option Addr} {len cap : Nat} (ht : P.underlying t = some (.slice e)) (hc : P.cellsOf e = 1) (he : P.underlying e = some (.slice e')) (hk : P.underlying e' = some (.int .u64)) (hc' : P.cellsOf e' = 1)
    (h : DataW.trod enc P W 0 (fun _ => true) true fuel t (Value.cells (.slice a len cap)).toList = some x) : ∃ R, IsRows W a len cap R := by
  rcases open_slice1 ht hc h with ⟨hcs, _⟩ | ⟨y, l, c, m, n, V, D, Pl, hcs, _, hl, hm, hmm, _, hi⟩
  · simp [Value.cells] at hcs
    obtain ⟨rfl, rfl, rfl⟩ := hcs
    exact ⟨fun _ => (none, 0, 0, []), .inl ⟨rfl, rfl, rfl⟩⟩
  · simp [Value.cells] at hcs
    obtain ⟨rfl, rfl, rfl⟩ := hcs
    obtain ⟨R, hR⟩ := choose_lt (n := len) (α := Option Addr × Nat × Nat × List Int) (p := fun i r => W.cell? (y.add i) = some (.slice r.1 r.2.1 r.2.2.1) ∧ Came .u64 W r.1 r.2.1 r.2.2.1 r.2.2.2) (fun i hil => by
      obtain ⟨h1, h2⟩ := hi i (by rw [hmm]; simp; omega)
      obtain ⟨a', l', c', zs, e1, hz⟩ := Came.of he hk hc' h2
      exact ⟨(a', l', c', zs), by rw [h1, e1], hz⟩)
    exact ⟨R, .inr ⟨_, rfl, hl, hm, hR⟩⟩
end
theorem IsStrs.sane {w : World} {a : Option Addr} {len cap : Nat} {f : Nat → ByteArray} (h : IsStrs w a len cap f) : StrA w a len f ∧ len ≤ cap ∧ cap ≤ maxLen ∧ (a = none → len = 0 ∧ cap = 0) := by
  obtain ⟨h1, h2⟩ := h.str
  rcases h with ⟨rfl, rfl, rfl⟩ | ⟨x, rfl, hl, hm, _⟩
  · exact ⟨h1, by omega, by unfold maxLen; omega, h2⟩
  · exact ⟨h1, hl, hm, h2⟩
end Go.Proofs.YtfnmlegikcogoaaDoor
