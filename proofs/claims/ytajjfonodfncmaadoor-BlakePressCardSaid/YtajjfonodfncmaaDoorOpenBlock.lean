/-
  An argument that is a block: eight words, 64 bytes, a number, a bool, opened. No function of the program is named.
-/
import Derived.Test.YtajjfonodfncmaaDoorBAsk
import Derived.Test.YtajjfonodfncmaaDoorFlat
namespace Go.Proofs.YtajjfonodfncmaaDoor
open Go Go.RowKit Go.ChangeShapes Go.WideShapes Go.Deep
set_option linter.unusedVariables false

/-- The cells of a block's argument. -/
def blk74 (h b : Nat → Int) (n : Int) (last : Bool) (j : Nat) : Value := if j < 8 then .int .u32 (h j) else if j < 72 then .int .u8 (b (j - 8)) else if j = 72 then .int .u64 n else .bool last
theorem piece_at {cs : List Value} {o n : Nat} {zs : List Int} {k : IntKind} (h : (cs.drop o).take n = zs.map (Value.int k)) (hl : zs.length = n) (j : Nat) (hj : j < n) : cs[o + j]? = some (.int k (zs.getD j 0)) := by
  have e : ((cs.drop o).take n)[j]? = cs[o + j]? := by rw [List.getElem?_take_of_lt hj, List.getElem?_drop]
  rw [← e, h]
  simp [List.getD, hl, hj]
section
variable {H : Type} {enc : TypeId × Value → H} {P : Program} {w : World} {base : Nat} {spare : Nat → Bool} {held : Bool}
theorem open_block {r : Reach} {b0 : Nat} {t : TypeId} {m : Nat} {f0 f1 f2 f3 : Field} {v : Value} {d : DataW H} {p : List MemPlace} (ht : P.underlying t = some (.struct #[f0, f1, f2, f3]))
    (o0 : f0.offset = 0) (o1 : f1.offset = 8) (o2 : f2.offset = 72) (o3 : f3.offset = 73) (hC : P.cellsOf t = 74) (c0 : P.cellsOf f0.type = 8) (c1 : P.cellsOf f1.type = 64) (c2 : P.cellsOf f2.type = 1) (c3 : P.cellsOf f3.type = 1)
    (g0 : flatB P .u32 m f0.type = true) (g1 : flatB P .u8 m f1.type = true) (u2 : P.underlying f2.type = some (.int .u64)) (u3 : P.underlying f3.type = some .bool) (hv : Value.okWide P w r b0 t v)
    (h : DataW.Trod enc P w base spare held t v d p) : ∃ (hh b : Nat → Int) (n : Int) (last : Bool), v = .agg (cellsA 74 (blk74 hh b n last)) ∧ IsWords 8 hh ∧ IsBytes 64 b ∧ U n := by
  obtain ⟨cs, rfl, hsz⟩ := okWide_struct ht hv
  obtain ⟨fuel, hx⟩ := h
  obtain ⟨xs, q, _, _, hl, hxl, hx⟩ := DataW.trod_struct ht hx
  have hlen : cs.size = 74 := by omega
  have hq : ∀ (i : Nat) (f : Field), (#[f0, f1, f2, f3] : Array Field)[i]? = some f → ∃ x, DataW.trod enc P w base spare held q f.type (((Value.cells (.agg cs)).toList.drop f.offset).take (P.cellsOf f.type)) = some x := by
    intro i f hf
    have hi : i < 4 := by
      have := (Array.getElem?_eq_some_iff.1 hf).1
      simpa using this
    have hxi := hx i f (by simpa using hf)
    obtain ⟨x, hxs⟩ : ∃ x, xs[i]? = some x := ⟨xs[i]'(by simp at hxl; omega), List.getElem?_eq_getElem _⟩
    rw [hxs] at hxi
    exact ⟨x, hxi⟩
  obtain ⟨x0, e0⟩ := hq 0 f0 rfl
  obtain ⟨x1, e1⟩ := hq 1 f1 rfl
  obtain ⟨x2, e2⟩ := hq 2 f2 rfl
  obtain ⟨x3, e3⟩ := hq 3 f3 rfl
  have hcells : (Value.cells (.agg cs)).toList = cs.toList := by simp [Value.cells]
  rw [hcells] at e0 e1 e2 e3
  rw [o0, c0] at e0; rw [o1, c1] at e1; rw [o2, c2] at e2; rw [o3, c3] at e3
  obtain ⟨z0, p0, w0⟩ := flat_list g0 e0
  obtain ⟨z1, p1, w1⟩ := flat_list g1 e1
  obtain ⟨n, p2, _, w2⟩ := DataW.trod_int u2 e2
  obtain ⟨last, p3, _⟩ := DataW.trod_bool u3 e3
  have l0 : z0.length = 8 := by have := congrArg List.length p0; simp at this; omega
  have l1 : z1.length = 64 := by have := congrArg List.length p1; simp at this; omega
  refine ⟨fun j => z0.getD j 0, fun j => z1.getD j 0, n, last, ?_, ?_, ?_, U_wf w2⟩
  · congr 1
    refine cellsA_of hlen fun j hj => ?_
    rw [← Array.getElem?_toList]
    unfold blk74
    by_cases h1 : j < 8
    · rw [if_pos h1]
      have := piece_at p0 l0 j h1
      rwa [Nat.zero_add] at this
    · rw [if_neg h1]
      by_cases h2 : j < 72
      · rw [if_pos h2]
        have := piece_at p1 l1 (j - 8) (by omega)
        rwa [show 8 + (j - 8) = j by omega] at this
      · rw [if_neg h2]
        by_cases h3 : j = 72
        · rw [if_pos h3, h3]
          have e : ((cs.toList.drop 72).take 1)[0]? = cs.toList[72]? := by rw [List.getElem?_take_of_lt (by omega), List.getElem?_drop]
          rw [← e, p2]; rfl
        · rw [if_neg h3, show j = 73 by omega]
          have e : ((cs.toList.drop 73).take 1)[0]? = cs.toList[73]? := by rw [List.getElem?_take_of_lt (by omega), List.getElem?_drop]
          rw [← e, p3]; rfl
  · intro j hj
    have : z0.getD j 0 ∈ z0 := by simp [List.getD, l0, hj]
    have := Go.bounds_u32 (w0 _ this)
    show 0 ≤ z0.getD j 0 ∧ z0.getD j 0 < 4294967296
    omega
  · intro j hj
    have : z1.getD j 0 ∈ z1 := by simp [List.getD, l1, hj]
    have := Go.bounds_u8 (w1 _ this)
    show 0 ≤ z1.getD j 0 ∧ z1.getD j 0 < 256
    omega
end
end Go.Proofs.YtajjfonodfncmaaDoor
