/-
  An argument that is an array of two texts, opened; that each is within the row's reach. No function of the program is named.
-/
import Derived.Test.YtfnmlegikcogoaaDoorOpenStrs
import Derived.Test.YtfnmlegikcogoaaDoorGRow
import Derived.LaidLaws
import Derived.ChangeArms
import Derived.OpenShut
import Derived.SizedLaws
namespace Go.Proofs.YtfnmlegikcogoaaDoor
open Go Go.RowKit Go.ChangeShapes Go.WideShapes Go.Deep
set_option linter.unusedVariables false

section
variable {H : Type} {enc : TypeId × Value → H} {P : Program} {w : World} {base : Nat} {spare : Nat → Bool} {held : Bool}
theorem open_str2 {r : Reach} {b0 : Nat} {t e : TypeId} {v : Value} {d : DataW H} {p : List MemPlace} (ht : P.underlying t = some (.array 2 e)) (he : P.underlying e = some .string) (hce : P.cellsOf e = 1) (hC : P.cellsOf t = 2) (hv : Value.okWide P w r b0 t v)
    (h : DataW.Trod enc P w base spare held t v d p) : ∃ s0 s1 : ByteArray, v = .agg #[.string s0, .string s1] ∧ d = .agg [.lit (.string s0.data.toList), .lit (.string s1.data.toList)] ∧ s0.size ≤ maxLen ∧ s1.size ≤ maxLen := by
  obtain ⟨cs, rfl, hsz⟩ := okWide_array ht hv
  obtain ⟨fuel, hx⟩ := h
  obtain ⟨xs, q, _, hxd, hl, hxl, hi⟩ := DataW.trod_array ht hx
  have hlen : cs.size = 2 := by omega
  obtain ⟨c0, c1, rfl⟩ : ∃ c0 c1, cs = #[c0, c1] := by
    obtain ⟨l⟩ := cs
    match l, hlen with
    | [c0, c1], _ => exact ⟨c0, c1, rfl⟩
  have hcells : (Value.cells (.agg #[c0, c1])).toList = [c0, c1] := by simp [Value.cells]
  rw [hcells, hce] at hi
  obtain ⟨y0, y1, rfl⟩ : ∃ y0 y1, xs = [y0, y1] := by
    match xs, hxl with
    | [y0, y1], _ => exact ⟨y0, y1, rfl⟩
  have h0 := hi 0 (by decide)
  have h1 := hi 1 (by decide)
  simp at h0 h1
  obtain ⟨s0, e0, x0, m0⟩ := DataW.trod_string he h0
  obtain ⟨s1, e1, x1, m1⟩ := DataW.trod_string he h1
  simp at e0 e1
  subst e0; subst e1
  obtain ⟨hd, _⟩ := Prod.mk.inj hxd
  exact ⟨s0, s1, rfl, by rw [hd]; simp [x0, x1], m0, m1⟩
theorem sized_str2 {ts : List TypeId} {ds : List (DataW H)} (h : (DataW.weightsEach P ts ds).all (· ≤ reachBytes) = true) {j : Nat} {t e : TypeId} {b0 b1 : List UInt8} (ht : ts[j]? = some t) (hd : ds[j]? = some (.agg [.lit (.string b0), .lit (.string b1)])) (hu : P.underlying t = some (.array 2 e)) : b0.length ≤ reachBytes ∧ b1.length ≤ reachBytes := by
  have h0 := List.all_eq_true.1 h _ (DataW.weights_mem_each ht hd b0.length (by simp [DataW.weights, DataW.weightsAll, hu]))
  have h1 := List.all_eq_true.1 h _ (DataW.weights_mem_each ht hd b1.length (by simp [DataW.weights, DataW.weightsAll, hu]))
  exact ⟨by simpa using h0, by simpa using h1⟩
end
theorem str2_reach {s0 s1 : ByteArray} (h : s0.data.toList.length ≤ reachBytes ∧ s1.data.toList.length ≤ reachBytes) : s0.size + s1.size ≤ maxLen := by
  have h1 := Go.Lib.size_eq s0; have h2 := Go.Lib.size_eq s1
  have h3 := reachBytes_lt
  unfold maxLen
  omega
end Go.Proofs.YtfnmlegikcogoaaDoor
