/-
  Arguments all of whose cells are integers of one kind (structs and arrays of such, nested), opened: the integers, one behind the other. No function of the program is named.
-/
import Derived.OpenShut
import Derived.ChangeArms
import Derived.Deep.SlicePairs
namespace Go.Proofs.YtajjfonodfncmaaDoor
open Go Go.ChangeShapes Go.WideShapes Go.Deep
set_option linter.unusedVariables false

section
variable {H : Type} {enc : TypeId × Value → H} {P : Program} {w : World} {base : Nat} {spare : Nat → Bool} {held : Bool}
def flatB (P : Program) (k : IntKind) : Nat → TypeId → Bool
  | 0, _ => false
  | n + 1, t => match P.underlying t with
    | some (.int k') => decide (k' = k)
    | some (.struct fs) => fs.toList.all (fun f => flatB P k n f.type) && (List.range (P.cellsOf t)).all fun j => fs.toList.any fun f => decide (f.offset ≤ j) && decide (j < f.offset + P.cellsOf f.type)
    | some (.array m e) => flatB P k n e && decide (P.cellsOf t = m * P.cellsOf e)
    | _ => false
theorem flat_ints {k : IntKind} : ∀ (n : Nat) (t : TypeId) (fuel : Nat) (cs : List Value) (x : DataW H × List MemPlace), flatB P k n t = true → DataW.trod enc P w base spare held fuel t cs = some x → ∀ v ∈ cs, ∃ z, v = .int k z ∧ (Lit.int k z).wf = true
  | 0, t, fuel, cs, x, hf, h => by simp [flatB] at hf
  | n + 1, t, fuel, cs, x, hf, h => by
    unfold flatB at hf
    split at hf
    · rename_i k' ht
      obtain rfl := of_decide_eq_true hf
      obtain ⟨z, rfl, _, hw⟩ := DataW.trod_int ht h
      intro v hv
      exact ⟨z, by simpa using hv, hw⟩
    · rename_i fs ht
      obtain ⟨xs, m, _, _, hl, hxl, hx⟩ := DataW.trod_struct ht h
      rw [Bool.and_eq_true, List.all_eq_true, List.all_eq_true] at hf
      intro v hv
      obtain ⟨j, hj, rfl⟩ := List.getElem_of_mem hv
      have hc := hf.2 j (List.mem_range.2 (by omega))
      obtain ⟨f, hfm, hfj⟩ := List.any_eq_true.1 hc
      rw [Bool.and_eq_true] at hfj
      have h1 := of_decide_eq_true hfj.1
      have h2 := of_decide_eq_true hfj.2
      obtain ⟨i, hi, rfl⟩ := List.getElem_of_mem hfm
      have hi' : i < fs.size := by simpa using hi
      have hxi := hx i fs[i] (by simp [hi'])
      have hxs : xs[i]? = some xs[i] := List.getElem?_eq_getElem (by omega)
      rw [hxs] at hxi
      refine flat_ints n _ m _ _ (hf.1 _ hfm) hxi cs[j] ?_
      refine List.mem_iff_getElem.2 ⟨j - fs[i].offset, ?_, ?_⟩
      · simp at h1 h2 ⊢; omega
      · simp at h1 h2 ⊢
        congr 1; omega
    · rename_i m e ht
      obtain ⟨xs, m', _, _, hl, hxl, hx⟩ := DataW.trod_array ht h
      rw [Bool.and_eq_true] at hf
      have hce := of_decide_eq_true hf.2
      intro v hv
      obtain ⟨j, hj, rfl⟩ := List.getElem_of_mem hv
      have hpos : 0 < P.cellsOf e := Nat.pos_of_ne_zero fun h0 => by rw [h0] at hce; omega
      have hi : j / P.cellsOf e < m := (Nat.div_lt_iff_lt_mul hpos).2 (by omega)
      have hxi := hx _ hi
      have hxs : xs[j / P.cellsOf e]? = some xs[j / P.cellsOf e] := List.getElem?_eq_getElem (by omega)
      rw [hxs] at hxi
      refine flat_ints n _ m' _ _ hf.1 hxi cs[j] ?_
      have hdm := Nat.div_add_mod j (P.cellsOf e)
      have hml := Nat.mod_lt j hpos
      have hcomm := Nat.mul_comm (P.cellsOf e) (j / P.cellsOf e)
      refine List.mem_iff_getElem.2 ⟨j % P.cellsOf e, ?_, ?_⟩
      · simp; omega
      · simp
        congr 1; omega
    · cases hf
/-- .. as a list. -/
theorem flat_list {k : IntKind} {n : Nat} {t : TypeId} {fuel : Nat} {cs : List Value} {x : DataW H × List MemPlace} (hf : flatB P k n t = true) (h : DataW.trod enc P w base spare held fuel t cs = some x) : ∃ zs : List Int, cs = zs.map (Value.int k) ∧ ∀ z ∈ zs, (Lit.int k z).wf = true := by
  have H := flat_ints n t fuel cs x hf h
  clear h hf
  induction cs with
  | nil => exact ⟨[], rfl, fun z hz => by cases hz⟩
  | cons v cs ih =>
    obtain ⟨zs, rfl, hz⟩ := ih fun u hu => H u (List.mem_cons_of_mem _ hu)
    obtain ⟨z, rfl, hw⟩ := H v (List.mem_cons_self)
    exact ⟨z :: zs, rfl, fun y hy => by
      rcases List.mem_cons.1 hy with rfl | hy
      · exact hw
      · exact hz y hy⟩
theorem okWide_array {r : Reach} {b0 : Nat} {t : TypeId} {v : Value} {n : Nat} {e : TypeId} (ht : P.underlying t = some (.array n e)) (h : Value.okWide P w r b0 t v) : ∃ cs, v = .agg cs ∧ cs.size = P.cellsOf t := by
  simp only [Value.okWide, ht] at h
  obtain ⟨cs, h1, h2, _⟩ := h
  exact ⟨cs, h1, h2⟩
/-- An argument that is such an array, by value. -/
theorem open_flat_array {r : Reach} {b0 : Nat} {t : TypeId} {n m q : Nat} {e : TypeId} {k : IntKind} {v : Value} {d : DataW H} {p : List MemPlace} (ht : P.underlying t = some (.array n e)) (hf : flatB P k m t = true) (hC : P.cellsOf t = q) (hv : Value.okWide P w r b0 t v)
    (h : DataW.Trod enc P w base spare held t v d p) : ∃ zs : List Int, v = .agg (zs.map (Value.int k)).toArray ∧ zs.length = q ∧ ∀ z ∈ zs, (Lit.int k z).wf = true := by
  obtain ⟨cs, rfl, hsz⟩ := okWide_array ht hv
  obtain ⟨fuel, hx⟩ := h
  obtain ⟨zs, he, hz⟩ := flat_list hf hx
  have he' : cs.toList = zs.map (Value.int k) := by simpa [Value.cells] using he
  refine ⟨zs, ?_, ?_, hz⟩
  · rw [← he']
  · have := congrArg List.length he'
    simp at this
    omega
/-- A slice of such elements, each of q cells: what its cells hold. -/
theorem open_flat_slice {t e : TypeId} {fuel m q : Nat} {k : IntKind} {cs : List Value} {x : DataW H × List MemPlace} (ht : P.underlying t = some (.slice e)) (hf : flatB P k m e = true) (hC : P.cellsOf e = q)
    (h : DataW.trod enc P w base (fun _ => true) held fuel t cs = some x) :
    cs = [.slice none 0 0] ∨ ∃ (a : Addr) (len cap : Nat) (z : Nat → Int), cs = [.slice (some a) len cap] ∧ base ≤ a.block ∧ len ≤ cap ∧ cap ≤ maxLen ∧ ∀ j, j < len * q → w.cell? (a.add j) = some (.int k (z j)) ∧ (Lit.int k (z j)).wf = true := by
  rcases open_slice ht h with ⟨h0, _⟩ | ⟨a, len, cap, m', n, D, Pl, rfl, hb, hl, hm, hmm, _, hx⟩
  · exact Or.inl h0
  right
  have hlm : len ≤ m' := by rw [hmm]; split <;> omega
  have each : ∀ j, j < len * q → ∃ z : Int, w.cell? (a.add j) = some (.int k z) ∧ (Lit.int k z).wf = true := by
    intro j hj
    have hq : 0 < q := Nat.pos_of_ne_zero fun h0 => by rw [h0] at hj; omega
    have hi : j / q < len := (Nat.div_lt_iff_lt_mul hq).2 hj
    obtain ⟨cs', h1, h2⟩ := hx (j / q) (by omega)
    rw [hC] at h1
    obtain ⟨_, hlen, hcell⟩ := World.cells?_some h1
    obtain ⟨zs, rfl, hz⟩ := flat_list hf h2
    have hml := Nat.mod_lt j hq
    have hc := hcell (j % q) hml
    rw [add_add, Nat.mul_comm, Nat.div_add_mod] at hc
    have hlz : j % q < zs.length := by simpa using (by omega : j % q < (zs.map (Value.int k)).length)
    rw [List.getElem?_map, List.getElem?_eq_getElem hlz] at hc
    exact ⟨zs[j % q], hc, hz _ (List.getElem_mem hlz)⟩
  refine ⟨a, len, cap, fun j => if hj : j < len * q then (each j hj).choose else 0, rfl, hb, hl, hm, fun j hj => ?_⟩
  simp only [dif_pos hj]
  exact (each j hj).choose_spec
/-- An argument that is a struct of such, by value. -/
theorem open_flat_struct {r : Reach} {b0 : Nat} {t : TypeId} {m q : Nat} {fs : Array Field} {k : IntKind} {v : Value} {d : DataW H} {p : List MemPlace} (ht : P.underlying t = some (.struct fs)) (hf : flatB P k m t = true) (hC : P.cellsOf t = q) (hv : Value.okWide P w r b0 t v)
    (h : DataW.Trod enc P w base spare held t v d p) : ∃ zs : List Int, v = .agg (zs.map (Value.int k)).toArray ∧ zs.length = q ∧ ∀ z ∈ zs, (Lit.int k z).wf = true := by
  obtain ⟨cs, rfl, hsz⟩ := okWide_struct ht hv
  obtain ⟨fuel, hx⟩ := h
  obtain ⟨zs, he, hz⟩ := flat_list hf hx
  have he' : cs.toList = zs.map (Value.int k) := by simpa [Value.cells] using he
  refine ⟨zs, ?_, ?_, hz⟩
  · rw [← he']
  · have := congrArg List.length he'
    simp at this
    omega
/-- What is known of an argument that is a slice of elements of q such cells. -/
def IsFlat (k : IntKind) (q : Nat) (w : World) (a : Option Addr) (len cap : Nat) (z : Nat → Int) : Prop :=
  (a = none ∧ len = 0 ∧ cap = 0) ∨ ∃ x, a = some x ∧ len ≤ cap ∧ cap ≤ maxLen ∧ ∀ j, j < len * q → w.cell? (x.add j) = some (.int k (z j)) ∧ (Lit.int k (z j)).wf = true
theorem IsFlat.of {t e : TypeId} {fuel m q : Nat} {k : IntKind} {a : Option Addr} {len cap : Nat} {x : DataW H × List MemPlace} (ht : P.underlying t = some (.slice e)) (hf : flatB P k m e = true) (hC : P.cellsOf e = q)
    (h : DataW.trod enc P w base (fun _ => true) held fuel t (Value.cells (.slice a len cap)).toList = some x) : ∃ z, IsFlat k q w a len cap z := by
  rcases open_flat_slice ht hf hC h with hcs | ⟨y, l, c, z, hcs, _, hl, hm, hi⟩
  · simp [Value.cells] at hcs
    obtain ⟨rfl, rfl, rfl⟩ := hcs
    exact ⟨fun _ => 0, .inl ⟨rfl, rfl, rfl⟩⟩
  · simp [Value.cells] at hcs
    obtain ⟨rfl, rfl, rfl⟩ := hcs
    exact ⟨z, .inr ⟨_, rfl, hl, hm, hi⟩⟩
end
end Go.Proofs.YtajjfonodfncmaaDoor
