/-
  Package-level tables of integers, nested or not, as many as a row lists: what their cells hold. No function of the program is named.
-/
import Derived.Test.YtajjfonodfncmaaDoorRow
import Derived.LaidLaws
import Derived.ChangeArms
import Derived.OpenShut
namespace Go.Proofs.YtajjfonodfncmaaDoor
open Go Go.RowKit Go.ChangeShapes Go.WideShapes
set_option linter.unusedVariables false

section
variable {H : Type} {enc : TypeId × Value → H} {P : Program} {w : World} {base : Nat} {spare : Nat → Bool} {held : Bool}
/-- Integers of one kind, in arrays of such: how many cells an element takes, a level each. -/
def TabT (P : Program) (k : IntKind) : List Nat → TypeId → Prop
  | [], t => P.underlying t = some (.int k) ∧ P.cellsOf t = 1
  | c :: r, t => ∃ m e, P.underlying t = some (.array m e) ∧ P.cellsOf e = c ∧ P.cellsOf t = m * c ∧ TabT P k r e
/-- The integer at a place of a datum. -/
def tabAt : List Nat → DataW H → Nat → Int
  | [], .lit (.int _ z), _ => z
  | c :: r, .agg l, j => match l[j / c]? with
    | some d => tabAt r d (j % c)
    | none => 0
  | _, _, _ => 0
theorem tab_cells {k : IntKind} : ∀ (r : List Nat) (t : TypeId) (fuel : Nat) (cs : List Value) (x : DataW H) (p : List MemPlace), TabT P k r t → DataW.trod enc P w base spare held fuel t cs = some (x, p) →
    ∀ j, j < P.cellsOf t → cs[j]? = some (.int k (tabAt r x j))
  | [], t, fuel, cs, x, p, hT, h, j, hj => by
    obtain ⟨hu, hc⟩ := hT
    obtain ⟨z, rfl, hx, _⟩ := DataW.trod_int hu h
    obtain ⟨rfl, rfl⟩ := Prod.mk.inj hx
    rw [hc] at hj
    obtain rfl : j = 0 := by omega
    rfl
  | c :: r, t, fuel, cs, x, p, hT, h, j, hj => by
    obtain ⟨m, e, hu, hce, hct, hTe⟩ := hT
    obtain ⟨xs, q, _, hx, hl, hxl, hi⟩ := DataW.trod_array hu h
    obtain ⟨rfl, _⟩ := Prod.mk.inj hx
    have hc0 : 0 < c := Nat.pos_of_ne_zero fun h0 => by rw [h0] at hct; omega
    have hjm : j / c < m := (Nat.div_lt_iff_lt_mul hc0).2 (by omega)
    have hxi := hi (j / c) hjm
    obtain ⟨y, hy⟩ : ∃ y, xs[j / c]? = some y := ⟨xs[j / c]'(by omega), List.getElem?_eq_getElem _⟩
    rw [hy, hce] at hxi
    have ih := tab_cells r e q _ y.1 y.2 hTe hxi (j % c) (by rw [hce]; exact Nat.mod_lt _ hc0)
    rw [List.getElem?_take_of_lt (Nat.mod_lt _ hc0), List.getElem?_drop, Nat.mul_comm, Nat.div_add_mod] at ih
    rw [ih]
    have : (xs.map (·.1))[j / c]? = some y.1 := by rw [List.getElem?_map, hy]; rfl
    simp only [tabAt, this]
end
/-- A table's cells. -/
def Tabs (W : World) (g n : Nat) (k : IntKind) (Z : Nat → Int) : Prop := ∀ j, j < n → W.cell? ⟨g, j, none⟩ = some (.int k (Z j))
theorem Tabs.keep {W W' : World} {g n : Nat} {k : IntKind} {Z : Nat → Int} (h : Tabs W g n k Z) (hb : Below W.heap.size W W') : Tabs W' g n k Z := fun j hj => bkeep hb (h j hj)
theorem Tabs.of {P : Program} {W : World} {l : List (String × DataW Unit)} {name : String} {d : DataW Unit} {g n : Nat} {t : TypeId} {k : IntKind} (r : List Nat) (Z : Nat → Int) (hm : (name, d) ∈ l)
    (hg : P.globalNamed name = some g) (hty : (P.globals[g]?).map (·.type) = some t) (hT : TabT P k r t) (hn : P.cellsOf t = n) (hZ : ∀ j, j < n → tabAt r d j = Z j) (h : laidMet P l W) : Tabs W g n k Z := by
  obtain ⟨ps, hv, _⟩ := h
  have key : ∀ (l : List (String × DataW Unit)) (ps : List MemPlace), DataW.LaidVars P W l ps → (name, d) ∈ l → Tabs W g n k Z := by
    intro l
    induction l with
    | nil => intro _ _ hm; cases hm
    | cons a l ih =>
      intro ps hv hm
      obtain ⟨n', d'⟩ := a
      obtain ⟨g', t', cs, fuel, p, q, hg', ht', hvar, hd, hrest, _⟩ := hv
      rcases List.mem_cons.1 hm with he | hm
      · obtain ⟨rfl, rfl⟩ := Prod.mk.inj he
        obtain rfl := Option.some.inj (hg.symm.trans hg')
        obtain rfl := Option.some.inj (hty.symm.trans ht')
        intro j hj
        have hc := tab_cells r t fuel cs.toList d p hT hd j (by omega)
        have := World.var?_cell hg hvar j
        rw [this, ← hZ j hj]
        simpa using hc
      · exact ih q hrest hm
  exact key l ps hv hm
end Go.Proofs.YtajjfonodfncmaaDoor
