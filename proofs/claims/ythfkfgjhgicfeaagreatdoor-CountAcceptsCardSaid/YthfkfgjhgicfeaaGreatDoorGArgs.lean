/-
  Beside: Variables beside a row that grows; a row that grows beside variables that are stored to. No function of the program is named.
  Vars: Variables of two cells, many of them, side by side. No function of the program is named.
  Shape: Arguments of any shape, opened: integers, bools, texts, slices, structs, arrays, nested. By one computable check of a type against a shape. No function of the program is named.
  Args: Arguments of some shapes, opened: a sponge, slices of texts, of numbers, of pairs, an array of numbers. No function of the program is named.
-/
import Derived.Test.YthfkfgjhgicfeaaGreatDoorGRow
import Derived.Test.YthfkfgjhgicfeaaGreatDoorSpongeM
import Derived.DataReads
import Derived.WideShapes
import Derived.Lib.SmallJoins
import Derived.Test.YthfkfgjhgicfeaaGreatDoorGBlk
namespace Go.Proofs.YthfkfgjhgicfeaaGreatDoor
open Go Go.RowKit
set_option linter.unusedVariables false

theorem grown_set (W : World) (g o : Nat) (x : Value) : W.grownBy (W.setCell ⟨g, o, none⟩ x) (some g) :=
  ⟨rfl, rfl, rfl, by simp [World.setCell], fun k hk hne => Below.heap_setCell _ _ _ _ (by intro e; exact hne (congrArg some e))⟩
/-- A row of blocks from B on stays, where a variable below B is stored to. -/
theorem own_set {W : World} {B g o : Nat} {e : TypeId} {size n : Nat} {v x : Value} {xs : List Value} (h : W.ownsRow B e size v n xs) (hg : g < B) : (W.setCell ⟨g, o, none⟩ x).ownsRow B e size v n xs :=
  h.kept (grown_set W g o x) (by
    cases hv : v.ownBlock with
    | none => exact Or.inl rfl
    | some k => exact Or.inr (by have := own_ge h k hv; intro e; cases e; omega))
theorem Duo.grown {W W' : World} {g : Nat} {u v : Value} {row : Option Nat} (h : Duo W g u v) (hg : W.grownBy W' row) (hne : ∀ k, row = some k → k ≠ g) : Duo W' g u v := by
  have hl := h.lt
  have hn : some g ≠ row := fun e => hne g e.symm rfl
  obtain ⟨c0, c1, f0, f1⟩ := h
  exact ⟨(World.cell?_of_block (a := ⟨g, 0, none⟩) (hg.block g hl hn)).trans c0, (World.cell?_of_block (a := ⟨g, 1, none⟩) (hg.block g hl hn)).trans c1, (World.frozen?_of_block (a := ⟨g, 0, none⟩) (hg.block g hl hn)).trans f0, (World.frozen?_of_block (a := ⟨g, 1, none⟩) (hg.block g hl hn)).trans f1⟩
theorem own_row_below {W W' : World} {B B' : Nat} {e : TypeId} {size n : Nat} {v : Value} {xs : List Value} {w : World} (h : W.ownsRow B' e size v n xs) (hb : Below B w W) (hg : W.grownBy W' v.ownBlock) (h1 : B ≤ B') (h2 : B ≤ W.heap.size) : Below B w W' :=
  hb.grown hg h2 fun k hk => Nat.le_trans h1 (own_ge h k hk)
end Go.Proofs.YthfkfgjhgicfeaaGreatDoor
namespace Go.Proofs.YthfkfgjhgicfeaaGreatDoor
open Go Go.RowKit
set_option linter.unusedVariables false

end Go.Proofs.YthfkfgjhgicfeaaGreatDoor
namespace Go.Proofs.YthfkfgjhgicfeaaGreatDoor
open Go Go.ChangeShapes Go.WideShapes Go.Deep Go.Joins
set_option linter.unusedVariables false

/-- What a type looks like, cell by cell: 'both' puts the fields of a struct side by side (the last one 'unit'), 'rep' is an array. -/
inductive Sh where
  | unit
  | int (k : IntKind)
  | bool
  | string
  | slice (e : Sh)
  | both (a b : Sh)
  | rep (n : Nat) (e : Sh)
def Sh.width : Sh → Nat
  | .unit => 0
  | .int _ => 1
  | .bool => 1
  | .string => 1
  | .slice _ => 1
  | .both a b => a.width + b.width
  | .rep n e => n * e.width
/-- A type, or fields from a place on, looks so. -/
def shapeB (P : Program) : Sh → TypeId ⊕ (List Field × Nat) → Bool
  | .int k, .inl t => match P.underlying t with
    | some (.int k') => decide (k' = k)
    | _ => false
  | .bool, .inl t => match P.underlying t with
    | some .bool => true
    | _ => false
  | .string, .inl t => match P.underlying t with
    | some .string => true
    | _ => false
  | .slice e, .inl t => match P.underlying t with
    | some (.slice u) => shapeB P e (.inl u) && decide (P.cellsOf u = e.width) && decide (0 < e.width)
    | _ => false
  | .rep n e, .inl t => match P.underlying t with
    | some (.array m u) => decide (m = n) && shapeB P e (.inl u) && decide (P.cellsOf u = e.width) && decide (P.cellsOf t = n * e.width)
    | _ => false
  | .both a b, .inl t => match P.underlying t with
    | some (.struct fs) => match fs.toList with
      | f :: l => decide (f.offset = 0) && decide (P.cellsOf f.type = a.width) && shapeB P a (.inl f.type) && shapeB P b (.inr (l, a.width)) && decide (P.cellsOf t = a.width + b.width)
      | [] => false
    | _ => false
  | .both a b, .inr (f :: l, o) => decide (f.offset = o) && decide (P.cellsOf f.type = a.width) && shapeB P a (.inl f.type) && shapeB P b (.inr (l, o + a.width))
  | .unit, .inr ([], _) => true
  | _, _ => false
/-- What is known of the cells of a value of that shape. -/
def Sh.Holds (W : World) : Sh → List Value → Prop
  | .unit, cs => cs = []
  | .int k, cs => ∃ n, cs = [.int k n] ∧ (Lit.int k n).wf = true
  | .bool, cs => ∃ b, cs = [.bool b]
  | .string, cs => ∃ s : ByteArray, cs = [.string s] ∧ s.size ≤ maxLen
  | .slice e, cs => ∃ (a : Option Addr) (len cap : Nat), cs = [.slice a len cap] ∧ len ≤ cap ∧ cap ≤ maxLen ∧ (a = none → len = 0 ∧ cap = 0) ∧
      ∀ i, i < len → ∃ (b off : Nat) (l : List Value), a = some ⟨b, off, none⟩ ∧ l.length = e.width ∧ (∀ j, j < e.width → W.cell? ⟨b, off + (i * e.width + j), none⟩ = l[j]?) ∧ e.Holds W l
  | .both a b, cs => ∃ l m, cs = l ++ m ∧ a.Holds W l ∧ b.Holds W m
  | .rep n e, cs => cs.length = n * e.width ∧ ∀ i, i < n → e.Holds W ((cs.drop (i * e.width)).take e.width)
section
variable {H : Type} {enc : TypeId × Value → H} {P : Program} {W : World}
theorem Sh.len : ∀ (s : Sh) {cs : List Value}, s.Holds W cs → cs.length = s.width
  | .unit, cs, h => by obtain rfl := h; rfl
  | .int k, cs, h => by obtain ⟨n, rfl, _⟩ := h; rfl
  | .bool, cs, h => by obtain ⟨n, rfl⟩ := h; rfl
  | .string, cs, h => by obtain ⟨n, rfl, _⟩ := h; rfl
  | .slice e, cs, h => by obtain ⟨a, len, cap, rfl, _⟩ := h; rfl
  | .both a b, cs, h => by
    obtain ⟨l, m, rfl, h1, h2⟩ := h
    rw [List.length_append, Sh.len a h1, Sh.len b h2]
    rfl
  | .rep n e, cs, h => h.1
theorem Sh.of : ∀ (s : Sh),
    (∀ (t : TypeId) (fuel : Nat) (cs : List Value) (x : DataW H × List MemPlace), shapeB P s (.inl t) = true → DataW.trod enc P W 0 (fun _ => true) true fuel t cs = some x → s.Holds W cs) ∧
    (∀ (fs : List Field) (o : Nat) (cs : List Value), shapeB P s (.inr (fs, o)) = true → cs.length = o + s.width → (∀ f ∈ fs, ∃ fuel x, DataW.trod enc P W 0 (fun _ => true) true fuel f.type ((cs.drop f.offset).take (P.cellsOf f.type)) = some x) → s.Holds W (cs.drop o)) := by
  intro s
  induction s with
  | unit =>
    refine ⟨fun t fuel cs x hs h => by simp [shapeB] at hs, fun fs o cs hs hl h => ?_⟩
    show _ = []
    rw [List.drop_eq_nil_iff]
    have : Sh.unit.width = 0 := rfl
    omega
  | int k =>
    refine ⟨fun t fuel cs x hs h => ?_, fun fs o cs hs hl h => by simp [shapeB] at hs⟩
    unfold shapeB at hs
    split at hs
    · next k' ht =>
      obtain rfl := of_decide_eq_true hs
      obtain ⟨n, h1, _, h2⟩ := DataW.trod_int ht h
      exact ⟨n, h1, h2⟩
    · cases hs
  | bool =>
    refine ⟨fun t fuel cs x hs h => ?_, fun fs o cs hs hl h => by simp [shapeB] at hs⟩
    unfold shapeB at hs
    split at hs
    · next ht =>
      obtain ⟨b, h1, _⟩ := DataW.trod_bool ht h
      exact ⟨b, h1⟩
    · cases hs
  | string =>
    refine ⟨fun t fuel cs x hs h => ?_, fun fs o cs hs hl h => by simp [shapeB] at hs⟩
    unfold shapeB at hs
    split at hs
    · next ht =>
      obtain ⟨b, h1, _, h2⟩ := DataW.trod_string ht h
      exact ⟨b, h1, h2⟩
    · cases hs
  | slice e ih =>
    refine ⟨fun t fuel cs x hs h => ?_, fun fs o cs hs hl h => by simp [shapeB] at hs⟩
    unfold shapeB at hs
    split at hs
    · next u ht =>
      rw [Bool.and_eq_true, Bool.and_eq_true] at hs
      obtain ⟨⟨hs1, hs2⟩, hs3⟩ := hs
      have hs2 := of_decide_eq_true hs2
      have hs3 := of_decide_eq_true hs3
      rcases DataW.trod_slice ht h with ⟨rfl, _⟩ | ⟨a, len, cap, elems, rest, n, _, rfl, _, _, hl, hm, hel, hi, _⟩
      · exact ⟨none, 0, 0, rfl, Nat.le_refl _, by unfold maxLen; omega, fun _ => ⟨rfl, rfl⟩, fun i hi => by omega⟩
      · have hat : ∀ i, i < len → ∃ y l, elems[i]? = some y ∧ l.length = e.width ∧ (∀ j, j < e.width → W.cell? ((a.add (i * e.width)).add j) = l[j]?) ∧ DataW.trod enc P W 0 (fun _ => true) true n u l = some y := by
          intro i hil
          have h1 := hi i hil
          rw [List.getElem?_eq_getElem (by omega)] at h1
          obtain ⟨l, h2, h3⟩ := Option.bind_eq_some_iff.1 h1
          rw [hs2] at h2
          obtain ⟨_, hlen, hcell⟩ := World.cells?_some h2
          exact ⟨_, l, List.getElem?_eq_getElem (by omega), hlen, hcell, h3⟩
        refine ⟨some a, len, cap, rfl, hl, hm, (fun h => by cases h), fun i hil => ?_⟩
        obtain ⟨b, off, spot⟩ := a
        have hspot : spot = none := by
          obtain ⟨y, l, _, hlen, hc, _⟩ := hat 0 (by omega)
          have hc0 := hc 0 hs3
          rw [List.getElem?_eq_getElem (by omega)] at hc0
          have := World.cell?_spot hc0
          simpa [Addr.add] using this
        subst hspot
        obtain ⟨y, l, _, hlen, hc, h3⟩ := hat i hil
        refine ⟨b, off, l, rfl, hlen, fun j hj => ?_, ih.1 u n l _ hs1 h3⟩
        have := hc j hj
        rw [Go.WideShapes.add_plain, Go.WideShapes.add_plain, Nat.add_assoc] at this
        exact this
    · cases hs
  | both a b iha ihb =>
    have key : ∀ (f : Field) (l : List Field) (o : Nat) (cs : List Value), f.offset = o → P.cellsOf f.type = a.width → shapeB P a (.inl f.type) = true → shapeB P b (.inr (l, o + a.width)) = true → cs.length = o + (a.width + b.width) → (∀ g ∈ f :: l, ∃ fuel x, DataW.trod enc P W 0 (fun _ => true) true fuel g.type ((cs.drop g.offset).take (P.cellsOf g.type)) = some x) → (Sh.both a b).Holds W (cs.drop o) := by
      intro f l o cs h1 h2 h3 h4 h5 h6
      obtain ⟨fuel, x, h7⟩ := h6 f (by simp)
      rw [h1, h2] at h7
      refine ⟨(cs.drop o).take a.width, cs.drop (o + a.width), ?_, iha.1 _ _ _ _ h3 h7, ihb.2 l (o + a.width) cs h4 (by omega) fun g hg => h6 g (by simp [hg])⟩
      rw [← List.drop_drop, List.take_append_drop]
    refine ⟨fun t fuel cs x hs h => ?_, fun fs o cs hs hl h => ?_⟩
    · unfold shapeB at hs
      split at hs
      · next fs ht =>
        split at hs
        · next f l hfs =>
          simp only [Bool.and_eq_true] at hs
          obtain ⟨⟨⟨⟨h1, h2⟩, h3⟩, h4⟩, h5⟩ := hs
          obtain ⟨xs, n, _, _, hl, hxl, hx⟩ := DataW.trod_struct ht h
          have := key f l 0 cs (of_decide_eq_true h1) (of_decide_eq_true h2) h3 (by simpa using h4) (by have := of_decide_eq_true h5; omega) fun g hg => by
            rw [← hfs] at hg
            obtain ⟨i, hi, rfl⟩ := List.getElem_of_mem hg
            have h8 := hx i fs[i] (by simp at hi; simp [hi])
            rw [List.getElem?_eq_getElem (by simp at hi; omega)] at h8
            exact ⟨n, _, by simpa using h8⟩
          simpa using this
        · cases hs
      · cases hs
    · cases fs with
      | nil => simp [shapeB] at hs
      | cons f l =>
        unfold shapeB at hs
        simp only [Bool.and_eq_true] at hs
        obtain ⟨⟨⟨h1, h2⟩, h3⟩, h4⟩ := hs
        exact key f l o cs (of_decide_eq_true h1) (of_decide_eq_true h2) h3 h4 hl h
  | rep n e ih =>
    refine ⟨fun t fuel cs x hs h => ?_, fun fs o cs hs hl h => by simp [shapeB] at hs⟩
    unfold shapeB at hs
    split at hs
    · next m u ht =>
      simp only [Bool.and_eq_true] at hs
      obtain ⟨⟨⟨h1, h2⟩, h3⟩, h4⟩ := hs
      obtain rfl := of_decide_eq_true h1
      have h3 := of_decide_eq_true h3
      have h4 := of_decide_eq_true h4
      obtain ⟨xs, q, _, _, hl, hxl, hx⟩ := DataW.trod_array ht h
      refine ⟨by rw [hl, h4], fun i hi => ?_⟩
      have h5 := hx i hi
      rw [List.getElem?_eq_getElem (by omega), h3] at h5
      exact ih.1 u q _ _ h2 h5
    · cases hs
/-- An argument of that shape. -/
def Sh.Arg (W : World) (s : Sh) (v : Value) : Prop := s.Holds W v.cells.toList ∧ match s with
  | .both _ _ => ∃ cs, v = .agg cs
  | .rep _ _ => ∃ cs, v = .agg cs
  | .unit => ∃ cs, v = .agg cs
  | _ => v.cells.toList = [v]
theorem Sh.arg {s : Sh} {r : Reach} {b0 : Nat} {t : TypeId} {v : Value} {d : DataW H} {pl : List MemPlace} (hs : shapeB P s (.inl t) = true) (hv : Value.okWide P W r b0 t v) (h : DataW.Trod enc P W 0 (fun _ => true) true t v d pl) : s.Arg W v := by
  obtain ⟨fuel, hx⟩ := h
  refine ⟨(Sh.of s).1 t fuel _ _ hs hx, ?_⟩
  cases s with
  | both a b =>
    unfold shapeB at hs
    split at hs
    · next fs ht =>
      obtain ⟨cs, h1, _⟩ := okWide_struct ht hv
      exact ⟨cs, h1⟩
    · cases hs
  | rep n e =>
    unfold shapeB at hs
    split at hs
    · next m u ht =>
      obtain ⟨cs, h1, _⟩ := okWide_array ht hv
      exact ⟨cs, h1⟩
    · cases hs
  | unit => simp [shapeB] at hs
  | int k =>
    unfold shapeB at hs
    split at hs
    · next k' ht =>
      obtain ⟨n, rfl⟩ := okWide_int ht hv
      rfl
    · cases hs
  | bool =>
    unfold shapeB at hs
    split at hs
    · next ht =>
      obtain ⟨n, rfl⟩ := okWide_bool ht hv
      rfl
    · cases hs
  | string =>
    unfold shapeB at hs
    split at hs
    · next ht =>
      obtain ⟨n, rfl⟩ := okWide_string ht hv
      rfl
    · cases hs
  | slice e =>
    unfold shapeB at hs
    split at hs
    · next u ht =>
      obtain ⟨a, l, c, rfl⟩ := okWide_slice ht hv
      rfl
    · cases hs
end
/-- Its cells, where it is a struct or an array. -/
theorem Sh.Arg.agg {W : World} {a b : Sh} {v : Value} (h : (Sh.both a b).Arg W v) : ∃ cs : List Value, v = .agg cs.toArray ∧ (Sh.both a b).Holds W cs := by
  obtain ⟨h1, cs, rfl⟩ := h
  exact ⟨cs.toList, by simp, by simpa [Value.cells] using h1⟩
theorem Sh.Arg.arr {W : World} {n : Nat} {e : Sh} {v : Value} (h : (Sh.rep n e).Arg W v) : ∃ cs : List Value, v = .agg cs.toArray ∧ (Sh.rep n e).Holds W cs := by
  obtain ⟨h1, cs, rfl⟩ := h
  exact ⟨cs.toList, by simp, by simpa [Value.cells] using h1⟩
theorem Sh.Arg.int {W : World} {k : IntKind} {v : Value} (h : (Sh.int k).Arg W v) : ∃ n, v = .int k n ∧ (Lit.int k n).wf = true := by
  obtain ⟨⟨n, h1, h2⟩, h3⟩ := h
  have h3 : v.cells.toList = [v] := h3
  rw [h3] at h1
  exact ⟨n, List.cons.inj h1 |>.1, h2⟩
theorem Sh.Arg.bool {W : World} {v : Value} (h : Sh.bool.Arg W v) : ∃ b, v = .bool b := by
  obtain ⟨⟨n, h1⟩, h3⟩ := h
  have h3 : v.cells.toList = [v] := h3
  rw [h3] at h1
  exact ⟨n, List.cons.inj h1 |>.1⟩
theorem Sh.Arg.string {W : World} {v : Value} (h : Sh.string.Arg W v) : ∃ s : ByteArray, v = .string s ∧ s.size ≤ maxLen := by
  obtain ⟨⟨n, h1, h2⟩, h3⟩ := h
  have h3 : v.cells.toList = [v] := h3
  rw [h3] at h1
  exact ⟨n, List.cons.inj h1 |>.1, h2⟩
/-- A slice's row, that each element is of the shape. -/
def SliceOf (W : World) (e : Sh) (a : Option Addr) (len cap : Nat) : Prop := len ≤ cap ∧ cap ≤ maxLen ∧ (a = none → len = 0 ∧ cap = 0) ∧
  ∀ i, i < len → ∃ (b off : Nat) (l : List Value), a = some ⟨b, off, none⟩ ∧ l.length = e.width ∧ (∀ j, j < e.width → W.cell? ⟨b, off + (i * e.width + j), none⟩ = l[j]?) ∧ e.Holds W l
theorem Sh.Arg.slice {W : World} {e : Sh} {v : Value} (h : (Sh.slice e).Arg W v) : ∃ a len cap, v = .slice a len cap ∧ SliceOf W e a len cap := by
  obtain ⟨⟨a, len, cap, h1, h2⟩, h3⟩ := h
  have h3 : v.cells.toList = [v] := h3
  rw [h3] at h1
  exact ⟨a, len, cap, List.cons.inj h1 |>.1, h2⟩
theorem Sh.Holds.slice {W : World} {e : Sh} {cs : List Value} (h : (Sh.slice e).Holds W cs) : ∃ a len cap, cs = [.slice a len cap] ∧ SliceOf W e a len cap := h
end Go.Proofs.YthfkfgjhgicfeaaGreatDoor
namespace Go.Proofs.YthfkfgjhgicfeaaGreatDoor
open Go Go.RowKit Go.Deep
set_option linter.unusedVariables false

theorem arg_spong {W : World} {v : Value} (h : (Sh.both .string (.both (.int .i64) .unit)).Arg W v) : ∃ s c, v = .agg #[.string s, .int .i64 c] ∧ s.size ≤ maxLen ∧ (-9223372036854775808 ≤ c ∧ c ≤ 9223372036854775807) := by
  obtain ⟨cs, rfl, l, m, rfl, ⟨s, rfl, hs⟩, l', m', rfl, ⟨c, rfl, hc⟩, hm⟩ := h.agg
  obtain rfl := hm
  exact ⟨s, c, rfl, hs, bounds_i64 hc⟩
/-- A slice of texts. -/
theorem SliceOf.strs {W : World} {a : Option Addr} {len cap : Nat} (h : SliceOf W .string a len cap) : ∃ f : Nat → ByteArray, StrA W a len f ∧ (∀ k, k < len → (f k).size ≤ maxLen) := by
  obtain ⟨h1, h2, h3, h4⟩ := h
  obtain ⟨f, hf⟩ := choose_lt (n := len) (α := ByteArray) (p := fun i s => (∃ b off : Nat, a = some ⟨b, off, none⟩ ∧ W.cell? ⟨b, off + i, none⟩ = some (.string s)) ∧ s.size ≤ maxLen) (fun i hi => by
    obtain ⟨b, off, l, e, hl, hc, s, rfl, hs⟩ := h4 i hi
    have := hc 0 (by decide)
    exact ⟨s, ⟨b, off, e, by simpa [Sh.width] using this⟩, hs⟩)
  exact ⟨f, ⟨by omega, fun k hk => (hf k hk).1⟩, fun k hk => (hf k hk).2⟩
/-- An array of numbers of one kind. -/
theorem holds_rep {W : World} {k : IntKind} : ∀ {n : Nat} {cs : List Value}, (Sh.rep n (.int k)).Holds W cs → ∃ zs : List Int, zs.length = n ∧ cs = zs.map (Value.int k) ∧ ∀ z ∈ zs, (Lit.int k z).wf = true
  | 0, cs, h => by
    have := h.1
    simp at this
    exact ⟨[], rfl, by simpa using this, fun z hz => by cases hz⟩
  | n + 1, cs, h => by
    obtain ⟨h1, h2⟩ := h
    have h0 := h2 0 (by omega)
    obtain ⟨z, hz, hw⟩ := h0
    cases cs with
    | nil => simp [Sh.width] at h1
    | cons c cs =>
      simp [Sh.width] at hz h1
      obtain ⟨zs, hl, he, hws⟩ := holds_rep (n := n) (cs := cs) ⟨by simpa [Sh.width] using h1, fun i hi => by
        have := h2 (i + 1) (by omega)
        simpa [Sh.width] using this⟩
      subst hz
      subst he
      exact ⟨z :: zs, by simp [hl], by simp, fun x hx => by
        rcases List.mem_cons.1 hx with rfl | hx
        · exact hw
        · exact hws x hx⟩
end Go.Proofs.YthfkfgjhgicfeaaGreatDoor
