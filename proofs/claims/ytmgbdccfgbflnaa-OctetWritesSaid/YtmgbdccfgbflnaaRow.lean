/-
  Arrays by value: rows of cells that lie in a variable, read whole, stored whole, boxed. No function of the program is named.
-/
import Derived.Test.YtmgbdccfgbflnaaBut
import Derived.Test.YtmgbdccfgbflnaaCopy
import Derived.Deep.MidRow
import Derived.Lib.LazyBuf
namespace Go.Proofs.Ytmgbdccfgbflnaa
open Go Go.RowKit
set_option linter.unusedVariables false

/-- A row's values, one behind the other. -/
def cellsA (n : Nat) (f : Nat → Value) : Array Value := ((List.range n).map f).toArray
theorem cellsA_size (n : Nat) (f : Nat → Value) : (cellsA n f).size = n := by simp [cellsA]
theorem cellsA_at (n : Nat) (f : Nat → Value) (j : Nat) (h : j < n) : (cellsA n f)[j]? = some (f j) := by simp [cellsA, h]
theorem cellsA_list (n : Nat) (f : Nat → Value) : (cellsA n f).toList = (List.range n).map f := by simp [cellsA]
theorem cellsA_congr {n : Nat} {f g : Nat → Value} (h : ∀ j, j < n → f j = g j) : cellsA n f = cellsA n g := by
  unfold cellsA
  congr 1
  exact List.map_congr_left fun j hj => h j (List.mem_range.1 hj)
theorem cellsA_inj {n : Nat} {f g : Nat → Value} (h : cellsA n f = cellsA n g) (j : Nat) (hj : j < n) : f j = g j := by
  have := congrArg (fun a : Array Value => a[j]?) h
  simpa [cellsA_at _ _ _ hj] using this
/-- Values written out, as such a row. -/
theorem cellsA_of {n : Nat} {f : Nat → Value} {a : Array Value} (hs : a.size = n) (h : ∀ j, j < n → a[j]? = some (f j)) : a = cellsA n f := by
  apply Array.ext
  · rw [hs, cellsA_size]
  · intro j h1 h2
    have e1 := h j (by omega)
    have e2 := cellsA_at n f j (by omega)
    rw [Array.getElem?_eq_getElem h1] at e1
    rw [Array.getElem?_eq_getElem h2] at e2
    exact Option.some.inj (e1.trans e2.symm)
theorem Arr.of_cells (W : World) (c : Array Value) (t : TypeId) {n : Nat} {f : Nat → Value} (h : ∀ j, j < n → c[j]? = some (f j)) : Arr (W.alloc (.cells c t)) W.heap.size n f := by
  intro j hj
  constructor
  · rw [cell_of_row _ _ _ _ _ _ (heap_alloc_new W (.cells c t))]
    exact h j hj
  · have hh := heap_alloc_new W (.cells c t)
    unfold World.frozen?
    simp only [hh]
    simp
theorem Arr.box (W : World) (n : Nat) (f : Nat → Value) (t : TypeId) : Arr (W.alloc (.cells (cellsA n f) t)) W.heap.size n f := Arr.of_cells W _ t fun j hj => cellsA_at n f j hj
/-- One value in all cells. -/
theorem Arr.zeros (W : World) (n : Nat) (v : Value) (c : Array Value) (t : TypeId) (h : c = Array.replicate n v) : Arr (W.alloc (.cells c t)) W.heap.size n (fun _ => v) :=
  Arr.of_cells W _ t fun j hj => by rw [h]; simp [hj]
theorem Arr.range {W : World} {g n : Nat} {f : Nat → Value} (h : Arr W g n f) : W.rangeAt g 0 (cellsA n f).toList := by
  intro j v hv
  rw [cellsA_list] at hv
  have hj : j < n := by
    have := List.getElem?_eq_some_iff.1 hv
    simpa using this.1
  rw [List.getElem?_map, List.getElem?_range hj] at hv
  simp at hv
  rw [Nat.zero_add, (h j hj).1, hv]
section
variable {P : Program}
theorem run_loadVarA {W : World} {g n : Nat} {f : Nat → Value} (h : Arr W g n f) (ty e : TypeId) (hu : P.underlying ty = some (.array n e)) (hi : (P.info? ty).map (·.size) = some n) :
    (loadVar ty ⟨g, 0, none⟩).run P W = .ok (.agg (cellsA n f)) W := by
  have := run_loadVar_mid (P := P) W g 0 ty (cellsA n f).toList (.array n e) h.range hu rfl (by rw [hi]; simp [cellsA])
  simpa using this
theorem run_loadAtA {W : World} {g n : Nat} {f : Nat → Value} (h : Arr W g n f) (ty e : TypeId) (hu : P.underlying ty = some (.array n e)) (hi : (P.info? ty).map (·.size) = some n) :
    (Instr.loadAt ty (.pointer (some ⟨g, 0, none⟩))).run P W = .ok (.agg (cellsA n f)) W := by
  have := run_loadAt_mid (P := P) W g 0 ty (cellsA n f).toList (.array n e) h.range hu rfl (by rw [hi]; simp [cellsA])
  simpa using this
theorem run_storeAtA {W : World} {g n : Nat} {f : Nat → Value} (h : Arr W g n f) (c : Array Value) (ty : TypeId) (hc : c.size = n) (hi : (P.info? ty).map (·.size) = some n) (h1 : c.all (·.oneCell') = true) :
    (Instr.storeAt ty (.pointer (some ⟨g, 0, none⟩)) (.agg c)).run P W = .ok () (W.setCells g 0 c.toList) :=
  run_storeAt_mid (P := P) W g 0 ty c (fun j hj => by
    rw [Nat.zero_add]
    obtain ⟨h1, h2⟩ := h j (by omega)
    exact ⟨by rw [h1]; rfl, h2⟩) (by rw [hi, hc]) h1
theorem run_zeroA {w : World} (ty : TypeId) (v : Value) (h : (P.info? ty).bind (·.zero) = some v) : (zeroValue ty).run P w = .ok v w := by
  cases hq : P.info? ty with
  | none => simp [hq] at h
  | some i =>
    have hz : i.zero = some v := by simpa [hq] using h
    simp [zeroValue, typeInfo, hq, hz]
theorem wpList_storeA {ops : Array Oper} {rest : List Oper} {o : Oper} {a : Act} {w : World} {Q : Exit → Act → World → Prop} (hgd : o.guard = none) (ty : TypeId) (x y : Operand) (ho : o.op = .store ty x y) (hd : o.dst = none)
    (g n : Nat) (f : Nat → Value) (c : Array Value) (hx : a.eval x = .pointer (some ⟨g, 0, none⟩)) (hy : a.eval y = .agg c) (hA : Arr w g n f) (hc : c.size = n) (hi : (P.info? ty).map (·.size) = some n) (h1 : c.all (·.oneCell') = true)
    (h : wpList P ops Q rest a (w.setCells g 0 c.toList)) : wpList P ops Q (o :: rest) a w :=
  wpList_plain hgd fun K hK => by
    unfold Oper.wp execOp
    simp only [ho, hx, hy, Sem.run_bind, run_storeAtA hA c ty hc hi h1, Result.andThen_ok]
    exact hK _ _ (by rw [hd]; exact h)
/-- A piece of a row, read whole. -/
theorem Arr.piece {W : World} {g m : Nat} {f : Nat → Value} (h : Arr W g m f) (o n : Nat) (f' : Nat → Value) (hn : o + n ≤ m) (hf : ∀ j, j < n → f (o + j) = f' j) : W.rangeAt g o (cellsA n f').toList := by
  intro j v hv
  rw [cellsA_list] at hv
  have hj : j < n := by
    have := List.getElem?_eq_some_iff.1 hv
    simpa using this.1
  rw [List.getElem?_map, List.getElem?_range hj] at hv
  simp at hv
  rw [(h (o + j) (by omega)).1, hf j hj, hv]
theorem wpList_pieceA {ops : Array Oper} {rest : List Oper} {o : Oper} {a : Act} {w : World} {Q : Exit → Act → World → Prop} (hgd : o.guard = none) (ty e : TypeId) (x : Operand) (ho : o.op = .load ty x)
    (g off m n : Nat) (f f' : Nat → Value) (hx : a.eval x = .pointer (some ⟨g, off, none⟩)) (hA : Arr w g m f) (hn : off + n ≤ m) (hf : ∀ j, j < n → f (off + j) = f' j) (hu : P.underlying ty = some (.array n e)) (hi : (P.info? ty).map (·.size) = some n)
    (h : wpList P ops Q rest (a.put o.dst (.agg (cellsA n f'))) w) : wpList P ops Q (o :: rest) a w := by
  have := wpList_load_mid (P := P) (ops := ops) (rest := rest) (op := o) (a := a) (w := w) (Q := Q) hgd ty x ho g off hx (cellsA n f').toList (.array n e) (hA.piece off n f' hn hf) hu rfl (by rw [hi]; simp [cellsA])
  exact this (by simpa using h)
theorem wpList_loadA {ops : Array Oper} {rest : List Oper} {o : Oper} {a : Act} {w : World} {Q : Exit → Act → World → Prop} (hgd : o.guard = none) (ty e : TypeId) (x : Operand) (ho : o.op = .load ty x)
    (g n : Nat) (f : Nat → Value) (hx : a.eval x = .pointer (some ⟨g, 0, none⟩)) (hA : Arr w g n f) (hu : P.underlying ty = some (.array n e)) (hi : (P.info? ty).map (·.size) = some n)
    (h : wpList P ops Q rest (a.put o.dst (.agg (cellsA n f))) w) : wpList P ops Q (o :: rest) a w :=
  wpList_plain hgd fun K hK => by
    unfold Oper.wp execOp
    simp only [ho, hx, Sem.run_bind, run_loadAtA hA ty e hu hi, Result.andThen_ok]
    exact hK _ _ h
end
/-- Stored whole. -/
theorem Arr.stored {W : World} {g n : Nat} {f : Nat → Value} (h : Arr W g n f) (f' : Nat → Value) : Arr (W.setCells g 0 (cellsA n f').toList) g n f' := by
  intro j hj
  constructor
  · have := World.cell?_setCells_in g (cellsA n f').toList 0 W (fun i hi => by
      rw [Nat.zero_add]
      have hi' : i < n := by simpa [cellsA] using hi
      rw [(h i hi').1]; rfl) j (by simpa [cellsA] using hj)
    rw [Nat.zero_add] at this
    rw [this]
    simp [cellsA]
  · rw [World.frozen?_setCells]
    exact (h j hj).2
/-- A result that lies in a variable of its own. -/
theorem results_cellA {P : Program} {fn : Func} {t : Tmp} {ty : TypeId} {tmps : Array Value} {a : Addr} {v : Value} {W : World} (h : fn.results = #[.cell t ty]) (ht : tmps.getD t undef = .pointer (some a)) (hl : (loadVar ty a).run P W = .ok v W) :
    (results fn tmps).run P W = .ok v W := by
  simp only [Array.getD_eq_getD_getElem?] at ht
  simp [results, h, ht, asAddr, hl]
theorem belowCells {B : Nat} {a w : World} (h : Below B a w) (g : Nat) (hg : B ≤ g) : ∀ (vs : List Value) (o : Nat), Below B a (w.setCells g o vs)
  | [], _ => h
  | v :: r, o => belowCells (h.setCell (p := ⟨g, o, none⟩) hg v) g hg r (o + 1)
theorem setCells_size (g : Nat) : ∀ (vs : List Value) (o : Nat) (W : World), (W.setCells g o vs).heap.size = W.heap.size
  | [], _, _ => rfl
  | v :: r, o, W => (setCells_size g r (o + 1) _).trans (by simp [World.setCell])
theorem Arr.farCells {n : Nat} {f : Nat → Value} {g g' : Nat} (hg : g' ≠ g) : ∀ (vs : List Value) (o : Nat) {W : World}, Arr W g n f → Arr (W.setCells g' o vs) g n f
  | [], _, _, h => h
  | v :: r, o, _, h => Arr.farCells hg r (o + 1) (h.far hg o v)
theorem Arr.setCells {g N : Nat} : ∀ (vs : List Value) (o : Nat) {f : Nat → Value} {W : World}, Arr W g N f → o + vs.length ≤ N → Arr (W.setCells g o vs) g N (cop f o vs)
  | [], o, f, W, h, _ => h.same fun j _ => (cop_nil f o j).symm
  | v :: rest, o, f, W, h, hl => by
    have ho : o < N := by simp at hl; omega
    refine (Arr.setCells rest (o + 1) (h.set o v ho) (by simp at hl; omega)).same fun j hj => ?_
    unfold cop
    simp only [List.length_cons]
    by_cases h2 : j = o
    · subst h2
      rw [if_neg (by omega), if_pos rfl, if_pos (by omega)]; simp
    · by_cases h3 : o + 1 ≤ j ∧ j < o + 1 + rest.length
      · rw [if_pos h3, if_pos (by omega), show j - o = (j - (o + 1)) + 1 by omega]; rfl
      · rw [if_neg h3, if_neg h2, if_neg (by omega)]
/-- copy, of a text no longer than there is room. -/
theorem wpList_copy_strA {P : Program} {ops : Array Oper} {rest : List Oper} {o : Oper} {a : Act} {w : World} {Q : Exit → Act → World → Prop} (hgd : o.guard = none) (d x : Operand) (dT sT : TypeId)
    (hop : o.op = Op.call { callee := Callee.builtin Builtin.copy, args := #[d, x], argTypes := #[dT, sT] }) (elem : TypeId) (hu : P.underlying dT = some (.slice elem)) (hz : (P.info? elem).map (·.size) = some 1)
    (b N dLen dCap : Nat) (hd : a.eval d = .slice (some ⟨b, 0, none⟩) dLen dCap) (t : ByteArray) (hx : a.eval x = .string t) (hle : t.size ≤ dLen) (f : Nat → Value) (hA : Arr w b N f) (hN : t.size ≤ N)
    (h : wpList P ops Q rest (a.put o.dst (goInt t.size)) (w.setCells b 0 (t.data.toList.map fun x => Value.int .u8 (x.toNat : Int)))) : wpList P ops Q (o :: rest) a w :=
  wpList_plain hgd fun K hK => by
    have hz' : ∀ w, (Go.sizeOf elem).run P w = .ok 1 w := by
      intro w
      cases hq : P.info? elem with
      | none => simp [hq] at hz
      | some i =>
        have : i.size = 1 := by simpa [hq] using hz
        simp [Go.sizeOf, typeInfo, hq, this]
    have hrun := Go.run_copy_string (P := P) w dT sT o.type elem b 0 dLen dCap t hu hz' hle (fun j hj => by rw [Nat.zero_add, (hA j (by omega)).1]; rfl) (fun j hj => by rw [Nat.zero_add]; exact (hA j (by omega)).2)
    unfold Oper.wp
    simp [execOp, hop, resolve, invoke, builtin, hd, hx, hrun, Result.andThen]
    exact hK _ _ h
end Go.Proofs.Ytmgbdccfgbflnaa
