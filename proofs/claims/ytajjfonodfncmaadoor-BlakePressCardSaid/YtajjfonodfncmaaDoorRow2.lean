/-
  Arrays by value: an element of one; a table read whole; a piece of a row stored. No function of the program is named.
-/
import Derived.Test.YtajjfonodfncmaaDoorEqA
import Derived.Test.YtajjfonodfncmaaDoorTabs
namespace Go.Proofs.YtajjfonodfncmaaDoor
open Go Go.RowKit
set_option linter.unusedVariables false

section
variable {P : Program}
theorem run_indexA {w : World} {n : Nat} {f : Nat → Value} (ty e : TypeId) (hu : P.underlying ty = some (.array n e)) (he : P.plainKey e = true) (hs : (P.info? e).map (·.size) = some 1) (k : IntKind) (i : Nat) (hi : i < n) :
    (Instr.index ty (.agg (cellsA n f)) (.int k i)).run P w = .ok (f i) w := by
  have hp := run_part_plain (P := P) w he (xs := cellsA n f) (off := i) (v := f i) (cellsA_at n f i hi)
  have hz : (Go.sizeOf e).run P w = .ok 1 w := by
    cases hq : P.info? e with
    | none => simp [hq] at hs
    | some i =>
      have : i.size = 1 := by simpa [hq] using hs
      simp [Go.sizeOf, typeInfo, hq, this]
  have h1 : 0 ≤ (i : Int) ∧ (i : Int) < (n : Int) := by omega
  simp [Instr.index, run_underlying hu, asIntOf, h1, hz, hp]
  exact fun hh => absurd hi (by omega)
theorem wpList_indexA {ops : Array Oper} {rest : List Oper} {o : Oper} {a : Act} {w : World} {Q : Exit → Act → World → Prop} (hgd : o.guard = none) (ty e : TypeId) (x y : Operand) (ho : o.op = .index ty x y)
    (n : Nat) (f : Nat → Value) (k : IntKind) (i : Nat) (hx : a.eval x = .agg (cellsA n f)) (hy : a.eval y = .int k i) (hi : i < n) (hu : P.underlying ty = some (.array n e)) (he : P.plainKey e = true) (hs : (P.info? e).map (·.size) = some 1)
    (h : wpList P ops Q rest (a.put o.dst (f i)) w) : wpList P ops Q (o :: rest) a w :=
  wpList_plain hgd fun K hK => by
    unfold Oper.wp execOp
    simp only [ho, hx, hy, Sem.run_bind, run_indexA ty e hu he hs k i hi, Result.andThen_ok]
    exact hK _ _ h
theorem Tabs.range {W : World} {g n : Nat} {k : IntKind} {Z : Nat → Int} (h : Tabs W g n k Z) : W.rangeAt g 0 (cellsA n fun j => .int k (Z j)).toList := by
  intro j v hv
  rw [cellsA_list] at hv
  have hj : j < n := by
    have := List.getElem?_eq_some_iff.1 hv
    simpa using this.1
  rw [List.getElem?_map, List.getElem?_range hj] at hv
  simp at hv
  rw [Nat.zero_add, h j hj, hv]
/-- A table, read whole. -/
theorem wpList_loadT {ops : Array Oper} {rest : List Oper} {o : Oper} {a : Act} {w : World} {Q : Exit → Act → World → Prop} (hgd : o.guard = none) (ty e : TypeId) (x : Operand) (ho : o.op = .load ty x)
    (g n : Nat) (k : IntKind) (Z : Nat → Int) (hx : a.eval x = .pointer (some ⟨g, 0, none⟩)) (hA : Tabs w g n k Z) (hu : P.underlying ty = some (.array n e)) (hi : (P.info? ty).map (·.size) = some n)
    (h : wpList P ops Q rest (a.put o.dst (.agg (cellsA n fun j => .int k (Z j)))) w) : wpList P ops Q (o :: rest) a w := by
  have := wpList_load_mid (P := P) (ops := ops) (rest := rest) (op := o) (a := a) (w := w) (Q := Q) hgd ty x ho g 0 hx (cellsA n fun j => .int k (Z j)).toList (.array n e) hA.range hu rfl (by rw [hi]; simp [cellsA])
  exact this (by simpa using h)
/-- A piece of a row, stored whole. -/
theorem wpList_storePiece {ops : Array Oper} {rest : List Oper} {o : Oper} {a : Act} {w : World} {Q : Exit → Act → World → Prop} (hgd : o.guard = none) (ty : TypeId) (x y : Operand) (ho : o.op = .store ty x y) (hd : o.dst = none)
    (g off n N : Nat) (f : Nat → Value) (c : Array Value) (hx : a.eval x = .pointer (some ⟨g, off, none⟩)) (hy : a.eval y = .agg c) (hA : Arr w g N f) (hc : c.size = n) (hn : off + n ≤ N) (hi : (P.info? ty).map (·.size) = some n) (h1 : c.all (·.oneCell') = true)
    (h : wpList P ops Q rest a (w.setCells g off c.toList)) : wpList P ops Q (o :: rest) a w :=
  wpList_plain hgd fun K hK => by
    have hs := run_storeAt_mid (P := P) w g off ty c (fun j hj => by
      obtain ⟨h1, h2⟩ := hA (off + j) (by omega)
      exact ⟨by rw [h1]; rfl, h2⟩) (by rw [hi, hc]) h1
    unfold Oper.wp execOp
    simp only [ho, hx, hy, Sem.run_bind, hs, Result.andThen_ok]
    exact hK _ _ (by rw [hd]; exact h)
end
end Go.Proofs.YtajjfonodfncmaaDoor
