/-
  Arrays by value in a region that draws: read out of a variable; held against each other. No function of the program is named.
-/
import Derived.Test.YtajjfonodfncmaaDoorRow
import Derived.ChangeKeysEq
namespace Go.Proofs.YtajjfonodfncmaaDoor
open Go Go.RowKit
set_option linter.unusedVariables false

section
variable {P : Program}
/-- A piece of a row, read (an operation of a region that draws: 'rw [if_pos]' ahead). -/
theorem wp_pieceA {o : Oper} {a : Act} {w : World} {K : Act → World → Prop} {Q : Exit → Act → World → Prop} (ty e : TypeId) (x : Operand) (ho : o.op = .load ty x)
    (g off m n : Nat) (f f' : Nat → Value) (hx : a.eval x = .pointer (some ⟨g, off, none⟩)) (hA : Arr w g m f) (hn : off + n ≤ m) (hf : ∀ j, j < n → f (off + j) = f' j) (hu : P.underlying ty = some (.array n e)) (hi : (P.info? ty).map (·.size) = some n)
    (h : K (a.put o.dst (.agg (cellsA n f'))) w) : Oper.wp P o a w K Q := by
  have := wp_load_mid (P := P) (op := o) (a := a) (w := w) (K := K) (Q := Q) ty x ho g off hx (cellsA n f').toList (.array n e) (hA.piece off n f' hn hf) hu rfl (by rw [hi]; simp [cellsA])
  exact this (by simpa using h)
theorem eqItems_self (w : World) (d : Nat) {e : TypeId} {k : IntKind} (hu : P.underlying e = some (.int k)) (he : P.plainKey e = true) (hc : P.cellsOf e = 1) (n : Nat) (f : Nat → Int) : ∀ is : List Nat, (∀ i ∈ is, i < n) →
    (Op.eqItems (d + 1) e (P.cellsOf e) (cellsA n fun j => .int k (f j)) (cellsA n fun j => .int k (f j)) is).run P w = .ok true w
  | [], _ => by simp [Op.eqItems]
  | i :: is, h => by
    have hi : i < n := h i (by simp)
    have hp := run_part_plain (P := P) w he (xs := cellsA n fun j => .int k (f j)) (off := i * P.cellsOf e) (v := .int k (f i)) (by rw [hc, Nat.mul_one]; exact cellsA_at n _ i hi)
    have ih := eqItems_self w d hu he hc n f is (fun j hj => h j (by simp [hj]))
    simp only [Op.eqItems, Sem.run_bind, hp, Result.andThen_ok, run_equalIn_int w d e k k (f i) (f i) hu, beq_self_eq_true, Bool.not_true, Bool.false_eq_true, if_false, ih]
/-- A row is the row that it is. -/
theorem run_equal_self (w : World) {t e : TypeId} {k : IntKind} {n : Nat} (ht : P.underlying t = some (.array n e)) (hi : (P.info? e).isSome = true) (hu : P.underlying e = some (.int k)) (he : P.plainKey e = true) (hc : P.cellsOf e = 1) (f : Nat → Int) :
    (Op.equalIn 10000 t (.agg (cellsA n fun j => .int k (f j))) (.agg (cellsA n fun j => .int k (f j)))).run P w = .ok true w := by
  obtain ⟨i, hi⟩ := Option.isSome_iff_exists.1 hi
  rw [run_equalIn_array w 9999 _ _ ht hi]
  exact eqItems_self w 9998 hu he hc n f _ (fun j hj => List.mem_range.1 hj)
end
end Go.Proofs.YtajjfonodfncmaaDoor
