/-
  What the document's Print of layer 15 comes to.
-/
import Derived.Test.YtlgfnlkblehlbaaCodeRef
namespace Go.Proofs.Ytlgfnlkblehlbaa
open Go Go.RowKit
set_option linter.unusedVariables false

theorem strOf_cat (xs ys : List Int) : strOfNums (xs ++ ys) = strOfNums xs ++ strOfNums ys := by
  apply ByteArray.ext
  rw [ByteArray.data_append]
  simp [strOfNums]
abbrev one8 (x : Int) : ByteArray := strOfNums [x]
theorem one8_size (x : Int) : (strOfNums [x]).size = 1 := by rw [strOfNums_size]; rfl
theorem codeN_len_le : ∀ l : List Opn, (codeN l).length ≤ 9 * l.length
  | [] => by simp [codeN_nil]
  | o :: l => by
    have h := codeN_len_le l
    have h2 := opN_len o
    have e : codeN (o :: l) = opN o ++ codeN l := by simp [codeN]
    rw [e, List.length_append, List.length_cons, h2]
    split
    · omega
    · split <;> omega
def PrintRel (w : World) (zs : List Opn) (s i : Value) (W : World) : Prop := ∃ k : Nat, k ≤ zs.length ∧ s = .string (codeB (zs.take k)) ∧ i = .int .i64 k ∧ Below w.heap.size w W
theorem codeB_next (zs : List Opn) (k : Nat) (h : k < zs.length) (P : ByteArray) (hP : codeB (zs.take k) = P) (x y : Int) (hx : (zs.getD k (0, 0)).1 = x) (hy : (zs.getD k (0, 0)).2 = y) : codeB (zs.take (k + 1)) = P ++ strOfNums (opN (x, y)) := by
  have e : zs.getD k (0, 0) = zs[k] := by simp [List.getD, h]
  have e2 : zs[k] = (x, y) := by rw [← e]; exact Prod.ext hx hy
  rw [List.take_succ_eq_append_getElem h, codeB_app, hP, e2]
  unfold codeB
  rw [codeN_one]
end Go.Proofs.Ytlgfnlkblehlbaa
