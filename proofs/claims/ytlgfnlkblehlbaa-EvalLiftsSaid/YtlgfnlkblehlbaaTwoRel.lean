/-
  Two rows put together element by element: what is known between two rounds; as slices of numbers, of pairs. No function of the program is named.
-/
import Derived.Test.YtlgfnlkblehlbaaTwoRows
import Derived.Test.YtlgfnlkblehlbaaGRow
namespace Go.Proofs.Ytlgfnlkblehlbaa
open Go Go.RowKit
set_option linter.unusedVariables false

def cellsK (F : Nat → List Value) (k : Nat) : List Value := (List.range k).flatMap F
theorem cellsK_succ (F : Nat → List Value) (k : Nat) : cellsK F (k + 1) = cellsK F k ++ F k := by simp [cellsK, List.range_succ]
theorem cellsK_len {F : Nat → List Value} {s : Nat} (hF : ∀ j, (F j).length = s) : ∀ k, (cellsK F k).length = k * s
  | 0 => by simp [cellsK]
  | k + 1 => by rw [cellsK_succ, List.length_append, cellsK_len hF k, hF, Nat.succ_mul]
theorem cellsK_at {F : Nat → List Value} {s : Nat} (hF : ∀ j, (F j).length = s) : ∀ {k j i : Nat}, j < k → i < s → (cellsK F k)[j * s + i]? = (F j)[i]?
  | 0, j, i, h, _ => by omega
  | k + 1, j, i, h, hi => by
    rw [cellsK_succ]
    by_cases e : j = k
    · subst e
      rw [List.getElem?_append_right (by rw [cellsK_len hF]; omega), cellsK_len hF]
      congr 1
      omega
    · have hlt : j * s + i < k * s := by
        have : (j + 1) * s ≤ k * s := Nat.mul_le_mul_right s (by omega)
        rw [Nat.succ_mul] at this
        omega
      rw [List.getElem?_append_left (by rw [cellsK_len hF]; exact hlt)]
      exact cellsK_at hF (by omega) hi
def TwoRel (w0 : World) (e : TypeId) (s m : Nat) (F1 F2 : Nat → List Value) (v8 v9 i : Value) (W : World) : Prop :=
  ∃ k : Nat, k ≤ m ∧ i = .int .i64 k ∧ Below w0.heap.size w0 W ∧ W.ownsRow w0.heap.size e s v8 k (cellsK F1 k) ∧ W.ownsRow w0.heap.size e s v9 k (cellsK F2 k) ∧ ∀ q, v8.ownBlock = some q → v9.ownBlock ≠ some q
theorem own_rowK {W : World} {B m : Nat} {e : TypeId} {v : Value} {f : Nat → Int} (h : W.ownsRow B e 1 v m (cellsK (fun j => [.int .u64 (f j)]) m)) : ∃ a c, v = .slice a m c ∧ RowA W a m ((List.range m).map f) ∧ m ≤ c := by
  rcases id h.2 with ⟨hv, h0⟩ | ⟨g, cap, cur, hv, hb, hg, hn, hcap, hsz, ht⟩
  · subst h0
    exact ⟨none, 0, hv, ⟨by simp, by unfold maxLen; omega, fun k hk => by omega⟩, Nat.le_refl _⟩
  · refine ⟨some ⟨g, 0, none⟩, cap, hv, ⟨by simp, by omega, fun k hk => ⟨g, 0, rfl, ?_⟩⟩, hn⟩
    subst hv
    have h0 := h.cellAt k (by omega)
    have h1 := cellsK_at (F := fun j => [.int .u64 (f j)]) (s := 1) (fun _ => rfl) (k := m) (j := k) (i := 0) hk (by decide)
    rw [Nat.mul_one, Nat.add_zero] at h1
    rw [Nat.zero_add, h0, h1]
    simp [List.getD, hk]
theorem own_qrowK {W : World} {B m : Nat} {e : TypeId} {v : Value} {f : Nat → Int × Int} (h : W.ownsRow B e 2 v m (cellsK (fun j => [.int .u64 (f j).1, .int .u64 (f j).2]) m)) : ∃ a c, v = .slice a m c ∧ QRowA W a m ((List.range m).map f) ∧ m ≤ c := by
  rcases id h.2 with ⟨hv, h0⟩ | ⟨g, cap, cur, hv, hb, hg, hn, hcap, hsz, ht⟩
  · subst h0
    exact ⟨none, 0, hv, ⟨by simp, by unfold maxLen; omega, fun k hk => by omega⟩, Nat.le_refl _⟩
  · refine ⟨some ⟨g, 0, none⟩, cap, hv, ⟨by simp, by omega, fun k hk => ⟨g, 0, rfl, ?_, ?_⟩⟩, hn⟩
    all_goals
      subst hv
      have hF : ∀ j, ((fun j => [Value.int .u64 (f j).1, Value.int .u64 (f j).2]) j).length = 2 := fun _ => rfl
    · have h0 := h.cellAt (k * 2) (by omega)
      have h1 := cellsK_at hF (k := m) (j := k) (i := 0) hk (by decide)
      rw [Nat.add_zero] at h1
      rw [Nat.zero_add, h0, h1]
      simp [List.getD, hk]
    · have h0 := h.cellAt (k * 2 + 1) (by omega)
      have h1 := cellsK_at hF (k := m) (j := k) (i := 1) hk (by decide)
      rw [Nat.zero_add, h0, h1]
      simp [List.getD, hk]
theorem range_getD {α : Type} (f : Nat → α) (m i : Nat) (d : α) (h : i < m) : ((List.range m).map f).getD i d = f i := by simp [List.getD, h]
theorem RowA.cut {W : World} {a : Option Addr} {n m : Nat} {zs : List Int} (h : RowA W a n zs) (hm : m ≤ n) : RowA W a m (zs.take m) := by
  refine ⟨by rw [List.length_take, h.1]; omega, by have := h.2.1; omega, fun k hk => ?_⟩
  obtain ⟨b, off, e, c⟩ := h.2.2 k (by omega)
  refine ⟨b, off, e, ?_⟩
  rw [c]
  simp [List.getD, hk]
theorem QRowA.cut {W : World} {a : Option Addr} {n m : Nat} {zs : List (Int × Int)} (h : QRowA W a n zs) (hm : m ≤ n) : QRowA W a m (zs.take m) := by
  refine ⟨by rw [List.length_take, h.1]; omega, by have := h.2.1; omega, fun k hk => ?_⟩
  obtain ⟨b, off, e, c, d⟩ := h.2.2 k (by omega)
  refine ⟨b, off, e, ?_, ?_⟩
  · rw [c]; simp [List.getD, hk]
  · rw [d]; simp [List.getD, hk]
end Go.Proofs.Ytlgfnlkblehlbaa
