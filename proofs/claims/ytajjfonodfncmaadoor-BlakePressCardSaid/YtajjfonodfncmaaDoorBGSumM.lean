/-
  A sum under way: its 74 cells, what they hold behind so many bytes of a text. Plain; no function of the program is named.
-/
import Derived.Test.YtajjfonodfncmaaDoorRow3
import Derived.Test.YtajjfonodfncmaaDoorBGRound
namespace Go.Proofs.YtajjfonodfncmaaDoor
open Go Go.RowKit
set_option linter.unusedVariables false

/-- Eight words, 64 bytes, how many of them are held, how many bytes there were. -/
def sumC (h b : Nat → Int) (k n : Int) (j : Nat) : Value := if j < 8 then .int .u32 (h j) else if j < 72 then .int .u8 (b (j - 8)) else if j = 72 then .int .i64 k else .int .u64 n
theorem sumC_h (h b : Nat → Int) (k n : Int) (j : Nat) (hj : j < 8) : sumC h b k n (0 + j) = w32 h j := by unfold sumC; rw [Nat.zero_add, if_pos hj]
theorem sumC_b (h b : Nat → Int) (k n : Int) (j : Nat) (hj : j < 64) : sumC h b k n (8 + j) = .int .u8 (b j) := by unfold sumC; rw [if_neg (by omega), if_pos (by omega), show 8 + j - 8 = j by omega]
theorem sumC_k (h b : Nat → Int) (k n : Int) : sumC h b k n 72 = .int .i64 k := rfl
theorem sumC_n (h b : Nat → Int) (k n : Int) : sumC h b k n 73 = .int .u64 n := rfl
theorem sumC_setk (h b : Nat → Int) (k n k' : Int) (j : Nat) (hj : j < 74) : (if j = 72 then Value.int .i64 k' else sumC h b k n j) = sumC h b k' n j := by
  by_cases h1 : j = 72
  · subst h1; rfl
  · rw [if_neg h1]; unfold sumC; rw [if_neg h1, if_neg h1]
theorem sumC_setn (h b : Nat → Int) (k n n' : Int) (j : Nat) (hj : j < 74) : (if j = 73 then Value.int .u64 n' else sumC h b k n j) = sumC h b k n' j := by
  by_cases h1 : j = 73
  · subst h1; rfl
  · rw [if_neg h1]; unfold sumC
    by_cases h2 : j < 8
    · rw [if_pos h2, if_pos h2]
    · rw [if_neg h2, if_neg h2]
      by_cases h3 : j < 72
      · rw [if_pos h3, if_pos h3]
      · rw [if_neg h3, if_neg h3, if_pos (by omega), if_pos (by omega)]
theorem sumC_seth (h b h' : Nat → Int) (k n : Int) (j : Nat) (hj : j < 74) : cop (sumC h b k n) 0 (cellsA 8 (w32 h')).toList j = sumC h' b k n j := by
  unfold cop
  rw [cellsA_list, List.length_map, List.length_range]
  by_cases h1 : j < 8
  · rw [if_pos (by omega)]
    unfold sumC
    rw [if_pos h1]
    simp [List.getD, h1]
  · rw [if_neg (by omega)]; unfold sumC; rw [if_neg h1, if_neg h1]
/-- The block's bytes with some of a text behind those held. -/
def bput (b : Nat → Int) (T : ByteArray) (k m : Nat) (j : Nat) : Int := if k ≤ j ∧ j < k + m then byt T (j - k) else b j
theorem sumC_put (h b : Nat → Int) (T : ByteArray) (k m : Nat) (n x : Int) (hm : m ≤ T.size) (hk : k + m ≤ 64) (j : Nat) (hj : j < 74) : cop (sumC h b x n) (8 + k) ((strCs T).take m) j = sumC h (bput b T k m) x n j := by
  have hl : ((strCs T).take m).length = m := by rw [List.length_take, strCs_len]; exact Nat.min_eq_left hm
  unfold cop
  rw [hl]
  by_cases h1 : 8 + k ≤ j ∧ j < 8 + k + m
  · rw [if_pos h1]
    unfold sumC bput
    rw [if_neg (by omega), if_pos (by omega), if_pos (by omega)]
    have h2 := strCs_at T (j - (8 + k)) (by omega)
    rw [show j - 8 - k = j - (8 + k) by omega, ← h2]
    simp only [List.getD]
    rw [List.getElem?_take_of_lt (by omega)]
  · rw [if_neg h1]
    unfold sumC
    by_cases h2 : j < 8
    · rw [if_pos h2, if_pos h2]
    · rw [if_neg h2, if_neg h2]
      by_cases h3 : j < 72
      · rw [if_pos h3, if_pos h3]
        unfold bput
        rw [if_neg (by omega)]
      · rw [if_neg h3, if_neg h3]
/-- The block's bytes with noughts behind those held. -/
def bclr (b : Nat → Int) (k : Nat) (j : Nat) : Int := if j < k then b j else 0
theorem sumC_clr (h b : Nat → Int) (k : Nat) (n x : Int) (hk : k ≤ 64) (j : Nat) (hj : j < 74) : cop (sumC h b x n) (8 + k) (List.replicate (64 - k) (.int .u8 0)) j = sumC h (bclr b k) x n j := by
  unfold cop
  rw [List.length_replicate]
  by_cases h1 : 8 + k ≤ j ∧ j < 8 + k + (64 - k)
  · rw [if_pos h1]
    unfold sumC bclr
    rw [if_neg (by omega), if_pos (by omega), if_neg (by omega)]
    simp [List.getD, List.getElem?_replicate]
    rw [if_pos (by omega)]
    rfl
  · rw [if_neg h1]
    unfold sumC
    by_cases h2 : j < 8
    · rw [if_pos h2, if_pos h2]
    · rw [if_neg h2, if_neg h2]
      by_cases h3 : j < 72
      · rw [if_pos h3, if_pos h3]
        unfold bclr
        rw [if_pos (by omega)]
      · rw [if_neg h3, if_neg h3]
/-- Behind p bytes of s: q blocks are pressed, k bytes held. -/
structure SumC (s : ByteArray) (g p q k : Nat) (b : Nat → Int) (W : World) : Prop where
  at_ : p = 64 * q + k
  le : p ≤ s.size
  held : k ≤ 64
  byte : ∀ j, j < k → b j = byt s (64 * q + j)
  arr : Arr W g 74 (sumC (hseq s q) b k p)
theorem SumC.keep {s : ByteArray} {g p q k : Nat} {b : Nat → Int} {W W' : World} (h : SumC s g p q k b W) (hb : Below W.heap.size W W') : SumC s g p q k b W' := ⟨h.at_, h.le, h.held, h.byte, h.arr.keep hb⟩
def SumSt (s : ByteArray) (g p : Nat) (W : World) : Prop := ∃ (q k : Nat) (b : Nat → Int), SumC s g p q k b W ∧ (q = 0 ∨ 0 < k)
theorem SumSt.keep {s : ByteArray} {g p : Nat} {W W' : World} (h : SumSt s g p W) (hb : Below W.heap.size W W') : SumSt s g p W' := by
  obtain ⟨q, k, b, h1, h2⟩ := h
  exact ⟨q, k, b, h1.keep hb, h2⟩
/-- The full block, as it is pressed. -/
theorem SumC.full {s : ByteArray} {g p q : Nat} {b : Nat → Int} {W : World} (h : SumC s g p q 64 b W) (j : Nat) (hj : j < 64) : sumC (hseq s q) b (64 : Nat) p (8 + j) = w8 (blkOf s (64 * q)) j := by
  rw [sumC_b _ _ _ _ j hj, h.byte j hj]; rfl
/-- The last block, with noughts behind. -/
theorem SumC.last {s : ByteArray} {g q k : Nat} {b : Nat → Int} {W : World} (h : SumC s g s.size q k b W) (j : Nat) (hj : j < 64) : sumC (hseq s q) (bclr b k) k s.size (8 + j) = w8 (blkOf s (64 * q)) j := by
  rw [sumC_b _ _ _ _ j hj]
  show Value.int .u8 (bclr b k j) = Value.int .u8 (byt s (64 * q + j))
  unfold bclr
  by_cases h1 : j < k
  · rw [if_pos h1, h.byte j h1]
  · rw [if_neg h1, byt_out s _ (by have := h.at_; omega)]
theorem SumC.put {s T : ByteArray} {g p q k m : Nat} {b : Nat → Int} {W W' : World} (h : SumC s g p q k b W) (hT : ∀ i, i < T.size → byt T i = byt s (p + i)) (hm : m ≤ T.size) (hk : k + m ≤ 64) (hp : p + m ≤ s.size)
    (hA : Arr W' g 74 (sumC (hseq s q) (bput b T k m) ((k + m : Nat) : Int) ((p + m : Nat) : Int))) : SumC s g (p + m) q (k + m) (bput b T k m) W' := by
  refine ⟨by rw [h.at_]; omega, hp, hk, fun j hj => ?_, hA⟩
  unfold bput
  by_cases h1 : k ≤ j ∧ j < k + m
  · rw [if_pos h1, hT (j - k) (by omega)]
    congr 1
    have := h.at_; omega
  · rw [if_neg h1]
    exact h.byte j (by omega)
end Go.Proofs.YtajjfonodfncmaaDoor
