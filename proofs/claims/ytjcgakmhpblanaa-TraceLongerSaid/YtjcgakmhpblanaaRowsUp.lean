/-
  Rows in a row: as they are read; under way, in rows of their own; a table of the call's own. No function of the program is named.
-/
import Derived.Test.YtjcgakmhpblanaaGRow
namespace Go.Proofs.Ytjcgakmhpblanaa
open Go Go.RowKit
set_option linter.unusedVariables false

section
variable {α : Type} {te e : TypeId} {s : Nat} {flat : List α → List Value} {rowP : World → Option Addr → Nat → List α → Prop}
/-- Rows, each of which is as rowP says. -/
def RowsP (rowP : World → Option Addr → Nat → List α → Prop) (W : World) (a : Option Addr) (n : Nat) (rows : List (List α)) : Prop :=
  rows.length = n ∧ n ≤ maxLen ∧ ∀ k, k < n → ∃ b off : Nat, a = some ⟨b, off, none⟩ ∧ ∃ (ak : Option Addr) (ck : Nat), W.cell? ⟨b, off + k, none⟩ = some (.slice ak (rows.getD k []).length ck) ∧ rowP W ak (rows.getD k []).length (rows.getD k []) ∧ (rows.getD k []).length ≤ ck
theorem RowsP.keep (hk : ∀ {W W' : World} {a : Option Addr} {n : Nat} {l : List α}, rowP W a n l → Below W.heap.size W W' → rowP W' a n l) {W W' : World} {a : Option Addr} {n : Nat} {rows : List (List α)} (h : RowsP rowP W a n rows) (hb : Below W.heap.size W W') : RowsP rowP W' a n rows :=
  ⟨h.1, h.2.1, fun k hlt => by
    obtain ⟨b, off, e, ak, ck, hc, hr, hn⟩ := h.2.2 k hlt
    exact ⟨b, off, e, ak, ck, bkeep hb hc, hk hr hb, hn⟩⟩
theorem RowsP.nil (W : World) : RowsP rowP W none 0 [] := ⟨rfl, by unfold maxLen; omega, fun k hk => by omega⟩
theorem RowsP.lt {W : World} {a : Option Addr} {n : Nat} {rows : List (List α)} (h : RowsP rowP W a n rows) : n ≤ maxLen := h.2.1
/-- The first ones. -/
theorem RowsP.take {W : World} {a : Option Addr} {n m : Nat} {rows : List (List α)} (h : RowsP rowP W a n rows) (hm : m ≤ n) : RowsP rowP W a m (rows.take m) := by
  obtain ⟨h1, h2, h3⟩ := h
  refine ⟨by simp; omega, by omega, fun k hk => ?_⟩
  have e : (rows.take m).getD k [] = rows.getD k [] := by simp [List.getD, hk]
  rw [e]
  exact h3 k (by omega)
/-- A table of rows in a block of its own, none of them in it. -/
def TabG (rowP : World → Option Addr → Nat → List α → Prop) (W : World) (B : Nat) (a : Option Addr) (n : Nat) (rows : List (List α)) : Prop :=
  rows.length = n ∧ n ≤ maxLen ∧ ∀ k, k < n → ∃ g off : Nat, B ≤ g ∧ a = some ⟨g, off, none⟩ ∧ W.frozen? ⟨g, off + k, none⟩ = false ∧ ∃ (ak : Option Addr) (ck : Nat), W.cell? ⟨g, off + k, none⟩ = some (.slice ak (rows.getD k []).length ck) ∧ rowP W ak (rows.getD k []).length (rows.getD k []) ∧ (rows.getD k []).length ≤ ck ∧ ∀ x, ak = some x → x.block ≠ g
theorem TabG.rows {W : World} {B : Nat} {a : Option Addr} {n : Nat} {rows : List (List α)} (h : TabG rowP W B a n rows) : RowsP rowP W a n rows :=
  ⟨h.1, h.2.1, fun k hk => by
    obtain ⟨g, off, _, e, _, ak, ck, hc, hr, hn, _⟩ := h.2.2 k hk
    exact ⟨g, off, e, ak, ck, hc, hr, hn⟩⟩
theorem TabG.keep (hk : ∀ {W W' : World} {a : Option Addr} {n : Nat} {l : List α}, rowP W a n l → Below W.heap.size W W' → rowP W' a n l) {W W' : World} {B : Nat} {a : Option Addr} {n : Nat} {rows : List (List α)} (h : TabG rowP W B a n rows) (hb : Below W.heap.size W W') : TabG rowP W' B a n rows :=
  ⟨h.1, h.2.1, fun k hlt => by
    obtain ⟨g, off, h1, e, hf, ak, ck, hc, hr, hn, hx⟩ := h.2.2 k hlt
    exact ⟨g, off, h1, e, bfree hb hc hf, ak, ck, bkeep hb hc, hk hr hb, hn, hx⟩⟩
theorem TabG.mono {W : World} {B B' : Nat} {a : Option Addr} {n : Nat} {rows : List (List α)} (h : TabG rowP W B a n rows) (hb : B' ≤ B) : TabG rowP W B' a n rows :=
  ⟨h.1, h.2.1, fun k hlt => by
    obtain ⟨g, off, h1, r⟩ := h.2.2 k hlt
    exact ⟨g, off, Nat.le_trans hb h1, r⟩⟩
theorem TabG.nil (W : World) (B : Nat) : TabG rowP W B none 0 [] := ⟨rfl, by unfold maxLen; omega, fun k hk => by omega⟩
/-- Another row in it. -/
theorem TabG.set (hk : ∀ {W : World} {a : Option Addr} {n g o : Nat} {v : Value} {l : List α}, rowP W a n l → (∀ x, a = some x → x.block ≠ g) → rowP (W.setCell ⟨g, o, none⟩ v) a n l) {W : World} {B g off i : Nat} {n : Nat} {rows : List (List α)} {ai : Option Addr} {ci : Nat} {l : List α} (h : TabG rowP W B (some ⟨g, off, none⟩) n rows) (hi : i < n) (hr : rowP W ai l.length l) (hc : l.length ≤ ci) (hx : ∀ x, ai = some x → x.block ≠ g) : TabG rowP (W.setCell ⟨g, off + i, none⟩ (.slice ai l.length ci)) B (some ⟨g, off, none⟩) n (rows.set i l) := by
  obtain ⟨h1, h2, h3⟩ := h
  refine ⟨by simp [h1], h2, fun k hlt => ?_⟩
  obtain ⟨g', off', hB, e, hf, ak, ck, hck, hrk, hn, hxk⟩ := h3 k hlt
  cases e
  refine ⟨g, off, hB, rfl, by simp [hf], ?_⟩
  by_cases d : k = i
  · subst d
    have e2 : (rows.set k l).getD k [] = l := by simp [List.getD, show k < rows.length by omega]
    rw [e2]
    refine ⟨ai, ci, ?_, hk hr hx, hc, hx⟩
    simp [go_sem, hck]
  · have e2 : (rows.set i l).getD k [] = rows.getD k [] := by simp [List.getD, show ¬ i = k from fun c => d c.symm]
    rw [e2]
    refine ⟨ak, ck, ?_, hk hrk hxk, hn, hxk⟩
    exact (World.cell?_setCell_other _ _ _ _ (by intro c; have := congrArg Addr.off c; simp only at this; first | omega | (have h2 : off + k = off + i := this.symm; omega) | (have h2 : off + i = off + k := this; omega))).trans hck
def valsR (rs : Nat → Value) (k : Nat) : List Value := (List.range k).map rs
theorem valsR_len (rs : Nat → Value) (k : Nat) : (valsR rs k).length = k := by simp [valsR]
theorem valsR_snoc (rs : Nat → Value) (v : Value) (k : Nat) : valsR rs k ++ [v] = valsR (fun j => if j = k then v else rs j) (k + 1) := by
  simp only [valsR, List.range_succ, List.map_append, List.map_cons, List.map_nil, if_true]
  congr 1
  refine List.map_congr_left fun j hj => ?_
  rw [if_neg (by have := List.mem_range.1 hj; omega)]
theorem valsR_at (rs : Nat → Value) {k j : Nat} (h : j < k) : (valsR rs k).getD j undef = rs j := by simp [valsR, List.getD, h]
/-- Rows under way, in rows of their own. -/
def RowsG (te e : TypeId) (s : Nat) (flat : List α → List Value) (w W : World) (v : Value) (ks : List (List α)) : Prop :=
  ∃ rs : Nat → Value, MadeG te w W v (valsR rs ks.length) ∧ ∀ j, j < ks.length → W.ownsRow w.heap.size e s (rs j) (ks.getD j []).length (flat (ks.getD j []))
theorem RowsG.start {w W : World} (h : Below w.heap.size w W) : RowsG te e s flat w W (.slice none 0 0) [] := ⟨fun _ => undef, MadeG.nil h, fun j hj => absurd hj (by simp)⟩
theorem RowsG.keep {w W W' : World} {v : Value} {ks : List (List α)} (h : RowsG te e s flat w W v ks) (hb : Below W.heap.size W W') : RowsG te e s flat w W' v ks := by
  obtain ⟨rs, h1, h2⟩ := h
  exact ⟨rs, h1.keep hb, fun j hj => own_keep (h2 j hj) hb⟩
theorem RowsG.below {w W : World} {v : Value} {ks : List (List α)} (h : RowsG te e s flat w W v ks) : Below w.heap.size w W := by
  obtain ⟨rs, h1, h2⟩ := h
  exact h1.2
/-- One more. -/
theorem RowsG.more (hne : e ≠ te) {w W W' : World} {v v' u : Value} {ks : List (List α)} {l : List α} {rs : Nat → Value} (h1 : MadeG te w W v (valsR rs ks.length)) (h2 : ∀ j, j < ks.length → W.ownsRow w.heap.size e s (rs j) (ks.getD j []).length (flat (ks.getD j [])))
    (hu : W.ownsRow w.heap.size e s u l.length (flat l)) (hg : W.grownBy W' v.ownBlock) (h1' : MadeG te w W' v' (valsR rs ks.length ++ [u])) : RowsG te e s flat w W' v' (ks ++ [l]) := by
  refine ⟨fun j => if j = ks.length then u else rs j, by rw [List.length_append, show ks.length + [l].length = ks.length + 1 from rfl, ← valsR_snoc]; exact h1', fun j hj => ?_⟩
  by_cases c : j = ks.length
  · subst c
    have e2 : (ks ++ [l]).getD ks.length [] = l := by simp [List.getD]
    have e3 : (fun j => if j = ks.length then u else rs j) ks.length = u := if_pos rfl
    rw [e2, e3]
    exact hu.kept hg (own_unlike hu h1.1 hne)
  · have hj' : j < ks.length := by rw [List.length_append] at hj; simp at hj; omega
    have e2 : (ks ++ [l]).getD j [] = ks.getD j [] := by simp only [List.getD]; rw [List.getElem?_append_left hj']
    have e3 : (fun j => if j = ks.length then u else rs j) j = rs j := if_neg c
    rw [e2, e3]
    exact (h2 j hj').kept hg (own_unlike (h2 j hj') h1.1 hne)
/-- What they read as: a table of the call's own. -/
theorem RowsG.told (hne : e ≠ te) (hr : ∀ {W : World} {B : Nat} {v : Value} {l : List α}, W.ownsRow B e s v l.length (flat l) → ∃ a c, v = .slice a l.length c ∧ rowP W a l.length l ∧ l.length ≤ c) {w W : World} {v : Value} {ks : List (List α)} (h : RowsG te e s flat w W v ks) : ∃ a c, v = .slice a ks.length c ∧ TabG rowP W w.heap.size a ks.length ks ∧ ks.length ≤ c ∧ (a = none → c = 0) := by
  obtain ⟨rs, h1, h2⟩ := h
  obtain ⟨a, c, e1, e2, e3, e4, e5⟩ := h1.row
  rw [valsR_len] at e1 e2 e4 e5
  refine ⟨a, c, e1, ⟨rfl, by omega, fun k hk => ?_⟩, e2, fun h => (e4 h).2⟩
  obtain ⟨g, c', hv, hB, _, _, hA⟩ := own_arr h1.1 (by rw [valsR_len]; omega)
  rw [hv] at e1
  rw [valsR_len, Nat.mul_one] at hA
  simp only [Value.slice.injEq] at e1
  obtain ⟨ea, -, ec⟩ := e1
  obtain ⟨hc, hf⟩ := hA k hk
  simp only [valsR_at rs hk] at hc
  obtain ⟨ak, ck, hvk, hrk, hn⟩ := hr (h2 k hk)
  refine ⟨g, 0, hB, ea.symm, by rw [Nat.zero_add]; exact hf, ak, ck, by rw [Nat.zero_add, hc, hvk], hrk, hn, fun x hx => ?_⟩
  have hu := own_unlike (h2 k hk) h1.1 hne
  rw [hvk, hv, hx] at hu
  rcases hu with hu | hu
  · cases x; simp [Value.ownBlock] at hu
  · intro c; apply hu; rw [Value.ownBlock, Value.ownBlock, c]
end
end Go.Proofs.Ytjcgakmhpblanaa
