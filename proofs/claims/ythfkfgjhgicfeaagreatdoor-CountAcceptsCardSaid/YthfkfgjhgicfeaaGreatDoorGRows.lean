/-
  Rows3: One row of two-cell elements put together in a region that draws its order: an empty one, append of a slice, append of another; a literal of one element beside. No function of the program is named.
  TwoRows: Two rows of like elements that a call puts together itself, both appended to in one region that draws its order ('xs, ys = append(xs, a), append(ys, b)'), whatever the elements are. No function of the program is named.
  TwoRel: Two rows put together element by element: what is known between two rounds; as slices of numbers, of pairs. No function of the program is named.
  RowsUp: Rows in a row: as they are read; under way, in rows of their own; a table of the call's own. No function of the program is named.
  RowsQ: Rows of pairs in a row: as they are read; under way, the first one maybe the caller's own. No function of the program is named.
-/
import Derived.Test.YthfkfgjhgicfeaaGreatDoorGRow
import Derived.Test.YthfkfgjhgicfeaaGreatDoorGArgs
import Derived.Maps.AppendAt
import Derived.Laws.OwnMore
namespace Go.Proofs.YthfkfgjhgicfeaaGreatDoor
open Go Go.RowKit
set_option linter.unusedVariables false

theorem wp_append_at3 {P : Program} {w : World} {o : Oper} {a : Act} {K : Act → World → Prop} {Q : Exit → Act → World → Prop} (s x : Operand) (t : TypeId)
    (ho : o.op = .call { callee := .builtin .append, args := #[s, x], argTypes := #[t, t] })
    (base : Nat) (e : TypeId) (i : TypeInfo) (z : Value) (size bytes : Nat) (ht : P.underlying t = some (.slice e)) (hi : P.info? e = some i) (hz : i.zero = some z)
    (hsize : i.size = size) (hby : i.bytes = bytes) (hzs : z.cells.size = size) (hsz : 0 < size)
    (v : Value) (n : Nat) (xs : List Value) (hs : a.eval s = v) (hown : w.ownsRow base e size v n xs)
    (ax : Option Addr) (m c : Nat) (news : List Value) (hx : a.eval x = .slice ax m c) (hl : news.length = m * size) (hnil : ax = none → c = 0) (hm0 : ax = none → m = 0)
    (hnews : ∀ ad, ax = some ad → ∀ j u, news[j]? = some u → w.cell? (ad.add j) = some u) (h1 : ∀ u ∈ news, u.oneCell' = true)
    (h63 : n + m ≤ maxLen) (hbytes : (n + m) * bytes ≤ 140737488355328) (hbase : base ≤ w.heap.size)
    (h : ∀ v' w', w'.ownsRow base e size v' (n + m) (xs ++ news) → w.grownBy w' v.ownBlock → (v'.ownBlock = v.ownBlock ∨ v'.ownBlock = some w.heap.size) → K (a.put o.dst v') w') : o.wp P a w K Q := by
  cases ax with
  | some ad =>
    obtain ⟨v', w', hr, h2, h3, h4, h5⟩ := run_append_own_at (P := P) w base t o.type e i z size bytes ht hi hz hsize hby hzs hsz v n xs hown ad m c news hl (hnews ad rfl) h1 h63 hbytes hbase
    unfold Oper.wp execOp
    simp only [ho, resolve, invoke, builtin, Sem.run_bind, Sem.run_pure, Result.andThen_ok, List.map_toArray, List.map_cons, List.map_nil, hs, hx, hr]
    exact h v' w' h2 h3 h5
  | none =>
    obtain rfl := hnil rfl
    obtain rfl := hm0 rfl
    obtain rfl : news = [] := List.length_eq_zero_iff.1 (by simpa using hl)
    have hrun := run_append_owned_none (P := P) w base t o.type e i size ht hi v n xs hown
    unfold Oper.wp execOp
    simp only [ho, resolve, invoke, builtin, Sem.run_bind, Sem.run_pure, Result.andThen_ok, List.map_toArray, List.map_cons, List.map_nil, hs, hx, hrun]
    exact h v w (by simpa using hown) (World.grownBy.refl _ _) (.inl rfl)
theorem wpList_append3 {P : Program} {w : World} {ops : Array Oper} {rest : List Oper} {o : Oper} {a : Act} {Q : Exit → Act → World → Prop} (hgd : o.guard = none) (s x : Operand) (t : TypeId)
    (ho : o.op = .call { callee := .builtin .append, args := #[s, x], argTypes := #[t, t] })
    (base : Nat) (e : TypeId) (i : TypeInfo) (z : Value) (size bytes : Nat) (ht : P.underlying t = some (.slice e)) (hi : P.info? e = some i) (hz : i.zero = some z)
    (hsize : i.size = size) (hby : i.bytes = bytes) (hzs : z.cells.size = size) (hsz : 0 < size)
    (v : Value) (n : Nat) (xs : List Value) (hs : a.eval s = v) (hown : w.ownsRow base e size v n xs)
    (ax : Option Addr) (m c : Nat) (news : List Value) (hx : a.eval x = .slice ax m c) (hl : news.length = m * size) (hnil : ax = none → c = 0) (hm0 : ax = none → m = 0)
    (hnews : ∀ ad, ax = some ad → ∀ j u, news[j]? = some u → w.cell? (ad.add j) = some u) (h1 : ∀ u ∈ news, u.oneCell' = true)
    (h63 : n + m ≤ maxLen) (hbytes : (n + m) * bytes ≤ 140737488355328) (hbase : base ≤ w.heap.size)
    (h : ∀ v' w', w'.ownsRow base e size v' (n + m) (xs ++ news) → w.grownBy w' v.ownBlock → (v'.ownBlock = v.ownBlock ∨ v'.ownBlock = some w.heap.size) → wpList P ops Q rest (a.put o.dst v') w') : wpList P ops Q (o :: rest) a w :=
  wpList_plain hgd fun K hK => wp_append_at3 s x t ho base e i z size bytes ht hi hz hsize hby hzs hsz v n xs hs hown ax m c news hx hl hnil hm0 hnews h1 h63 hbytes hbase fun v' w' q1 q2 q3 => hK _ _ (h v' w' q1 q2 q3)
section
variable {W0 : World} {e : TypeId} {s0 a1 a2 sl : Nat} {xs ys : List Value} {n m : Nat} {x y : Value} {simple : List Nat} {val : Nat → Value} {D : Nat → Bool} {σ : Nat → Value} {W : World}
end
end Go.Proofs.YthfkfgjhgicfeaaGreatDoor
namespace Go.Proofs.YthfkfgjhgicfeaaGreatDoor
open Go Go.RowKit
set_option linter.unusedVariables false

section
variable {w : World} {e : TypeId} {s s1 a1 s2 a2 : Nat} {v8 v9 : Value} {n : Nat} {xs ys z1 z2 : List Value} {simple : List Nat} {val : Nat → Value} {D : Nat → Bool} {σ : Nat → Value} {W : World}
end
end Go.Proofs.YthfkfgjhgicfeaaGreatDoor
namespace Go.Proofs.YthfkfgjhgicfeaaGreatDoor
open Go Go.RowKit
set_option linter.unusedVariables false

theorem range_getD {α : Type} (f : Nat → α) (m i : Nat) (d : α) (h : i < m) : ((List.range m).map f).getD i d = f i := by simp [List.getD, h]
theorem RowA.cut {W : World} {a : Option Addr} {n m : Nat} {zs : List Int} (h : RowA W a n zs) (hm : m ≤ n) : RowA W a m (zs.take m) := by
  refine ⟨by rw [List.length_take, h.1]; omega, by have := h.2.1; omega, fun k hk => ?_⟩
  obtain ⟨b, off, e, c⟩ := h.2.2 k (by omega)
  refine ⟨b, off, e, ?_⟩
  rw [c]
  simp [List.getD, hk]
theorem QRowA.cut {W : World} {a : Option Addr} {n m : Nat} {zs : List (Int × Int)} (h : QRowA W a n zs) (hm : m ≤ n) : QRowA W a m (zs.take m) := by
  refine ⟨by rw [List.length_take, h.1]; omega, by have := h.2.1; omega, fun k hk => ?_⟩
  obtain ⟨b, off, e, c, d⟩ := h.2.2 k (by omega)
  refine ⟨b, off, e, ?_, ?_⟩
  · rw [c]; simp [List.getD, hk]
  · rw [d]; simp [List.getD, hk]
end Go.Proofs.YthfkfgjhgicfeaaGreatDoor
namespace Go.Proofs.YthfkfgjhgicfeaaGreatDoor
open Go Go.RowKit
set_option linter.unusedVariables false

section
variable {α : Type} {te e : TypeId} {s : Nat} {flat : List α → List Value} {rowP : World → Option Addr → Nat → List α → Prop}
/-- Rows, each of which is as rowP says. -/
def RowsP (rowP : World → Option Addr → Nat → List α → Prop) (W : World) (a : Option Addr) (n : Nat) (rows : List (List α)) : Prop :=
  rows.length = n ∧ n ≤ maxLen ∧ ∀ k, k < n → ∃ b off : Nat, a = some ⟨b, off, none⟩ ∧ ∃ (ak : Option Addr) (ck : Nat), W.cell? ⟨b, off + k, none⟩ = some (.slice ak (rows.getD k []).length ck) ∧ rowP W ak (rows.getD k []).length (rows.getD k []) ∧ (rows.getD k []).length ≤ ck
theorem RowsP.keep (hk : ∀ {W W' : World} {a : Option Addr} {n : Nat} {l : List α}, rowP W a n l → Below W.heap.size W W' → rowP W' a n l) {W W' : World} {a : Option Addr} {n : Nat} {rows : List (List α)} (h : RowsP rowP W a n rows) (hb : Below W.heap.size W W') : RowsP rowP W' a n rows :=
  ⟨h.1, h.2.1, fun k hlt => by
    obtain ⟨b, off, e, ak, ck, hc, hr, hn⟩ := h.2.2 k hlt
    exact ⟨b, off, e, ak, ck, bkeep hb hc, hk hr hb, hn⟩⟩
theorem RowsP.nil (W : World) : RowsP rowP W none 0 [] := ⟨rfl, by unfold maxLen; omega, fun k hk => by omega⟩
theorem RowsP.lt {W : World} {a : Option Addr} {n : Nat} {rows : List (List α)} (h : RowsP rowP W a n rows) : n ≤ maxLen := h.2.1
/-- The first ones. -/
theorem RowsP.take {W : World} {a : Option Addr} {n m : Nat} {rows : List (List α)} (h : RowsP rowP W a n rows) (hm : m ≤ n) : RowsP rowP W a m (rows.take m) := by
  obtain ⟨h1, h2, h3⟩ := h
  refine ⟨by simp; omega, by omega, fun k hk => ?_⟩
  have e : (rows.take m).getD k [] = rows.getD k [] := by simp [List.getD, hk]
  rw [e]
  exact h3 k (by omega)
/-- A table of rows in a block of its own, none of them in it. -/
def TabG (rowP : World → Option Addr → Nat → List α → Prop) (W : World) (B : Nat) (a : Option Addr) (n : Nat) (rows : List (List α)) : Prop :=
  rows.length = n ∧ n ≤ maxLen ∧ ∀ k, k < n → ∃ g off : Nat, B ≤ g ∧ a = some ⟨g, off, none⟩ ∧ W.frozen? ⟨g, off + k, none⟩ = false ∧ ∃ (ak : Option Addr) (ck : Nat), W.cell? ⟨g, off + k, none⟩ = some (.slice ak (rows.getD k []).length ck) ∧ rowP W ak (rows.getD k []).length (rows.getD k []) ∧ (rows.getD k []).length ≤ ck ∧ ∀ x, ak = some x → x.block ≠ g
theorem TabG.rows {W : World} {B : Nat} {a : Option Addr} {n : Nat} {rows : List (List α)} (h : TabG rowP W B a n rows) : RowsP rowP W a n rows :=
  ⟨h.1, h.2.1, fun k hk => by
    obtain ⟨g, off, _, e, _, ak, ck, hc, hr, hn, _⟩ := h.2.2 k hk
    exact ⟨g, off, e, ak, ck, hc, hr, hn⟩⟩
theorem TabG.keep (hk : ∀ {W W' : World} {a : Option Addr} {n : Nat} {l : List α}, rowP W a n l → Below W.heap.size W W' → rowP W' a n l) {W W' : World} {B : Nat} {a : Option Addr} {n : Nat} {rows : List (List α)} (h : TabG rowP W B a n rows) (hb : Below W.heap.size W W') : TabG rowP W' B a n rows :=
  ⟨h.1, h.2.1, fun k hlt => by
    obtain ⟨g, off, h1, e, hf, ak, ck, hc, hr, hn, hx⟩ := h.2.2 k hlt
    exact ⟨g, off, h1, e, bfree hb hc hf, ak, ck, bkeep hb hc, hk hr hb, hn, hx⟩⟩
theorem TabG.mono {W : World} {B B' : Nat} {a : Option Addr} {n : Nat} {rows : List (List α)} (h : TabG rowP W B a n rows) (hb : B' ≤ B) : TabG rowP W B' a n rows :=
  ⟨h.1, h.2.1, fun k hlt => by
    obtain ⟨g, off, h1, r⟩ := h.2.2 k hlt
    exact ⟨g, off, Nat.le_trans hb h1, r⟩⟩
theorem TabG.nil (W : World) (B : Nat) : TabG rowP W B none 0 [] := ⟨rfl, by unfold maxLen; omega, fun k hk => by omega⟩
/-- Another row in it. -/
theorem TabG.set (hk : ∀ {W : World} {a : Option Addr} {n g o : Nat} {v : Value} {l : List α}, rowP W a n l → (∀ x, a = some x → x.block ≠ g) → rowP (W.setCell ⟨g, o, none⟩ v) a n l) {W : World} {B g off i : Nat} {n : Nat} {rows : List (List α)} {ai : Option Addr} {ci : Nat} {l : List α} (h : TabG rowP W B (some ⟨g, off, none⟩) n rows) (hi : i < n) (hr : rowP W ai l.length l) (hc : l.length ≤ ci) (hx : ∀ x, ai = some x → x.block ≠ g) : TabG rowP (W.setCell ⟨g, off + i, none⟩ (.slice ai l.length ci)) B (some ⟨g, off, none⟩) n (rows.set i l) := by
  obtain ⟨h1, h2, h3⟩ := h
  refine ⟨by simp [h1], h2, fun k hlt => ?_⟩
  obtain ⟨g', off', hB, e, hf, ak, ck, hck, hrk, hn, hxk⟩ := h3 k hlt
  cases e
  refine ⟨g, off, hB, rfl, by simp [hf], ?_⟩
  by_cases d : k = i
  · subst d
    have e2 : (rows.set k l).getD k [] = l := by simp [List.getD, show k < rows.length by omega]
    rw [e2]
    refine ⟨ai, ci, ?_, hk hr hx, hc, hx⟩
    simp [go_sem, hck]
  · have e2 : (rows.set i l).getD k [] = rows.getD k [] := by simp [List.getD, show ¬ i = k from fun c => d c.symm]
    rw [e2]
    refine ⟨ak, ck, ?_, hk hrk hxk, hn, hxk⟩
    exact (World.cell?_setCell_other _ _ _ _ (by intro c; have := congrArg Addr.off c; simp only at this; first | omega | (have h2 : off + k = off + i := this.symm; omega) | (have h2 : off + i = off + k := this; omega))).trans hck
def valsR (rs : Nat → Value) (k : Nat) : List Value := (List.range k).map rs
theorem valsR_len (rs : Nat → Value) (k : Nat) : (valsR rs k).length = k := by simp [valsR]
theorem valsR_snoc (rs : Nat → Value) (v : Value) (k : Nat) : valsR rs k ++ [v] = valsR (fun j => if j = k then v else rs j) (k + 1) := by
  simp only [valsR, List.range_succ, List.map_append, List.map_cons, List.map_nil, if_true]
  congr 1
  refine List.map_congr_left fun j hj => ?_
  rw [if_neg (by have := List.mem_range.1 hj; omega)]
theorem valsR_at (rs : Nat → Value) {k j : Nat} (h : j < k) : (valsR rs k).getD j undef = rs j := by simp [valsR, List.getD, h]
/-- Rows under way, in rows of their own. -/
def RowsG (te e : TypeId) (s : Nat) (flat : List α → List Value) (w W : World) (v : Value) (ks : List (List α)) : Prop :=
  ∃ rs : Nat → Value, MadeG te w W v (valsR rs ks.length) ∧ ∀ j, j < ks.length → W.ownsRow w.heap.size e s (rs j) (ks.getD j []).length (flat (ks.getD j []))
theorem RowsG.start {w W : World} (h : Below w.heap.size w W) : RowsG te e s flat w W (.slice none 0 0) [] := ⟨fun _ => undef, MadeG.nil h, fun j hj => absurd hj (by simp)⟩
theorem RowsG.keep {w W W' : World} {v : Value} {ks : List (List α)} (h : RowsG te e s flat w W v ks) (hb : Below W.heap.size W W') : RowsG te e s flat w W' v ks := by
  obtain ⟨rs, h1, h2⟩ := h
  exact ⟨rs, h1.keep hb, fun j hj => own_keep (h2 j hj) hb⟩
theorem RowsG.below {w W : World} {v : Value} {ks : List (List α)} (h : RowsG te e s flat w W v ks) : Below w.heap.size w W := by
  obtain ⟨rs, h1, h2⟩ := h
  exact h1.2
/-- One more. -/
theorem RowsG.more (hne : e ≠ te) {w W W' : World} {v v' u : Value} {ks : List (List α)} {l : List α} {rs : Nat → Value} (h1 : MadeG te w W v (valsR rs ks.length)) (h2 : ∀ j, j < ks.length → W.ownsRow w.heap.size e s (rs j) (ks.getD j []).length (flat (ks.getD j [])))
    (hu : W.ownsRow w.heap.size e s u l.length (flat l)) (hg : W.grownBy W' v.ownBlock) (h1' : MadeG te w W' v' (valsR rs ks.length ++ [u])) : RowsG te e s flat w W' v' (ks ++ [l]) := by
  refine ⟨fun j => if j = ks.length then u else rs j, by rw [List.length_append, show ks.length + [l].length = ks.length + 1 from rfl, ← valsR_snoc]; exact h1', fun j hj => ?_⟩
  by_cases c : j = ks.length
  · subst c
    have e2 : (ks ++ [l]).getD ks.length [] = l := by simp [List.getD]
    have e3 : (fun j => if j = ks.length then u else rs j) ks.length = u := if_pos rfl
    rw [e2, e3]
    exact hu.kept hg (own_unlike hu h1.1 hne)
  · have hj' : j < ks.length := by rw [List.length_append] at hj; simp at hj; omega
    have e2 : (ks ++ [l]).getD j [] = ks.getD j [] := by simp only [List.getD]; rw [List.getElem?_append_left hj']
    have e3 : (fun j => if j = ks.length then u else rs j) j = rs j := if_neg c
    rw [e2, e3]
    exact (h2 j hj').kept hg (own_unlike (h2 j hj') h1.1 hne)
/-- What they read as: a table of the call's own. -/
theorem RowsG.told (hne : e ≠ te) (hr : ∀ {W : World} {B : Nat} {v : Value} {l : List α}, W.ownsRow B e s v l.length (flat l) → ∃ a c, v = .slice a l.length c ∧ rowP W a l.length l ∧ l.length ≤ c) {w W : World} {v : Value} {ks : List (List α)} (h : RowsG te e s flat w W v ks) : ∃ a c, v = .slice a ks.length c ∧ TabG rowP W w.heap.size a ks.length ks ∧ ks.length ≤ c ∧ (a = none → c = 0) := by
  obtain ⟨rs, h1, h2⟩ := h
  obtain ⟨a, c, e1, e2, e3, e4, e5⟩ := h1.row
  rw [valsR_len] at e1 e2 e4 e5
  refine ⟨a, c, e1, ⟨rfl, by omega, fun k hk => ?_⟩, e2, fun h => (e4 h).2⟩
  obtain ⟨g, c', hv, hB, _, _, hA⟩ := own_arr h1.1 (by rw [valsR_len]; omega)
  rw [hv] at e1
  rw [valsR_len, Nat.mul_one] at hA
  simp only [Value.slice.injEq] at e1
  obtain ⟨ea, -, ec⟩ := e1
  obtain ⟨hc, hf⟩ := hA k hk
  simp only [valsR_at rs hk] at hc
  obtain ⟨ak, ck, hvk, hrk, hn⟩ := hr (h2 k hk)
  refine ⟨g, 0, hB, ea.symm, by rw [Nat.zero_add]; exact hf, ak, ck, by rw [Nat.zero_add, hc, hvk], hrk, hn, fun x hx => ?_⟩
  have hu := own_unlike (h2 k hk) h1.1 hne
  rw [hvk, hv, hx] at hu
  rcases hu with hu | hu
  · cases x; simp [Value.ownBlock] at hu
  · intro c; apply hu; rw [Value.ownBlock, Value.ownBlock, c]
end
end Go.Proofs.YthfkfgjhgicfeaaGreatDoor
namespace Go.Proofs.YthfkfgjhgicfeaaGreatDoor
open Go Go.RowKit
set_option linter.unusedVariables false

def TabQ (W : World) (a : Option Addr) (n : Nat) (rows : List (List (Int × Int))) : Prop :=
  rows.length = n ∧ n ≤ maxLen ∧ ∀ k, k < n → ∃ b off : Nat, a = some ⟨b, off, none⟩ ∧ ∃ (ak : Option Addr) (ck : Nat), W.cell? ⟨b, off + k, none⟩ = some (.slice ak (rows.getD k []).length ck) ∧ QRowA W ak (rows.getD k []).length (rows.getD k [])
theorem TabQ.keep {W W' : World} {a : Option Addr} {n : Nat} {rows : List (List (Int × Int))} (h : TabQ W a n rows) (hb : Below W.heap.size W W') : TabQ W' a n rows :=
  ⟨h.1, h.2.1, fun k hlt => by
    obtain ⟨b, off, e, ak, ck, hc, hr⟩ := h.2.2 k hlt
    exact ⟨b, off, e, ak, ck, bkeep hb hc, hr.keep hb⟩⟩
theorem TabQ.nil (W : World) : TabQ W none 0 [] := ⟨rfl, by unfold maxLen; omega, fun k hk => by omega⟩
theorem TabQ.cut {W : World} {a : Option Addr} {n m : Nat} {rows : List (List (Int × Int))} (h : TabQ W a n rows) (hm : m ≤ n) : TabQ W a m (rows.take m) := by
  obtain ⟨h1, h2, h3⟩ := h
  refine ⟨by simp; omega, by omega, fun k hk => ?_⟩
  have e : (rows.take m).getD k [] = rows.getD k [] := by simp [List.getD, hk]
  rw [e]
  exact h3 k (by omega)
theorem QRowA.grown {W W' : World} {a : Option Addr} {n : Nat} {zs : List (Int × Int)} {row : Option Nat} (h : QRowA W a n zs) (hg : W.grownBy W' row) (hne : 0 < n → ∀ x, a = some x → row ≠ some x.block) : QRowA W' a n zs :=
  ⟨h.1, h.2.1, fun k hk => by
    obtain ⟨b, off, e, c0, c1⟩ := h.2.2 k hk
    have hb := hg.block b (World.block_lt_of_cell? _ _ c0) (fun q => hne (by omega) _ e q.symm)
    exact ⟨b, off, e, (World.cell?_of_block (a := ⟨b, off + k * 2, none⟩) hb).trans c0, (World.cell?_of_block (a := ⟨b, off + k * 2 + 1, none⟩) hb).trans c1⟩⟩
theorem QRowA.below {W : World} {a : Option Addr} {n : Nat} {zs : List (Int × Int)} (h : QRowA W a n zs) (h0 : 0 < n) : ∀ x, a = some x → x.block < W.heap.size := fun x hx => by
  obtain ⟨b, off, e, c0, _⟩ := h.2.2 0 h0
  rw [hx] at e
  cases e
  exact World.block_lt_of_cell? _ _ c0
/-- Rows under way: the row of rows is the call's own, none of the rows in it. -/
def RowsUpQ (w W : World) (v : Value) (rs : Nat → Value) (rows : List (List (Int × Int))) : Prop :=
  MadeG 24 w W v (valsR rs rows.length) ∧ ∀ j, j < rows.length → ∃ (aj : Option Addr) (cj : Nat), rs j = .slice aj (rows.getD j []).length cj ∧ QRowA W aj (rows.getD j []).length (rows.getD j []) ∧ (0 < (rows.getD j []).length → ∀ x, aj = some x → v.ownBlock ≠ some x.block)
theorem RowsUpQ.keep {w W W' : World} {v : Value} {rs : Nat → Value} {rows : List (List (Int × Int))} (h : RowsUpQ w W v rs rows) (hb : Below W.heap.size W W') : RowsUpQ w W' v rs rows :=
  ⟨h.1.keep hb, fun j hj => by
    obtain ⟨aj, cj, e, hq, hx⟩ := h.2 j hj
    exact ⟨aj, cj, e, hq.keep hb, hx⟩⟩
theorem RowsUpQ.start {w : World} {a : Option Addr} {c : Nat} {l : List (Int × Int)} (h : QRowA w a l.length l) :
    RowsUpQ w (w.alloc (.cells #[.slice a l.length c] 24)) (.slice (some ⟨w.heap.size, 0, none⟩) 1 1) (fun _ => .slice a l.length c) [l] := by
  have hb : Below w.heap.size w (w.alloc (.cells #[.slice a l.length c] 24)) := (Below.refl _ _).alloc (Nat.le_refl _) _
  refine ⟨⟨⟨rfl, .inr ⟨w.heap.size, 1, #[.slice a l.length c], rfl, Nat.le_refl _, heap_alloc_new w _, Nat.le_refl _, by unfold maxLen; omega, rfl, rfl⟩⟩, hb⟩, fun j hj => ?_⟩
  obtain rfl : j = 0 := by simp at hj; omega
  refine ⟨a, c, rfl, h.keep hb, fun h0 x hx => ?_⟩
  have := h.below h0 x hx
  show some w.heap.size ≠ some x.block
  intro e
  have := Option.some.inj e
  omega
/-- One more. -/
theorem RowsUpQ.more {w W W' : World} {v v' : Value} {rs : Nat → Value} {rows : List (List (Int × Int))} {au : Option Addr} {cu : Nat} {l : List (Int × Int)} (h : RowsUpQ w W v rs rows) (hq : QRowA W au l.length l) (hx : 0 < l.length → ∀ x, au = some x → v.ownBlock ≠ some x.block)
    (hg : W.grownBy W' v.ownBlock) (hat : v'.ownBlock = v.ownBlock ∨ v'.ownBlock = some W.heap.size) (h1' : MadeG 24 w W' v' (valsR rs rows.length ++ [.slice au l.length cu])) :
    RowsUpQ w W' v' (fun j => if j = rows.length then .slice au l.length cu else rs j) (rows ++ [l]) := by
  have apart : ∀ (a : Option Addr) (n : Nat) (zs : List (Int × Int)), QRowA W a n zs → (0 < n → ∀ x, a = some x → v.ownBlock ≠ some x.block) → 0 < n → ∀ x, a = some x → v'.ownBlock ≠ some x.block := by
    intro a n zs hr h1 h0 x hx
    rcases hat with e | e
    · rw [e]; exact h1 h0 x hx
    · have := hr.below h0 x hx
      rw [e]
      intro c
      have := Option.some.inj c
      omega
  refine ⟨by rw [List.length_append, show rows.length + [l].length = rows.length + 1 from rfl, ← valsR_snoc]; exact h1', fun j hj => ?_⟩
  by_cases c : j = rows.length
  · subst c
    have e2 : (rows ++ [l]).getD rows.length [] = l := by simp [List.getD]
    rw [e2]
    exact ⟨au, cu, if_pos rfl, hq.grown hg hx, apart _ _ _ hq hx⟩
  · have hj' : j < rows.length := by rw [List.length_append] at hj; simp at hj; omega
    have e2 : (rows ++ [l]).getD j [] = rows.getD j [] := by simp only [List.getD]; rw [List.getElem?_append_left hj']
    rw [e2]
    obtain ⟨aj, cj, e, hr, hy⟩ := h.2 j hj'
    exact ⟨aj, cj, (if_neg c).trans e, hr.grown hg hy, apart _ _ _ hr hy⟩
theorem RowsUpQ.told {w W : World} {v : Value} {rs : Nat → Value} {rows : List (List (Int × Int))} (h : RowsUpQ w W v rs rows) : ∃ a c, v = .slice a rows.length c ∧ TabQ W a rows.length rows ∧ rows.length ≤ c := by
  obtain ⟨a, c, e1, e2, e3, e4, e5⟩ := h.1.row
  rw [valsR_len] at e1 e2 e4 e5
  refine ⟨a, c, e1, ⟨rfl, by omega, fun k hk => ?_⟩, e2⟩
  obtain ⟨b, off, e, hc⟩ := e5 k hk
  rw [valsR_at rs hk] at hc
  obtain ⟨aj, cj, er, hr, _⟩ := h.2 k hk
  exact ⟨b, off, e, aj, cj, by rw [hc, er], hr⟩
end Go.Proofs.YthfkfgjhgicfeaaGreatDoor
