/-
  Rows3: One row of two-cell elements put together in a region that draws its order: an empty one, append of a slice, append of another; a literal of one element beside. No function of the program is named.
  TwoRows: Two rows of like elements that a call puts together itself, both appended to in one region that draws its order ('xs, ys = append(xs, a), append(ys, b)'), whatever the elements are. No function of the program is named.
  TwoRel: Two rows put together element by element: what is known between two rounds; as slices of numbers, of pairs. No function of the program is named.
  RowsUp: Rows in a row: as they are read; under way, in rows of their own; a table of the call's own. No function of the program is named.
  RowsQ: Rows of pairs in a row: as they are read; under way, the first one maybe the caller's own. No function of the program is named.
-/
import Derived.Test.YthfkfgjhgicfeaaDoorGRow
import Derived.Test.YthfkfgjhgicfeaaDoorGArgs
import Derived.Maps.AppendAt
import Derived.Laws.OwnMore
namespace Go.Proofs.YthfkfgjhgicfeaaDoor
open Go Go.RowKit
set_option linter.unusedVariables false

theorem wp_append_at3 {P : Program} {w : World} {o : Oper} {a : Act} {K : Act → World → Prop} {Q : Exit → Act → World → Prop} (s x : Operand) (t : TypeId)
    (ho : o.op = .call { callee := .builtin .append, args := #[s, x], argTypes := #[t, t] })
    (base : Nat) (e : TypeId) (i : TypeInfo) (z : Value) (size bytes : Nat) (ht : P.underlying t = some (.slice e)) (hi : P.info? e = some i) (hz : i.zero = some z)
    (hsize : i.size = size) (hby : i.bytes = bytes) (hzs : z.cells.size = size) (hsz : 0 < size)
    (v : Value) (n : Nat) (xs : List Value) (hs : a.eval s = v) (hown : w.ownsRow base e size v n xs)
    (ax : Option Addr) (m c : Nat) (news : List Value) (hx : a.eval x = .slice ax m c) (hl : news.length = m * size) (hnil : ax = none → c = 0) (hm0 : ax = none → m = 0)
    (hnews : ∀ ad, ax = some ad → ∀ j u, news[j]? = some u → w.cell? (ad.add j) = some u) (h1 : ∀ u ∈ news, u.oneCell' = true)
    (h63 : n + m ≤ maxLen) (hbytes : (n + m) * bytes ≤ 140737488355328) (hbase : base ≤ w.heap.size)
    (h : ∀ v' w', w'.ownsRow base e size v' (n + m) (xs ++ news) → w.grownBy w' v.ownBlock → (v'.ownBlock = v.ownBlock ∨ v'.ownBlock = some w.heap.size) → K (a.put o.dst v') w') : o.wp P a w K Q := by
  cases ax with
  | some ad =>
    obtain ⟨v', w', hr, h2, h3, h4, h5⟩ := run_append_own_at (P := P) w base t o.type e i z size bytes ht hi hz hsize hby hzs hsz v n xs hown ad m c news hl (hnews ad rfl) h1 h63 hbytes hbase
    unfold Oper.wp execOp
    simp only [ho, resolve, invoke, builtin, Sem.run_bind, Sem.run_pure, Result.andThen_ok, List.map_toArray, List.map_cons, List.map_nil, hs, hx, hr]
    exact h v' w' h2 h3 h5
  | none =>
    obtain rfl := hnil rfl
    obtain rfl := hm0 rfl
    obtain rfl : news = [] := List.length_eq_zero_iff.1 (by simpa using hl)
    have hrun := run_append_owned_none (P := P) w base t o.type e i size ht hi v n xs hown
    unfold Oper.wp execOp
    simp only [ho, resolve, invoke, builtin, Sem.run_bind, Sem.run_pure, Result.andThen_ok, List.map_toArray, List.map_cons, List.map_nil, hs, hx, hrun]
    exact h v w (by simpa using hown) (World.grownBy.refl _ _) (.inl rfl)
theorem wpList_append3 {P : Program} {w : World} {ops : Array Oper} {rest : List Oper} {o : Oper} {a : Act} {Q : Exit → Act → World → Prop} (hgd : o.guard = none) (s x : Operand) (t : TypeId)
    (ho : o.op = .call { callee := .builtin .append, args := #[s, x], argTypes := #[t, t] })
    (base : Nat) (e : TypeId) (i : TypeInfo) (z : Value) (size bytes : Nat) (ht : P.underlying t = some (.slice e)) (hi : P.info? e = some i) (hz : i.zero = some z)
    (hsize : i.size = size) (hby : i.bytes = bytes) (hzs : z.cells.size = size) (hsz : 0 < size)
    (v : Value) (n : Nat) (xs : List Value) (hs : a.eval s = v) (hown : w.ownsRow base e size v n xs)
    (ax : Option Addr) (m c : Nat) (news : List Value) (hx : a.eval x = .slice ax m c) (hl : news.length = m * size) (hnil : ax = none → c = 0) (hm0 : ax = none → m = 0)
    (hnews : ∀ ad, ax = some ad → ∀ j u, news[j]? = some u → w.cell? (ad.add j) = some u) (h1 : ∀ u ∈ news, u.oneCell' = true)
    (h63 : n + m ≤ maxLen) (hbytes : (n + m) * bytes ≤ 140737488355328) (hbase : base ≤ w.heap.size)
    (h : ∀ v' w', w'.ownsRow base e size v' (n + m) (xs ++ news) → w.grownBy w' v.ownBlock → (v'.ownBlock = v.ownBlock ∨ v'.ownBlock = some w.heap.size) → wpList P ops Q rest (a.put o.dst v') w') : wpList P ops Q (o :: rest) a w :=
  wpList_plain hgd fun K hK => wp_append_at3 s x t ho base e i z size bytes ht hi hz hsize hby hzs hsz v n xs hs hown ax m c news hx hl hnil hm0 hnews h1 h63 hbytes hbase fun v' w' q1 q2 q3 => hK _ _ (h v' w' q1 q2 q3)
def curR (D : Nat → Bool) (σ : Nat → Value) (s0 a1 a2 : Nat) : Value := if D a2 = true then σ a2 else if D a1 = true then σ a1 else if D s0 = true then σ s0 else .slice none 0 0
def curN (D : Nat → Bool) (a1 a2 n m : Nat) : Nat := if D a2 = true then n + m else if D a1 = true then n else 0
def curX3 (D : Nat → Bool) (a1 a2 : Nat) (xs ys : List Value) : List Value := if D a2 = true then xs ++ ys else if D a1 = true then xs else []
structure Rows3 (W0 : World) (e : TypeId) (s0 a1 a2 sl : Nat) (xs ys : List Value) (n m : Nat) (x y : Value) (simple : List Nat) (val : Nat → Value) (D : Nat → Bool) (σ : Nat → Value) (W : World) : Prop where
  below : Below W0.heap.size W0 W
  own : W.ownsRow W0.heap.size e 2 (curR D σ s0 a1 a2) (curN D a1 a2 n m) (curX3 D a1 a2 xs ys)
  o1 : D a1 = true → D s0 = true
  o2 : D a2 = true → D a1 = true
  li : D sl = true → ∃ g, σ sl = .slice (some ⟨g, 0, none⟩) 1 1 ∧ W.cell? ⟨g, 0, none⟩ = some x ∧ W.cell? ⟨g, 1, none⟩ = some y ∧ (curR D σ s0 a1 a2).ownBlock ≠ some g
  sv : ∀ d, d ∈ simple → D d = true → σ d = val d
section
variable {W0 : World} {e : TypeId} {s0 a1 a2 sl : Nat} {xs ys : List Value} {n m : Nat} {x y : Value} {simple : List Nat} {val : Nat → Value} {D : Nat → Bool} {σ : Nat → Value} {W : World}
theorem Rows3.start (hb : Below W0.heap.size W0 W) (σ : Nat → Value) : Rows3 W0 e s0 a1 a2 sl xs ys n m x y simple val (fun _ => false) σ W :=
  ⟨hb, by simpa [curR, curN, curX3] using World.ownsRow_nil W W0.heap.size e 2, fun h => absurd h Bool.false_ne_true, fun h => absurd h Bool.false_ne_true, fun h => absurd h Bool.false_ne_true, fun _ _ h => absurd h Bool.false_ne_true⟩
theorem curR_far {d : Nat} {v : Value} (h0 : d ≠ s0 ∧ d ≠ a1 ∧ d ≠ a2) : curR (fun k => if k = d then true else D k) (fun k => if k = d then v else σ k) s0 a1 a2 = curR D σ s0 a1 a2 := by
  obtain ⟨h1, h2, h3⟩ := h0
  unfold curR; simp [Ne.symm h1, Ne.symm h2, Ne.symm h3]
theorem curN_far {d : Nat} (h2 : d ≠ a1) (h3 : d ≠ a2) : curN (fun k => if k = d then true else D k) a1 a2 n m = curN D a1 a2 n m := by unfold curN; simp [Ne.symm h2, Ne.symm h3]
theorem curX3_far {d : Nat} (h2 : d ≠ a1) (h3 : d ≠ a2) : curX3 (fun k => if k = d then true else D k) a1 a2 xs ys = curX3 D a1 a2 xs ys := by unfold curX3; simp [Ne.symm h2, Ne.symm h3]
/-- An operation whose value is known, by new memory alone. -/
theorem Rows3.next (h : Rows3 W0 e s0 a1 a2 sl xs ys n m x y simple val D σ W) {d : Nat} {v : Value} {W' : World} (hb : Below W.heap.size W W') (h0 : d ≠ s0 ∧ d ≠ a1 ∧ d ≠ a2 ∧ d ≠ sl) (hv : v = val d) :
    Rows3 W0 e s0 a1 a2 sl xs ys n m x y simple val (fun k => if k = d then true else D k) (fun k => if k = d then v else σ k) W' := by
  obtain ⟨h1, h2, h3, h4⟩ := h0
  refine ⟨bthen h.below hb, ?_, ?_, ?_, ?_, ?_⟩
  · rw [curR_far ⟨h1, h2, h3⟩, curN_far h2 h3, curX3_far h2 h3]; exact own_keep h.own hb
  · simp only [if_neg (Ne.symm h1), if_neg (Ne.symm h2)]; exact h.o1
  · simp only [if_neg (Ne.symm h2), if_neg (Ne.symm h3)]; exact h.o2
  · rw [curR_far ⟨h1, h2, h3⟩]
    simp only [if_neg (Ne.symm h4)]
    intro c
    obtain ⟨g, k1, k2, k3, k4⟩ := h.li c
    exact ⟨g, k1, bkeep hb k2, bkeep hb k3, k4⟩
  · intro d' hd
    by_cases c : d' = d
    · subst c; intro _; simp only [if_pos]; exact hv
    · simp only [if_neg c]; exact h.sv d' hd
/-- The empty row. -/
theorem Rows3.lit0 (h : Rows3 W0 e s0 a1 a2 sl xs ys n m x y simple val D σ W) (hd : D s0 = false) (h0 : s0 ≠ a1 ∧ s0 ≠ a2 ∧ s0 ≠ sl) (hs : s0 ∉ simple) :
    Rows3 W0 e s0 a1 a2 sl xs ys n m x y simple val (fun k => if k = s0 then true else D k) (fun k => if k = s0 then .slice (some ⟨W.heap.size, 0, none⟩) 0 0 else σ k) (W.alloc (.cells #[] e)) := by
  obtain ⟨h2, h3, h4⟩ := h0
  have d1 : D a1 = false := by cases c : D a1 with | false => rfl | true => exact absurd (h.o1 c) (by simp [hd])
  have d2 : D a2 = false := by cases c : D a2 with | false => rfl | true => exact absurd (h.o2 c) (by simp [d1])
  have hb := (Below.refl W.heap.size W).alloc (Nat.le_refl _) (.cells #[] e)
  have cr : curR (fun k => if k = s0 then true else D k) (fun k => if k = s0 then .slice (some ⟨W.heap.size, 0, none⟩) 0 0 else σ k) s0 a1 a2 = .slice (some ⟨W.heap.size, 0, none⟩) 0 0 := by
    unfold curR; simp [Ne.symm h2, Ne.symm h3, d1, d2]
  refine ⟨bthen h.below hb, ?_, ?_, ?_, ?_, ?_⟩
  · rw [cr, curN_far h2 h3, curX3_far h2 h3]
    unfold curN curX3
    simp only [d1, d2, Bool.false_eq_true, if_false]
    exact World.ownsRow_lit (e := e) (size := 2) W #[] 0 h.below.size (by unfold maxLen; omega) rfl
  · intro _; simp
  · simp only [if_neg (Ne.symm h2), if_neg (Ne.symm h3)]; exact h.o2
  · rw [cr]
    simp only [if_neg (Ne.symm h4)]
    intro c
    obtain ⟨g, k1, k2, k3, k4⟩ := h.li c
    refine ⟨g, k1, bkeep hb k2, bkeep hb k3, fun he => ?_⟩
    have hlt := World.block_lt_of_cell? W _ k2
    simp [Value.ownBlock] at he
    dsimp only at hlt
    omega
  · intro d' hd'
    have c : d' ≠ s0 := fun c => hs (c ▸ hd')
    simp only [if_neg c]; exact h.sv d' hd'
/-- The literal. -/
theorem Rows3.litX (h : Rows3 W0 e s0 a1 a2 sl xs ys n m x y simple val D σ W) (h0 : sl ≠ s0 ∧ sl ≠ a1 ∧ sl ≠ a2) (hs : sl ∉ simple) :
    Rows3 W0 e s0 a1 a2 sl xs ys n m x y simple val (fun k => if k = sl then true else D k) (fun k => if k = sl then .slice (some ⟨W.heap.size, 0, none⟩) 1 1 else σ k) (W.alloc (.cells #[x, y] e)) := by
  obtain ⟨h1, h2, h3⟩ := h0
  have hb := (Below.refl W.heap.size W).alloc (Nat.le_refl _) (.cells #[x, y] e)
  refine ⟨bthen h.below hb, ?_, ?_, ?_, ?_, ?_⟩
  · rw [curR_far ⟨h1, h2, h3⟩, curN_far h2 h3, curX3_far h2 h3]; exact own_keep h.own hb
  · simp only [if_neg (Ne.symm h1), if_neg (Ne.symm h2)]; exact h.o1
  · simp only [if_neg (Ne.symm h2), if_neg (Ne.symm h3)]; exact h.o2
  · rw [curR_far ⟨h1, h2, h3⟩]
    intro _
    refine ⟨W.heap.size, by rw [if_pos rfl], by simp [go_sem], by simp [go_sem], fun he => ?_⟩
    have := (h.own.lt _ he).2
    omega
  · intro d' hd'
    have c : d' ≠ sl := fun c => hs (c ▸ hd')
    simp only [if_neg c]; exact h.sv d' hd'
theorem cell_grown {W W' : World} {row : Option Nat} {g o : Nat} {v : Value} (hg : W.grownBy W' row) (h : W.cell? ⟨g, o, none⟩ = some v) (hne : row ≠ some g) : W'.cell? ⟨g, o, none⟩ = some v :=
  (World.cell?_of_block (a := ⟨g, o, none⟩) (hg.block g (World.block_lt_of_cell? W _ h) (fun c => hne c.symm))).trans h
/-- The first append. -/
theorem Rows3.app1 (h : Rows3 W0 e s0 a1 a2 sl xs ys n m x y simple val D σ W) {v' : Value} {W' : World} (hd : D a1 = false) (hs0 : D s0 = true) (h0 : a1 ≠ s0 ∧ a1 ≠ a2 ∧ a1 ≠ sl) (hs : a1 ∉ simple)
    (hown : W'.ownsRow W0.heap.size e 2 v' n xs) (hg : W.grownBy W' (σ s0).ownBlock) (hat : v'.ownBlock = (σ s0).ownBlock ∨ v'.ownBlock = some W.heap.size) :
    Rows3 W0 e s0 a1 a2 sl xs ys n m x y simple val (fun k => if k = a1 then true else D k) (fun k => if k = a1 then v' else σ k) W' := by
  obtain ⟨h1, h3, h4⟩ := h0
  have d2 : D a2 = false := by cases c : D a2 with | false => rfl | true => exact absurd (h.o2 c) (by simp [hd])
  have c0 : curR D σ s0 a1 a2 = σ s0 := by unfold curR; simp [hd, d2, hs0]
  have cr : curR (fun k => if k = a1 then true else D k) (fun k => if k = a1 then v' else σ k) s0 a1 a2 = v' := by unfold curR; simp [Ne.symm h3, d2]
  have hge : ∀ k, (σ s0).ownBlock = some k → W0.heap.size ≤ k := fun k hk => own_ge h.own k (by rw [c0]; exact hk)
  refine ⟨h.below.grown hg h.below.size hge, ?_, ?_, ?_, ?_, ?_⟩
  · rw [cr]
    unfold curN curX3
    simp only [if_neg (Ne.symm h3), d2, Bool.false_eq_true, if_false, if_pos]
    exact hown
  · intro _; simp only [if_neg (Ne.symm h1)]; exact hs0
  · simp only [if_neg (Ne.symm h3), d2]; intro c; cases c
  · rw [cr]
    simp only [if_neg (Ne.symm h4)]
    intro c
    obtain ⟨g, k1, k2, k3, k4⟩ := h.li c
    rw [c0] at k4
    refine ⟨g, k1, cell_grown hg k2 k4, cell_grown hg k3 k4, fun he => ?_⟩
    rcases hat with hq | hq
    · exact k4 (hq ▸ he)
    · rw [he] at hq
      have hlt := World.block_lt_of_cell? W _ k2
      cases hq
      exact absurd hlt (Nat.lt_irrefl _)
  · intro d' hd'
    have c : d' ≠ a1 := fun c => hs (c ▸ hd')
    simp only [if_neg c]; exact h.sv d' hd'
/-- The second append. -/
theorem Rows3.app2 (h : Rows3 W0 e s0 a1 a2 sl xs ys n m x y simple val D σ W) {v' : Value} {W' : World} (hd : D a2 = false) (hd1 : D a1 = true) (h0 : a2 ≠ s0 ∧ a2 ≠ a1 ∧ a2 ≠ sl) (hs : a2 ∉ simple)
    (hown : W'.ownsRow W0.heap.size e 2 v' (n + m) (xs ++ ys)) (hg : W.grownBy W' (σ a1).ownBlock) (hat : v'.ownBlock = (σ a1).ownBlock ∨ v'.ownBlock = some W.heap.size) :
    Rows3 W0 e s0 a1 a2 sl xs ys n m x y simple val (fun k => if k = a2 then true else D k) (fun k => if k = a2 then v' else σ k) W' := by
  obtain ⟨h1, h3, h4⟩ := h0
  have c0 : curR D σ s0 a1 a2 = σ a1 := by unfold curR; simp [hd, hd1]
  have cr : curR (fun k => if k = a2 then true else D k) (fun k => if k = a2 then v' else σ k) s0 a1 a2 = v' := by unfold curR; simp
  have hge : ∀ k, (σ a1).ownBlock = some k → W0.heap.size ≤ k := fun k hk => own_ge h.own k (by rw [c0]; exact hk)
  refine ⟨h.below.grown hg h.below.size hge, ?_, ?_, ?_, ?_, ?_⟩
  · rw [cr]
    unfold curN curX3
    simp only [if_pos]
    exact hown
  · simp only [if_neg (Ne.symm h1), if_neg (Ne.symm h3)]; exact h.o1
  · intro _; simp only [if_neg (Ne.symm h3)]; exact hd1
  · rw [cr]
    simp only [if_neg (Ne.symm h4)]
    intro c
    obtain ⟨g, k1, k2, k3, k4⟩ := h.li c
    rw [c0] at k4
    refine ⟨g, k1, cell_grown hg k2 k4, cell_grown hg k3 k4, fun he => ?_⟩
    rcases hat with hq | hq
    · exact k4 (hq ▸ he)
    · rw [he] at hq
      have hlt := World.block_lt_of_cell? W _ k2
      cases hq
      exact absurd hlt (Nat.lt_irrefl _)
  · intro d' hd'
    have c : d' ≠ a2 := fun c => hs (c ▸ hd')
    simp only [if_neg c]; exact h.sv d' hd'
theorem Rows3.own0 (h : Rows3 W0 e s0 a1 a2 sl xs ys n m x y simple val D σ W) (h0 : D s0 = true) (h1 : D a1 = false) : W.ownsRow W0.heap.size e 2 (σ s0) 0 [] := by
  have d2 : D a2 = false := by cases c : D a2 with | false => rfl | true => exact absurd (h.o2 c) (by simp [h1])
  have := h.own
  unfold curR curN curX3 at this
  simpa [h0, h1, d2] using this
theorem Rows3.own1 (h : Rows3 W0 e s0 a1 a2 sl xs ys n m x y simple val D σ W) (h1 : D a1 = true) (h2 : D a2 = false) : W.ownsRow W0.heap.size e 2 (σ a1) n xs := by
  have := h.own
  unfold curR curN curX3 at this
  simpa [h1, h2] using this
theorem Rows3.done (h : Rows3 W0 e s0 a1 a2 sl xs ys n m x y simple val D σ W) (h2 : D a2 = true) (h3 : D sl = true) :
    W.ownsRow W0.heap.size e 2 (σ a2) (n + m) (xs ++ ys) ∧ ∃ g, σ sl = .slice (some ⟨g, 0, none⟩) 1 1 ∧ W.cell? ⟨g, 0, none⟩ = some x ∧ W.cell? ⟨g, 1, none⟩ = some y ∧ (σ a2).ownBlock ≠ some g := by
  have h4 := h.own
  have h5 := h.li h3
  unfold curR curN curX3 at h4
  unfold curR at h5
  rw [if_pos h2, if_pos h2, if_pos h2] at h4
  rw [if_pos h2] at h5
  exact ⟨h4, h5⟩
/-- Ahead of the third append, or behind it: then only the whole row matters. -/
def Rows4 (W0 : World) (e : TypeId) (s0 a1 a2 sl a3 : Nat) (xs ys : List Value) (n m : Nat) (x y : Value) (simple : List Nat) (val : Nat → Value) (D : Nat → Bool) (σ : Nat → Value) (W : World) : Prop :=
  (D a3 = false → Rows3 W0 e s0 a1 a2 sl xs ys n m x y simple val D σ W) ∧ Below W0.heap.size W0 W ∧ (∀ d, d ∈ simple → D d = true → σ d = val d) ∧
  (D a3 = true → D s0 = true ∧ D a1 = true ∧ D a2 = true ∧ D sl = true ∧ W.ownsRow W0.heap.size e 2 (σ a3) (n + m + 1) (xs ++ ys ++ [x, y]))
theorem Rows4.start {a3 : Nat} (hb : Below W0.heap.size W0 W) (σ : Nat → Value) : Rows4 W0 e s0 a1 a2 sl a3 xs ys n m x y simple val (fun _ => false) σ W :=
  ⟨fun _ => Rows3.start hb σ, hb, fun _ _ h => absurd h Bool.false_ne_true, fun h => absurd h Bool.false_ne_true⟩
/-- A step ahead of it. -/
theorem Rows4.step {a3 d : Nat} {v : Value} {W' : World} (h : Rows4 W0 e s0 a1 a2 sl a3 xs ys n m x y simple val D σ W) (hd : d ≠ a3) (h3 : D a3 = false) (hs : Rows3 W0 e s0 a1 a2 sl xs ys n m x y simple val (fun k => if k = d then true else D k) (fun k => if k = d then v else σ k) W') :
    Rows4 W0 e s0 a1 a2 sl a3 xs ys n m x y simple val (fun k => if k = d then true else D k) (fun k => if k = d then v else σ k) W' :=
  ⟨fun _ => hs, hs.below, hs.sv, fun c => by simp only [if_neg (Ne.symm hd), h3] at c; cases c⟩
theorem Rows4.open0 {a3 : Nat} (h : Rows4 W0 e s0 a1 a2 sl a3 xs ys n m x y simple val D σ W) (hd : D s0 = false) : D a3 = false := by
  cases c : D a3 with
  | false => rfl
  | true => exact absurd (h.2.2.2 c).1 (by simp [hd])
theorem Rows4.open1 {a3 : Nat} (h : Rows4 W0 e s0 a1 a2 sl a3 xs ys n m x y simple val D σ W) (hd : D a1 = false) : D a3 = false := by
  cases c : D a3 with
  | false => rfl
  | true => exact absurd (h.2.2.2 c).2.1 (by simp [hd])
theorem Rows4.open2 {a3 : Nat} (h : Rows4 W0 e s0 a1 a2 sl a3 xs ys n m x y simple val D σ W) (hd : D a2 = false) : D a3 = false := by
  cases c : D a3 with
  | false => rfl
  | true => exact absurd (h.2.2.2 c).2.2.1 (by simp [hd])
theorem Rows4.openl {a3 : Nat} (h : Rows4 W0 e s0 a1 a2 sl a3 xs ys n m x y simple val D σ W) (hd : D sl = false) : D a3 = false := by
  cases c : D a3 with
  | false => rfl
  | true => exact absurd (h.2.2.2 c).2.2.2.1 (by simp [hd])
/-- An operation whose value is known, by new memory alone. -/
theorem Rows4.next {a3 d : Nat} {v : Value} {W' : World} (h : Rows4 W0 e s0 a1 a2 sl a3 xs ys n m x y simple val D σ W) (hb : Below W.heap.size W W') (h0 : (d ≠ s0 ∧ d ≠ a1 ∧ d ≠ a2 ∧ d ≠ sl) ∧ d ≠ a3) (hv : v = val d) :
    Rows4 W0 e s0 a1 a2 sl a3 xs ys n m x y simple val (fun k => if k = d then true else D k) (fun k => if k = d then v else σ k) W' := by
  obtain ⟨h1, hb1, hs1, h4⟩ := h
  refine ⟨fun c => ?_, bthen hb1 hb, ?_, fun c => ?_⟩
  · simp only [if_neg (Ne.symm h0.2)] at c
    exact (h1 c).next hb h0.1 hv
  · intro d' hd'
    by_cases c : d' = d
    · subst c; intro _; simp only [if_pos]; exact hv
    · simp only [if_neg c]; exact hs1 d' hd'
  · simp only [if_neg (Ne.symm h0.2)] at c
    simp only [if_neg (Ne.symm h0.2), if_neg (Ne.symm h0.1.1), if_neg (Ne.symm h0.1.2.1), if_neg (Ne.symm h0.1.2.2.1), if_neg (Ne.symm h0.1.2.2.2)]
    obtain ⟨q1, q2, q3, q4, q5⟩ := h4 c
    exact ⟨q1, q2, q3, q4, own_keep q5 hb⟩
/-- The third append. -/
theorem Rows4.app3 {a3 : Nat} {v' : Value} {W' : World} (h : Rows4 W0 e s0 a1 a2 sl a3 xs ys n m x y simple val D σ W) (hd : D a3 = false) (hd2 : D a2 = true) (hdl : D sl = true) (h0 : (a3 ≠ s0 ∧ a3 ≠ a1 ∧ a3 ≠ a2 ∧ a3 ≠ sl) ∧ a3 ∉ simple)
    (hown : W'.ownsRow W0.heap.size e 2 v' (n + m + 1) (xs ++ ys ++ [x, y])) (hg : W.grownBy W' (σ a2).ownBlock) :
    Rows4 W0 e s0 a1 a2 sl a3 xs ys n m x y simple val (fun k => if k = a3 then true else D k) (fun k => if k = a3 then v' else σ k) W' := by
  obtain ⟨h1, hb1, hs1, h4⟩ := h
  have hR := h1 hd
  have ho := (hR.done hd2 hdl).1
  have d1 := hR.o2 hd2
  have d0 := hR.o1 d1
  refine ⟨(fun c => by simp at c), hb1.grown hg hb1.size (fun k hk => own_ge ho k hk), ?_, fun _ => ?_⟩
  · intro d' hd'
    have c : d' ≠ a3 := fun c => h0.2 (c ▸ hd')
    simp only [if_neg c]; exact hs1 d' hd'
  · simp only [if_neg (Ne.symm h0.1.1), if_neg (Ne.symm h0.1.2.1), if_neg (Ne.symm h0.1.2.2.1), if_neg (Ne.symm h0.1.2.2.2), if_pos]
    exact ⟨d0, d1, hd2, hdl, hown⟩
end
end Go.Proofs.YthfkfgjhgicfeaaDoor
namespace Go.Proofs.YthfkfgjhgicfeaaDoor
open Go Go.RowKit
set_option linter.unusedVariables false

structure TwoRows (w : World) (e : TypeId) (s s1 a1 s2 a2 : Nat) (v8 v9 : Value) (n : Nat) (xs ys z1 z2 : List Value) (simple : List Nat) (val : Nat → Value) (D : Nat → Bool) (σ : Nat → Value) (W : World) : Prop where
  below : Below w.heap.size w W
  rx : W.ownsRow w.heap.size e s (curV D σ a1 v8) (if D a1 = true then n + 1 else n) (if D a1 = true then xs ++ z1 else xs)
  ry : W.ownsRow w.heap.size e s (curV D σ a2 v9) (if D a2 = true then n + 1 else n) (if D a2 = true then ys ++ z2 else ys)
  ap : ∀ k, (curV D σ a1 v8).ownBlock = some k → (curV D σ a2 v9).ownBlock ≠ some k
  n1 : D s1 = true → D a1 = false → ∃ g, σ s1 = .slice (some ⟨g, 0, none⟩) 1 1 ∧ g < W.heap.size ∧ (∀ j u, z1[j]? = some u → W.cell? ((⟨g, 0, none⟩ : Addr).add j) = some u) ∧ (curV D σ a1 v8).ownBlock ≠ some g ∧ (curV D σ a2 v9).ownBlock ≠ some g
  n2 : D s2 = true → D a2 = false → ∃ g, σ s2 = .slice (some ⟨g, 0, none⟩) 1 1 ∧ g < W.heap.size ∧ (∀ j u, z2[j]? = some u → W.cell? ((⟨g, 0, none⟩ : Addr).add j) = some u) ∧ (curV D σ a1 v8).ownBlock ≠ some g ∧ (curV D σ a2 v9).ownBlock ≠ some g
  sv : ∀ d, d ∈ simple → D d = true → σ d = val d
section
variable {w : World} {e : TypeId} {s s1 a1 s2 a2 : Nat} {v8 v9 : Value} {n : Nat} {xs ys z1 z2 : List Value} {simple : List Nat} {val : Nat → Value} {D : Nat → Bool} {σ : Nat → Value} {W : World}
theorem TwoRows.swap (h : TwoRows w e s s1 a1 s2 a2 v8 v9 n xs ys z1 z2 simple val D σ W) : TwoRows w e s s2 a2 s1 a1 v9 v8 n ys xs z2 z1 simple val D σ W :=
  ⟨h.below, h.ry, h.rx, fun k hk hc => h.ap k hc hk, fun c c' => by obtain ⟨g, q1, q2, q3, q4, q5⟩ := h.n2 c c'; exact ⟨g, q1, q2, q3, q5, q4⟩, fun c c' => by obtain ⟨g, q1, q2, q3, q4, q5⟩ := h.n1 c c'; exact ⟨g, q1, q2, q3, q5, q4⟩, h.sv⟩
theorem TwoRows.start (hb : Below w.heap.size w W) (h8 : W.ownsRow w.heap.size e s v8 n xs) (h9 : W.ownsRow w.heap.size e s v9 n ys) (ap : ∀ k, v8.ownBlock = some k → v9.ownBlock ≠ some k) (σ : Nat → Value) : TwoRows w e s s1 a1 s2 a2 v8 v9 n xs ys z1 z2 simple val (fun _ => false) σ W :=
  ⟨hb, h8, h9, ap, fun h => absurd h Bool.false_ne_true, fun h => absurd h Bool.false_ne_true, fun d _ h => absurd h Bool.false_ne_true⟩
theorem addr_kept {W W' : World} {g : Nat} {z : List Value} (hb : W'.heap[g]? = W.heap[g]?) (h : ∀ j u, z[j]? = some u → W.cell? ((⟨g, 0, none⟩ : Addr).add j) = some u) : ∀ j u, z[j]? = some u → W'.cell? ((⟨g, 0, none⟩ : Addr).add j) = some u := fun j u hu => by
  have := h j u hu
  rw [Addr.add_lit] at this ⊢
  exact (World.cell?_of_block (a := ⟨g, 0 + j, none⟩) hb).trans this
theorem block_kept {W W' : World} {g : Nat} (hb : Below W.heap.size W W') (h : g < W.heap.size) : W'.heap[g]? = W.heap[g]? := hb.block g h
/-- An operation by new memory alone. -/
theorem TwoRows.next (h : TwoRows w e s s1 a1 s2 a2 v8 v9 n xs ys z1 z2 simple val D σ W) {d : Nat} {v : Value} {W' : World} (hb : Below W.heap.size W W') (h0 : d ≠ s1 ∧ d ≠ a1 ∧ d ≠ s2 ∧ d ≠ a2) (hv : v = val d) :
    TwoRows w e s s1 a1 s2 a2 v8 v9 n xs ys z1 z2 simple val (fun k => if k = d then true else D k) (fun k => if k = d then v else σ k) W' := by
  obtain ⟨h1, h2, h4, h5⟩ := h0
  refine ⟨bthen h.below hb, ?_, ?_, ?_, ?_, ?_, ?_⟩
  · rw [curV_other (Ne.symm h2)]
    simp only [if_neg (Ne.symm h2)]
    exact own_keep h.rx hb
  · rw [curV_other (Ne.symm h5)]
    simp only [if_neg (Ne.symm h5)]
    exact own_keep h.ry hb
  · rw [curV_other (Ne.symm h2), curV_other (Ne.symm h5)]; exact h.ap
  · rw [curV_other (Ne.symm h2), curV_other (Ne.symm h5)]
    simp only [if_neg (Ne.symm h1), if_neg (Ne.symm h2)]
    intro c1 c2
    obtain ⟨g, k1, k2, k3, k4⟩ := h.n1 c1 c2
    exact ⟨g, k1, Nat.lt_of_lt_of_le k2 hb.size, addr_kept (block_kept hb k2) k3, k4⟩
  · rw [curV_other (Ne.symm h2), curV_other (Ne.symm h5)]
    simp only [if_neg (Ne.symm h4), if_neg (Ne.symm h5)]
    intro c1 c2
    obtain ⟨g, k1, k2, k3, k4⟩ := h.n2 c1 c2
    exact ⟨g, k1, Nat.lt_of_lt_of_le k2 hb.size, addr_kept (block_kept hb k2) k3, k4⟩
  · intro d' hd
    by_cases c : d' = d
    · subst c; intro _; simp only [if_pos]; exact hv
    · simp only [if_neg c]; exact h.sv d' hd
/-- A new array of one element. -/
theorem TwoRows.lay1 (h : TwoRows w e s s1 a1 s2 a2 v8 v9 n xs ys z1 z2 simple val D σ W) {W' : World} (hb : Below W.heap.size W W') (hg : W.heap.size < W'.heap.size) (h0 : s1 ≠ a1 ∧ s1 ≠ s2 ∧ s1 ≠ a2) (hs : s1 ∉ simple)
    (hz : ∀ j u, z1[j]? = some u → W'.cell? ((⟨W.heap.size, 0, none⟩ : Addr).add j) = some u) :
    TwoRows w e s s1 a1 s2 a2 v8 v9 n xs ys z1 z2 simple val (fun k => if k = s1 then true else D k) (fun k => if k = s1 then .slice (some ⟨W.heap.size, 0, none⟩) 1 1 else σ k) W' := by
  obtain ⟨h2, h4, h5⟩ := h0
  refine ⟨bthen h.below hb, ?_, ?_, ?_, ?_, ?_, ?_⟩
  · rw [curV_other (Ne.symm h2)]
    simp only [if_neg (Ne.symm h2)]
    exact own_keep h.rx hb
  · rw [curV_other (Ne.symm h5)]
    simp only [if_neg (Ne.symm h5)]
    exact own_keep h.ry hb
  · rw [curV_other (Ne.symm h2), curV_other (Ne.symm h5)]; exact h.ap
  · rw [curV_other (Ne.symm h2), curV_other (Ne.symm h5)]
    intro _ _
    refine ⟨W.heap.size, by rw [if_pos rfl], hg, hz, fun hk => ?_, fun hk => ?_⟩
    · have := (h.rx.lt _ hk).2; omega
    · have := (h.ry.lt _ hk).2; omega
  · rw [curV_other (Ne.symm h2), curV_other (Ne.symm h5)]
    simp only [if_neg (Ne.symm h4), if_neg (Ne.symm h5)]
    intro c1 c2
    obtain ⟨g, k1, k2, k3, k4⟩ := h.n2 c1 c2
    exact ⟨g, k1, Nat.lt_of_lt_of_le k2 hb.size, addr_kept (block_kept hb k2) k3, k4⟩
  · intro d' hd
    have c : d' ≠ s1 := fun c => hs (c ▸ hd)
    simp only [if_neg c]; exact h.sv d' hd
/-- An append. -/
theorem TwoRows.app1 (h : TwoRows w e s s1 a1 s2 a2 v8 v9 n xs ys z1 z2 simple val D σ W) {v' : Value} {W' : World} (hd : D a1 = false) (h0 : a1 ≠ s1 ∧ a1 ≠ s2 ∧ a1 ≠ a2) (hs : a1 ∉ simple)
    (hown : W'.ownsRow w.heap.size e s v' (n + 1) (xs ++ z1)) (hg : W.grownBy W' v8.ownBlock) (hat : v'.ownBlock = v8.ownBlock ∨ v'.ownBlock = some W.heap.size) :
    TwoRows w e s s1 a1 s2 a2 v8 v9 n xs ys z1 z2 simple val (fun k => if k = a1 then true else D k) (fun k => if k = a1 then v' else σ k) W' := by
  obtain ⟨h2, h4, h5⟩ := h0
  have hrx : W.ownsRow w.heap.size e s v8 n xs := by have := h.rx; unfold curV at this; simpa [hd] using this
  have hap : ∀ k, v8.ownBlock = some k → (curV D σ a2 v9).ownBlock ≠ some k := by have := h.ap; unfold curV at this ⊢; simpa [hd] using this
  have hge : ∀ k, v8.ownBlock = some k → w.heap.size ≤ k := own_ge hrx
  have cv : curV (fun k => if k = a1 then true else D k) (fun k => if k = a1 then v' else σ k) a1 v8 = v' := by unfold curV; simp
  have c0 : curV D σ a1 v8 = v8 := by unfold curV; simp [hd]
  have hlt9 : ∀ k, (curV D σ a2 v9).ownBlock = some k → k < W.heap.size := fun k hk => (h.ry.lt k hk).2
  refine ⟨h.below.grown hg h.below.size hge, ?_, ?_, ?_, ?_, ?_, ?_⟩
  · rw [cv]; simp only [if_pos]; exact hown
  · rw [curV_other (Ne.symm h5)]
    simp only [if_neg (Ne.symm h5)]
    exact h.ry.kept hg (own_apart hap)
  · rw [cv, curV_other (Ne.symm h5)]
    intro k hk
    rcases hat with he | he
    · exact hap k (he ▸ hk)
    · intro h9
      have := hlt9 k h9
      rw [hk] at he
      cases he
      omega
  · intro _ c2; simp at c2
  · rw [cv, curV_other (Ne.symm h5)]
    simp only [if_neg (Ne.symm h4), if_neg (Ne.symm h5)]
    intro c1 c2
    obtain ⟨g, k1, k2, k3, k4, k5⟩ := h.n2 c1 c2
    rw [c0] at k4
    refine ⟨g, k1, Nat.lt_of_lt_of_le k2 hg.size, addr_kept (hg.block g k2 (fun c => k4 c.symm)) k3, fun hv => ?_, k5⟩
    rcases hat with he | he
    · exact k4 (he ▸ hv)
    · rw [hv] at he
      cases he
      omega
  · intro d' hd'
    have c : d' ≠ a1 := fun c => hs (c ▸ hd')
    simp only [if_neg c]; exact h.sv d' hd'
theorem TwoRows.row1 (h : TwoRows w e s s1 a1 s2 a2 v8 v9 n xs ys z1 z2 simple val D σ W) (hd : D a1 = false) : W.ownsRow w.heap.size e s v8 n xs := by have := h.rx; unfold curV at this; simpa [hd] using this
theorem TwoRows.done (h : TwoRows w e s s1 a1 s2 a2 v8 v9 n xs ys z1 z2 simple val D σ W) (h1 : D a1 = true) (h2 : D a2 = true) :
    W.ownsRow w.heap.size e s (σ a1) (n + 1) (xs ++ z1) ∧ W.ownsRow w.heap.size e s (σ a2) (n + 1) (ys ++ z2) ∧ ∀ k, (σ a1).ownBlock = some k → (σ a2).ownBlock ≠ some k := by
  refine ⟨?_, ?_, ?_⟩
  · have := h.rx; unfold curV at this; simpa [h1] using this
  · have := h.ry; unfold curV at this; simpa [h2] using this
  · have := h.ap; unfold curV at this; simpa [h1, h2] using this
end
end Go.Proofs.YthfkfgjhgicfeaaDoor
namespace Go.Proofs.YthfkfgjhgicfeaaDoor
open Go Go.RowKit
set_option linter.unusedVariables false

def cellsK (F : Nat → List Value) (k : Nat) : List Value := (List.range k).flatMap F
theorem cellsK_succ (F : Nat → List Value) (k : Nat) : cellsK F (k + 1) = cellsK F k ++ F k := by simp [cellsK, List.range_succ]
theorem cellsK_len {F : Nat → List Value} {s : Nat} (hF : ∀ j, (F j).length = s) : ∀ k, (cellsK F k).length = k * s
  | 0 => by simp [cellsK]
  | k + 1 => by rw [cellsK_succ, List.length_append, cellsK_len hF k, hF, Nat.succ_mul]
theorem cellsK_at {F : Nat → List Value} {s : Nat} (hF : ∀ j, (F j).length = s) : ∀ {k j i : Nat}, j < k → i < s → (cellsK F k)[j * s + i]? = (F j)[i]?
  | 0, j, i, h, _ => by omega
  | k + 1, j, i, h, hi => by
    rw [cellsK_succ]
    by_cases e : j = k
    · subst e
      rw [List.getElem?_append_right (by rw [cellsK_len hF]; omega), cellsK_len hF]
      congr 1
      omega
    · have hlt : j * s + i < k * s := by
        have : (j + 1) * s ≤ k * s := Nat.mul_le_mul_right s (by omega)
        rw [Nat.succ_mul] at this
        omega
      rw [List.getElem?_append_left (by rw [cellsK_len hF]; exact hlt)]
      exact cellsK_at hF (by omega) hi
def TwoRel (w0 : World) (e : TypeId) (s m : Nat) (F1 F2 : Nat → List Value) (v8 v9 i : Value) (W : World) : Prop :=
  ∃ k : Nat, k ≤ m ∧ i = .int .i64 k ∧ Below w0.heap.size w0 W ∧ W.ownsRow w0.heap.size e s v8 k (cellsK F1 k) ∧ W.ownsRow w0.heap.size e s v9 k (cellsK F2 k) ∧ ∀ q, v8.ownBlock = some q → v9.ownBlock ≠ some q
theorem own_rowK {W : World} {B m : Nat} {e : TypeId} {v : Value} {f : Nat → Int} (h : W.ownsRow B e 1 v m (cellsK (fun j => [.int .u64 (f j)]) m)) : ∃ a c, v = .slice a m c ∧ RowA W a m ((List.range m).map f) ∧ m ≤ c := by
  rcases id h.2 with ⟨hv, h0⟩ | ⟨g, cap, cur, hv, hb, hg, hn, hcap, hsz, ht⟩
  · subst h0
    exact ⟨none, 0, hv, ⟨by simp, by unfold maxLen; omega, fun k hk => by omega⟩, Nat.le_refl _⟩
  · refine ⟨some ⟨g, 0, none⟩, cap, hv, ⟨by simp, by omega, fun k hk => ⟨g, 0, rfl, ?_⟩⟩, hn⟩
    subst hv
    have h0 := h.cellAt k (by omega)
    have h1 := cellsK_at (F := fun j => [.int .u64 (f j)]) (s := 1) (fun _ => rfl) (k := m) (j := k) (i := 0) hk (by decide)
    rw [Nat.mul_one, Nat.add_zero] at h1
    rw [Nat.zero_add, h0, h1]
    simp [List.getD, hk]
theorem own_qrowK {W : World} {B m : Nat} {e : TypeId} {v : Value} {f : Nat → Int × Int} (h : W.ownsRow B e 2 v m (cellsK (fun j => [.int .u64 (f j).1, .int .u64 (f j).2]) m)) : ∃ a c, v = .slice a m c ∧ QRowA W a m ((List.range m).map f) ∧ m ≤ c := by
  rcases id h.2 with ⟨hv, h0⟩ | ⟨g, cap, cur, hv, hb, hg, hn, hcap, hsz, ht⟩
  · subst h0
    exact ⟨none, 0, hv, ⟨by simp, by unfold maxLen; omega, fun k hk => by omega⟩, Nat.le_refl _⟩
  · refine ⟨some ⟨g, 0, none⟩, cap, hv, ⟨by simp, by omega, fun k hk => ⟨g, 0, rfl, ?_, ?_⟩⟩, hn⟩
    all_goals
      subst hv
      have hF : ∀ j, ((fun j => [Value.int .u64 (f j).1, Value.int .u64 (f j).2]) j).length = 2 := fun _ => rfl
    · have h0 := h.cellAt (k * 2) (by omega)
      have h1 := cellsK_at hF (k := m) (j := k) (i := 0) hk (by decide)
      rw [Nat.add_zero] at h1
      rw [Nat.zero_add, h0, h1]
      simp [List.getD, hk]
    · have h0 := h.cellAt (k * 2 + 1) (by omega)
      have h1 := cellsK_at hF (k := m) (j := k) (i := 1) hk (by decide)
      rw [Nat.zero_add, h0, h1]
      simp [List.getD, hk]
theorem range_getD {α : Type} (f : Nat → α) (m i : Nat) (d : α) (h : i < m) : ((List.range m).map f).getD i d = f i := by simp [List.getD, h]
theorem RowA.cut {W : World} {a : Option Addr} {n m : Nat} {zs : List Int} (h : RowA W a n zs) (hm : m ≤ n) : RowA W a m (zs.take m) := by
  refine ⟨by rw [List.length_take, h.1]; omega, by have := h.2.1; omega, fun k hk => ?_⟩
  obtain ⟨b, off, e, c⟩ := h.2.2 k (by omega)
  refine ⟨b, off, e, ?_⟩
  rw [c]
  simp [List.getD, hk]
theorem QRowA.cut {W : World} {a : Option Addr} {n m : Nat} {zs : List (Int × Int)} (h : QRowA W a n zs) (hm : m ≤ n) : QRowA W a m (zs.take m) := by
  refine ⟨by rw [List.length_take, h.1]; omega, by have := h.2.1; omega, fun k hk => ?_⟩
  obtain ⟨b, off, e, c, d⟩ := h.2.2 k (by omega)
  refine ⟨b, off, e, ?_, ?_⟩
  · rw [c]; simp [List.getD, hk]
  · rw [d]; simp [List.getD, hk]
end Go.Proofs.YthfkfgjhgicfeaaDoor
namespace Go.Proofs.YthfkfgjhgicfeaaDoor
open Go Go.RowKit
set_option linter.unusedVariables false

section
variable {α : Type} {te e : TypeId} {s : Nat} {flat : List α → List Value} {rowP : World → Option Addr → Nat → List α → Prop}
/-- Rows, each of which is as rowP says. -/
def RowsP (rowP : World → Option Addr → Nat → List α → Prop) (W : World) (a : Option Addr) (n : Nat) (rows : List (List α)) : Prop :=
  rows.length = n ∧ n ≤ maxLen ∧ ∀ k, k < n → ∃ b off : Nat, a = some ⟨b, off, none⟩ ∧ ∃ (ak : Option Addr) (ck : Nat), W.cell? ⟨b, off + k, none⟩ = some (.slice ak (rows.getD k []).length ck) ∧ rowP W ak (rows.getD k []).length (rows.getD k []) ∧ (rows.getD k []).length ≤ ck
theorem RowsP.keep (hk : ∀ {W W' : World} {a : Option Addr} {n : Nat} {l : List α}, rowP W a n l → Below W.heap.size W W' → rowP W' a n l) {W W' : World} {a : Option Addr} {n : Nat} {rows : List (List α)} (h : RowsP rowP W a n rows) (hb : Below W.heap.size W W') : RowsP rowP W' a n rows :=
  ⟨h.1, h.2.1, fun k hlt => by
    obtain ⟨b, off, e, ak, ck, hc, hr, hn⟩ := h.2.2 k hlt
    exact ⟨b, off, e, ak, ck, bkeep hb hc, hk hr hb, hn⟩⟩
theorem RowsP.nil (W : World) : RowsP rowP W none 0 [] := ⟨rfl, by unfold maxLen; omega, fun k hk => by omega⟩
theorem RowsP.lt {W : World} {a : Option Addr} {n : Nat} {rows : List (List α)} (h : RowsP rowP W a n rows) : n ≤ maxLen := h.2.1
/-- The first ones. -/
theorem RowsP.take {W : World} {a : Option Addr} {n m : Nat} {rows : List (List α)} (h : RowsP rowP W a n rows) (hm : m ≤ n) : RowsP rowP W a m (rows.take m) := by
  obtain ⟨h1, h2, h3⟩ := h
  refine ⟨by simp; omega, by omega, fun k hk => ?_⟩
  have e : (rows.take m).getD k [] = rows.getD k [] := by simp [List.getD, hk]
  rw [e]
  exact h3 k (by omega)
/-- A table of rows in a block of its own, none of them in it. -/
def TabG (rowP : World → Option Addr → Nat → List α → Prop) (W : World) (B : Nat) (a : Option Addr) (n : Nat) (rows : List (List α)) : Prop :=
  rows.length = n ∧ n ≤ maxLen ∧ ∀ k, k < n → ∃ g off : Nat, B ≤ g ∧ a = some ⟨g, off, none⟩ ∧ W.frozen? ⟨g, off + k, none⟩ = false ∧ ∃ (ak : Option Addr) (ck : Nat), W.cell? ⟨g, off + k, none⟩ = some (.slice ak (rows.getD k []).length ck) ∧ rowP W ak (rows.getD k []).length (rows.getD k []) ∧ (rows.getD k []).length ≤ ck ∧ ∀ x, ak = some x → x.block ≠ g
theorem TabG.rows {W : World} {B : Nat} {a : Option Addr} {n : Nat} {rows : List (List α)} (h : TabG rowP W B a n rows) : RowsP rowP W a n rows :=
  ⟨h.1, h.2.1, fun k hk => by
    obtain ⟨g, off, _, e, _, ak, ck, hc, hr, hn, _⟩ := h.2.2 k hk
    exact ⟨g, off, e, ak, ck, hc, hr, hn⟩⟩
theorem TabG.keep (hk : ∀ {W W' : World} {a : Option Addr} {n : Nat} {l : List α}, rowP W a n l → Below W.heap.size W W' → rowP W' a n l) {W W' : World} {B : Nat} {a : Option Addr} {n : Nat} {rows : List (List α)} (h : TabG rowP W B a n rows) (hb : Below W.heap.size W W') : TabG rowP W' B a n rows :=
  ⟨h.1, h.2.1, fun k hlt => by
    obtain ⟨g, off, h1, e, hf, ak, ck, hc, hr, hn, hx⟩ := h.2.2 k hlt
    exact ⟨g, off, h1, e, bfree hb hc hf, ak, ck, bkeep hb hc, hk hr hb, hn, hx⟩⟩
theorem TabG.mono {W : World} {B B' : Nat} {a : Option Addr} {n : Nat} {rows : List (List α)} (h : TabG rowP W B a n rows) (hb : B' ≤ B) : TabG rowP W B' a n rows :=
  ⟨h.1, h.2.1, fun k hlt => by
    obtain ⟨g, off, h1, r⟩ := h.2.2 k hlt
    exact ⟨g, off, Nat.le_trans hb h1, r⟩⟩
theorem TabG.nil (W : World) (B : Nat) : TabG rowP W B none 0 [] := ⟨rfl, by unfold maxLen; omega, fun k hk => by omega⟩
/-- Another row in it. -/
theorem TabG.set (hk : ∀ {W : World} {a : Option Addr} {n g o : Nat} {v : Value} {l : List α}, rowP W a n l → (∀ x, a = some x → x.block ≠ g) → rowP (W.setCell ⟨g, o, none⟩ v) a n l) {W : World} {B g off i : Nat} {n : Nat} {rows : List (List α)} {ai : Option Addr} {ci : Nat} {l : List α} (h : TabG rowP W B (some ⟨g, off, none⟩) n rows) (hi : i < n) (hr : rowP W ai l.length l) (hc : l.length ≤ ci) (hx : ∀ x, ai = some x → x.block ≠ g) : TabG rowP (W.setCell ⟨g, off + i, none⟩ (.slice ai l.length ci)) B (some ⟨g, off, none⟩) n (rows.set i l) := by
  obtain ⟨h1, h2, h3⟩ := h
  refine ⟨by simp [h1], h2, fun k hlt => ?_⟩
  obtain ⟨g', off', hB, e, hf, ak, ck, hck, hrk, hn, hxk⟩ := h3 k hlt
  cases e
  refine ⟨g, off, hB, rfl, by simp [hf], ?_⟩
  by_cases d : k = i
  · subst d
    have e2 : (rows.set k l).getD k [] = l := by simp [List.getD, show k < rows.length by omega]
    rw [e2]
    refine ⟨ai, ci, ?_, hk hr hx, hc, hx⟩
    simp [go_sem, hck]
  · have e2 : (rows.set i l).getD k [] = rows.getD k [] := by simp [List.getD, show ¬ i = k from fun c => d c.symm]
    rw [e2]
    refine ⟨ak, ck, ?_, hk hrk hxk, hn, hxk⟩
    exact (World.cell?_setCell_other _ _ _ _ (by intro c; have := congrArg Addr.off c; simp only at this; first | omega | (have h2 : off + k = off + i := this.symm; omega) | (have h2 : off + i = off + k := this; omega))).trans hck
def valsR (rs : Nat → Value) (k : Nat) : List Value := (List.range k).map rs
theorem valsR_len (rs : Nat → Value) (k : Nat) : (valsR rs k).length = k := by simp [valsR]
theorem valsR_snoc (rs : Nat → Value) (v : Value) (k : Nat) : valsR rs k ++ [v] = valsR (fun j => if j = k then v else rs j) (k + 1) := by
  simp only [valsR, List.range_succ, List.map_append, List.map_cons, List.map_nil, if_true]
  congr 1
  refine List.map_congr_left fun j hj => ?_
  rw [if_neg (by have := List.mem_range.1 hj; omega)]
theorem valsR_at (rs : Nat → Value) {k j : Nat} (h : j < k) : (valsR rs k).getD j undef = rs j := by simp [valsR, List.getD, h]
/-- Rows under way, in rows of their own. -/
def RowsG (te e : TypeId) (s : Nat) (flat : List α → List Value) (w W : World) (v : Value) (ks : List (List α)) : Prop :=
  ∃ rs : Nat → Value, MadeG te w W v (valsR rs ks.length) ∧ ∀ j, j < ks.length → W.ownsRow w.heap.size e s (rs j) (ks.getD j []).length (flat (ks.getD j []))
theorem RowsG.start {w W : World} (h : Below w.heap.size w W) : RowsG te e s flat w W (.slice none 0 0) [] := ⟨fun _ => undef, MadeG.nil h, fun j hj => absurd hj (by simp)⟩
theorem RowsG.keep {w W W' : World} {v : Value} {ks : List (List α)} (h : RowsG te e s flat w W v ks) (hb : Below W.heap.size W W') : RowsG te e s flat w W' v ks := by
  obtain ⟨rs, h1, h2⟩ := h
  exact ⟨rs, h1.keep hb, fun j hj => own_keep (h2 j hj) hb⟩
theorem RowsG.below {w W : World} {v : Value} {ks : List (List α)} (h : RowsG te e s flat w W v ks) : Below w.heap.size w W := by
  obtain ⟨rs, h1, h2⟩ := h
  exact h1.2
/-- One more. -/
theorem RowsG.more (hne : e ≠ te) {w W W' : World} {v v' u : Value} {ks : List (List α)} {l : List α} {rs : Nat → Value} (h1 : MadeG te w W v (valsR rs ks.length)) (h2 : ∀ j, j < ks.length → W.ownsRow w.heap.size e s (rs j) (ks.getD j []).length (flat (ks.getD j [])))
    (hu : W.ownsRow w.heap.size e s u l.length (flat l)) (hg : W.grownBy W' v.ownBlock) (h1' : MadeG te w W' v' (valsR rs ks.length ++ [u])) : RowsG te e s flat w W' v' (ks ++ [l]) := by
  refine ⟨fun j => if j = ks.length then u else rs j, by rw [List.length_append, show ks.length + [l].length = ks.length + 1 from rfl, ← valsR_snoc]; exact h1', fun j hj => ?_⟩
  by_cases c : j = ks.length
  · subst c
    have e2 : (ks ++ [l]).getD ks.length [] = l := by simp [List.getD]
    have e3 : (fun j => if j = ks.length then u else rs j) ks.length = u := if_pos rfl
    rw [e2, e3]
    exact hu.kept hg (own_unlike hu h1.1 hne)
  · have hj' : j < ks.length := by rw [List.length_append] at hj; simp at hj; omega
    have e2 : (ks ++ [l]).getD j [] = ks.getD j [] := by simp only [List.getD]; rw [List.getElem?_append_left hj']
    have e3 : (fun j => if j = ks.length then u else rs j) j = rs j := if_neg c
    rw [e2, e3]
    exact (h2 j hj').kept hg (own_unlike (h2 j hj') h1.1 hne)
/-- What they read as: a table of the call's own. -/
theorem RowsG.told (hne : e ≠ te) (hr : ∀ {W : World} {B : Nat} {v : Value} {l : List α}, W.ownsRow B e s v l.length (flat l) → ∃ a c, v = .slice a l.length c ∧ rowP W a l.length l ∧ l.length ≤ c) {w W : World} {v : Value} {ks : List (List α)} (h : RowsG te e s flat w W v ks) : ∃ a c, v = .slice a ks.length c ∧ TabG rowP W w.heap.size a ks.length ks ∧ ks.length ≤ c ∧ (a = none → c = 0) := by
  obtain ⟨rs, h1, h2⟩ := h
  obtain ⟨a, c, e1, e2, e3, e4, e5⟩ := h1.row
  rw [valsR_len] at e1 e2 e4 e5
  refine ⟨a, c, e1, ⟨rfl, by omega, fun k hk => ?_⟩, e2, fun h => (e4 h).2⟩
  obtain ⟨g, c', hv, hB, _, _, hA⟩ := own_arr h1.1 (by rw [valsR_len]; omega)
  rw [hv] at e1
  rw [valsR_len, Nat.mul_one] at hA
  simp only [Value.slice.injEq] at e1
  obtain ⟨ea, -, ec⟩ := e1
  obtain ⟨hc, hf⟩ := hA k hk
  simp only [valsR_at rs hk] at hc
  obtain ⟨ak, ck, hvk, hrk, hn⟩ := hr (h2 k hk)
  refine ⟨g, 0, hB, ea.symm, by rw [Nat.zero_add]; exact hf, ak, ck, by rw [Nat.zero_add, hc, hvk], hrk, hn, fun x hx => ?_⟩
  have hu := own_unlike (h2 k hk) h1.1 hne
  rw [hvk, hv, hx] at hu
  rcases hu with hu | hu
  · cases x; simp [Value.ownBlock] at hu
  · intro c; apply hu; rw [Value.ownBlock, Value.ownBlock, c]
end
end Go.Proofs.YthfkfgjhgicfeaaDoor
namespace Go.Proofs.YthfkfgjhgicfeaaDoor
open Go Go.RowKit
set_option linter.unusedVariables false

def TabQ (W : World) (a : Option Addr) (n : Nat) (rows : List (List (Int × Int))) : Prop :=
  rows.length = n ∧ n ≤ maxLen ∧ ∀ k, k < n → ∃ b off : Nat, a = some ⟨b, off, none⟩ ∧ ∃ (ak : Option Addr) (ck : Nat), W.cell? ⟨b, off + k, none⟩ = some (.slice ak (rows.getD k []).length ck) ∧ QRowA W ak (rows.getD k []).length (rows.getD k [])
theorem TabQ.keep {W W' : World} {a : Option Addr} {n : Nat} {rows : List (List (Int × Int))} (h : TabQ W a n rows) (hb : Below W.heap.size W W') : TabQ W' a n rows :=
  ⟨h.1, h.2.1, fun k hlt => by
    obtain ⟨b, off, e, ak, ck, hc, hr⟩ := h.2.2 k hlt
    exact ⟨b, off, e, ak, ck, bkeep hb hc, hr.keep hb⟩⟩
theorem TabQ.nil (W : World) : TabQ W none 0 [] := ⟨rfl, by unfold maxLen; omega, fun k hk => by omega⟩
theorem TabQ.cut {W : World} {a : Option Addr} {n m : Nat} {rows : List (List (Int × Int))} (h : TabQ W a n rows) (hm : m ≤ n) : TabQ W a m (rows.take m) := by
  obtain ⟨h1, h2, h3⟩ := h
  refine ⟨by simp; omega, by omega, fun k hk => ?_⟩
  have e : (rows.take m).getD k [] = rows.getD k [] := by simp [List.getD, hk]
  rw [e]
  exact h3 k (by omega)
theorem QRowA.grown {W W' : World} {a : Option Addr} {n : Nat} {zs : List (Int × Int)} {row : Option Nat} (h : QRowA W a n zs) (hg : W.grownBy W' row) (hne : 0 < n → ∀ x, a = some x → row ≠ some x.block) : QRowA W' a n zs :=
  ⟨h.1, h.2.1, fun k hk => by
    obtain ⟨b, off, e, c0, c1⟩ := h.2.2 k hk
    have hb := hg.block b (World.block_lt_of_cell? _ _ c0) (fun q => hne (by omega) _ e q.symm)
    exact ⟨b, off, e, (World.cell?_of_block (a := ⟨b, off + k * 2, none⟩) hb).trans c0, (World.cell?_of_block (a := ⟨b, off + k * 2 + 1, none⟩) hb).trans c1⟩⟩
theorem QRowA.below {W : World} {a : Option Addr} {n : Nat} {zs : List (Int × Int)} (h : QRowA W a n zs) (h0 : 0 < n) : ∀ x, a = some x → x.block < W.heap.size := fun x hx => by
  obtain ⟨b, off, e, c0, _⟩ := h.2.2 0 h0
  rw [hx] at e
  cases e
  exact World.block_lt_of_cell? _ _ c0
/-- Rows under way: the row of rows is the call's own, none of the rows in it. -/
def RowsUpQ (w W : World) (v : Value) (rs : Nat → Value) (rows : List (List (Int × Int))) : Prop :=
  MadeG 22 w W v (valsR rs rows.length) ∧ ∀ j, j < rows.length → ∃ (aj : Option Addr) (cj : Nat), rs j = .slice aj (rows.getD j []).length cj ∧ QRowA W aj (rows.getD j []).length (rows.getD j []) ∧ (0 < (rows.getD j []).length → ∀ x, aj = some x → v.ownBlock ≠ some x.block)
theorem RowsUpQ.keep {w W W' : World} {v : Value} {rs : Nat → Value} {rows : List (List (Int × Int))} (h : RowsUpQ w W v rs rows) (hb : Below W.heap.size W W') : RowsUpQ w W' v rs rows :=
  ⟨h.1.keep hb, fun j hj => by
    obtain ⟨aj, cj, e, hq, hx⟩ := h.2 j hj
    exact ⟨aj, cj, e, hq.keep hb, hx⟩⟩
theorem RowsUpQ.start {w : World} {a : Option Addr} {c : Nat} {l : List (Int × Int)} (h : QRowA w a l.length l) :
    RowsUpQ w (w.alloc (.cells #[.slice a l.length c] 22)) (.slice (some ⟨w.heap.size, 0, none⟩) 1 1) (fun _ => .slice a l.length c) [l] := by
  have hb : Below w.heap.size w (w.alloc (.cells #[.slice a l.length c] 22)) := (Below.refl _ _).alloc (Nat.le_refl _) _
  refine ⟨⟨⟨rfl, .inr ⟨w.heap.size, 1, #[.slice a l.length c], rfl, Nat.le_refl _, heap_alloc_new w _, Nat.le_refl _, by unfold maxLen; omega, rfl, rfl⟩⟩, hb⟩, fun j hj => ?_⟩
  obtain rfl : j = 0 := by simp at hj; omega
  refine ⟨a, c, rfl, h.keep hb, fun h0 x hx => ?_⟩
  have := h.below h0 x hx
  show some w.heap.size ≠ some x.block
  intro e
  have := Option.some.inj e
  omega
/-- One more. -/
theorem RowsUpQ.more {w W W' : World} {v v' : Value} {rs : Nat → Value} {rows : List (List (Int × Int))} {au : Option Addr} {cu : Nat} {l : List (Int × Int)} (h : RowsUpQ w W v rs rows) (hq : QRowA W au l.length l) (hx : 0 < l.length → ∀ x, au = some x → v.ownBlock ≠ some x.block)
    (hg : W.grownBy W' v.ownBlock) (hat : v'.ownBlock = v.ownBlock ∨ v'.ownBlock = some W.heap.size) (h1' : MadeG 22 w W' v' (valsR rs rows.length ++ [.slice au l.length cu])) :
    RowsUpQ w W' v' (fun j => if j = rows.length then .slice au l.length cu else rs j) (rows ++ [l]) := by
  have apart : ∀ (a : Option Addr) (n : Nat) (zs : List (Int × Int)), QRowA W a n zs → (0 < n → ∀ x, a = some x → v.ownBlock ≠ some x.block) → 0 < n → ∀ x, a = some x → v'.ownBlock ≠ some x.block := by
    intro a n zs hr h1 h0 x hx
    rcases hat with e | e
    · rw [e]; exact h1 h0 x hx
    · have := hr.below h0 x hx
      rw [e]
      intro c
      have := Option.some.inj c
      omega
  refine ⟨by rw [List.length_append, show rows.length + [l].length = rows.length + 1 from rfl, ← valsR_snoc]; exact h1', fun j hj => ?_⟩
  by_cases c : j = rows.length
  · subst c
    have e2 : (rows ++ [l]).getD rows.length [] = l := by simp [List.getD]
    rw [e2]
    exact ⟨au, cu, if_pos rfl, hq.grown hg hx, apart _ _ _ hq hx⟩
  · have hj' : j < rows.length := by rw [List.length_append] at hj; simp at hj; omega
    have e2 : (rows ++ [l]).getD j [] = rows.getD j [] := by simp only [List.getD]; rw [List.getElem?_append_left hj']
    rw [e2]
    obtain ⟨aj, cj, e, hr, hy⟩ := h.2 j hj'
    exact ⟨aj, cj, (if_neg c).trans e, hr.grown hg hy, apart _ _ _ hr hy⟩
theorem RowsUpQ.told {w W : World} {v : Value} {rs : Nat → Value} {rows : List (List (Int × Int))} (h : RowsUpQ w W v rs rows) : ∃ a c, v = .slice a rows.length c ∧ TabQ W a rows.length rows ∧ rows.length ≤ c := by
  obtain ⟨a, c, e1, e2, e3, e4, e5⟩ := h.1.row
  rw [valsR_len] at e1 e2 e4 e5
  refine ⟨a, c, e1, ⟨rfl, by omega, fun k hk => ?_⟩, e2⟩
  obtain ⟨b, off, e, hc⟩ := e5 k hk
  rw [valsR_at rs hk] at hc
  obtain ⟨aj, cj, er, hr, _⟩ := h.2 k hk
  exact ⟨b, off, e, aj, cj, by rw [hc, er], hr⟩
end Go.Proofs.YthfkfgjhgicfeaaDoor
