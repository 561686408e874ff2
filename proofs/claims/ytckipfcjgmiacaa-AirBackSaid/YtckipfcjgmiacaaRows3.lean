/-
  One row of two-cell elements put together in a region that draws its order: an empty one, append of a slice, append of another; a literal of one element beside. No function of the program is named.
-/
import Derived.Test.YtckipfcjgmiacaaGRow
import Derived.Test.YtckipfcjgmiacaaBeside
import Derived.Maps.AppendAt
import Derived.Laws.OwnMore
namespace Go.Proofs.Ytckipfcjgmiacaa
open Go Go.RowKit
set_option linter.unusedVariables false

theorem wp_append_at3 {P : Program} {w : World} {o : Oper} {a : Act} {K : Act → World → Prop} {Q : Exit → Act → World → Prop} (s x : Operand) (t : TypeId)
    (ho : o.op = .call { callee := .builtin .append, args := #[s, x], argTypes := #[t, t] })
    (base : Nat) (e : TypeId) (i : TypeInfo) (z : Value) (size bytes : Nat) (ht : P.underlying t = some (.slice e)) (hi : P.info? e = some i) (hz : i.zero = some z)
    (hsize : i.size = size) (hby : i.bytes = bytes) (hzs : z.cells.size = size) (hsz : 0 < size)
    (v : Value) (n : Nat) (xs : List Value) (hs : a.eval s = v) (hown : w.ownsRow base e size v n xs)
    (ax : Option Addr) (m c : Nat) (news : List Value) (hx : a.eval x = .slice ax m c) (hl : news.length = m * size) (hnil : ax = none → c = 0) (hm0 : ax = none → m = 0)
    (hnews : ∀ ad, ax = some ad → ∀ j u, news[j]? = some u → w.cell? (ad.add j) = some u) (h1 : ∀ u ∈ news, u.oneCell' = true)
    (h63 : n + m ≤ maxLen) (hbytes : (n + m) * bytes ≤ 140737488355328) (hbase : base ≤ w.heap.size)
    (h : ∀ v' w', w'.ownsRow base e size v' (n + m) (xs ++ news) → w.grownBy w' v.ownBlock → (v'.ownBlock = v.ownBlock ∨ v'.ownBlock = some w.heap.size) → K (a.put o.dst v') w') : o.wp P a w K Q := by
  cases ax with
  | some ad =>
    obtain ⟨v', w', hr, h2, h3, h4, h5⟩ := run_append_own_at (P := P) w base t o.type e i z size bytes ht hi hz hsize hby hzs hsz v n xs hown ad m c news hl (hnews ad rfl) h1 h63 hbytes hbase
    unfold Oper.wp execOp
    simp only [ho, resolve, invoke, builtin, Sem.run_bind, Sem.run_pure, Result.andThen_ok, List.map_toArray, List.map_cons, List.map_nil, hs, hx, hr]
    exact h v' w' h2 h3 h5
  | none =>
    obtain rfl := hnil rfl
    obtain rfl := hm0 rfl
    obtain rfl : news = [] := List.length_eq_zero_iff.1 (by simpa using hl)
    have hrun := run_append_owned_none (P := P) w base t o.type e i size ht hi v n xs hown
    unfold Oper.wp execOp
    simp only [ho, resolve, invoke, builtin, Sem.run_bind, Sem.run_pure, Result.andThen_ok, List.map_toArray, List.map_cons, List.map_nil, hs, hx, hrun]
    exact h v w (by simpa using hown) (World.grownBy.refl _ _) (.inl rfl)
theorem wpList_append3 {P : Program} {w : World} {ops : Array Oper} {rest : List Oper} {o : Oper} {a : Act} {Q : Exit → Act → World → Prop} (hgd : o.guard = none) (s x : Operand) (t : TypeId)
    (ho : o.op = .call { callee := .builtin .append, args := #[s, x], argTypes := #[t, t] })
    (base : Nat) (e : TypeId) (i : TypeInfo) (z : Value) (size bytes : Nat) (ht : P.underlying t = some (.slice e)) (hi : P.info? e = some i) (hz : i.zero = some z)
    (hsize : i.size = size) (hby : i.bytes = bytes) (hzs : z.cells.size = size) (hsz : 0 < size)
    (v : Value) (n : Nat) (xs : List Value) (hs : a.eval s = v) (hown : w.ownsRow base e size v n xs)
    (ax : Option Addr) (m c : Nat) (news : List Value) (hx : a.eval x = .slice ax m c) (hl : news.length = m * size) (hnil : ax = none → c = 0) (hm0 : ax = none → m = 0)
    (hnews : ∀ ad, ax = some ad → ∀ j u, news[j]? = some u → w.cell? (ad.add j) = some u) (h1 : ∀ u ∈ news, u.oneCell' = true)
    (h63 : n + m ≤ maxLen) (hbytes : (n + m) * bytes ≤ 140737488355328) (hbase : base ≤ w.heap.size)
    (h : ∀ v' w', w'.ownsRow base e size v' (n + m) (xs ++ news) → w.grownBy w' v.ownBlock → (v'.ownBlock = v.ownBlock ∨ v'.ownBlock = some w.heap.size) → wpList P ops Q rest (a.put o.dst v') w') : wpList P ops Q (o :: rest) a w :=
  wpList_plain hgd fun K hK => wp_append_at3 s x t ho base e i z size bytes ht hi hz hsize hby hzs hsz v n xs hs hown ax m c news hx hl hnil hm0 hnews h1 h63 hbytes hbase fun v' w' q1 q2 q3 => hK _ _ (h v' w' q1 q2 q3)
def curR (D : Nat → Bool) (σ : Nat → Value) (s0 a1 a2 : Nat) : Value := if D a2 = true then σ a2 else if D a1 = true then σ a1 else if D s0 = true then σ s0 else .slice none 0 0
def curN (D : Nat → Bool) (a1 a2 n m : Nat) : Nat := if D a2 = true then n + m else if D a1 = true then n else 0
def curX3 (D : Nat → Bool) (a1 a2 : Nat) (xs ys : List Value) : List Value := if D a2 = true then xs ++ ys else if D a1 = true then xs else []
structure Rows3 (W0 : World) (e : TypeId) (s0 a1 a2 sl : Nat) (xs ys : List Value) (n m : Nat) (x y : Value) (simple : List Nat) (val : Nat → Value) (D : Nat → Bool) (σ : Nat → Value) (W : World) : Prop where
  below : Below W0.heap.size W0 W
  own : W.ownsRow W0.heap.size e 2 (curR D σ s0 a1 a2) (curN D a1 a2 n m) (curX3 D a1 a2 xs ys)
  o1 : D a1 = true → D s0 = true
  o2 : D a2 = true → D a1 = true
  li : D sl = true → ∃ g, σ sl = .slice (some ⟨g, 0, none⟩) 1 1 ∧ W.cell? ⟨g, 0, none⟩ = some x ∧ W.cell? ⟨g, 1, none⟩ = some y ∧ (curR D σ s0 a1 a2).ownBlock ≠ some g
  sv : ∀ d, d ∈ simple → D d = true → σ d = val d
section
variable {W0 : World} {e : TypeId} {s0 a1 a2 sl : Nat} {xs ys : List Value} {n m : Nat} {x y : Value} {simple : List Nat} {val : Nat → Value} {D : Nat → Bool} {σ : Nat → Value} {W : World}
theorem Rows3.start (hb : Below W0.heap.size W0 W) (σ : Nat → Value) : Rows3 W0 e s0 a1 a2 sl xs ys n m x y simple val (fun _ => false) σ W :=
  ⟨hb, by simpa [curR, curN, curX3] using World.ownsRow_nil W W0.heap.size e 2, fun h => absurd h Bool.false_ne_true, fun h => absurd h Bool.false_ne_true, fun h => absurd h Bool.false_ne_true, fun _ _ h => absurd h Bool.false_ne_true⟩
theorem curR_far {d : Nat} {v : Value} (h0 : d ≠ s0 ∧ d ≠ a1 ∧ d ≠ a2) : curR (fun k => if k = d then true else D k) (fun k => if k = d then v else σ k) s0 a1 a2 = curR D σ s0 a1 a2 := by
  obtain ⟨h1, h2, h3⟩ := h0
  unfold curR; simp [Ne.symm h1, Ne.symm h2, Ne.symm h3]
theorem curN_far {d : Nat} (h2 : d ≠ a1) (h3 : d ≠ a2) : curN (fun k => if k = d then true else D k) a1 a2 n m = curN D a1 a2 n m := by unfold curN; simp [Ne.symm h2, Ne.symm h3]
theorem curX3_far {d : Nat} (h2 : d ≠ a1) (h3 : d ≠ a2) : curX3 (fun k => if k = d then true else D k) a1 a2 xs ys = curX3 D a1 a2 xs ys := by unfold curX3; simp [Ne.symm h2, Ne.symm h3]
/-- An operation whose value is known, by new memory alone. -/
theorem Rows3.next (h : Rows3 W0 e s0 a1 a2 sl xs ys n m x y simple val D σ W) {d : Nat} {v : Value} {W' : World} (hb : Below W.heap.size W W') (h0 : d ≠ s0 ∧ d ≠ a1 ∧ d ≠ a2 ∧ d ≠ sl) (hv : v = val d) :
    Rows3 W0 e s0 a1 a2 sl xs ys n m x y simple val (fun k => if k = d then true else D k) (fun k => if k = d then v else σ k) W' := by
  obtain ⟨h1, h2, h3, h4⟩ := h0
  refine ⟨bthen h.below hb, ?_, ?_, ?_, ?_, ?_⟩
  · rw [curR_far ⟨h1, h2, h3⟩, curN_far h2 h3, curX3_far h2 h3]; exact own_keep h.own hb
  · simp only [if_neg (Ne.symm h1), if_neg (Ne.symm h2)]; exact h.o1
  · simp only [if_neg (Ne.symm h2), if_neg (Ne.symm h3)]; exact h.o2
  · rw [curR_far ⟨h1, h2, h3⟩]
    simp only [if_neg (Ne.symm h4)]
    intro c
    obtain ⟨g, k1, k2, k3, k4⟩ := h.li c
    exact ⟨g, k1, bkeep hb k2, bkeep hb k3, k4⟩
  · intro d' hd
    by_cases c : d' = d
    · subst c; intro _; simp only [if_pos]; exact hv
    · simp only [if_neg c]; exact h.sv d' hd
/-- The empty row. -/
theorem Rows3.lit0 (h : Rows3 W0 e s0 a1 a2 sl xs ys n m x y simple val D σ W) (hd : D s0 = false) (h0 : s0 ≠ a1 ∧ s0 ≠ a2 ∧ s0 ≠ sl) (hs : s0 ∉ simple) :
    Rows3 W0 e s0 a1 a2 sl xs ys n m x y simple val (fun k => if k = s0 then true else D k) (fun k => if k = s0 then .slice (some ⟨W.heap.size, 0, none⟩) 0 0 else σ k) (W.alloc (.cells #[] e)) := by
  obtain ⟨h2, h3, h4⟩ := h0
  have d1 : D a1 = false := by cases c : D a1 with | false => rfl | true => exact absurd (h.o1 c) (by simp [hd])
  have d2 : D a2 = false := by cases c : D a2 with | false => rfl | true => exact absurd (h.o2 c) (by simp [d1])
  have hb := (Below.refl W.heap.size W).alloc (Nat.le_refl _) (.cells #[] e)
  have cr : curR (fun k => if k = s0 then true else D k) (fun k => if k = s0 then .slice (some ⟨W.heap.size, 0, none⟩) 0 0 else σ k) s0 a1 a2 = .slice (some ⟨W.heap.size, 0, none⟩) 0 0 := by
    unfold curR; simp [Ne.symm h2, Ne.symm h3, d1, d2]
  refine ⟨bthen h.below hb, ?_, ?_, ?_, ?_, ?_⟩
  · rw [cr, curN_far h2 h3, curX3_far h2 h3]
    unfold curN curX3
    simp only [d1, d2, Bool.false_eq_true, if_false]
    exact World.ownsRow_lit (e := e) (size := 2) W #[] 0 h.below.size (by unfold maxLen; omega) rfl
  · intro _; simp
  · simp only [if_neg (Ne.symm h2), if_neg (Ne.symm h3)]; exact h.o2
  · rw [cr]
    simp only [if_neg (Ne.symm h4)]
    intro c
    obtain ⟨g, k1, k2, k3, k4⟩ := h.li c
    refine ⟨g, k1, bkeep hb k2, bkeep hb k3, fun he => ?_⟩
    have hlt := World.block_lt_of_cell? W _ k2
    simp [Value.ownBlock] at he
    dsimp only at hlt
    omega
  · intro d' hd'
    have c : d' ≠ s0 := fun c => hs (c ▸ hd')
    simp only [if_neg c]; exact h.sv d' hd'
/-- The literal. -/
theorem Rows3.litX (h : Rows3 W0 e s0 a1 a2 sl xs ys n m x y simple val D σ W) (h0 : sl ≠ s0 ∧ sl ≠ a1 ∧ sl ≠ a2) (hs : sl ∉ simple) :
    Rows3 W0 e s0 a1 a2 sl xs ys n m x y simple val (fun k => if k = sl then true else D k) (fun k => if k = sl then .slice (some ⟨W.heap.size, 0, none⟩) 1 1 else σ k) (W.alloc (.cells #[x, y] e)) := by
  obtain ⟨h1, h2, h3⟩ := h0
  have hb := (Below.refl W.heap.size W).alloc (Nat.le_refl _) (.cells #[x, y] e)
  refine ⟨bthen h.below hb, ?_, ?_, ?_, ?_, ?_⟩
  · rw [curR_far ⟨h1, h2, h3⟩, curN_far h2 h3, curX3_far h2 h3]; exact own_keep h.own hb
  · simp only [if_neg (Ne.symm h1), if_neg (Ne.symm h2)]; exact h.o1
  · simp only [if_neg (Ne.symm h2), if_neg (Ne.symm h3)]; exact h.o2
  · rw [curR_far ⟨h1, h2, h3⟩]
    intro _
    refine ⟨W.heap.size, by rw [if_pos rfl], by simp [go_sem], by simp [go_sem], fun he => ?_⟩
    have := (h.own.lt _ he).2
    omega
  · intro d' hd'
    have c : d' ≠ sl := fun c => hs (c ▸ hd')
    simp only [if_neg c]; exact h.sv d' hd'
theorem cell_grown {W W' : World} {row : Option Nat} {g o : Nat} {v : Value} (hg : W.grownBy W' row) (h : W.cell? ⟨g, o, none⟩ = some v) (hne : row ≠ some g) : W'.cell? ⟨g, o, none⟩ = some v :=
  (World.cell?_of_block (a := ⟨g, o, none⟩) (hg.block g (World.block_lt_of_cell? W _ h) (fun c => hne c.symm))).trans h
/-- The first append. -/
theorem Rows3.app1 (h : Rows3 W0 e s0 a1 a2 sl xs ys n m x y simple val D σ W) {v' : Value} {W' : World} (hd : D a1 = false) (hs0 : D s0 = true) (h0 : a1 ≠ s0 ∧ a1 ≠ a2 ∧ a1 ≠ sl) (hs : a1 ∉ simple)
    (hown : W'.ownsRow W0.heap.size e 2 v' n xs) (hg : W.grownBy W' (σ s0).ownBlock) (hat : v'.ownBlock = (σ s0).ownBlock ∨ v'.ownBlock = some W.heap.size) :
    Rows3 W0 e s0 a1 a2 sl xs ys n m x y simple val (fun k => if k = a1 then true else D k) (fun k => if k = a1 then v' else σ k) W' := by
  obtain ⟨h1, h3, h4⟩ := h0
  have d2 : D a2 = false := by cases c : D a2 with | false => rfl | true => exact absurd (h.o2 c) (by simp [hd])
  have c0 : curR D σ s0 a1 a2 = σ s0 := by unfold curR; simp [hd, d2, hs0]
  have cr : curR (fun k => if k = a1 then true else D k) (fun k => if k = a1 then v' else σ k) s0 a1 a2 = v' := by unfold curR; simp [Ne.symm h3, d2]
  have hge : ∀ k, (σ s0).ownBlock = some k → W0.heap.size ≤ k := fun k hk => own_ge h.own k (by rw [c0]; exact hk)
  refine ⟨h.below.grown hg h.below.size hge, ?_, ?_, ?_, ?_, ?_⟩
  · rw [cr]
    unfold curN curX3
    simp only [if_neg (Ne.symm h3), d2, Bool.false_eq_true, if_false, if_pos]
    exact hown
  · intro _; simp only [if_neg (Ne.symm h1)]; exact hs0
  · simp only [if_neg (Ne.symm h3), d2]; intro c; cases c
  · rw [cr]
    simp only [if_neg (Ne.symm h4)]
    intro c
    obtain ⟨g, k1, k2, k3, k4⟩ := h.li c
    rw [c0] at k4
    refine ⟨g, k1, cell_grown hg k2 k4, cell_grown hg k3 k4, fun he => ?_⟩
    rcases hat with hq | hq
    · exact k4 (hq ▸ he)
    · rw [he] at hq
      have hlt := World.block_lt_of_cell? W _ k2
      cases hq
      exact absurd hlt (Nat.lt_irrefl _)
  · intro d' hd'
    have c : d' ≠ a1 := fun c => hs (c ▸ hd')
    simp only [if_neg c]; exact h.sv d' hd'
/-- The second append. -/
theorem Rows3.app2 (h : Rows3 W0 e s0 a1 a2 sl xs ys n m x y simple val D σ W) {v' : Value} {W' : World} (hd : D a2 = false) (hd1 : D a1 = true) (h0 : a2 ≠ s0 ∧ a2 ≠ a1 ∧ a2 ≠ sl) (hs : a2 ∉ simple)
    (hown : W'.ownsRow W0.heap.size e 2 v' (n + m) (xs ++ ys)) (hg : W.grownBy W' (σ a1).ownBlock) (hat : v'.ownBlock = (σ a1).ownBlock ∨ v'.ownBlock = some W.heap.size) :
    Rows3 W0 e s0 a1 a2 sl xs ys n m x y simple val (fun k => if k = a2 then true else D k) (fun k => if k = a2 then v' else σ k) W' := by
  obtain ⟨h1, h3, h4⟩ := h0
  have c0 : curR D σ s0 a1 a2 = σ a1 := by unfold curR; simp [hd, hd1]
  have cr : curR (fun k => if k = a2 then true else D k) (fun k => if k = a2 then v' else σ k) s0 a1 a2 = v' := by unfold curR; simp
  have hge : ∀ k, (σ a1).ownBlock = some k → W0.heap.size ≤ k := fun k hk => own_ge h.own k (by rw [c0]; exact hk)
  refine ⟨h.below.grown hg h.below.size hge, ?_, ?_, ?_, ?_, ?_⟩
  · rw [cr]
    unfold curN curX3
    simp only [if_pos]
    exact hown
  · simp only [if_neg (Ne.symm h1), if_neg (Ne.symm h3)]; exact h.o1
  · intro _; simp only [if_neg (Ne.symm h3)]; exact hd1
  · rw [cr]
    simp only [if_neg (Ne.symm h4)]
    intro c
    obtain ⟨g, k1, k2, k3, k4⟩ := h.li c
    rw [c0] at k4
    refine ⟨g, k1, cell_grown hg k2 k4, cell_grown hg k3 k4, fun he => ?_⟩
    rcases hat with hq | hq
    · exact k4 (hq ▸ he)
    · rw [he] at hq
      have hlt := World.block_lt_of_cell? W _ k2
      cases hq
      exact absurd hlt (Nat.lt_irrefl _)
  · intro d' hd'
    have c : d' ≠ a2 := fun c => hs (c ▸ hd')
    simp only [if_neg c]; exact h.sv d' hd'
theorem Rows3.own0 (h : Rows3 W0 e s0 a1 a2 sl xs ys n m x y simple val D σ W) (h0 : D s0 = true) (h1 : D a1 = false) : W.ownsRow W0.heap.size e 2 (σ s0) 0 [] := by
  have d2 : D a2 = false := by cases c : D a2 with | false => rfl | true => exact absurd (h.o2 c) (by simp [h1])
  have := h.own
  unfold curR curN curX3 at this
  simpa [h0, h1, d2] using this
theorem Rows3.own1 (h : Rows3 W0 e s0 a1 a2 sl xs ys n m x y simple val D σ W) (h1 : D a1 = true) (h2 : D a2 = false) : W.ownsRow W0.heap.size e 2 (σ a1) n xs := by
  have := h.own
  unfold curR curN curX3 at this
  simpa [h1, h2] using this
theorem Rows3.done (h : Rows3 W0 e s0 a1 a2 sl xs ys n m x y simple val D σ W) (h2 : D a2 = true) (h3 : D sl = true) :
    W.ownsRow W0.heap.size e 2 (σ a2) (n + m) (xs ++ ys) ∧ ∃ g, σ sl = .slice (some ⟨g, 0, none⟩) 1 1 ∧ W.cell? ⟨g, 0, none⟩ = some x ∧ W.cell? ⟨g, 1, none⟩ = some y ∧ (σ a2).ownBlock ≠ some g := by
  have h4 := h.own
  have h5 := h.li h3
  unfold curR curN curX3 at h4
  unfold curR at h5
  rw [if_pos h2, if_pos h2, if_pos h2] at h4
  rw [if_pos h2] at h5
  exact ⟨h4, h5⟩
/-- Ahead of the third append, or behind it: then only the whole row matters. -/
def Rows4 (W0 : World) (e : TypeId) (s0 a1 a2 sl a3 : Nat) (xs ys : List Value) (n m : Nat) (x y : Value) (simple : List Nat) (val : Nat → Value) (D : Nat → Bool) (σ : Nat → Value) (W : World) : Prop :=
  (D a3 = false → Rows3 W0 e s0 a1 a2 sl xs ys n m x y simple val D σ W) ∧ Below W0.heap.size W0 W ∧ (∀ d, d ∈ simple → D d = true → σ d = val d) ∧
  (D a3 = true → D s0 = true ∧ D a1 = true ∧ D a2 = true ∧ D sl = true ∧ W.ownsRow W0.heap.size e 2 (σ a3) (n + m + 1) (xs ++ ys ++ [x, y]))
theorem Rows4.start {a3 : Nat} (hb : Below W0.heap.size W0 W) (σ : Nat → Value) : Rows4 W0 e s0 a1 a2 sl a3 xs ys n m x y simple val (fun _ => false) σ W :=
  ⟨fun _ => Rows3.start hb σ, hb, fun _ _ h => absurd h Bool.false_ne_true, fun h => absurd h Bool.false_ne_true⟩
/-- A step ahead of it. -/
theorem Rows4.step {a3 d : Nat} {v : Value} {W' : World} (h : Rows4 W0 e s0 a1 a2 sl a3 xs ys n m x y simple val D σ W) (hd : d ≠ a3) (h3 : D a3 = false) (hs : Rows3 W0 e s0 a1 a2 sl xs ys n m x y simple val (fun k => if k = d then true else D k) (fun k => if k = d then v else σ k) W') :
    Rows4 W0 e s0 a1 a2 sl a3 xs ys n m x y simple val (fun k => if k = d then true else D k) (fun k => if k = d then v else σ k) W' :=
  ⟨fun _ => hs, hs.below, hs.sv, fun c => by simp only [if_neg (Ne.symm hd), h3] at c; cases c⟩
theorem Rows4.open0 {a3 : Nat} (h : Rows4 W0 e s0 a1 a2 sl a3 xs ys n m x y simple val D σ W) (hd : D s0 = false) : D a3 = false := by
  cases c : D a3 with
  | false => rfl
  | true => exact absurd (h.2.2.2 c).1 (by simp [hd])
theorem Rows4.open1 {a3 : Nat} (h : Rows4 W0 e s0 a1 a2 sl a3 xs ys n m x y simple val D σ W) (hd : D a1 = false) : D a3 = false := by
  cases c : D a3 with
  | false => rfl
  | true => exact absurd (h.2.2.2 c).2.1 (by simp [hd])
theorem Rows4.open2 {a3 : Nat} (h : Rows4 W0 e s0 a1 a2 sl a3 xs ys n m x y simple val D σ W) (hd : D a2 = false) : D a3 = false := by
  cases c : D a3 with
  | false => rfl
  | true => exact absurd (h.2.2.2 c).2.2.1 (by simp [hd])
theorem Rows4.openl {a3 : Nat} (h : Rows4 W0 e s0 a1 a2 sl a3 xs ys n m x y simple val D σ W) (hd : D sl = false) : D a3 = false := by
  cases c : D a3 with
  | false => rfl
  | true => exact absurd (h.2.2.2 c).2.2.2.1 (by simp [hd])
/-- An operation whose value is known, by new memory alone. -/
theorem Rows4.next {a3 d : Nat} {v : Value} {W' : World} (h : Rows4 W0 e s0 a1 a2 sl a3 xs ys n m x y simple val D σ W) (hb : Below W.heap.size W W') (h0 : (d ≠ s0 ∧ d ≠ a1 ∧ d ≠ a2 ∧ d ≠ sl) ∧ d ≠ a3) (hv : v = val d) :
    Rows4 W0 e s0 a1 a2 sl a3 xs ys n m x y simple val (fun k => if k = d then true else D k) (fun k => if k = d then v else σ k) W' := by
  obtain ⟨h1, hb1, hs1, h4⟩ := h
  refine ⟨fun c => ?_, bthen hb1 hb, ?_, fun c => ?_⟩
  · simp only [if_neg (Ne.symm h0.2)] at c
    exact (h1 c).next hb h0.1 hv
  · intro d' hd'
    by_cases c : d' = d
    · subst c; intro _; simp only [if_pos]; exact hv
    · simp only [if_neg c]; exact hs1 d' hd'
  · simp only [if_neg (Ne.symm h0.2)] at c
    simp only [if_neg (Ne.symm h0.2), if_neg (Ne.symm h0.1.1), if_neg (Ne.symm h0.1.2.1), if_neg (Ne.symm h0.1.2.2.1), if_neg (Ne.symm h0.1.2.2.2)]
    obtain ⟨q1, q2, q3, q4, q5⟩ := h4 c
    exact ⟨q1, q2, q3, q4, own_keep q5 hb⟩
/-- The third append. -/
theorem Rows4.app3 {a3 : Nat} {v' : Value} {W' : World} (h : Rows4 W0 e s0 a1 a2 sl a3 xs ys n m x y simple val D σ W) (hd : D a3 = false) (hd2 : D a2 = true) (hdl : D sl = true) (h0 : (a3 ≠ s0 ∧ a3 ≠ a1 ∧ a3 ≠ a2 ∧ a3 ≠ sl) ∧ a3 ∉ simple)
    (hown : W'.ownsRow W0.heap.size e 2 v' (n + m + 1) (xs ++ ys ++ [x, y])) (hg : W.grownBy W' (σ a2).ownBlock) :
    Rows4 W0 e s0 a1 a2 sl a3 xs ys n m x y simple val (fun k => if k = a3 then true else D k) (fun k => if k = a3 then v' else σ k) W' := by
  obtain ⟨h1, hb1, hs1, h4⟩ := h
  have hR := h1 hd
  have ho := (hR.done hd2 hdl).1
  have d1 := hR.o2 hd2
  have d0 := hR.o1 d1
  refine ⟨(fun c => by simp at c), hb1.grown hg hb1.size (fun k hk => own_ge ho k hk), ?_, fun _ => ?_⟩
  · intro d' hd'
    have c : d' ≠ a3 := fun c => h0.2 (c ▸ hd')
    simp only [if_neg c]; exact hs1 d' hd'
  · simp only [if_neg (Ne.symm h0.1.1), if_neg (Ne.symm h0.1.2.1), if_neg (Ne.symm h0.1.2.2.1), if_neg (Ne.symm h0.1.2.2.2), if_pos]
    exact ⟨d0, d1, hd2, hdl, hown⟩
end
end Go.Proofs.Ytckipfcjgmiacaa
