/-
  Rows3: One row of two-cell elements put together in a region that draws its order: an empty one, append of a slice, append of another; a literal of one element beside. No function of the program is named.
  Stack: A stack that the call keeps in a slice of its own: put by append, taken by cutting and append.
  ShapeM: Which operations may be: a stack of degrees: plain; what follows.
  ShapeRef: What the document's Check of layer 16 comes to.
  HAw: What is asked of the program's call of layer 16; the awake of its law; the walks of ShapeChecks and ShapeMore.
  StkOp: An operation on the two topmost values of a stack that the call keeps in a slice of its own, in a region that draws its order: 's = append(s[:n-2], f(s[n-2], s[n-1]))'. No function of the program is named.
  StkX: As XStkOp, where the call also waits for one more load (of a variable that the call made ahead of the region). No function of the program is named.
  OpsRow: Rows of operations, to be appended.
  HProg: The program's calls of layer 16: within, joined, step, Check; what is asked of Check is so. (Written by gen_hprog.py.)
-/
import Derived.Test.YtjcgakmhpblanaaGRow
import Derived.Test.YtjcgakmhpblanaaGArgs
import Derived.Maps.AppendAt
import Derived.Laws.OwnMore
import Derived.Test.YtjcgakmhpblanaaGCode
import Derived.BigRegion
namespace Go.Proofs.Ytjcgakmhpblanaa
open Go Go.RowKit
set_option linter.unusedVariables false

theorem wp_append_at3 {P : Program} {w : World} {o : Oper} {a : Act} {K : Act → World → Prop} {Q : Exit → Act → World → Prop} (s x : Operand) (t : TypeId)
    (ho : o.op = .call { callee := .builtin .append, args := #[s, x], argTypes := #[t, t] })
    (base : Nat) (e : TypeId) (i : TypeInfo) (z : Value) (size bytes : Nat) (ht : P.underlying t = some (.slice e)) (hi : P.info? e = some i) (hz : i.zero = some z)
    (hsize : i.size = size) (hby : i.bytes = bytes) (hzs : z.cells.size = size) (hsz : 0 < size)
    (v : Value) (n : Nat) (xs : List Value) (hs : a.eval s = v) (hown : w.ownsRow base e size v n xs)
    (ax : Option Addr) (m c : Nat) (news : List Value) (hx : a.eval x = .slice ax m c) (hl : news.length = m * size) (hnil : ax = none → c = 0) (hm0 : ax = none → m = 0)
    (hnews : ∀ ad, ax = some ad → ∀ j u, news[j]? = some u → w.cell? (ad.add j) = some u) (h1 : ∀ u ∈ news, u.oneCell' = true)
    (h63 : n + m ≤ maxLen) (hbytes : (n + m) * bytes ≤ 140737488355328) (hbase : base ≤ w.heap.size)
    (h : ∀ v' w', w'.ownsRow base e size v' (n + m) (xs ++ news) → w.grownBy w' v.ownBlock → (v'.ownBlock = v.ownBlock ∨ v'.ownBlock = some w.heap.size) → K (a.put o.dst v') w') : o.wp P a w K Q := by
  cases ax with
  | some ad =>
    obtain ⟨v', w', hr, h2, h3, h4, h5⟩ := run_append_own_at (P := P) w base t o.type e i z size bytes ht hi hz hsize hby hzs hsz v n xs hown ad m c news hl (hnews ad rfl) h1 h63 hbytes hbase
    unfold Oper.wp execOp
    simp only [ho, resolve, invoke, builtin, Sem.run_bind, Sem.run_pure, Result.andThen_ok, List.map_toArray, List.map_cons, List.map_nil, hs, hx, hr]
    exact h v' w' h2 h3 h5
  | none =>
    obtain rfl := hnil rfl
    obtain rfl := hm0 rfl
    obtain rfl : news = [] := List.length_eq_zero_iff.1 (by simpa using hl)
    have hrun := run_append_owned_none (P := P) w base t o.type e i size ht hi v n xs hown
    unfold Oper.wp execOp
    simp only [ho, resolve, invoke, builtin, Sem.run_bind, Sem.run_pure, Result.andThen_ok, List.map_toArray, List.map_cons, List.map_nil, hs, hx, hrun]
    exact h v w (by simpa using hown) (World.grownBy.refl _ _) (.inl rfl)
theorem wpList_append3 {P : Program} {w : World} {ops : Array Oper} {rest : List Oper} {o : Oper} {a : Act} {Q : Exit → Act → World → Prop} (hgd : o.guard = none) (s x : Operand) (t : TypeId)
    (ho : o.op = .call { callee := .builtin .append, args := #[s, x], argTypes := #[t, t] })
    (base : Nat) (e : TypeId) (i : TypeInfo) (z : Value) (size bytes : Nat) (ht : P.underlying t = some (.slice e)) (hi : P.info? e = some i) (hz : i.zero = some z)
    (hsize : i.size = size) (hby : i.bytes = bytes) (hzs : z.cells.size = size) (hsz : 0 < size)
    (v : Value) (n : Nat) (xs : List Value) (hs : a.eval s = v) (hown : w.ownsRow base e size v n xs)
    (ax : Option Addr) (m c : Nat) (news : List Value) (hx : a.eval x = .slice ax m c) (hl : news.length = m * size) (hnil : ax = none → c = 0) (hm0 : ax = none → m = 0)
    (hnews : ∀ ad, ax = some ad → ∀ j u, news[j]? = some u → w.cell? (ad.add j) = some u) (h1 : ∀ u ∈ news, u.oneCell' = true)
    (h63 : n + m ≤ maxLen) (hbytes : (n + m) * bytes ≤ 140737488355328) (hbase : base ≤ w.heap.size)
    (h : ∀ v' w', w'.ownsRow base e size v' (n + m) (xs ++ news) → w.grownBy w' v.ownBlock → (v'.ownBlock = v.ownBlock ∨ v'.ownBlock = some w.heap.size) → wpList P ops Q rest (a.put o.dst v') w') : wpList P ops Q (o :: rest) a w :=
  wpList_plain hgd fun K hK => wp_append_at3 s x t ho base e i z size bytes ht hi hz hsize hby hzs hsz v n xs hs hown ax m c news hx hl hnil hm0 hnews h1 h63 hbytes hbase fun v' w' q1 q2 q3 => hK _ _ (h v' w' q1 q2 q3)
def curR (D : Nat → Bool) (σ : Nat → Value) (s0 a1 a2 : Nat) : Value := if D a2 = true then σ a2 else if D a1 = true then σ a1 else if D s0 = true then σ s0 else .slice none 0 0
def curN (D : Nat → Bool) (a1 a2 n m : Nat) : Nat := if D a2 = true then n + m else if D a1 = true then n else 0
def curX3 (D : Nat → Bool) (a1 a2 : Nat) (xs ys : List Value) : List Value := if D a2 = true then xs ++ ys else if D a1 = true then xs else []
structure Rows3 (W0 : World) (e : TypeId) (s0 a1 a2 sl : Nat) (xs ys : List Value) (n m : Nat) (x y : Value) (simple : List Nat) (val : Nat → Value) (D : Nat → Bool) (σ : Nat → Value) (W : World) : Prop where
  below : Below W0.heap.size W0 W
  own : W.ownsRow W0.heap.size e 2 (curR D σ s0 a1 a2) (curN D a1 a2 n m) (curX3 D a1 a2 xs ys)
  o1 : D a1 = true → D s0 = true
  o2 : D a2 = true → D a1 = true
  li : D sl = true → ∃ g, σ sl = .slice (some ⟨g, 0, none⟩) 1 1 ∧ W.cell? ⟨g, 0, none⟩ = some x ∧ W.cell? ⟨g, 1, none⟩ = some y ∧ (curR D σ s0 a1 a2).ownBlock ≠ some g
  sv : ∀ d, d ∈ simple → D d = true → σ d = val d
section
variable {W0 : World} {e : TypeId} {s0 a1 a2 sl : Nat} {xs ys : List Value} {n m : Nat} {x y : Value} {simple : List Nat} {val : Nat → Value} {D : Nat → Bool} {σ : Nat → Value} {W : World}
theorem Rows3.start (hb : Below W0.heap.size W0 W) (σ : Nat → Value) : Rows3 W0 e s0 a1 a2 sl xs ys n m x y simple val (fun _ => false) σ W :=
  ⟨hb, by simpa [curR, curN, curX3] using World.ownsRow_nil W W0.heap.size e 2, fun h => absurd h Bool.false_ne_true, fun h => absurd h Bool.false_ne_true, fun h => absurd h Bool.false_ne_true, fun _ _ h => absurd h Bool.false_ne_true⟩
theorem curR_far {d : Nat} {v : Value} (h0 : d ≠ s0 ∧ d ≠ a1 ∧ d ≠ a2) : curR (fun k => if k = d then true else D k) (fun k => if k = d then v else σ k) s0 a1 a2 = curR D σ s0 a1 a2 := by
  obtain ⟨h1, h2, h3⟩ := h0
  unfold curR; simp [Ne.symm h1, Ne.symm h2, Ne.symm h3]
theorem curN_far {d : Nat} (h2 : d ≠ a1) (h3 : d ≠ a2) : curN (fun k => if k = d then true else D k) a1 a2 n m = curN D a1 a2 n m := by unfold curN; simp [Ne.symm h2, Ne.symm h3]
theorem curX3_far {d : Nat} (h2 : d ≠ a1) (h3 : d ≠ a2) : curX3 (fun k => if k = d then true else D k) a1 a2 xs ys = curX3 D a1 a2 xs ys := by unfold curX3; simp [Ne.symm h2, Ne.symm h3]
/-- An operation whose value is known, by new memory alone. -/
theorem Rows3.next (h : Rows3 W0 e s0 a1 a2 sl xs ys n m x y simple val D σ W) {d : Nat} {v : Value} {W' : World} (hb : Below W.heap.size W W') (h0 : d ≠ s0 ∧ d ≠ a1 ∧ d ≠ a2 ∧ d ≠ sl) (hv : v = val d) :
    Rows3 W0 e s0 a1 a2 sl xs ys n m x y simple val (fun k => if k = d then true else D k) (fun k => if k = d then v else σ k) W' := by
  obtain ⟨h1, h2, h3, h4⟩ := h0
  refine ⟨bthen h.below hb, ?_, ?_, ?_, ?_, ?_⟩
  · rw [curR_far ⟨h1, h2, h3⟩, curN_far h2 h3, curX3_far h2 h3]; exact own_keep h.own hb
  · simp only [if_neg (Ne.symm h1), if_neg (Ne.symm h2)]; exact h.o1
  · simp only [if_neg (Ne.symm h2), if_neg (Ne.symm h3)]; exact h.o2
  · rw [curR_far ⟨h1, h2, h3⟩]
    simp only [if_neg (Ne.symm h4)]
    intro c
    obtain ⟨g, k1, k2, k3, k4⟩ := h.li c
    exact ⟨g, k1, bkeep hb k2, bkeep hb k3, k4⟩
  · intro d' hd
    by_cases c : d' = d
    · subst c; intro _; simp only [if_pos]; exact hv
    · simp only [if_neg c]; exact h.sv d' hd
/-- The empty row. -/
theorem Rows3.lit0 (h : Rows3 W0 e s0 a1 a2 sl xs ys n m x y simple val D σ W) (hd : D s0 = false) (h0 : s0 ≠ a1 ∧ s0 ≠ a2 ∧ s0 ≠ sl) (hs : s0 ∉ simple) :
    Rows3 W0 e s0 a1 a2 sl xs ys n m x y simple val (fun k => if k = s0 then true else D k) (fun k => if k = s0 then .slice (some ⟨W.heap.size, 0, none⟩) 0 0 else σ k) (W.alloc (.cells #[] e)) := by
  obtain ⟨h2, h3, h4⟩ := h0
  have d1 : D a1 = false := by cases c : D a1 with | false => rfl | true => exact absurd (h.o1 c) (by simp [hd])
  have d2 : D a2 = false := by cases c : D a2 with | false => rfl | true => exact absurd (h.o2 c) (by simp [d1])
  have hb := (Below.refl W.heap.size W).alloc (Nat.le_refl _) (.cells #[] e)
  have cr : curR (fun k => if k = s0 then true else D k) (fun k => if k = s0 then .slice (some ⟨W.heap.size, 0, none⟩) 0 0 else σ k) s0 a1 a2 = .slice (some ⟨W.heap.size, 0, none⟩) 0 0 := by
    unfold curR; simp [Ne.symm h2, Ne.symm h3, d1, d2]
  refine ⟨bthen h.below hb, ?_, ?_, ?_, ?_, ?_⟩
  · rw [cr, curN_far h2 h3, curX3_far h2 h3]
    unfold curN curX3
    simp only [d1, d2, Bool.false_eq_true, if_false]
    exact World.ownsRow_lit (e := e) (size := 2) W #[] 0 h.below.size (by unfold maxLen; omega) rfl
  · intro _; simp
  · simp only [if_neg (Ne.symm h2), if_neg (Ne.symm h3)]; exact h.o2
  · rw [cr]
    simp only [if_neg (Ne.symm h4)]
    intro c
    obtain ⟨g, k1, k2, k3, k4⟩ := h.li c
    refine ⟨g, k1, bkeep hb k2, bkeep hb k3, fun he => ?_⟩
    have hlt := World.block_lt_of_cell? W _ k2
    simp [Value.ownBlock] at he
    dsimp only at hlt
    omega
  · intro d' hd'
    have c : d' ≠ s0 := fun c => hs (c ▸ hd')
    simp only [if_neg c]; exact h.sv d' hd'
/-- The literal. -/
theorem Rows3.litX (h : Rows3 W0 e s0 a1 a2 sl xs ys n m x y simple val D σ W) (h0 : sl ≠ s0 ∧ sl ≠ a1 ∧ sl ≠ a2) (hs : sl ∉ simple) :
    Rows3 W0 e s0 a1 a2 sl xs ys n m x y simple val (fun k => if k = sl then true else D k) (fun k => if k = sl then .slice (some ⟨W.heap.size, 0, none⟩) 1 1 else σ k) (W.alloc (.cells #[x, y] e)) := by
  obtain ⟨h1, h2, h3⟩ := h0
  have hb := (Below.refl W.heap.size W).alloc (Nat.le_refl _) (.cells #[x, y] e)
  refine ⟨bthen h.below hb, ?_, ?_, ?_, ?_, ?_⟩
  · rw [curR_far ⟨h1, h2, h3⟩, curN_far h2 h3, curX3_far h2 h3]; exact own_keep h.own hb
  · simp only [if_neg (Ne.symm h1), if_neg (Ne.symm h2)]; exact h.o1
  · simp only [if_neg (Ne.symm h2), if_neg (Ne.symm h3)]; exact h.o2
  · rw [curR_far ⟨h1, h2, h3⟩]
    intro _
    refine ⟨W.heap.size, by rw [if_pos rfl], by simp [go_sem], by simp [go_sem], fun he => ?_⟩
    have := (h.own.lt _ he).2
    omega
  · intro d' hd'
    have c : d' ≠ sl := fun c => hs (c ▸ hd')
    simp only [if_neg c]; exact h.sv d' hd'
theorem cell_grown {W W' : World} {row : Option Nat} {g o : Nat} {v : Value} (hg : W.grownBy W' row) (h : W.cell? ⟨g, o, none⟩ = some v) (hne : row ≠ some g) : W'.cell? ⟨g, o, none⟩ = some v :=
  (World.cell?_of_block (a := ⟨g, o, none⟩) (hg.block g (World.block_lt_of_cell? W _ h) (fun c => hne c.symm))).trans h
/-- The first append. -/
theorem Rows3.app1 (h : Rows3 W0 e s0 a1 a2 sl xs ys n m x y simple val D σ W) {v' : Value} {W' : World} (hd : D a1 = false) (hs0 : D s0 = true) (h0 : a1 ≠ s0 ∧ a1 ≠ a2 ∧ a1 ≠ sl) (hs : a1 ∉ simple)
    (hown : W'.ownsRow W0.heap.size e 2 v' n xs) (hg : W.grownBy W' (σ s0).ownBlock) (hat : v'.ownBlock = (σ s0).ownBlock ∨ v'.ownBlock = some W.heap.size) :
    Rows3 W0 e s0 a1 a2 sl xs ys n m x y simple val (fun k => if k = a1 then true else D k) (fun k => if k = a1 then v' else σ k) W' := by
  obtain ⟨h1, h3, h4⟩ := h0
  have d2 : D a2 = false := by cases c : D a2 with | false => rfl | true => exact absurd (h.o2 c) (by simp [hd])
  have c0 : curR D σ s0 a1 a2 = σ s0 := by unfold curR; simp [hd, d2, hs0]
  have cr : curR (fun k => if k = a1 then true else D k) (fun k => if k = a1 then v' else σ k) s0 a1 a2 = v' := by unfold curR; simp [Ne.symm h3, d2]
  have hge : ∀ k, (σ s0).ownBlock = some k → W0.heap.size ≤ k := fun k hk => own_ge h.own k (by rw [c0]; exact hk)
  refine ⟨h.below.grown hg h.below.size hge, ?_, ?_, ?_, ?_, ?_⟩
  · rw [cr]
    unfold curN curX3
    simp only [if_neg (Ne.symm h3), d2, Bool.false_eq_true, if_false, if_pos]
    exact hown
  · intro _; simp only [if_neg (Ne.symm h1)]; exact hs0
  · simp only [if_neg (Ne.symm h3), d2]; intro c; cases c
  · rw [cr]
    simp only [if_neg (Ne.symm h4)]
    intro c
    obtain ⟨g, k1, k2, k3, k4⟩ := h.li c
    rw [c0] at k4
    refine ⟨g, k1, cell_grown hg k2 k4, cell_grown hg k3 k4, fun he => ?_⟩
    rcases hat with hq | hq
    · exact k4 (hq ▸ he)
    · rw [he] at hq
      have hlt := World.block_lt_of_cell? W _ k2
      cases hq
      exact absurd hlt (Nat.lt_irrefl _)
  · intro d' hd'
    have c : d' ≠ a1 := fun c => hs (c ▸ hd')
    simp only [if_neg c]; exact h.sv d' hd'
/-- The second append. -/
theorem Rows3.app2 (h : Rows3 W0 e s0 a1 a2 sl xs ys n m x y simple val D σ W) {v' : Value} {W' : World} (hd : D a2 = false) (hd1 : D a1 = true) (h0 : a2 ≠ s0 ∧ a2 ≠ a1 ∧ a2 ≠ sl) (hs : a2 ∉ simple)
    (hown : W'.ownsRow W0.heap.size e 2 v' (n + m) (xs ++ ys)) (hg : W.grownBy W' (σ a1).ownBlock) (hat : v'.ownBlock = (σ a1).ownBlock ∨ v'.ownBlock = some W.heap.size) :
    Rows3 W0 e s0 a1 a2 sl xs ys n m x y simple val (fun k => if k = a2 then true else D k) (fun k => if k = a2 then v' else σ k) W' := by
  obtain ⟨h1, h3, h4⟩ := h0
  have c0 : curR D σ s0 a1 a2 = σ a1 := by unfold curR; simp [hd, hd1]
  have cr : curR (fun k => if k = a2 then true else D k) (fun k => if k = a2 then v' else σ k) s0 a1 a2 = v' := by unfold curR; simp
  have hge : ∀ k, (σ a1).ownBlock = some k → W0.heap.size ≤ k := fun k hk => own_ge h.own k (by rw [c0]; exact hk)
  refine ⟨h.below.grown hg h.below.size hge, ?_, ?_, ?_, ?_, ?_⟩
  · rw [cr]
    unfold curN curX3
    simp only [if_pos]
    exact hown
  · simp only [if_neg (Ne.symm h1), if_neg (Ne.symm h3)]; exact h.o1
  · intro _; simp only [if_neg (Ne.symm h3)]; exact hd1
  · rw [cr]
    simp only [if_neg (Ne.symm h4)]
    intro c
    obtain ⟨g, k1, k2, k3, k4⟩ := h.li c
    rw [c0] at k4
    refine ⟨g, k1, cell_grown hg k2 k4, cell_grown hg k3 k4, fun he => ?_⟩
    rcases hat with hq | hq
    · exact k4 (hq ▸ he)
    · rw [he] at hq
      have hlt := World.block_lt_of_cell? W _ k2
      cases hq
      exact absurd hlt (Nat.lt_irrefl _)
  · intro d' hd'
    have c : d' ≠ a2 := fun c => hs (c ▸ hd')
    simp only [if_neg c]; exact h.sv d' hd'
theorem Rows3.own0 (h : Rows3 W0 e s0 a1 a2 sl xs ys n m x y simple val D σ W) (h0 : D s0 = true) (h1 : D a1 = false) : W.ownsRow W0.heap.size e 2 (σ s0) 0 [] := by
  have d2 : D a2 = false := by cases c : D a2 with | false => rfl | true => exact absurd (h.o2 c) (by simp [h1])
  have := h.own
  unfold curR curN curX3 at this
  simpa [h0, h1, d2] using this
theorem Rows3.own1 (h : Rows3 W0 e s0 a1 a2 sl xs ys n m x y simple val D σ W) (h1 : D a1 = true) (h2 : D a2 = false) : W.ownsRow W0.heap.size e 2 (σ a1) n xs := by
  have := h.own
  unfold curR curN curX3 at this
  simpa [h1, h2] using this
theorem Rows3.done (h : Rows3 W0 e s0 a1 a2 sl xs ys n m x y simple val D σ W) (h2 : D a2 = true) (h3 : D sl = true) :
    W.ownsRow W0.heap.size e 2 (σ a2) (n + m) (xs ++ ys) ∧ ∃ g, σ sl = .slice (some ⟨g, 0, none⟩) 1 1 ∧ W.cell? ⟨g, 0, none⟩ = some x ∧ W.cell? ⟨g, 1, none⟩ = some y ∧ (σ a2).ownBlock ≠ some g := by
  have h4 := h.own
  have h5 := h.li h3
  unfold curR curN curX3 at h4
  unfold curR at h5
  rw [if_pos h2, if_pos h2, if_pos h2] at h4
  rw [if_pos h2] at h5
  exact ⟨h4, h5⟩
/-- Ahead of the third append, or behind it: then only the whole row matters. -/
def Rows4 (W0 : World) (e : TypeId) (s0 a1 a2 sl a3 : Nat) (xs ys : List Value) (n m : Nat) (x y : Value) (simple : List Nat) (val : Nat → Value) (D : Nat → Bool) (σ : Nat → Value) (W : World) : Prop :=
  (D a3 = false → Rows3 W0 e s0 a1 a2 sl xs ys n m x y simple val D σ W) ∧ Below W0.heap.size W0 W ∧ (∀ d, d ∈ simple → D d = true → σ d = val d) ∧
  (D a3 = true → D s0 = true ∧ D a1 = true ∧ D a2 = true ∧ D sl = true ∧ W.ownsRow W0.heap.size e 2 (σ a3) (n + m + 1) (xs ++ ys ++ [x, y]))
theorem Rows4.start {a3 : Nat} (hb : Below W0.heap.size W0 W) (σ : Nat → Value) : Rows4 W0 e s0 a1 a2 sl a3 xs ys n m x y simple val (fun _ => false) σ W :=
  ⟨fun _ => Rows3.start hb σ, hb, fun _ _ h => absurd h Bool.false_ne_true, fun h => absurd h Bool.false_ne_true⟩
/-- A step ahead of it. -/
theorem Rows4.step {a3 d : Nat} {v : Value} {W' : World} (h : Rows4 W0 e s0 a1 a2 sl a3 xs ys n m x y simple val D σ W) (hd : d ≠ a3) (h3 : D a3 = false) (hs : Rows3 W0 e s0 a1 a2 sl xs ys n m x y simple val (fun k => if k = d then true else D k) (fun k => if k = d then v else σ k) W') :
    Rows4 W0 e s0 a1 a2 sl a3 xs ys n m x y simple val (fun k => if k = d then true else D k) (fun k => if k = d then v else σ k) W' :=
  ⟨fun _ => hs, hs.below, hs.sv, fun c => by simp only [if_neg (Ne.symm hd), h3] at c; cases c⟩
theorem Rows4.open0 {a3 : Nat} (h : Rows4 W0 e s0 a1 a2 sl a3 xs ys n m x y simple val D σ W) (hd : D s0 = false) : D a3 = false := by
  cases c : D a3 with
  | false => rfl
  | true => exact absurd (h.2.2.2 c).1 (by simp [hd])
theorem Rows4.open1 {a3 : Nat} (h : Rows4 W0 e s0 a1 a2 sl a3 xs ys n m x y simple val D σ W) (hd : D a1 = false) : D a3 = false := by
  cases c : D a3 with
  | false => rfl
  | true => exact absurd (h.2.2.2 c).2.1 (by simp [hd])
theorem Rows4.open2 {a3 : Nat} (h : Rows4 W0 e s0 a1 a2 sl a3 xs ys n m x y simple val D σ W) (hd : D a2 = false) : D a3 = false := by
  cases c : D a3 with
  | false => rfl
  | true => exact absurd (h.2.2.2 c).2.2.1 (by simp [hd])
theorem Rows4.openl {a3 : Nat} (h : Rows4 W0 e s0 a1 a2 sl a3 xs ys n m x y simple val D σ W) (hd : D sl = false) : D a3 = false := by
  cases c : D a3 with
  | false => rfl
  | true => exact absurd (h.2.2.2 c).2.2.2.1 (by simp [hd])
/-- An operation whose value is known, by new memory alone. -/
theorem Rows4.next {a3 d : Nat} {v : Value} {W' : World} (h : Rows4 W0 e s0 a1 a2 sl a3 xs ys n m x y simple val D σ W) (hb : Below W.heap.size W W') (h0 : (d ≠ s0 ∧ d ≠ a1 ∧ d ≠ a2 ∧ d ≠ sl) ∧ d ≠ a3) (hv : v = val d) :
    Rows4 W0 e s0 a1 a2 sl a3 xs ys n m x y simple val (fun k => if k = d then true else D k) (fun k => if k = d then v else σ k) W' := by
  obtain ⟨h1, hb1, hs1, h4⟩ := h
  refine ⟨fun c => ?_, bthen hb1 hb, ?_, fun c => ?_⟩
  · simp only [if_neg (Ne.symm h0.2)] at c
    exact (h1 c).next hb h0.1 hv
  · intro d' hd'
    by_cases c : d' = d
    · subst c; intro _; simp only [if_pos]; exact hv
    · simp only [if_neg c]; exact hs1 d' hd'
  · simp only [if_neg (Ne.symm h0.2)] at c
    simp only [if_neg (Ne.symm h0.2), if_neg (Ne.symm h0.1.1), if_neg (Ne.symm h0.1.2.1), if_neg (Ne.symm h0.1.2.2.1), if_neg (Ne.symm h0.1.2.2.2)]
    obtain ⟨q1, q2, q3, q4, q5⟩ := h4 c
    exact ⟨q1, q2, q3, q4, own_keep q5 hb⟩
/-- The third append. -/
theorem Rows4.app3 {a3 : Nat} {v' : Value} {W' : World} (h : Rows4 W0 e s0 a1 a2 sl a3 xs ys n m x y simple val D σ W) (hd : D a3 = false) (hd2 : D a2 = true) (hdl : D sl = true) (h0 : (a3 ≠ s0 ∧ a3 ≠ a1 ∧ a3 ≠ a2 ∧ a3 ≠ sl) ∧ a3 ∉ simple)
    (hown : W'.ownsRow W0.heap.size e 2 v' (n + m + 1) (xs ++ ys ++ [x, y])) (hg : W.grownBy W' (σ a2).ownBlock) :
    Rows4 W0 e s0 a1 a2 sl a3 xs ys n m x y simple val (fun k => if k = a3 then true else D k) (fun k => if k = a3 then v' else σ k) W' := by
  obtain ⟨h1, hb1, hs1, h4⟩ := h
  have hR := h1 hd
  have ho := (hR.done hd2 hdl).1
  have d1 := hR.o2 hd2
  have d0 := hR.o1 d1
  refine ⟨(fun c => by simp at c), hb1.grown hg hb1.size (fun k hk => own_ge ho k hk), ?_, fun _ => ?_⟩
  · intro d' hd'
    have c : d' ≠ a3 := fun c => h0.2 (c ▸ hd')
    simp only [if_neg c]; exact hs1 d' hd'
  · simp only [if_neg (Ne.symm h0.1.1), if_neg (Ne.symm h0.1.2.1), if_neg (Ne.symm h0.1.2.2.1), if_neg (Ne.symm h0.1.2.2.2), if_pos]
    exact ⟨d0, d1, hd2, hdl, hown⟩
end
end Go.Proofs.Ytjcgakmhpblanaa
namespace Go.Proofs.Ytjcgakmhpblanaa
open Go Go.RowKit
set_option linter.unusedVariables false

/-- The cells of a stack (its top ahead), the bottom first. -/
def stkV {α : Type} (f : α → List Value) (st : List α) : List Value := st.reverse.flatMap f
theorem stkV_nil {α : Type} (f : α → List Value) : stkV f [] = [] := rfl
theorem stkV_cons {α : Type} (f : α → List Value) (x : α) (st : List α) : stkV f (x :: st) = stkV f st ++ f x := by simp [stkV]
theorem stkV_len {α : Type} {f : α → List Value} {s : Nat} (hf : ∀ x, (f x).length = s) : ∀ st : List α, (stkV f st).length = st.length * s
  | [] => by simp [stkV]
  | x :: st => by rw [stkV_cons, List.length_append, hf, stkV_len hf st, List.length_cons, Nat.succ_mul]
/-- A row that is cut. -/
theorem own_cut {W : World} {B : Nat} {e : TypeId} {s g cap n m : Nat} {xs ys : List Value} (h : W.ownsRow B e s (.slice (some ⟨g, 0, none⟩) n cap) n (xs ++ ys)) (hm : m ≤ n) (hx : xs.length = m * s) : W.ownsRow B e s (.slice (some ⟨g, 0, none⟩) m cap) m xs := by
  obtain ⟨_, ⟨h0, _⟩ | ⟨g', cap', cur, hv, hg, hh, hn, hcap, hsz, ht⟩⟩ := h
  · cases h0
  · cases hv
    refine ⟨hx, .inr ⟨g, cap, cur, rfl, hg, hh, by omega, hcap, hsz, ?_⟩⟩
    have h3 : (cur.toList.take (n * s)).take (m * s) = (xs ++ ys).take (m * s) := by rw [ht]
    rw [List.take_take, Nat.min_eq_left (Nat.mul_le_mul_right _ hm)] at h3
    rw [h3, ← hx]
    simp
/-- A stack with one on top: its top's cells. -/
theorem stk_one {α : Type} {f : α → List Value} {s : Nat} (hf : ∀ x, (f x).length = s) {W : World} {B : Nat} {e : TypeId} {v : Value} {x : α} {r : List α} (h : W.ownsRow B e s v (r.length + 1) (stkV f (x :: r))) :
    ∃ g cap, v = .slice (some ⟨g, 0, none⟩) (r.length + 1 : Nat) cap ∧ r.length + 1 ≤ cap ∧ cap ≤ maxLen ∧ (∀ j, j < s → W.cell? ⟨g, r.length * s + j, none⟩ = (f x)[j]?) := by
  obtain ⟨hl, ⟨h0, h1⟩ | ⟨g, cap, cur, hv, hg, hh, hn, hcap, hsz, ht⟩⟩ := id h
  · omega
  · refine ⟨g, cap, hv, hn, hcap, fun j hj => ?_⟩
    subst hv
    rw [h.cellAt (r.length * s + j) (by rw [Nat.succ_mul]; omega), stkV_cons, List.getElem?_append_right (by rw [stkV_len hf]; omega), stkV_len hf]
    congr 1
    omega
/-- A stack with two on top: their cells; cut by both. -/
theorem stk_two {α : Type} {f : α → List Value} {s : Nat} (hf : ∀ x, (f x).length = s) {W : World} {B : Nat} {e : TypeId} {v : Value} {a b : α} {r : List α} (h : W.ownsRow B e s v (r.length + 1 + 1) (stkV f (b :: a :: r))) :
    ∃ g cap, v = .slice (some ⟨g, 0, none⟩) (r.length + 1 + 1 : Nat) cap ∧ r.length + 1 + 1 ≤ cap ∧ cap ≤ maxLen ∧ (∀ j, j < s → W.cell? ⟨g, r.length * s + j, none⟩ = (f a)[j]?) ∧ (∀ j, j < s → W.cell? ⟨g, (r.length + 1) * s + j, none⟩ = (f b)[j]?) ∧
      W.ownsRow B e s (.slice (some ⟨g, 0, none⟩) r.length cap) r.length (stkV f r) := by
  obtain ⟨g, cap, rfl, h1, h2, h3⟩ := stk_one (r := a :: r) hf h
  refine ⟨g, cap, rfl, h1, h2, fun j hj => ?_, h3, ?_⟩
  · have h4 := own_cut (m := r.length + 1) (xs := stkV f (a :: r)) (ys := f b) (by rw [← stkV_cons]; exact h) (by simp) (by rw [stkV_len hf]; rfl)
    obtain ⟨g', cap', e, _, _, h5⟩ := stk_one hf h4
    cases e
    exact h5 j hj
  · exact own_cut (m := r.length) (xs := stkV f r) (ys := f a ++ f b) (by rw [← List.append_assoc, ← stkV_cons, ← stkV_cons]; exact h) (by simp; omega) (stkV_len hf r)
/-- A stack of integers. -/
abbrev stI (k : IntKind) (x : Int) : List Value := [.int k x]
theorem stI_len (k : IntKind) (x : Int) : (stI k x).length = 1 := rfl
/-- A stack of pairs. -/
abbrev stP (x : Int × Int) : List Value := [.int .u64 x.1, .int .u64 x.2]
theorem stP_len (x : Int × Int) : (stP x).length = 2 := rfl
end Go.Proofs.Ytjcgakmhpblanaa
namespace Go.Proofs.Ytjcgakmhpblanaa
open Go Go.RowKit
set_option linter.unusedVariables false

/-- One operation, on a stack (the top ahead): the error, the stack behind it. -/
def pushS (cols : Int) (nx : Bool) (o : Opn) (st : List Nat) : Int × List Nat :=
  if rightO o = false ∨ (o.1 = 2 ∧ nx = false) then (3, st)
  else if o.1 = 1 ∨ o.1 = 2 then (if cols ≤ o.2 then (3, st) else (0, 1 :: st))
  else if o.1 = 3 then (0, 0 :: st)
  else match st with
    | b :: a :: r => (0, (if o.1 = 6 then a + b else max a b) :: r)
    | _ => (4, st)
/-- With the stack's bound. -/
def stepS (cols : Int) (nx : Bool) (o : Opn) (st : List Nat) : Int × List Nat :=
  if (pushS cols nx o st).1 ≠ 0 then pushS cols nx o st else if 16 < (pushS cols nx o st).2.length then (4, (pushS cols nx o st).2) else pushS cols nx o st
def topS (st : List Nat) : Nat := st.headD 0
def runS (cols : Int) (nx : Bool) : List Opn → List Nat → Nat → Int × List Nat × Nat
  | [], st, wo => (0, st, wo)
  | o :: l, st, wo => if (stepS cols nx o st).1 ≠ 0 then ((stepS cols nx o st).1, st, wo) else runS cols nx l (stepS cols nx o st).2 (max wo (topS (stepS cols nx o st).2))
def endS (st : List Nat) (wo : Nat) : Nat × Int := if st.length ≠ 1 then (0, 4) else if 4 < wo then (0, 5) else (topS st, 0)
/-- What is told, from a stack on. -/
def tellS (cols : Int) (nx : Bool) (l : List Opn) (st : List Nat) (wo : Nat) : Nat × Int :=
  if (runS cols nx l st wo).1 ≠ 0 then (0, (runS cols nx l st wo).1) else endS (runS cols nx l st wo).2.1 (runS cols nx l st wo).2.2
def checkB (l : List Opn) (cols : Int) (nx : Bool) : Nat × Int := if 256 < l.length then (0, 6) else tellS cols nx l [] 0
theorem tellS_nil (cols : Int) (nx : Bool) (st : List Nat) (wo : Nat) : tellS cols nx [] st wo = endS st wo := by simp [tellS, runS]
theorem tellS_err {cols : Int} {nx : Bool} {o : Opn} {l : List Opn} {st : List Nat} {wo : Nat} (h : (stepS cols nx o st).1 ≠ 0) : tellS cols nx (o :: l) st wo = (0, (stepS cols nx o st).1) := by
  have e : runS cols nx (o :: l) st wo = ((stepS cols nx o st).1, st, wo) := by rw [runS, if_pos h]
  unfold tellS
  rw [e, if_pos h]
theorem tellS_step {cols : Int} {nx : Bool} {o : Opn} {l : List Opn} {st : List Nat} {wo : Nat} (h : (stepS cols nx o st).1 = 0) : tellS cols nx (o :: l) st wo = tellS cols nx l (stepS cols nx o st).2 (max wo (topS (stepS cols nx o st).2)) := by
  have e : runS cols nx (o :: l) st wo = runS cols nx l (stepS cols nx o st).2 (max wo (topS (stepS cols nx o st).2)) := by rw [runS, if_neg (by simpa using h)]
  unfold tellS
  rw [e]
/-! ### What a step does -/
theorem stepS_ok {cols : Int} {nx : Bool} {o : Opn} {st : List Nat} (h : (stepS cols nx o st).1 = 0) : (pushS cols nx o st).1 = 0 ∧ (pushS cols nx o st).2.length ≤ 16 ∧ stepS cols nx o st = pushS cols nx o st := by
  unfold stepS at h ⊢
  by_cases c : (pushS cols nx o st).1 ≠ 0
  · rw [if_pos c] at h; exact absurd h c
  · rw [if_neg c] at h ⊢
    by_cases d : 16 < (pushS cols nx o st).2.length
    · rw [if_pos d] at h; cases h
    · rw [if_neg d]; exact ⟨by simpa using c, by omega, rfl⟩
/-- How a step that is let goes: a column, a constant, an operation on two. -/
theorem pushS_ok {cols : Int} {nx : Bool} {o : Opn} {st : List Nat} (h : (pushS cols nx o st).1 = 0) :
    rightO o = true ∧ ¬ (o.1 = 2 ∧ nx = false) ∧ (((o.1 = 1 ∨ o.1 = 2) ∧ o.2 < cols ∧ (pushS cols nx o st).2 = 1 :: st) ∨ (o.1 = 3 ∧ (pushS cols nx o st).2 = 0 :: st) ∨
      ∃ a b r, ¬ (o.1 = 1 ∨ o.1 = 2) ∧ o.1 ≠ 3 ∧ st = b :: a :: r ∧ (pushS cols nx o st).2 = (if o.1 = 6 then a + b else max a b) :: r) := by
  unfold pushS at h ⊢
  by_cases c : rightO o = false ∨ (o.1 = 2 ∧ nx = false)
  · rw [if_pos c] at h; cases h
  · rw [if_neg c] at h ⊢
    simp only [not_or, Bool.not_eq_false] at c
    refine ⟨c.1, c.2, ?_⟩
    by_cases d : o.1 = 1 ∨ o.1 = 2
    · rw [if_pos d] at h ⊢
      by_cases e : cols ≤ o.2
      · rw [if_pos e] at h; cases h
      · rw [if_neg e]; exact .inl ⟨d, by omega, rfl⟩
    · rw [if_neg d] at h ⊢
      by_cases e : o.1 = 3
      · rw [if_pos e]; exact .inr (.inl ⟨e, rfl⟩)
      · rw [if_neg e] at h ⊢
        match st, h with
        | b :: a :: r, _ => exact .inr (.inr ⟨a, b, r, d, e, rfl, rfl⟩)
        | [_], h => cases h
        | [], h => cases h
/-! ### One operation, case by case -/
theorem push_bad {cols : Int} {nx : Bool} {o : Opn} {st : List Nat} (h : rightO o = false ∨ (o.1 = 2 ∧ nx = false)) : pushS cols nx o st = (3, st) := by unfold pushS; rw [if_pos h]
theorem push_far {cols : Int} {nx : Bool} {o : Opn} {st : List Nat} (h1 : rightO o = true) (h2 : ¬ (o.1 = 2 ∧ nx = false)) (d : o.1 = 1 ∨ o.1 = 2) (h : cols ≤ o.2) : pushS cols nx o st = (3, st) := by
  unfold pushS
  rw [if_neg (not_or.2 ⟨by simp [h1], h2⟩), if_pos d, if_pos h]
theorem push_col {cols : Int} {nx : Bool} {o : Opn} {st : List Nat} (h1 : rightO o = true) (h2 : ¬ (o.1 = 2 ∧ nx = false)) (d : o.1 = 1 ∨ o.1 = 2) (h : o.2 < cols) : pushS cols nx o st = (0, 1 :: st) := by
  unfold pushS
  rw [if_neg (not_or.2 ⟨by simp [h1], h2⟩), if_pos d, if_neg (by omega)]
theorem push_const {cols : Int} {nx : Bool} {o : Opn} {st : List Nat} (h1 : rightO o = true) (e : o.1 = 3) : pushS cols nx o st = (0, 0 :: st) := by
  unfold pushS
  rw [if_neg (not_or.2 ⟨by simp [h1], by omega⟩), if_neg (by omega), if_pos e]
theorem push_two {cols : Int} {nx : Bool} {o : Opn} {a b : Nat} {r : List Nat} (h1 : rightO o = true) (d : ¬ (o.1 = 1 ∨ o.1 = 2)) (e : o.1 ≠ 3) : pushS cols nx o (b :: a :: r) = (0, (if o.1 = 6 then a + b else max a b) :: r) := by
  unfold pushS
  rw [if_neg (not_or.2 ⟨by simp [h1], by omega⟩), if_neg d, if_neg e]
theorem push_few {cols : Int} {nx : Bool} {o : Opn} {st : List Nat} (h1 : rightO o = true) (d : ¬ (o.1 = 1 ∨ o.1 = 2)) (e : o.1 ≠ 3) (h : st.length < 2) : pushS cols nx o st = (4, st) := by
  unfold pushS
  rw [if_neg (not_or.2 ⟨by simp [h1], by omega⟩), if_neg d, if_neg e]
  match st, h with
  | [], _ => rfl
  | [_], _ => rfl
theorem tell_err {cols : Int} {nx : Bool} {o : Opn} {l : List Opn} {st st' : List Nat} {wo : Nat} {e : Int} (h : pushS cols nx o st = (e, st')) (he : e ≠ 0) : tellS cols nx (o :: l) st wo = (0, e) := by
  have hs : stepS cols nx o st = (e, st') := by unfold stepS; rw [h, if_pos he]
  have := tellS_err (l := l) (wo := wo) (show (stepS cols nx o st).1 ≠ 0 by rw [hs]; exact he)
  rw [this, hs]
theorem tell_high {cols : Int} {nx : Bool} {o : Opn} {l : List Opn} {st st' : List Nat} {wo : Nat} (h : pushS cols nx o st = (0, st')) (hd : 16 < st'.length) : tellS cols nx (o :: l) st wo = (0, 4) := by
  have hs : stepS cols nx o st = (4, st') := by unfold stepS; rw [h, if_neg (by simp), if_pos hd]
  have := tellS_err (l := l) (wo := wo) (show (stepS cols nx o st).1 ≠ 0 by rw [hs]; simp)
  rw [this, hs]
theorem tell_go {cols : Int} {nx : Bool} {o : Opn} {l : List Opn} {st st' : List Nat} {wo : Nat} (h : pushS cols nx o st = (0, st')) (hd : ¬ 16 < st'.length) : tellS cols nx (o :: l) st wo = tellS cols nx l st' (max wo (topS st')) := by
  have hs : stepS cols nx o st = (0, st') := by unfold stepS; rw [h, if_neg (by simp), if_neg hd]
  have := tellS_step (l := l) (wo := wo) (show (stepS cols nx o st).1 = 0 by rw [hs])
  rw [this, hs]
/-- With more columns, and the next row, too, it is the same. -/
theorem pushS_more {cols cols' : Int} {nx : Bool} {o : Opn} {st : List Nat} (hc : cols ≤ cols') (h : (pushS cols nx o st).1 = 0) : pushS cols' true o st = pushS cols nx o st := by
  obtain ⟨h1, h2, ⟨d, h4, _⟩ | ⟨e, _⟩ | ⟨a, b, r, d, e, rfl, _⟩⟩ := pushS_ok h
  · rw [push_col h1 (by simp) d (by omega), push_col h1 h2 d h4]
  · rw [push_const h1 e, push_const h1 e]
  · rw [push_two h1 d e, push_two h1 d e]
theorem stepS_more {cols cols' : Int} {nx : Bool} {o : Opn} {st : List Nat} (hc : cols ≤ cols') (h : (stepS cols nx o st).1 = 0) : stepS cols' true o st = stepS cols nx o st := by
  obtain ⟨h1, h2, h3⟩ := stepS_ok h
  unfold stepS
  rw [pushS_more hc h1]
theorem runS_more {cols cols' : Int} {nx : Bool} (hc : cols ≤ cols') : ∀ {l : List Opn} {st : List Nat} {wo : Nat}, (runS cols nx l st wo).1 = 0 → runS cols' true l st wo = runS cols nx l st wo
  | [], _, _, _ => rfl
  | o :: l, st, wo, h => by
    rw [runS] at h
    by_cases c : (stepS cols nx o st).1 ≠ 0
    · rw [if_pos c] at h; exact absurd h c
    · rw [if_neg c] at h
      have c0 : (stepS cols nx o st).1 = 0 := by simpa using c
      rw [runS, runS, stepS_more hc c0, if_neg c, if_neg c]
      exact runS_more hc h
/-- Bounds: what is put, and how many there are. -/
theorem pushS_sum {cols : Int} {nx : Bool} {o : Opn} {st : List Nat} (h : (pushS cols nx o st).1 = 0) : (pushS cols nx o st).2.sum ≤ st.sum + 1 ∧ 1 ≤ (pushS cols nx o st).2.length ∧ ((pushS cols nx o st).2.length + 1 = st.length ∨ (pushS cols nx o st).2.length = st.length + 1) := by
  obtain ⟨_, _, ⟨_, _, e⟩ | ⟨_, e⟩ | ⟨a, b, r, _, _, rfl, e⟩⟩ := pushS_ok h
  · rw [e]; simp; omega
  · rw [e]; simp
  · rw [e]
    split <;> simp <;> omega
theorem runS_ok {cols : Int} {nx : Bool} : ∀ {l : List Opn} {st : List Nat} {wo : Nat}, (runS cols nx l st wo).1 = 0 →
    ∃ k, (runS cols nx l st wo).2.1.length + 2 * k = st.length + l.length ∧ wo ≤ (runS cols nx l st wo).2.2 ∧ (l ≠ [] → topS (runS cols nx l st wo).2.1 ≤ (runS cols nx l st wo).2.2)
  | [], st, wo, _ => ⟨0, by simp [runS], Nat.le_refl _, fun h => absurd rfl h⟩
  | o :: l, st, wo, h => by
    rw [runS] at h
    by_cases c : (stepS cols nx o st).1 ≠ 0
    · rw [if_pos c] at h; exact absurd h c
    · rw [if_neg c] at h
      have c0 : (stepS cols nx o st).1 = 0 := by simpa using c
      obtain ⟨h1, h2, h3⟩ := stepS_ok c0
      obtain ⟨k, e1, e2, e3⟩ := runS_ok h
      obtain ⟨_, _, hl⟩ := pushS_sum h1
      rw [runS, if_neg c]
      rw [h3] at e1 e2 e3 ⊢
      refine ⟨if (pushS cols nx o st).2.length + 1 = st.length then k + 1 else k, ?_, by omega, fun _ => ?_⟩
      · split
        · simp only [List.length_cons]; omega
        · simp only [List.length_cons]; omega
      · by_cases hl : l = []
        · subst hl; simp only [runS]; omega
        · exact e3 hl
theorem checkB_ok {l : List Opn} {cols : Int} {nx : Bool} {d : Nat} (h : checkB l cols nx = (d, 0)) : l.length ≤ 256 ∧ (runS cols nx l [] 0).1 = 0 ∧ (runS cols nx l [] 0).2.1 = [d] ∧ (runS cols nx l [] 0).2.2 ≤ 4 ∧ d ≤ 4 ∧ l.length % 2 = 1 := by
  unfold checkB at h
  by_cases c : 256 < l.length
  · rw [if_pos c] at h; cases h
  · rw [if_neg c] at h
    unfold tellS at h
    by_cases e : (runS cols nx l [] 0).1 ≠ 0
    · rw [if_pos e] at h
      exact absurd (Prod.mk.inj h).2 e
    · rw [if_neg e] at h
      have e0 : (runS cols nx l [] 0).1 = 0 := by simpa using e
      obtain ⟨k, h1, h2, h3⟩ := runS_ok e0
      unfold endS at h
      by_cases f : (runS cols nx l [] 0).2.1.length ≠ 1
      · rw [if_pos f] at h; cases h
      · rw [if_neg f] at h
        by_cases g : 4 < (runS cols nx l [] 0).2.2
        · rw [if_pos g] at h; cases h
        · rw [if_neg g] at h
          obtain ⟨x, hx⟩ : ∃ x, (runS cols nx l [] 0).2.1 = [x] := List.length_eq_one_iff.1 (by simpa using f)
          have ht : topS (runS cols nx l [] 0).2.1 = d := (Prod.mk.inj h).1
          rw [hx] at ht h1 h3
          have ht' : x = d := ht
          subst ht'
          have hl : l ≠ [] := by
            rintro rfl
            simp at h1
          have := h3 hl
          simp at h1
          refine ⟨by omega, e0, hx, by omega, ?_, by omega⟩
          show x ≤ 4
          have : topS [x] = x := rfl
          omega
theorem checkB_zero {l : List Opn} {cols : Int} {nx : Bool} {d : Nat} {e : Int} (h : checkB l cols nx = (d, e)) (he : e ≠ 0) : d = 0 := by
  unfold checkB at h
  split at h
  · exact (Prod.mk.inj h).1.symm
  · unfold tellS at h
    split at h
    · exact (Prod.mk.inj h).1.symm
    · unfold endS at h
      split at h
      · exact (Prod.mk.inj h).1.symm
      · split at h
        · exact (Prod.mk.inj h).1.symm
        · exact absurd (Prod.mk.inj h).2.symm he
theorem checkB_more {l : List Opn} {cols cols' : Int} {nx : Bool} {d : Nat} (hc : cols ≤ cols') (h : checkB l cols nx = (d, 0)) : checkB l cols' true = (d, 0) := by
  obtain ⟨h1, h2, h3, h4, _⟩ := checkB_ok h
  unfold checkB tellS
  rw [if_neg (by omega), runS_more hc h2, if_neg (by simpa using h2), h3]
  unfold endS
  rw [if_neg (by simp), if_neg (by omega)]
  rfl
/-! ### Two, one behind the other -/
theorem runS_app {cols : Int} {nx : Bool} : ∀ {l m : List Opn} {st : List Nat} {wo : Nat}, (runS cols nx l st wo).1 = 0 → runS cols nx (l ++ m) st wo = runS cols nx m (runS cols nx l st wo).2.1 (runS cols nx l st wo).2.2
  | [], m, st, wo, _ => rfl
  | o :: l, m, st, wo, h => by
    rw [runS] at h
    by_cases c : (stepS cols nx o st).1 ≠ 0
    · rw [if_pos c] at h; exact absurd h c
    · rw [if_neg c] at h
      rw [List.cons_append, runS, runS, if_neg c, if_neg c]
      exact runS_app h
theorem pushS_under {cols : Int} {nx : Bool} {o : Opn} {st : List Nat} (r : List Nat) (h : (pushS cols nx o st).1 = 0) : pushS cols nx o (st ++ r) = (0, (pushS cols nx o st).2 ++ r) := by
  obtain ⟨h1, h2, ⟨d, h4, _⟩ | ⟨e, _⟩ | ⟨a, b, r', d, e, rfl, _⟩⟩ := pushS_ok h
  · rw [push_col h1 h2 d h4, push_col h1 h2 d h4]; rfl
  · rw [push_const h1 e, push_const h1 e]; rfl
  · rw [push_two h1 d e]
    exact push_two (r := r' ++ r) h1 d e
/-- On another stack: it is too high, or the same on top. -/
theorem runS_under {cols : Int} {nx : Bool} (r : List Nat) : ∀ {l : List Opn} {st : List Nat} {wo : Nat} (wo' : Nat), (runS cols nx l st wo).1 = 0 →
    (runS cols nx l (st ++ r) (max wo' wo)).1 = 4 ∨ runS cols nx l (st ++ r) (max wo' wo) = (0, (runS cols nx l st wo).2.1 ++ r, max wo' (runS cols nx l st wo).2.2)
  | [], st, wo, wo', _ => .inr rfl
  | o :: l, st, wo, wo', h => by
    rw [runS] at h
    by_cases c : (stepS cols nx o st).1 ≠ 0
    · rw [if_pos c] at h; exact absurd h c
    · rw [if_neg c] at h
      have c0 : (stepS cols nx o st).1 = 0 := by simpa using c
      obtain ⟨h1, h2, h3⟩ := stepS_ok c0
      have hu := pushS_under r h1
      obtain ⟨_, hp, _⟩ := pushS_sum h1
      rw [h3] at h
      by_cases hd : 16 < ((pushS cols nx o st).2 ++ r).length
      · refine .inl ?_
        have hs : stepS cols nx o (st ++ r) = (4, (pushS cols nx o st).2 ++ r) := by
          unfold stepS
          rw [hu, if_neg (by simp), if_pos hd]
        rw [runS, hs, if_pos (by simp)]
      · have hs : stepS cols nx o (st ++ r) = (0, (pushS cols nx o st).2 ++ r) := by
          unfold stepS
          rw [hu, if_neg (by simp), if_neg hd]
        have ht : topS ((pushS cols nx o st).2 ++ r) = topS (pushS cols nx o st).2 := by
          cases hq : (pushS cols nx o st).2 with
          | nil => rw [hq] at hp; simp at hp
          | cons x y => rfl
        have e1 : runS cols nx (o :: l) (st ++ r) (max wo' wo) = runS cols nx l ((pushS cols nx o st).2 ++ r) (max wo' (max wo (topS (pushS cols nx o st).2))) := by
          rw [runS, hs, if_neg (by simp), ht, Nat.max_assoc]
        have e2 : runS cols nx (o :: l) st wo = runS cols nx l (pushS cols nx o st).2 (max wo (topS (pushS cols nx o st).2)) := by rw [runS, if_neg c, h3]
        rw [e1, e2]
        exact runS_under r wo' h
theorem runS_stop {cols : Int} {nx : Bool} {e : Int} : ∀ {l m : List Opn} {st : List Nat} {wo : Nat}, (runS cols nx l st wo).1 = e → e ≠ 0 → (runS cols nx (l ++ m) st wo).1 = e
  | [], m, st, wo, h, he => absurd h.symm he
  | o :: l, m, st, wo, h, he => by
    rw [runS] at h
    by_cases c : (stepS cols nx o st).1 ≠ 0
    · rw [if_pos c] at h
      rw [List.cons_append, runS, if_pos c]
      exact h
    · rw [if_neg c] at h
      rw [List.cons_append, runS, if_neg c]
      exact runS_stop h he
/-- Two that may be, one behind the other, and an operation on both. -/
theorem checkB_joins {l m : List Opn} {cols : Int} {nx : Bool} {a b : Nat} {k : Int} (hl : l.length ≤ 100) (hm : m.length ≤ 100) (h1 : checkB l cols nx = (a, 0)) (h2 : checkB m cols nx = (b, 0)) (hk : k = 4 ∨ k = 5 ∨ k = 6) :
    (checkB (l ++ m ++ [(k, 0)]) cols nx).2 = 4 ∨ checkB (l ++ m ++ [(k, 0)]) cols nx = if 4 < (if k = 6 then a + b else max a b) then (0, 5) else (if k = 6 then a + b else max a b, 0) := by
  obtain ⟨_, p1, p2, p3, _⟩ := checkB_ok h1
  obtain ⟨_, q1, q2, q3, _⟩ := checkB_ok h2
  have hlen : ¬ 256 < (l ++ m ++ [(k, 0)]).length := by simp; omega
  have e0 : runS cols nx (l ++ m ++ [(k, 0)]) [] 0 = runS cols nx (m ++ [(k, 0)]) [a] (runS cols nx l [] 0).2.2 := by rw [List.append_assoc, runS_app p1, p2]
  have hr : rightO (k, 0) = true := by rcases hk with rfl | rfl | rfl <;> rfl
  have hps : pushS cols nx (k, 0) [b, a] = (0, [if k = 6 then a + b else max a b]) := by
    unfold pushS
    rw [if_neg (by simp [hr]; omega), if_neg (by show ¬ (k = 1 ∨ k = 2); omega), if_neg (by show ¬ k = 3; omega)]
  have hst : stepS cols nx (k, 0) [b, a] = (0, [if k = 6 then a + b else max a b]) := by
    unfold stepS
    rw [hps, if_neg (by simp), if_neg (by simp)]
  rcases runS_under [a] (runS cols nx l [] 0).2.2 q1 with hf | hf
  · refine .inl ?_
    have h4 : (runS cols nx (m ++ [(k, 0)]) [a] (runS cols nx l [] 0).2.2).1 = 4 := by
      simp only [List.nil_append, Nat.max_zero] at hf
      exact runS_stop hf (by decide)
    unfold checkB
    rw [if_neg hlen]
    unfold tellS
    rw [e0, if_pos (by rw [h4]; decide), h4]
  · refine .inr ?_
    simp only [List.nil_append, Nat.max_zero] at hf
    have h0 : (runS cols nx m [a] (runS cols nx l [] 0).2.2).1 = 0 := by rw [hf]
    have e1 : runS cols nx (m ++ [(k, 0)]) [a] (runS cols nx l [] 0).2.2 = (0, [if k = 6 then a + b else max a b], max (max (runS cols nx l [] 0).2.2 (runS cols nx m [] 0).2.2) (if k = 6 then a + b else max a b)) := by
      rw [runS_app h0, hf, q2]
      show runS cols nx [(k, 0)] [b, a] _ = _
      rw [runS, hst, if_neg (by simp)]
      rfl
    unfold checkB
    rw [if_neg hlen]
    unfold tellS
    rw [e0, e1, if_neg (by simp)]
    unfold endS
    rw [if_neg (by simp)]
    by_cases hw : 4 < (if k = 6 then a + b else max a b)
    · rw [if_pos hw, if_pos (by show 4 < max _ _; omega)]
    · rw [if_neg hw, if_neg (by show ¬ 4 < max _ _; omega)]
      rfl
end Go.Proofs.Ytjcgakmhpblanaa
namespace Go.Proofs.Ytjcgakmhpblanaa
open Go Go.RowKit
set_option linter.unusedVariables false

abbrev stN (x : Nat) : List Value := [.int .i64 (x : Int)]
theorem stN_len (x : Nat) : (stN x).length = 1 := rfl
theorem infoI : (Try.prog.info? 3).map (fun i => (i.zero, i.size, i.bytes)) = some (some (.int .i64 0), 1, 8) := by kernel_rfl
theorem drop_at {zs : List Opn} {k : Nat} (h : k < zs.length) : zs.drop k = zs.getD k (0, 0) :: zs.drop (k + 1) := by
  rw [List.drop_eq_getElem_cons h]
  simp [List.getD, h]
theorem w_add (x y : Nat) (h : x + y ≤ 512) : wrap64 ((x : Int) + (y : Int)) = ((x + y : Nat) : Int) ∧ IntKind.i64.wrap ((x : Int) + (y : Int)) = ((x + y : Nat) : Int) :=
  ⟨by rw [IntWalk.wrap64_in _ (by omega)]; omega, by rw [IntWalk.i64_in _ (by omega)]; omega⟩
theorem max_nat (x y : Nat) : max (x : Int) (y : Int) = ((max x y : Nat) : Int) := by omega
def ChkRel (w : World) (zs : List Opn) (cols : Int) (nx : Bool) (D : Nat × Int) (v wo i : Value) (W : World) : Prop :=
  ∃ (k : Nat) (st : List Nat) (q : Nat), k ≤ zs.length ∧ i = .int .i64 k ∧ wo = .int .i64 (q : Nat) ∧ Below w.heap.size w W ∧ W.ownsRow w.heap.size 3 1 v st.length (stkV stN st) ∧ st.length ≤ 16 ∧ st.sum ≤ k ∧ q ≤ k ∧ tellS cols nx (zs.drop k) st q = D
set_option maxRecDepth 100000 in
set_option maxHeartbeats 8000000 in
theorem rscheck_is (a : Option Addr) (cap : Nat) (zs : List Opn) (cols : Int) (nx : Bool) (d : Nat) (e : Int) (w : World) (hO : OpA w a zs.length zs) (hu : ∀ o ∈ zs, OkO o) (hc : -9223372036854775808 ≤ cols ∧ cols ≤ 9223372036854775807) (hz : checkB zs cols nx = (d, e)) :
    Calls Try.prog 35 #[.slice a zs.length cap, .int .i64 cols, .bool nx] w fun E w' => E = .returned (.tuple #[.int .i64 (d : Int), .int .i64 e]) ∧ Below w.heap.size w w' := by
  obtain ⟨i0, hi, hz0, hz1, hz2⟩ := info_parts infoI
  have hmax := hO.2.1
  unfold maxLen at hmax
  have HC := Lib.hid hO.2.2
  have HU := Lib.hid hu
  clear hO hu
  unfold checkB at hz
  by_cases hbig : 256 < zs.length
  · rw [if_pos hbig] at hz
    obtain ⟨rfl, rfl⟩ := Prod.mk.inj hz
    have hbI : (256 : Int) < (zs.length : Int) := by omega
    clear hz
    go_enter Try.func35, Try.ntmps35
    go_wp2
    exact bodyPost_ret (v := .tuple #[.int .i64 0, .int .i64 6]) (by simp [results, Try.results35, go_sem]) rfl ⟨rfl, Below.refl _ _⟩
  rw [if_neg hbig] at hz
  have HZ := Lib.hid hz
  have hbI : ¬ (256 : Int) < (zs.length : Int) := by omega
  have hlen : zs.length ≤ 256 := by omega
  clear hz hbig hmax
  go_enter Try.func35, Try.ntmps35
  go_upto_region 6 with fail
  go_loopw [8, 9, 10] (ChkRel w zs cols nx (d, e)) (fun _ _ i _ => zs.length - (intOf i).toNat)
  case atStart => exact ⟨0, [], 0, Nat.zero_le _, rfl, rfl, Below.refl _ _, World.ownsRow_nil _ _ _ _, by simp, by simp, by simp, by rw [List.drop_zero]; exact HZ.out⟩
  case round =>
    clear HZ hbI
    obtain ⟨k, st, q, hk, rfl, rfl, hB, hown, hst, hsum, hq, hres⟩ := hrel
    by_cases hlt : k < zs.length
    · have hlt' : (k : Int) < (zs.length : Int) := by omega
      have hk0 : (0 : Int) ≤ (k : Int) := by omega
      rw [drop_at hlt] at hres
      have hok : OkO (zs.getD k (0, 0)) := by
        have e : zs.getD k (0, 0) = zs[k] := by simp [List.getD, hlt]
        rw [e]
        exact HU.out _ (List.getElem_mem hlt)
      obtain ⟨b, off, rfl, u0, u1⟩ := HC.out k hlt
      replace u0 := bkeep hB u0; replace u1 := bkeep hB u1
      obtain ⟨rest, hrest⟩ : ∃ r, zs.drop (k + 1) = r := ⟨_, rfl⟩
      rw [hrest] at hres
      have HREST := Lib.hid hrest
      clear hrest
      generalize zs.getD k (0, 0) = o at *
      obtain ⟨kd, nn⟩ := o
      dsimp only at u0 u1
      have HB := Lib.hid hB; have HO := Lib.hid hown; have HRES := Lib.hid hres
      clear hB hown hres
      go_upto_region 9 with fail
      obtain ⟨g6, hg6⟩ : ∃ g, wr.heap.size = g := ⟨_, rfl⟩
      refine wp_gen (fun W => Below w.heap.size w W ∧ W.ownsRow w.heap.size 3 1 u8 st.length (stkV stN st) ∧ W.cell? ⟨wr.heap.size, 0, none⟩ = some (.int .i64 kd) ∧ W.cell? ⟨wr.heap.size, 1, none⟩ = some (.int .u64 nn)) ⟨HB.out.alloc HB.out.size _, HO.out.alloc _, by simp [go_sem], by simp [go_sem]⟩ ?_
      rw [hg6]
      rintro W1 ⟨hB, hown, c0, c1⟩
      have HB := Lib.hid hB; have HO := Lib.hid hown
      clear hB hown hg6 u0 u1
      have kr := fun r h => rcright_is kd nn r W1 hok h
      by_cases hr : rightO (kd, nn) = false
      · have hD := (tell_err (l := rest) (wo := q) (push_bad (cols := cols) (nx := nx) (st := st) (.inl hr)) (by decide)).symm.trans HRES.out
        obtain ⟨rfl, rfl⟩ := Prod.mk.inj hD
        clear hD HRES
        go_wp2_with (go_at_call 48; (with_reducible refine (kr false hr).mono ?_); rintro e w2 ⟨rfl, hb⟩; replace HB := Lib.hid (bthen HB.out hb); replace HO := Lib.hid (own_keep HO.out hb); replace c0 := bkeep hb c0; replace c1 := bkeep hb c1; clear hb)
        exact bodyPost_ret (v := .tuple #[.int .i64 0, .int .i64 3]) (by simp [results, Try.results35, go_sem]) rfl ⟨rfl, HB.out⟩
      have hrt : rightO (kd, nn) = true := by simpa using hr
      have hk := right_kind hrt
      dsimp only at hk
      by_cases hx : kd = 2 ∧ nx = false
      · obtain ⟨rfl, rfl⟩ := hx
        have hD := (tell_err (l := rest) (wo := q) (push_bad (cols := cols) (nx := false) (st := st) (.inr ⟨rfl, rfl⟩)) (by decide)).symm.trans HRES.out
        obtain ⟨rfl, rfl⟩ := Prod.mk.inj hD
        clear hD HRES
        go_wp2_with (go_at_call 48; (with_reducible refine (kr true hrt).mono ?_); rintro e w2 ⟨rfl, hb⟩; replace HB := Lib.hid (bthen HB.out hb); replace HO := Lib.hid (own_keep HO.out hb); replace c0 := bkeep hb c0; replace c1 := bkeep hb c1; clear hb)
        exact bodyPost_ret (v := .tuple #[.int .i64 0, .int .i64 3]) (by simp [results, Try.results35, go_sem]) rfl ⟨rfl, HB.out⟩
      by_cases hk1 : kd = 1
      · subst hk1
        have hnb : nn < 256 := by
          have h := hrt
          unfold rightO at h
          simpa using h
        have hn0 : 0 ≤ nn := hok.2.1
        have hcv : IntKind.i64.wrap nn = nn := IntWalk.i64_in _ (by omega)
        by_cases hfar : cols ≤ nn
        · have hD := (tell_err (l := rest) (wo := q) (push_far (st := st) hrt hx (by simp) hfar) (by decide)).symm.trans HRES.out
          obtain ⟨rfl, rfl⟩ := Prod.mk.inj hD
          clear hD HRES
          go_wp2_with (go_at_call 48; (with_reducible refine (kr true hrt).mono ?_); rintro e w2 ⟨rfl, hb⟩; replace HB := Lib.hid (bthen HB.out hb); replace HO := Lib.hid (own_keep HO.out hb); replace c0 := bkeep hb c0; replace c1 := bkeep hb c1; clear hb)
          exact bodyPost_ret (v := .tuple #[.int .i64 0, .int .i64 3]) (by simp [results, Try.results35, go_sem]) rfl ⟨rfl, HB.out⟩
        have hfarn : ¬ cols ≤ nn := hfar
        have hpp := push_col (cols := cols) (nx := nx) (st := st) hrt hx (by simp) (by show nn < cols; omega)
        go_upto_region 23 with (go_at_call 48; (with_reducible refine (kr true hrt).mono ?_); rintro e w2 ⟨rfl, hb⟩; replace HB := Lib.hid (bthen HB.out hb); replace HO := Lib.hid (own_keep HO.out hb); replace c0 := bkeep hb c0; replace c1 := bkeep hb c1; clear hb)
        have hown := HO.out
        have hsz0 := HB.out.size
        obtain ⟨FL, hFL⟩ : ∃ fl, stkV stN st = fl := ⟨_, rfl⟩
        rw [hFL] at hown
        have HFL := Lib.hid hFL
        clear hFL
        go_upto_region 26 with (at_builtin; refine wpList_append_own _ rfl _ _ 75 rfl w.heap.size 3 i0 (.int .i64 0) 1 8 Try.underlying75 hi hz0 hz1 hz2 rfl (by decide) _ _ _ rfl (hown.alloc _) ⟨w2.heap.size, 0, none⟩ 1 1 [.int .i64 1] rfl rfl ?c1 ?c2 ?c3 ?c4 ?c5 ?_)
        case c1 => exact one_src (by simp [go_sem])
        case c2 => first | rfl | (intro u hu; simp at hu; subst hu; rfl)
        case c3 => unfold maxLen; omega
        case c4 => omega
        case c5 => first | omega | (simp; omega)
        intro v' w3 hown' hgrow _
        have hb3 := own_row_below (hown.alloc (.cells #[.int .i64 1] 3)) (HB.out.alloc HB.out.size _) hgrow (Nat.le_refl _) (by simp; omega)
        have q3 : w3.ownsRow w.heap.size 3 1 v' (st.length + 1) (stkV stN (1 :: st)) := by rw [stkV_cons, HFL.out]; exact hown'
        have hsum2 := pushS_sum (cols := cols) (nx := nx) (show (pushS cols nx _ _).1 = 0 by rw [hpp])
        rw [hpp] at hsum2
        obtain ⟨hs2, _, _⟩ := hsum2
        dsimp only at hs2
        rw [List.sum_cons] at hs2
        skip
        obtain ⟨g', cap', rfl, hcp, hcm, hcell⟩ := stk_one stN_len q3
        have htop := hcell 0 (by decide)
        simp only [Nat.mul_one, Nat.add_zero] at htop
        replace htop : w3.cell? ⟨g', (st).length, none⟩ = some (.int .i64 ((1 : Nat) : Int)) := htop
        have HB := Lib.hid hb3
        have HO := Lib.hid q3
        have HP := Lib.hid hpp
        clear hb3 q3 hown hown' hgrow hcell hsz0
        obtain ⟨M, hM⟩ : ∃ M, (st).length + 1 = M := ⟨_, rfl⟩
        have HMM := Lib.hid hM
        rw [hM] at hcp ⊢
        have hm1 : ((st).length : Int) < (M : Int) := by omega
        have hm0 : (0 : Int) ≤ ((st).length : Int) := by omega
        have hw5 : IntKind.i64.wrap ((M : Int) - 1) = ((st).length : Int) := by rw [IntWalk.i64_in _ (by omega)]; omega
        have hw6 : wrap64 ((M : Int) - 1) = ((st).length : Int) := by rw [IntWalk.wrap64_in _ (by omega)]; omega
        by_cases h16 : 16 < M
        · have h16I : (16 : Int) < (M : Int) := by omega
          have hD := (tell_high HP.out (by show 16 < (st).length + 1; rw [HMM.out]; exact h16)).symm.trans HRES.out
          obtain ⟨rfl, rfl⟩ := Prod.mk.inj hD
          clear hD HRES HO HP
          go_wp2_with fail
          exact bodyPost_ret (v := .tuple #[.int .i64 0, .int .i64 4]) (by simp [results, Try.results35, go_sem]) rfl ⟨rfl, HB.out⟩
        · have h16I : ¬ (16 : Int) < (M : Int) := by omega
          have HS := Lib.hid ((tell_go HP.out (by show ¬ 16 < (st).length + 1; rw [HMM.out]; exact h16)).symm.trans HRES.out)
          have HQ := Lib.hid (show max q (1) ≤ k + 1 by omega)
          have HSU := Lib.hid (show (1) + (st).sum ≤ k + 1 by omega)
          have HLN := Lib.hid (show (1 :: st).length ≤ 16 by show (st).length + 1 ≤ 16; omega)
          skip
          clear HRES HP hs2 hM
          have hmx : max (q : Int) ((1 : Nat) : Int) = ((max q 1 : Nat) : Int) := by omega
          go_wp2_with fail
          go_roundw
          case rel => exact ⟨k + 1, 1 :: (st), max q 1, by omega, by go_num, by go_num, HB.out, by rw [← HMM.out]; exact HO.out, HLN.out, by rw [List.sum_cons]; exact HSU.out, HQ.out, by rw [HREST.out]; exact HS.out⟩
          case measure => simp [intOf]; omega
      by_cases hk2 : kd = 2
      · subst hk2
        obtain rfl : nx = true := by simpa using hx
        have hnb : nn < 256 := by
          have h := hrt
          unfold rightO at h
          simpa using h
        have hn0 : 0 ≤ nn := hok.2.1
        have hcv : IntKind.i64.wrap nn = nn := IntWalk.i64_in _ (by omega)
        by_cases hfar : cols ≤ nn
        · have hD := (tell_err (l := rest) (wo := q) (push_far (st := st) hrt hx (by simp) hfar) (by decide)).symm.trans HRES.out
          obtain ⟨rfl, rfl⟩ := Prod.mk.inj hD
          clear hD HRES
          go_wp2_with (go_at_call 48; (with_reducible refine (kr true hrt).mono ?_); rintro e w2 ⟨rfl, hb⟩; replace HB := Lib.hid (bthen HB.out hb); replace HO := Lib.hid (own_keep HO.out hb); replace c0 := bkeep hb c0; replace c1 := bkeep hb c1; clear hb)
          exact bodyPost_ret (v := .tuple #[.int .i64 0, .int .i64 3]) (by simp [results, Try.results35, go_sem]) rfl ⟨rfl, HB.out⟩
        have hfarn : ¬ cols ≤ nn := hfar
        have hpp := push_col (cols := cols) (nx := true) (st := st) hrt hx (by simp) (by show nn < cols; omega)
        go_upto_region 23 with (go_at_call 48; (with_reducible refine (kr true hrt).mono ?_); rintro e w2 ⟨rfl, hb⟩; replace HB := Lib.hid (bthen HB.out hb); replace HO := Lib.hid (own_keep HO.out hb); replace c0 := bkeep hb c0; replace c1 := bkeep hb c1; clear hb)
        have hown := HO.out
        have hsz0 := HB.out.size
        obtain ⟨FL, hFL⟩ : ∃ fl, stkV stN st = fl := ⟨_, rfl⟩
        rw [hFL] at hown
        have HFL := Lib.hid hFL
        clear hFL
        go_upto_region 26 with (at_builtin; refine wpList_append_own _ rfl _ _ 75 rfl w.heap.size 3 i0 (.int .i64 0) 1 8 Try.underlying75 hi hz0 hz1 hz2 rfl (by decide) _ _ _ rfl (hown.alloc _) ⟨w2.heap.size, 0, none⟩ 1 1 [.int .i64 1] rfl rfl ?c1 ?c2 ?c3 ?c4 ?c5 ?_)
        case c1 => exact one_src (by simp [go_sem])
        case c2 => first | rfl | (intro u hu; simp at hu; subst hu; rfl)
        case c3 => unfold maxLen; omega
        case c4 => omega
        case c5 => first | omega | (simp; omega)
        intro v' w3 hown' hgrow _
        have hb3 := own_row_below (hown.alloc (.cells #[.int .i64 1] 3)) (HB.out.alloc HB.out.size _) hgrow (Nat.le_refl _) (by simp; omega)
        have q3 : w3.ownsRow w.heap.size 3 1 v' (st.length + 1) (stkV stN (1 :: st)) := by rw [stkV_cons, HFL.out]; exact hown'
        have hsum2 := pushS_sum (cols := cols) (nx := true) (show (pushS cols true _ _).1 = 0 by rw [hpp])
        rw [hpp] at hsum2
        obtain ⟨hs2, _, _⟩ := hsum2
        dsimp only at hs2
        rw [List.sum_cons] at hs2
        skip
        obtain ⟨g', cap', rfl, hcp, hcm, hcell⟩ := stk_one stN_len q3
        have htop := hcell 0 (by decide)
        simp only [Nat.mul_one, Nat.add_zero] at htop
        replace htop : w3.cell? ⟨g', (st).length, none⟩ = some (.int .i64 ((1 : Nat) : Int)) := htop
        have HB := Lib.hid hb3
        have HO := Lib.hid q3
        have HP := Lib.hid hpp
        clear hb3 q3 hown hown' hgrow hcell hsz0
        obtain ⟨M, hM⟩ : ∃ M, (st).length + 1 = M := ⟨_, rfl⟩
        have HMM := Lib.hid hM
        rw [hM] at hcp ⊢
        have hm1 : ((st).length : Int) < (M : Int) := by omega
        have hm0 : (0 : Int) ≤ ((st).length : Int) := by omega
        have hw5 : IntKind.i64.wrap ((M : Int) - 1) = ((st).length : Int) := by rw [IntWalk.i64_in _ (by omega)]; omega
        have hw6 : wrap64 ((M : Int) - 1) = ((st).length : Int) := by rw [IntWalk.wrap64_in _ (by omega)]; omega
        by_cases h16 : 16 < M
        · have h16I : (16 : Int) < (M : Int) := by omega
          have hD := (tell_high HP.out (by show 16 < (st).length + 1; rw [HMM.out]; exact h16)).symm.trans HRES.out
          obtain ⟨rfl, rfl⟩ := Prod.mk.inj hD
          clear hD HRES HO HP
          go_wp2_with fail
          exact bodyPost_ret (v := .tuple #[.int .i64 0, .int .i64 4]) (by simp [results, Try.results35, go_sem]) rfl ⟨rfl, HB.out⟩
        · have h16I : ¬ (16 : Int) < (M : Int) := by omega
          have HS := Lib.hid ((tell_go HP.out (by show ¬ 16 < (st).length + 1; rw [HMM.out]; exact h16)).symm.trans HRES.out)
          have HQ := Lib.hid (show max q (1) ≤ k + 1 by omega)
          have HSU := Lib.hid (show (1) + (st).sum ≤ k + 1 by omega)
          have HLN := Lib.hid (show (1 :: st).length ≤ 16 by show (st).length + 1 ≤ 16; omega)
          skip
          clear HRES HP hs2 hM
          have hmx : max (q : Int) ((1 : Nat) : Int) = ((max q 1 : Nat) : Int) := by omega
          go_wp2_with fail
          go_roundw
          case rel => exact ⟨k + 1, 1 :: (st), max q 1, by omega, by go_num, by go_num, HB.out, by rw [← HMM.out]; exact HO.out, HLN.out, by rw [List.sum_cons]; exact HSU.out, HQ.out, by rw [HREST.out]; exact HS.out⟩
          case measure => simp [intOf]; omega
      by_cases hk3 : kd = 3
      · subst hk3
        have hpp := push_const (cols := cols) (nx := nx) (st := st) hrt rfl
        go_upto_region 25 with (go_at_call 48; (with_reducible refine (kr true hrt).mono ?_); rintro e w2 ⟨rfl, hb⟩; replace HB := Lib.hid (bthen HB.out hb); replace HO := Lib.hid (own_keep HO.out hb); replace c0 := bkeep hb c0; replace c1 := bkeep hb c1; clear hb)
        have hown := HO.out
        have hsz0 := HB.out.size
        obtain ⟨FL, hFL⟩ : ∃ fl, stkV stN st = fl := ⟨_, rfl⟩
        rw [hFL] at hown
        have HFL := Lib.hid hFL
        clear hFL
        go_upto_region 26 with (at_builtin; refine wpList_append_own _ rfl _ _ 75 rfl w.heap.size 3 i0 (.int .i64 0) 1 8 Try.underlying75 hi hz0 hz1 hz2 rfl (by decide) _ _ _ rfl (hown.alloc _) ⟨w2.heap.size, 0, none⟩ 1 1 [.int .i64 0] rfl rfl ?c1 ?c2 ?c3 ?c4 ?c5 ?_)
        case c1 => exact one_src (by simp [go_sem])
        case c2 => first | rfl | (intro u hu; simp at hu; subst hu; rfl)
        case c3 => unfold maxLen; omega
        case c4 => omega
        case c5 => first | omega | (simp; omega)
        intro v' w3 hown' hgrow _
        have hb3 := own_row_below (hown.alloc (.cells #[.int .i64 0] 3)) (HB.out.alloc HB.out.size _) hgrow (Nat.le_refl _) (by simp; omega)
        have q3 : w3.ownsRow w.heap.size 3 1 v' (st.length + 1) (stkV stN (0 :: st)) := by rw [stkV_cons, HFL.out]; exact hown'
        have hsum2 := pushS_sum (cols := cols) (nx := nx) (show (pushS cols nx _ _).1 = 0 by rw [hpp])
        rw [hpp] at hsum2
        obtain ⟨hs2, _, _⟩ := hsum2
        dsimp only at hs2
        rw [List.sum_cons] at hs2
        skip
        obtain ⟨g', cap', rfl, hcp, hcm, hcell⟩ := stk_one stN_len q3
        have htop := hcell 0 (by decide)
        simp only [Nat.mul_one, Nat.add_zero] at htop
        replace htop : w3.cell? ⟨g', (st).length, none⟩ = some (.int .i64 ((0 : Nat) : Int)) := htop
        have HB := Lib.hid hb3
        have HO := Lib.hid q3
        have HP := Lib.hid hpp
        clear hb3 q3 hown hown' hgrow hcell hsz0
        obtain ⟨M, hM⟩ : ∃ M, (st).length + 1 = M := ⟨_, rfl⟩
        have HMM := Lib.hid hM
        rw [hM] at hcp ⊢
        have hm1 : ((st).length : Int) < (M : Int) := by omega
        have hm0 : (0 : Int) ≤ ((st).length : Int) := by omega
        have hw5 : IntKind.i64.wrap ((M : Int) - 1) = ((st).length : Int) := by rw [IntWalk.i64_in _ (by omega)]; omega
        have hw6 : wrap64 ((M : Int) - 1) = ((st).length : Int) := by rw [IntWalk.wrap64_in _ (by omega)]; omega
        by_cases h16 : 16 < M
        · have h16I : (16 : Int) < (M : Int) := by omega
          have hD := (tell_high HP.out (by show 16 < (st).length + 1; rw [HMM.out]; exact h16)).symm.trans HRES.out
          obtain ⟨rfl, rfl⟩ := Prod.mk.inj hD
          clear hD HRES HO HP
          go_wp2_with fail
          exact bodyPost_ret (v := .tuple #[.int .i64 0, .int .i64 4]) (by simp [results, Try.results35, go_sem]) rfl ⟨rfl, HB.out⟩
        · have h16I : ¬ (16 : Int) < (M : Int) := by omega
          have HS := Lib.hid ((tell_go HP.out (by show ¬ 16 < (st).length + 1; rw [HMM.out]; exact h16)).symm.trans HRES.out)
          have HQ := Lib.hid (show max q (0) ≤ k + 1 by omega)
          have HSU := Lib.hid (show (0) + (st).sum ≤ k + 1 by omega)
          have HLN := Lib.hid (show (0 :: st).length ≤ 16 by show (st).length + 1 ≤ 16; omega)
          skip
          clear HRES HP hs2 hM
          have hmx : max (q : Int) ((0 : Nat) : Int) = ((max q 0 : Nat) : Int) := by omega
          go_wp2_with fail
          go_roundw
          case rel => exact ⟨k + 1, 0 :: (st), max q 0, by omega, by go_num, by go_num, HB.out, by rw [← HMM.out]; exact HO.out, HLN.out, by rw [List.sum_cons]; exact HSU.out, HQ.out, by rw [HREST.out]; exact HS.out⟩
          case measure => simp [intOf]; omega
      have hcol : ¬ ((kd, nn).1 = 1 ∨ (kd, nn).1 = 2) := by simp [hk1, hk2]
      by_cases hfew : st.length < 2
      · have hfewI : (st.length : Int) < 2 := by omega
        obtain ⟨aS, cS, rfl⟩ := own_form HO.out
        have hD := (tell_err (l := rest) (wo := q) (push_few (cols := cols) (nx := nx) hrt hcol hk3 hfew) (by decide)).symm.trans HRES.out
        obtain ⟨rfl, rfl⟩ := Prod.mk.inj hD
        clear hD HRES
        go_wp2_with (go_at_call 48; (with_reducible refine (kr true hrt).mono ?_); rintro e w2 ⟨rfl, hb⟩; replace HB := Lib.hid (bthen HB.out hb); replace HO := Lib.hid (own_keep HO.out hb); replace c0 := bkeep hb c0; replace c1 := bkeep hb c1; clear hb)
        exact bodyPost_ret (v := .tuple #[.int .i64 0, .int .i64 4]) (by simp [results, Try.results35, go_sem]) rfl ⟨rfl, HB.out⟩
      obtain ⟨y, x, r, rfl⟩ : ∃ y x r, st = y :: x :: r := by
        match st, hfew with
        | y :: x :: r, _ => exact ⟨y, x, r, rfl⟩
        | [_], h => exact absurd (by simp) h
        | [], h => exact absurd (by simp) h
      have hpp := push_two (cols := cols) (nx := nx) (a := x) (b := y) (r := r) hrt hcol hk3
      have hsr : y + (x + r.sum) ≤ k := by simpa using hsum
      have hlr : r.length + 1 + 1 ≤ 16 := by simpa using hst
      obtain ⟨M2, hM2⟩ : ∃ M2, r.length + 1 + 1 = M2 := ⟨_, rfl⟩
      have hv1 : IntKind.i64.wrap ((M2 : Int) - 1) = ((r.length + 1 : Nat) : Int) := by rw [IntWalk.i64_in _ (by omega)]; omega
      have hv2 : wrap64 ((M2 : Int) - 1) = ((r.length + 1 : Nat) : Int) := by rw [IntWalk.wrap64_in _ (by omega)]; omega
      have hv3 : IntKind.i64.wrap ((M2 : Int) - 2) = (r.length : Int) := by rw [IntWalk.i64_in _ (by omega)]; omega
      have hv4 : wrap64 ((M2 : Int) - 2) = (r.length : Int) := by rw [IntWalk.wrap64_in _ (by omega)]; omega
      obtain ⟨M1, hM1⟩ : ∃ M1, r.length + 1 = M1 := ⟨_, rfl⟩
      rw [hM1] at hv1 hv2
      have hl2 : (M1 : Int) < (M2 : Int) := by omega
      have hl3 : (r.length : Int) < (M2 : Int) := by omega
      have hl4 : (r.length : Int) ≤ (M2 : Int) := by omega
      have hl5 : (0 : Int) ≤ (M1 : Int) := by omega
      have hl6 : (0 : Int) ≤ (r.length : Int) := by omega
      have hM2n : ¬ (M2 : Int) < 2 := by omega
      obtain ⟨gs, cs, hu8, hcs, hcsm, hcx, hcy, hcut⟩ := stk_two stN_len HO.out
      rw [hM2] at hu8 hcs
      subst hu8
      replace hcx := hcx 0 (by decide); replace hcy := hcy 0 (by decide)
      simp only [Nat.mul_one, Nat.add_zero, hM1] at hcx hcy
      replace hcx : W1.cell? ⟨gs, r.length, none⟩ = some (.int .i64 (x : Int)) := hcx
      replace hcy : W1.cell? ⟨gs, M1, none⟩ = some (.int .i64 (y : Int)) := hcy
      have hcut := hcut
      have hrM : r.length ≤ cs := by omega
      have hxyb : x + y ≤ 512 := by omega
      clear HO hM1 hM2 hfew
      have HSE : Hid ((y :: x :: r).sum = y + (x + r.sum)) := Lib.hid (by simp)
      have hkd : kd = 4 ∨ kd = 5 ∨ kd = 6 := by omega
      rcases hkd with rfl | rfl | rfl
      · obtain ⟨V, hV⟩ : ∃ V, max x y = V := ⟨_, rfl⟩
        have hpv : pushS cols nx (4, nn) (y :: x :: r) = (0, V :: r) := by rw [hpp, ← hV]; rfl
        have hval : max (x : Int) (y : Int) = (V : Int) := by rw [← hV]; exact max_nat x y
        go_upto_region 15 with (go_at_call 48; (with_reducible refine (kr true hrt).mono ?_); rintro e w2 ⟨rfl, hb⟩; replace HB := Lib.hid (bthen HB.out hb); replace c0 := bkeep hb c0; replace c1 := bkeep hb c1; replace hcx := bkeep hb hcx; replace hcy := bkeep hb hcy; replace hcut := own_keep hcut hb; clear hb)
        go_region
        go_upto_region 18 with fail
        refine wp_gen (fun W => Below w.heap.size w W ∧ W.ownsRow w.heap.size 3 1 (.slice (some ⟨gs, 0, none⟩) r.length cs) r.length (stkV stN r)) ⟨HB.out.drew, hcut.drew⟩ ?_
        clear HB hcx hcy hcut c0 c1 hval
        rintro W4 ⟨hB, hcut⟩
        have HB := Lib.hid hB
        clear hB
        have hown := hcut
        have hsz0 := HB.out.size
        obtain ⟨FL, hFL⟩ : ∃ fl, stkV stN r = fl := ⟨_, rfl⟩
        rw [hFL] at hown
        have HFL := Lib.hid hFL
        clear hFL
        go_upto_region 26 with (at_builtin; refine wpList_append_own _ rfl _ _ 75 rfl w.heap.size 3 i0 (.int .i64 0) 1 8 Try.underlying75 hi hz0 hz1 hz2 rfl (by decide) _ _ _ rfl (hown.alloc _) ⟨W4.heap.size, 0, none⟩ 1 1 [.int .i64 (V : Int)] rfl rfl ?c1 ?c2 ?c3 ?c4 ?c5 ?_)
        case c1 => exact one_src (by simp [go_sem])
        case c2 => first | rfl | (intro u hu; simp at hu; subst hu; rfl)
        case c3 => unfold maxLen; omega
        case c4 => omega
        case c5 => first | omega | (simp; omega)
        intro v' w3 hown' hgrow _
        have hb3 := own_row_below (hown.alloc (.cells #[.int .i64 (V : Int)] 3)) (HB.out.alloc HB.out.size _) hgrow (Nat.le_refl _) (by simp; omega)
        have q3 : w3.ownsRow w.heap.size 3 1 v' (r.length + 1) (stkV stN (V :: r)) := by rw [stkV_cons, HFL.out]; exact hown'
        have HVB := Lib.hid hV
        clear hV
        have hsum2 := pushS_sum (cols := cols) (nx := nx) (show (pushS cols nx _ _).1 = 0 by rw [hpv])
        rw [hpv] at hsum2
        obtain ⟨hs2, _, _⟩ := hsum2
        dsimp only at hs2
        rw [List.sum_cons] at hs2
        rw [HSE.out] at hs2
        obtain ⟨g', cap', rfl, hcp, hcm, hcell⟩ := stk_one stN_len q3
        have htop := hcell 0 (by decide)
        simp only [Nat.mul_one, Nat.add_zero] at htop
        replace htop : w3.cell? ⟨g', (r).length, none⟩ = some (.int .i64 ((V : Nat) : Int)) := htop
        have HB := Lib.hid hb3
        have HO := Lib.hid q3
        have HP := Lib.hid hpv
        clear hb3 q3 hown hown' hgrow hcell hsz0
        obtain ⟨M, hM⟩ : ∃ M, (r).length + 1 = M := ⟨_, rfl⟩
        have HMM := Lib.hid hM
        rw [hM] at hcp ⊢
        have hm1 : ((r).length : Int) < (M : Int) := by omega
        have hm0 : (0 : Int) ≤ ((r).length : Int) := by omega
        have hw5 : IntKind.i64.wrap ((M : Int) - 1) = ((r).length : Int) := by rw [IntWalk.i64_in _ (by omega)]; omega
        have hw6 : wrap64 ((M : Int) - 1) = ((r).length : Int) := by rw [IntWalk.wrap64_in _ (by omega)]; omega
        by_cases h16 : 16 < M
        · have h16I : (16 : Int) < (M : Int) := by omega
          have hD := (tell_high HP.out (by show 16 < (r).length + 1; rw [HMM.out]; exact h16)).symm.trans HRES.out
          obtain ⟨rfl, rfl⟩ := Prod.mk.inj hD
          clear hD HRES HO HP
          go_wp2_with fail
          exact bodyPost_ret (v := .tuple #[.int .i64 0, .int .i64 4]) (by simp [results, Try.results35, go_sem]) rfl ⟨rfl, HB.out⟩
        · have h16I : ¬ (16 : Int) < (M : Int) := by omega
          have HS := Lib.hid ((tell_go HP.out (by show ¬ 16 < (r).length + 1; rw [HMM.out]; exact h16)).symm.trans HRES.out)
          have HQ := Lib.hid (show max q (V) ≤ k + 1 by omega)
          have HSU := Lib.hid (show (V) + (r).sum ≤ k + 1 by omega)
          have HLN := Lib.hid (show (V :: r).length ≤ 16 by show (r).length + 1 ≤ 16; omega)
          obtain ⟨X, hX⟩ : ∃ X, (V : Nat) = X := ⟨_, rfl⟩
          rw [hX] at htop HQ HSU HO HLN HS
          clear hX
          clear HRES HP hs2 hM
          have hmx : max (q : Int) ((X : Nat) : Int) = ((max q X : Nat) : Int) := by omega
          go_wp2_with fail
          go_roundw
          case rel => exact ⟨k + 1, X :: (r), max q X, by omega, by go_num, by go_num, HB.out, by rw [← HMM.out]; exact HO.out, HLN.out, by rw [List.sum_cons]; exact HSU.out, HQ.out, by rw [HREST.out]; exact HS.out⟩
          case measure => simp [intOf]; omega
      · obtain ⟨V, hV⟩ : ∃ V, max x y = V := ⟨_, rfl⟩
        have hpv : pushS cols nx (5, nn) (y :: x :: r) = (0, V :: r) := by rw [hpp, ← hV]; rfl
        have hval : max (x : Int) (y : Int) = (V : Int) := by rw [← hV]; exact max_nat x y
        go_upto_region 15 with (go_at_call 48; (with_reducible refine (kr true hrt).mono ?_); rintro e w2 ⟨rfl, hb⟩; replace HB := Lib.hid (bthen HB.out hb); replace c0 := bkeep hb c0; replace c1 := bkeep hb c1; replace hcx := bkeep hb hcx; replace hcy := bkeep hb hcy; replace hcut := own_keep hcut hb; clear hb)
        go_region
        go_upto_region 18 with fail
        refine wp_gen (fun W => Below w.heap.size w W ∧ W.ownsRow w.heap.size 3 1 (.slice (some ⟨gs, 0, none⟩) r.length cs) r.length (stkV stN r)) ⟨HB.out.drew, hcut.drew⟩ ?_
        clear HB hcx hcy hcut c0 c1 hval
        rintro W4 ⟨hB, hcut⟩
        have HB := Lib.hid hB
        clear hB
        have hown := hcut
        have hsz0 := HB.out.size
        obtain ⟨FL, hFL⟩ : ∃ fl, stkV stN r = fl := ⟨_, rfl⟩
        rw [hFL] at hown
        have HFL := Lib.hid hFL
        clear hFL
        go_upto_region 26 with (at_builtin; refine wpList_append_own _ rfl _ _ 75 rfl w.heap.size 3 i0 (.int .i64 0) 1 8 Try.underlying75 hi hz0 hz1 hz2 rfl (by decide) _ _ _ rfl (hown.alloc _) ⟨W4.heap.size, 0, none⟩ 1 1 [.int .i64 (V : Int)] rfl rfl ?c1 ?c2 ?c3 ?c4 ?c5 ?_)
        case c1 => exact one_src (by simp [go_sem])
        case c2 => first | rfl | (intro u hu; simp at hu; subst hu; rfl)
        case c3 => unfold maxLen; omega
        case c4 => omega
        case c5 => first | omega | (simp; omega)
        intro v' w3 hown' hgrow _
        have hb3 := own_row_below (hown.alloc (.cells #[.int .i64 (V : Int)] 3)) (HB.out.alloc HB.out.size _) hgrow (Nat.le_refl _) (by simp; omega)
        have q3 : w3.ownsRow w.heap.size 3 1 v' (r.length + 1) (stkV stN (V :: r)) := by rw [stkV_cons, HFL.out]; exact hown'
        have HVB := Lib.hid hV
        clear hV
        have hsum2 := pushS_sum (cols := cols) (nx := nx) (show (pushS cols nx _ _).1 = 0 by rw [hpv])
        rw [hpv] at hsum2
        obtain ⟨hs2, _, _⟩ := hsum2
        dsimp only at hs2
        rw [List.sum_cons] at hs2
        rw [HSE.out] at hs2
        obtain ⟨g', cap', rfl, hcp, hcm, hcell⟩ := stk_one stN_len q3
        have htop := hcell 0 (by decide)
        simp only [Nat.mul_one, Nat.add_zero] at htop
        replace htop : w3.cell? ⟨g', (r).length, none⟩ = some (.int .i64 ((V : Nat) : Int)) := htop
        have HB := Lib.hid hb3
        have HO := Lib.hid q3
        have HP := Lib.hid hpv
        clear hb3 q3 hown hown' hgrow hcell hsz0
        obtain ⟨M, hM⟩ : ∃ M, (r).length + 1 = M := ⟨_, rfl⟩
        have HMM := Lib.hid hM
        rw [hM] at hcp ⊢
        have hm1 : ((r).length : Int) < (M : Int) := by omega
        have hm0 : (0 : Int) ≤ ((r).length : Int) := by omega
        have hw5 : IntKind.i64.wrap ((M : Int) - 1) = ((r).length : Int) := by rw [IntWalk.i64_in _ (by omega)]; omega
        have hw6 : wrap64 ((M : Int) - 1) = ((r).length : Int) := by rw [IntWalk.wrap64_in _ (by omega)]; omega
        by_cases h16 : 16 < M
        · have h16I : (16 : Int) < (M : Int) := by omega
          have hD := (tell_high HP.out (by show 16 < (r).length + 1; rw [HMM.out]; exact h16)).symm.trans HRES.out
          obtain ⟨rfl, rfl⟩ := Prod.mk.inj hD
          clear hD HRES HO HP
          go_wp2_with fail
          exact bodyPost_ret (v := .tuple #[.int .i64 0, .int .i64 4]) (by simp [results, Try.results35, go_sem]) rfl ⟨rfl, HB.out⟩
        · have h16I : ¬ (16 : Int) < (M : Int) := by omega
          have HS := Lib.hid ((tell_go HP.out (by show ¬ 16 < (r).length + 1; rw [HMM.out]; exact h16)).symm.trans HRES.out)
          have HQ := Lib.hid (show max q (V) ≤ k + 1 by omega)
          have HSU := Lib.hid (show (V) + (r).sum ≤ k + 1 by omega)
          have HLN := Lib.hid (show (V :: r).length ≤ 16 by show (r).length + 1 ≤ 16; omega)
          obtain ⟨X, hX⟩ : ∃ X, (V : Nat) = X := ⟨_, rfl⟩
          rw [hX] at htop HQ HSU HO HLN HS
          clear hX
          clear HRES HP hs2 hM
          have hmx : max (q : Int) ((X : Nat) : Int) = ((max q X : Nat) : Int) := by omega
          go_wp2_with fail
          go_roundw
          case rel => exact ⟨k + 1, X :: (r), max q X, by omega, by go_num, by go_num, HB.out, by rw [← HMM.out]; exact HO.out, HLN.out, by rw [List.sum_cons]; exact HSU.out, HQ.out, by rw [HREST.out]; exact HS.out⟩
          case measure => simp [intOf]; omega
      · obtain ⟨V, hV⟩ : ∃ V, x + y = V := ⟨_, rfl⟩
        have hpv : pushS cols nx (6, nn) (y :: x :: r) = (0, V :: r) := by rw [hpp, ← hV]; rfl
        have hval : wrap64 ((x : Int) + (y : Int)) = (V : Int) := by rw [← hV]; exact (w_add x y hxyb).1
        go_upto_region 15 with (go_at_call 48; (with_reducible refine (kr true hrt).mono ?_); rintro e w2 ⟨rfl, hb⟩; replace HB := Lib.hid (bthen HB.out hb); replace c0 := bkeep hb c0; replace c1 := bkeep hb c1; replace hcx := bkeep hb hcx; replace hcy := bkeep hb hcy; replace hcut := own_keep hcut hb; clear hb)
        go_region
        have hval2 : IntKind.i64.wrap ((x : Int) + (y : Int)) = (V : Int) := by rw [← hV]; exact (w_add x y hxyb).2
        go_upto_region 17 with fail
        go_region
        go_upto_region 18 with fail
        refine wp_gen (fun W => Below w.heap.size w W ∧ W.ownsRow w.heap.size 3 1 (.slice (some ⟨gs, 0, none⟩) r.length cs) r.length (stkV stN r)) ⟨HB.out.drew.drew, hcut.drew.drew⟩ ?_
        clear HB hcx hcy hcut c0 c1 hval hval2
        rintro W4 ⟨hB, hcut⟩
        have HB := Lib.hid hB
        clear hB
        have hown := hcut
        have hsz0 := HB.out.size
        obtain ⟨FL, hFL⟩ : ∃ fl, stkV stN r = fl := ⟨_, rfl⟩
        rw [hFL] at hown
        have HFL := Lib.hid hFL
        clear hFL
        go_upto_region 26 with (at_builtin; refine wpList_append_own _ rfl _ _ 75 rfl w.heap.size 3 i0 (.int .i64 0) 1 8 Try.underlying75 hi hz0 hz1 hz2 rfl (by decide) _ _ _ rfl (hown.alloc _) ⟨W4.heap.size, 0, none⟩ 1 1 [.int .i64 (V : Int)] rfl rfl ?c1 ?c2 ?c3 ?c4 ?c5 ?_)
        case c1 => exact one_src (by simp [go_sem])
        case c2 => first | rfl | (intro u hu; simp at hu; subst hu; rfl)
        case c3 => unfold maxLen; omega
        case c4 => omega
        case c5 => first | omega | (simp; omega)
        intro v' w3 hown' hgrow _
        have hb3 := own_row_below (hown.alloc (.cells #[.int .i64 (V : Int)] 3)) (HB.out.alloc HB.out.size _) hgrow (Nat.le_refl _) (by simp; omega)
        have q3 : w3.ownsRow w.heap.size 3 1 v' (r.length + 1) (stkV stN (V :: r)) := by rw [stkV_cons, HFL.out]; exact hown'
        have HVB := Lib.hid hV
        clear hV
        have hsum2 := pushS_sum (cols := cols) (nx := nx) (show (pushS cols nx _ _).1 = 0 by rw [hpv])
        rw [hpv] at hsum2
        obtain ⟨hs2, _, _⟩ := hsum2
        dsimp only at hs2
        rw [List.sum_cons] at hs2
        rw [HSE.out] at hs2
        obtain ⟨g', cap', rfl, hcp, hcm, hcell⟩ := stk_one stN_len q3
        have htop := hcell 0 (by decide)
        simp only [Nat.mul_one, Nat.add_zero] at htop
        replace htop : w3.cell? ⟨g', (r).length, none⟩ = some (.int .i64 ((V : Nat) : Int)) := htop
        have HB := Lib.hid hb3
        have HO := Lib.hid q3
        have HP := Lib.hid hpv
        clear hb3 q3 hown hown' hgrow hcell hsz0
        obtain ⟨M, hM⟩ : ∃ M, (r).length + 1 = M := ⟨_, rfl⟩
        have HMM := Lib.hid hM
        rw [hM] at hcp ⊢
        have hm1 : ((r).length : Int) < (M : Int) := by omega
        have hm0 : (0 : Int) ≤ ((r).length : Int) := by omega
        have hw5 : IntKind.i64.wrap ((M : Int) - 1) = ((r).length : Int) := by rw [IntWalk.i64_in _ (by omega)]; omega
        have hw6 : wrap64 ((M : Int) - 1) = ((r).length : Int) := by rw [IntWalk.wrap64_in _ (by omega)]; omega
        by_cases h16 : 16 < M
        · have h16I : (16 : Int) < (M : Int) := by omega
          have hD := (tell_high HP.out (by show 16 < (r).length + 1; rw [HMM.out]; exact h16)).symm.trans HRES.out
          obtain ⟨rfl, rfl⟩ := Prod.mk.inj hD
          clear hD HRES HO HP
          go_wp2_with fail
          exact bodyPost_ret (v := .tuple #[.int .i64 0, .int .i64 4]) (by simp [results, Try.results35, go_sem]) rfl ⟨rfl, HB.out⟩
        · have h16I : ¬ (16 : Int) < (M : Int) := by omega
          have HS := Lib.hid ((tell_go HP.out (by show ¬ 16 < (r).length + 1; rw [HMM.out]; exact h16)).symm.trans HRES.out)
          have HQ := Lib.hid (show max q (V) ≤ k + 1 by omega)
          have HSU := Lib.hid (show (V) + (r).sum ≤ k + 1 by omega)
          have HLN := Lib.hid (show (V :: r).length ≤ 16 by show (r).length + 1 ≤ 16; omega)
          obtain ⟨X, hX⟩ : ∃ X, (V : Nat) = X := ⟨_, rfl⟩
          rw [hX] at htop HQ HSU HO HLN HS
          clear hX
          clear HRES HP hs2 hM
          have hmx : max (q : Int) ((X : Nat) : Int) = ((max q X : Nat) : Int) := by omega
          go_wp2_with fail
          go_roundw
          case rel => exact ⟨k + 1, X :: (r), max q X, by omega, by go_num, by go_num, HB.out, by rw [← HMM.out]; exact HO.out, HLN.out, by rw [List.sum_cons]; exact HSU.out, HQ.out, by rw [HREST.out]; exact HS.out⟩
          case measure => simp [intOf]; omega
    · obtain rfl : k = zs.length := by omega
      rw [List.drop_length, tellS_nil] at hres
      unfold endS at hres
      have HB := Lib.hid hB
      clear hB
      by_cases h1 : st.length ≠ 1
      · rw [if_pos h1] at hres
        obtain ⟨rfl, rfl⟩ := Prod.mk.inj hres
        obtain ⟨aS, cS, rfl⟩ := own_form hown
        have h1I : ¬ (st.length : Int) = 1 := by omega
        have h1J : ((st.length : Int) != 1) = true := by simp; omega
        clear hres hown
        go_wp2_with fail
        exact bodyPost_ret (v := .tuple #[.int .i64 0, .int .i64 4]) (by simp [results, Try.results35, go_sem]) rfl ⟨rfl, HB.out⟩
      · rw [if_neg h1] at hres
        obtain ⟨x, rfl⟩ : ∃ x, st = [x] := List.length_eq_one_iff.1 (by omega)
        obtain ⟨g', cap', rfl, hcp, hcm, hcell⟩ := stk_one (r := []) stN_len hown
        have htop := hcell 0 (by decide)
        simp only [List.length_nil, Nat.zero_mul, Nat.add_zero] at htop
        replace htop : wr.cell? ⟨g', 0, none⟩ = some (.int .i64 (x : Int)) := htop
        clear hcell hown h1 hsum
        by_cases h4 : 4 < q
        · rw [if_pos h4] at hres
          obtain ⟨rfl, rfl⟩ := Prod.mk.inj hres
          have h4I : (4 : Int) < (q : Int) := by omega
          clear hres
          go_wp2_with fail
          exact bodyPost_ret (v := .tuple #[.int .i64 0, .int .i64 5]) (by simp [results, Try.results35, go_sem]) rfl ⟨rfl, HB.out⟩
        · rw [if_neg h4] at hres
          obtain ⟨hx, rfl⟩ := Prod.mk.inj hres
          have hx : x = d := hx
          subst hx
          have h4I : ¬ (4 : Int) < (q : Int) := by omega
          clear hres
          go_wp2_with fail
          exact bodyPost_ret (v := .tuple #[.int .i64 (x : Int), .int .i64 0]) (by simp [results, Try.results35, go_sem]) rfl ⟨rfl, HB.out⟩
end Go.Proofs.Ytjcgakmhpblanaa
namespace Go.Proofs.Ytjcgakmhpblanaa
open Go Go.RowKit
set_option linter.unusedVariables false

structure AskShape (G : World → Prop) : Prop where
  keep : ∀ {W W' : World}, G W → Below W.heap.size W W' → G W'
  check : ∀ (a : Option Addr) (len cap : Nat) (zs : List Opn) (cols : Int) (nx : Bool) (d : Nat) (e : Int) (W : World), OpA W a len zs → (∀ o ∈ zs, OkO o) → len ≤ 1000 → -9223372036854775808 ≤ cols ∧ cols ≤ 9223372036854775807 → checkB zs cols nx = (d, e) → G W →
    Calls Try.prog 79 #[.slice a len cap, .int .i64 cols, .bool nx] W fun E w' => E = .returned (.tuple #[.int .i64 (d : Int), .int .i64 e]) ∧ Below W.heap.size W w'
theorem opA_lit (W : World) (t : TypeId) (l : List Opn) (cs : Array Value) (h : cs.toList = flatO l) (hl : l.length ≤ 1000) : OpA (W.alloc (.cells cs t)) (some ⟨W.heap.size, 0, none⟩) l.length l := by
  refine ⟨rfl, by unfold maxLen; omega, fun k hk => ⟨W.heap.size, 0, rfl, ?_⟩⟩
  obtain ⟨f0, f1⟩ := flatO_at l k hk
  have e : ∀ j v, (flatO l)[j]? = some v → (W.alloc (.cells cs t)).cell? ⟨W.heap.size, j, none⟩ = some v := fun j v hv => by
    rw [← h] at hv
    have : cs[j]? = some v := by simpa using hv
    simp [go_sem, this]
  rw [Nat.zero_add]
  exact ⟨e _ _ f0, e _ _ f1⟩
abbrev opX : Opn := (1, 0)
abbrev opY : Opn := (2, 1)
abbrev opM : Opn := (6, 0)
theorem okX : ∀ o, o = opX ∨ o = opY ∨ o = opM → OkO o := by
  rintro o (rfl | rfl | rfl) <;> exact ⟨by decide, by unfold U; decide⟩
theorem tell1 : checkB [opX, opY, opM] 2 true = (2, 0) := by decide +kernel
theorem tell2 : checkB [opX, opY, opM] 2 false = (0, 3) := by decide +kernel
theorem tell3 : checkB [opX, opY] 2 true = (0, 4) := by decide +kernel
theorem tell4 : checkB [opM] 2 true = (0, 4) := by decide +kernel
theorem tell5 : checkB [opY] 1 true = (0, 3) := by decide +kernel
theorem tell6 : checkB [opX, opX, opM, opX, opM, opX, opM, opX, opM] 2 true = (0, 5) := by decide +kernel
theorem tell7 : checkB [] 2 true = (0, 4) := by decide +kernel
theorem opA_none (W : World) : OpA W none 0 [] := ⟨rfl, by unfold maxLen; omega, fun k hk => by omega⟩
end Go.Proofs.Ytjcgakmhpblanaa
namespace Go.Proofs.Ytjcgakmhpblanaa
open Go Go.RowKit
set_option linter.unusedVariables false

/-- la, lb: the loads; sc: the call; sb: the new element's array; sa: the append; sf: what is assigned. -/
structure StkOp (w W0 : World) (e : TypeId) (s la lb sc sb sa sf n : Nat) (xs z : List Value) (simple : List Nat) (val : Nat → Value) (D : Nat → Bool) (σ : Nat → Value) (W : World) : Prop where
  pre : D sa = false → Below W0.heap.size W0 W
  c1 : D sc = true → D la = true ∧ D lb = true
  c2 : D sb = true → D sc = true
  c3 : D sa = true → D sb = true
  li : D sa = false → D sb = true → ∃ g, σ sb = .slice (some ⟨g, 0, none⟩) 1 1 ∧ ∀ j u, z[j]? = some u → W.cell? ((⟨g, 0, none⟩ : Addr).add j) = some u
  post : D sa = true → W.ownsRow w.heap.size e s (σ sa) (n + 1) (xs ++ z) ∧ Below w.heap.size w W
  fin : D sf = true → D sa = true ∧ σ sf = σ sa
  sv : ∀ d, d ∈ simple → D d = true → σ d = val d
section
variable {w W0 : World} {e : TypeId} {s la lb sc sb sa sf n : Nat} {xs z : List Value} {simple : List Nat} {val : Nat → Value} {D : Nat → Bool} {σ : Nat → Value} {W : World}
theorem StkOp.start (hb : Below W0.heap.size W0 W) (σ : Nat → Value) : StkOp w W0 e s la lb sc sb sa sf n xs z simple val (fun _ => false) σ W :=
  ⟨fun _ => hb, fun h => absurd h Bool.false_ne_true, fun h => absurd h Bool.false_ne_true, fun h => absurd h Bool.false_ne_true, fun _ h => absurd h Bool.false_ne_true, fun h => absurd h Bool.false_ne_true, fun h => absurd h Bool.false_ne_true, fun _ _ h => absurd h Bool.false_ne_true⟩
theorem StkOp.openb (h : StkOp w W0 e s la lb sc sb sa sf n xs z simple val D σ W) (hd : D sb = false) : D sa = false := by
  cases c : D sa with
  | false => rfl
  | true => exact absurd (h.c3 c) (by simp [hd])
theorem StkOp.openc (h : StkOp w W0 e s la lb sc sb sa sf n xs z simple val D σ W) (hd : D sc = false) : D sb = false := by
  cases c : D sb with
  | false => rfl
  | true => exact absurd (h.c2 c) (by simp [hd])
theorem StkOp.opena (h : StkOp w W0 e s la lb sc sb sa sf n xs z simple val D σ W) (hd : D la = false) : D sa = false := by
  refine h.openb (h.openc ?_)
  cases c : D sc with
  | false => rfl
  | true => exact absurd (h.c1 c).1 (by simp [hd])
theorem StkOp.openl (h : StkOp w W0 e s la lb sc sb sa sf n xs z simple val D σ W) (hd : D lb = false) : D sa = false := by
  refine h.openb (h.openc ?_)
  cases c : D sc with
  | false => rfl
  | true => exact absurd (h.c1 c).2 (by simp [hd])
/-- An operation whose value is known, by new memory alone; neither the call nor one behind it. -/
theorem StkOp.next (h : StkOp w W0 e s la lb sc sb sa sf n xs z simple val D σ W) {d : Nat} {v : Value} {W' : World} (hb : Below W.heap.size W W') (h0 : d ≠ sc ∧ d ≠ sb ∧ d ≠ sa ∧ d ≠ sf) (hv : v = val d) :
    StkOp w W0 e s la lb sc sb sa sf n xs z simple val (fun k => if k = d then true else D k) (fun k => if k = d then v else σ k) W' := by
  obtain ⟨h1, h2, h3, h4⟩ := h0
  refine ⟨?_, ?_, ?_, ?_, ?_, ?_, ?_, ?_⟩
  · simp only [if_neg (Ne.symm h3)]; exact fun c => bthen (h.pre c) hb
  · simp only [if_neg (Ne.symm h1)]
    intro c
    obtain ⟨q1, q2⟩ := h.c1 c
    exact ⟨by simp [q1], by simp [q2]⟩
  · simp only [if_neg (Ne.symm h2), if_neg (Ne.symm h1)]; exact h.c2
  · simp only [if_neg (Ne.symm h3), if_neg (Ne.symm h2)]; exact h.c3
  · simp only [if_neg (Ne.symm h3), if_neg (Ne.symm h2)]
    intro c c'
    obtain ⟨g, q1, q2⟩ := h.li c c'
    exact ⟨g, q1, fun j u hu => bkeep hb (q2 j u hu)⟩
  · simp only [if_neg (Ne.symm h3)]
    intro c
    obtain ⟨q1, q2⟩ := h.post c
    exact ⟨own_keep q1 hb, bthen q2 hb⟩
  · simp only [if_neg (Ne.symm h4), if_neg (Ne.symm h3)]; exact h.fin
  · intro d' hd
    by_cases c : d' = d
    · subst c; intro _; simp only [if_pos]; exact hv
    · simp only [if_neg c]; exact h.sv d' hd
/-- The call. -/
theorem StkOp.call (h : StkOp w W0 e s la lb sc sb sa sf n xs z simple val D σ W) {v : Value} {W' : World} (hd : D sc = false) (ha : D la = true) (hl : D lb = true) (hb : Below W.heap.size W W') (h0 : sc ≠ la ∧ sc ≠ lb ∧ sc ≠ sb ∧ sc ≠ sa ∧ sc ≠ sf) (hv : v = val sc) :
    StkOp w W0 e s la lb sc sb sa sf n xs z simple val (fun k => if k = sc then true else D k) (fun k => if k = sc then v else σ k) W' := by
  obtain ⟨h1, h1', h2, h3, h4⟩ := h0
  have db := h.openc hd
  have da := h.openb db
  refine ⟨?_, ?_, ?_, ?_, ?_, ?_, ?_, ?_⟩
  · intro _; exact bthen (h.pre da) hb
  · simp only [if_neg (Ne.symm h1), if_neg (Ne.symm h1')]; exact fun _ => ⟨ha, hl⟩
  · intro _; simp
  · simp only [if_neg (Ne.symm h3), if_neg (Ne.symm h2)]; exact h.c3
  · simp only [if_neg (Ne.symm h2), db]; intro _ c; cases c
  · simp only [if_neg (Ne.symm h3), da]; intro c; cases c
  · simp only [if_neg (Ne.symm h4), if_neg (Ne.symm h3)]; exact h.fin
  · intro d' hd
    by_cases c : d' = sc
    · subst c; intro _; simp only [if_pos]; exact hv
    · simp only [if_neg c]; exact h.sv d' hd
/-- The new element's array. -/
theorem StkOp.build (h : StkOp w W0 e s la lb sc sb sa sf n xs z simple val D σ W) {W' : World} {g : Nat} (hd : D sb = false) (hc : D sc = true) (hb : Below W.heap.size W W') (h0 : sb ≠ la ∧ sb ≠ lb ∧ sb ≠ sc ∧ sb ≠ sa ∧ sb ≠ sf) (hs : sb ∉ simple)
    (hz : ∀ j u, z[j]? = some u → W'.cell? ((⟨g, 0, none⟩ : Addr).add j) = some u) :
    StkOp w W0 e s la lb sc sb sa sf n xs z simple val (fun k => if k = sb then true else D k) (fun k => if k = sb then .slice (some ⟨g, 0, none⟩) 1 1 else σ k) W' := by
  obtain ⟨h1, h1', h2, h3, h4⟩ := h0
  have da := h.openb hd
  refine ⟨?_, ?_, ?_, ?_, ?_, ?_, ?_, ?_⟩
  · intro _; exact bthen (h.pre da) hb
  · simp only [if_neg (Ne.symm h1), if_neg (Ne.symm h1'), if_neg (Ne.symm h2)]; exact h.c1
  · intro _; simp only [if_neg (Ne.symm h2)]; exact hc
  · intro _; simp
  · intro _ _; exact ⟨g, by simp, hz⟩
  · simp only [if_neg (Ne.symm h3), da]; intro c; cases c
  · simp only [if_neg (Ne.symm h4), if_neg (Ne.symm h3)]; exact h.fin
  · intro d' hd'
    have c : d' ≠ sb := fun c => hs (c ▸ hd')
    simp only [if_neg c]; exact h.sv d' hd'
/-- The append. -/
theorem StkOp.app (h : StkOp w W0 e s la lb sc sb sa sf n xs z simple val D σ W) {v' : Value} {W' : World} (hd : D sa = false) (hb : D sb = true) (h0 : sa ≠ la ∧ sa ≠ lb ∧ sa ≠ sc ∧ sa ≠ sb ∧ sa ≠ sf) (hs : sa ∉ simple)
    (hown : W'.ownsRow w.heap.size e s v' (n + 1) (xs ++ z)) (hB : Below w.heap.size w W') :
    StkOp w W0 e s la lb sc sb sa sf n xs z simple val (fun k => if k = sa then true else D k) (fun k => if k = sa then v' else σ k) W' := by
  obtain ⟨h1, h1', h2, h3, h4⟩ := h0
  refine ⟨?_, ?_, ?_, ?_, ?_, ?_, ?_, ?_⟩
  · intro c; simp at c
  · simp only [if_neg (Ne.symm h1), if_neg (Ne.symm h1'), if_neg (Ne.symm h2)]; exact h.c1
  · simp only [if_neg (Ne.symm h3), if_neg (Ne.symm h2)]; exact h.c2
  · intro _; simp only [if_neg (Ne.symm h3)]; exact hb
  · intro c; simp at c
  · intro _; simp only [if_pos]; exact ⟨hown, hB⟩
  · simp only [if_neg (Ne.symm h4), if_pos]
    intro c
    exact absurd (h.fin c).1 (by simp [hd])
  · intro d' hd'
    have c : d' ≠ sa := fun c => hs (c ▸ hd')
    simp only [if_neg c]; exact h.sv d' hd'
/-- What is assigned. -/
theorem StkOp.put (h : StkOp w W0 e s la lb sc sb sa sf n xs z simple val D σ W) (ha : D sa = true) (h0 : sf ≠ la ∧ sf ≠ lb ∧ sf ≠ sc ∧ sf ≠ sb ∧ sf ≠ sa) (hs : sf ∉ simple) :
    StkOp w W0 e s la lb sc sb sa sf n xs z simple val (fun k => if k = sf then true else D k) (fun k => if k = sf then σ sa else σ k) W := by
  obtain ⟨h1, h1', h2, h3, h4⟩ := h0
  refine ⟨?_, ?_, ?_, ?_, ?_, ?_, ?_, ?_⟩
  · simp only [if_neg (Ne.symm h4), ha]; intro c; cases c
  · simp only [if_neg (Ne.symm h1), if_neg (Ne.symm h1'), if_neg (Ne.symm h2)]; exact h.c1
  · simp only [if_neg (Ne.symm h3), if_neg (Ne.symm h2)]; exact h.c2
  · simp only [if_neg (Ne.symm h4), if_neg (Ne.symm h3)]; exact h.c3
  · simp only [if_neg (Ne.symm h4), ha]; intro c; cases c
  · simp only [if_neg (Ne.symm h4)]; exact h.post
  · intro _; simp only [if_neg (Ne.symm h4), if_pos]; exact ⟨ha, trivial⟩
  · intro d' hd'
    have c : d' ≠ sf := fun c => hs (c ▸ hd')
    simp only [if_neg c]; exact h.sv d' hd'
end
end Go.Proofs.Ytjcgakmhpblanaa
namespace Go.Proofs.Ytjcgakmhpblanaa
open Go Go.RowKit
set_option linter.unusedVariables false

structure StkX (w W0 : World) (e : TypeId) (s sx la lb sc sb sa sf n : Nat) (xs z : List Value) (simple : List Nat) (val : Nat → Value) (D : Nat → Bool) (σ : Nat → Value) (W : World) : Prop where
  o : StkOp w W0 e s la lb sc sb sa sf n xs z simple val D σ W
  x : D sc = true → D sx = true
section
variable {w W0 : World} {e : TypeId} {s sx la lb sc sb sa sf n : Nat} {xs z : List Value} {simple : List Nat} {val : Nat → Value} {D : Nat → Bool} {σ : Nat → Value} {W : World}
theorem StkX.start (hb : Below W0.heap.size W0 W) (σ : Nat → Value) : StkX w W0 e s sx la lb sc sb sa sf n xs z simple val (fun _ => false) σ W := ⟨StkOp.start hb σ, fun h => absurd h Bool.false_ne_true⟩
theorem StkX.openx (h : StkX w W0 e s sx la lb sc sb sa sf n xs z simple val D σ W) (hd : D sx = false) : D sa = false := by
  refine h.o.openb (h.o.openc ?_)
  cases c : D sc with
  | false => rfl
  | true => exact absurd (h.x c) (by simp [hd])
theorem StkX.next (h : StkX w W0 e s sx la lb sc sb sa sf n xs z simple val D σ W) {d : Nat} {v : Value} {W' : World} (hb : Below W.heap.size W W') (h0 : d ≠ sc ∧ d ≠ sb ∧ d ≠ sa ∧ d ≠ sf) (hv : v = val d) :
    StkX w W0 e s sx la lb sc sb sa sf n xs z simple val (fun k => if k = d then true else D k) (fun k => if k = d then v else σ k) W' :=
  ⟨h.o.next hb h0 hv, by simp only [if_neg (Ne.symm h0.1)]; intro c; simp [h.x c]⟩
theorem StkX.call (h : StkX w W0 e s sx la lb sc sb sa sf n xs z simple val D σ W) {v : Value} {W' : World} (hd : D sc = false) (hx : D sx = true) (ha : D la = true) (hl : D lb = true) (hb : Below W.heap.size W W') (h0 : sc ≠ la ∧ sc ≠ lb ∧ sc ≠ sb ∧ sc ≠ sa ∧ sc ≠ sf) (hv : v = val sc) :
    StkX w W0 e s sx la lb sc sb sa sf n xs z simple val (fun k => if k = sc then true else D k) (fun k => if k = sc then v else σ k) W' :=
  ⟨h.o.call hd ha hl hb h0 hv, fun _ => by simp [hx]⟩
theorem StkX.build (h : StkX w W0 e s sx la lb sc sb sa sf n xs z simple val D σ W) {W' : World} {g : Nat} (hd : D sb = false) (hc : D sc = true) (hb : Below W.heap.size W W') (h0 : sb ≠ la ∧ sb ≠ lb ∧ sb ≠ sc ∧ sb ≠ sa ∧ sb ≠ sf) (hs : sb ∉ simple)
    (hz : ∀ j u, z[j]? = some u → W'.cell? ((⟨g, 0, none⟩ : Addr).add j) = some u) :
    StkX w W0 e s sx la lb sc sb sa sf n xs z simple val (fun k => if k = sb then true else D k) (fun k => if k = sb then .slice (some ⟨g, 0, none⟩) 1 1 else σ k) W' :=
  ⟨h.o.build hd hc hb h0 hs hz, fun _ => by simp [h.x hc]⟩
theorem StkX.app (h : StkX w W0 e s sx la lb sc sb sa sf n xs z simple val D σ W) {v' : Value} {W' : World} (hd : D sa = false) (hb : D sb = true) (h0 : sa ≠ la ∧ sa ≠ lb ∧ sa ≠ sc ∧ sa ≠ sb ∧ sa ≠ sf) (hs : sa ∉ simple)
    (hown : W'.ownsRow w.heap.size e s v' (n + 1) (xs ++ z)) (hB : Below w.heap.size w W') :
    StkX w W0 e s sx la lb sc sb sa sf n xs z simple val (fun k => if k = sa then true else D k) (fun k => if k = sa then v' else σ k) W' :=
  ⟨h.o.app hd hb h0 hs hown hB, fun _ => by simp [h.x (h.o.c2 hb)]⟩
end
end Go.Proofs.Ytjcgakmhpblanaa
namespace Go.Proofs.Ytjcgakmhpblanaa
open Go Go.RowKit
set_option linter.unusedVariables false

theorem flatO_len2 (l : List Opn) : (flatO l).length = l.length * 2 := by
  induction l with
  | nil => rfl
  | cons o l ih => simp only [flatO, List.flatMap_cons, List.length_append, List.length_cons, List.length_nil] at *; omega
theorem flatO_one (l : List Opn) : ∀ u ∈ flatO l, u.oneCell' = true := by
  intro u hu
  obtain ⟨y, _, hy⟩ := List.mem_flatMap.1 hu
  simp at hy
  rcases hy with rfl | rfl <;> rfl
theorem opA_cells {W : World} {a : Option Addr} {n : Nat} {zs : List Opn} (h : OpA W a n zs) : ∀ ad, a = some ad → ∀ j u, (flatO zs)[j]? = some u → W.cell? (ad.add j) = some u := by
  rintro ad rfl j u hu
  obtain ⟨rfl, hm, hc⟩ := h
  have hj : j < zs.length * 2 := by
    have := (List.getElem?_eq_some_iff.1 hu).1
    rwa [flatO_len2] at this
  obtain ⟨b, off, e1, c0, c1⟩ := hc (j / 2) (by omega)
  cases e1
  obtain ⟨f0, f1⟩ := flatO_at zs (j / 2) (by omega)
  rw [Addr.add_mid]
  by_cases h2 : j % 2 = 0
  · have ej : j = j / 2 * 2 := by omega
    rw [ej] at hu ⊢
    rw [hu] at f0
    rw [c0, ← f0]
  · have ej : j = j / 2 * 2 + 1 := by omega
    rw [ej] at hu ⊢
    rw [hu] at f1
    rw [← Nat.add_assoc, c1, ← f1]
theorem opA_nil0 {W : World} {a : Option Addr} {n : Nat} {zs : List Opn} (h : OpA W a n zs) : a = none → n = 0 := by
  rintro rfl
  cases n with
  | zero => rfl
  | succ n => obtain ⟨b, off, e, _⟩ := h.2.2 0 (by omega); cases e
end Go.Proofs.Ytjcgakmhpblanaa
namespace Go.Proofs.Ytjcgakmhpblanaa
open Go Go.RowKit
set_option linter.unusedVariables false

def withinB (k n cols : Int) (nx : Bool) : Bool := if k = 1 then decide (n < cols) else if k = 2 then nx && decide (n < cols) else true
theorem hright_far {k n : Int} (h : rightO (k, n) = true) (hk : k = 1 ∨ k = 2) : n < 256 := by
  unfold rightO at h
  rcases hk with rfl | rfl <;> simpa using h
set_option maxHeartbeats 4000000 in
theorem hwithin_is (k n cols : Int) (nx r : Bool) (w : World) (hr : rightO (k, n) = true) (hn : 0 ≤ n) (hb : withinB k n cols nx = r) : Calls Try.prog 83 #[.agg #[.int .i64 k, .int .u64 n], .int .i64 cols, .bool nx] w fun e w' => e = .returned (.bool r) ∧ Below w.heap.size w w' := by
  have HR := Lib.hid hb
  have hf := fun h => @hright_far k n hr h
  have hcase : k = 1 ∨ k = 2 ∨ (¬ k = 1 ∧ ¬ k = 2) := by omega
  clear hb hr
  go_enter Try.func83, Try.ntmps83
  go_upto_region 1 with fail
  refine wp_gen (fun W => Below w.heap.size w W ∧ W.cell? ⟨w.heap.size, 0, none⟩ = some (.int .i64 k) ∧ W.cell? ⟨w.heap.size, 1, none⟩ = some (.int .u64 n)) ⟨(Below.refl _ _).alloc (Nat.le_refl _) _, by simp [go_sem], by simp [go_sem]⟩ ?_
  obtain ⟨g, hg⟩ : ∃ g, w.heap.size = g := ⟨_, rfl⟩
  rintro W1 ⟨hB, c0, c1⟩
  rw [hg] at c0 c1
  simp only [hg]
  have HB := Lib.hid hB
  clear hB hg
  rcases hcase with rfl | rfl | ⟨h1, h2⟩
  · have hw : IntKind.i64.wrap n = n := IntWalk.i64_in _ (by have := hf (.inl rfl); omega)
    clear hf
    go_wp2_with fail
    go_ret
    exact ⟨by rw [← HR.out]; simp [withinB], HB.out⟩
  · have hw : IntKind.i64.wrap n = n := IntWalk.i64_in _ (by have := hf (.inr rfl); omega)
    clear hf
    cases nx
    all_goals
      go_wp2_with fail
      go_ret
      exact ⟨by rw [← HR.out]; simp [withinB], HB.out⟩
  · clear hf
    go_wp2_with fail
    go_ret
    exact ⟨by rw [← HR.out]; simp [withinB, h1, h2], HB.out⟩
abbrev joinN (k : Int) (x y : Nat) : Nat := if k = 6 then x + y else max x y
set_option maxHeartbeats 4000000 in
theorem hjoined_is (k n : Int) (x y z : Nat) (w : World) (hb : x + y ≤ 512) (hz : joinN k x y = z) : Calls Try.prog 86 #[.agg #[.int .i64 k, .int .u64 n], .int .i64 (x : Int), .int .i64 (y : Int)] w fun e w' => e = .returned (.int .i64 (z : Int)) ∧ Below w.heap.size w w' := by
  obtain ⟨hs1, hs2⟩ := w_add x y hb
  have hs3 := max_nat x y
  have HZ := Lib.hid hz
  clear hz
  go_enter Try.func86, Try.ntmps86
  go_upto_region 1 with fail
  refine wp_gen (fun W => Below w.heap.size w W ∧ W.cell? ⟨w.heap.size, 0, none⟩ = some (.int .i64 k) ∧ W.cell? ⟨w.heap.size, 1, none⟩ = some (.int .u64 n)) ⟨(Below.refl _ _).alloc (Nat.le_refl _) _, by simp [go_sem], by simp [go_sem]⟩ ?_
  obtain ⟨g, hg⟩ : ∃ g, w.heap.size = g := ⟨_, rfl⟩
  rintro W1 ⟨hB, c0, c1⟩
  rw [hg] at c0 c1
  simp only [hg]
  have HB := Lib.hid hB
  clear hB hg
  have HZ6 := Lib.hid (fun h : k = 6 => show x + y = z by have := HZ.out; unfold joinN at this; rwa [if_pos h] at this)
  have HZ5 := Lib.hid (fun h : ¬ k = 6 => show max x y = z by have := HZ.out; unfold joinN at this; rwa [if_neg h] at this)
  by_cases h6 : k = 6
  · have e := HZ6.out h6
    rw [e] at hs1 hs2
    subst h6
    clear hs3 e
    go_wp2_with fail
    go_ret
    exact ⟨rfl, HB.out⟩
  · have e := HZ5.out h6
    rw [e] at hs3
    clear hs1 hs2 e
    go_wp2_with fail
    go_ret
    exact ⟨rfl, HB.out⟩
/-- What an operation that may be written does to the stack. -/
def goS (k : Int) (st : List Nat) : Option (List Nat) :=
  if k = 1 ∨ k = 2 then some (1 :: st) else if k = 3 then some (0 :: st) else match st with
    | y :: x :: r => some (joinN k x y :: r)
    | _ => none
theorem goS_col {k : Int} (h : k = 1 ∨ k = 2) (st : List Nat) : goS k st = some (1 :: st) := by unfold goS; rw [if_pos h]
theorem goS_const (st : List Nat) : goS 3 st = some (0 :: st) := rfl
theorem goS_few {k : Int} (h : ¬ (k = 1 ∨ k = 2)) (h3 : ¬ k = 3) {st : List Nat} (hs : st.length < 2) : goS k st = none := by
  unfold goS
  rw [if_neg h, if_neg h3]
  match st, hs with
  | [], _ => rfl
  | [_], _ => rfl
theorem goS_two {k : Int} (h : ¬ (k = 1 ∨ k = 2)) (h3 : ¬ k = 3) (y x : Nat) (r : List Nat) : goS k (y :: x :: r) = some (joinN k x y :: r) := by
  unfold goS
  rw [if_neg h, if_neg h3]
structure StpN (r M1 M2 : Nat) : Prop where
  a : IntKind.i64.wrap ((M2 : Int) - 2) = (r : Int)
  b : wrap64 ((M2 : Int) - 2) = (r : Int)
  c : IntKind.i64.wrap ((r : Int) + 1) = (M1 : Int)
  d : wrap64 ((r : Int) + 1) = (M1 : Int)
  e : (M1 : Int) < (M2 : Int)
  f : (r : Int) < (M2 : Int)
  g : (r : Int) ≤ (M2 : Int)
  h : (0 : Int) ≤ (M1 : Int)
  i : (0 : Int) ≤ (r : Int)
  j : ¬ (r : Int) < 0
theorem stp_nums (r M1 M2 : Nat) (h1 : r + 1 = M1) (h2 : r + 1 + 1 = M2) (hl : r + 1 + 1 ≤ 16) : StpN r M1 M2 where
  a := by rw [IntWalk.i64_in _ (by omega)]; omega
  b := by rw [IntWalk.wrap64_in _ (by omega)]; omega
  c := by rw [IntWalk.i64_in _ (by omega)]; omega
  d := by rw [IntWalk.wrap64_in _ (by omega)]; omega
  e := by omega
  f := by omega
  g := by omega
  h := by omega
  i := by omega
  j := by omega
def StepPost (w0 w : World) (st' : Option (List Nat)) (E : Ending) (w' : World) : Prop :=
  match st' with
  | none => E = .returned (.tuple #[.slice none 0 0, .bool false]) ∧ Below w0.heap.size w0 w'
  | some l => ∃ v', E = .returned (.tuple #[v', .bool (decide (l.length ≤ 16))]) ∧ w'.ownsRow w0.heap.size 3 1 v' l.length (stkV stN l) ∧ Below w0.heap.size w0 w'
def StpVal (gs m M1 M2 cs' x y z : Nat) (k n : Int) (sl : Nat) : Value :=
  match sl with
  | 29 => .slice (some ⟨gs, 0, none⟩) M2 cs'
  | 30 => .int .i64 (m : Int)
  | 31 => .slice (some ⟨gs, 0, none⟩) m cs'
  | 32 => .agg #[.int .i64 k, .int .u64 n]
  | 33 => .slice (some ⟨gs, 0, none⟩) M2 cs'
  | 34 => .int .i64 (m : Int)
  | 35 => .pointer (some ⟨gs, m, none⟩)
  | 36 => .int .i64 (x : Int)
  | 37 => .slice (some ⟨gs, 0, none⟩) M2 cs'
  | 38 => .int .i64 (m : Int)
  | 39 => .int .i64 (M1 : Int)
  | 40 => .pointer (some ⟨gs, M1, none⟩)
  | 41 => .int .i64 (y : Int)
  | _ => .int .i64 (z : Int)
set_option maxRecDepth 100000 in
set_option maxHeartbeats 8000000 in
theorem hstep_is (w0 : World) (v : Value) (st : List Nat) (k n : Int) (res : Option (List Nat)) (w : World) (hres : goS k st = res) (hk : 1 ≤ k ∧ k ≤ 6) (hs : st.length ≤ 16) (hsum : st.sum ≤ 500) (hown : w.ownsRow w0.heap.size 3 1 v st.length (stkV stN st)) (hB : Below w0.heap.size w0 w) :
    Calls Try.prog 84 #[v, .agg #[.int .i64 k, .int .u64 n]] w (StepPost w0 w res) := by
  obtain ⟨i0, hi, hz0, hz1, hz2⟩ := info_parts infoI
  obtain ⟨aS, cS, rfl⟩ := own_form hown
  have HO0 := Lib.hid hown; have HB0 := Lib.hid hB
  have hl0 := fun k hk => (hown.lt k hk).2
  have HL0 := Lib.hid hl0
  clear hown hB hl0
  go_enter Try.func84, Try.ntmps84
  go_upto_region 1 with fail
  refine wp_gen (fun W => Below w0.heap.size w0 W ∧ W.ownsRow w0.heap.size 3 1 (.slice aS st.length cS) st.length (stkV stN st) ∧ W.cell? ⟨w.heap.size, 0, none⟩ = some (.int .i64 k) ∧ W.cell? ⟨w.heap.size, 1, none⟩ = some (.int .u64 n)) ⟨HB0.out.alloc HB0.out.size _, HO0.out.alloc _, by simp [go_sem], by simp [go_sem]⟩ ?_
  obtain ⟨g, hg⟩ : ∃ g, w.heap.size = g := ⟨_, rfl⟩
  rintro W1 ⟨hB, hown, c0, c1⟩
  rw [hg] at c0 c1
  simp only [hg]
  have HB := Lib.hid hB; have HO := Lib.hid hown
  clear hB hown hg HB0 HO0 HL0
  by_cases hk1 : k = 1
  · subst hk1
    have e := (goS_col (.inl rfl) st).symm.trans hres
    subst e
    clear hres
    have hown := HO.out
    have hsz0 := HB.out.size
    obtain ⟨FL, hFL⟩ : ∃ fl, stkV stN st = fl := ⟨_, rfl⟩
    rw [hFL] at hown
    have HFL := Lib.hid hFL
    clear hFL HO
    go_upto_region 14 with (at_builtin; refine wpList_append_own _ rfl _ _ 75 rfl w0.heap.size 3 i0 (.int .i64 0) 1 8 Try.underlying75 hi hz0 hz1 hz2 rfl (by decide) _ _ _ rfl (hown.alloc _) ⟨W1.heap.size, 0, none⟩ 1 1 [.int .i64 1] rfl rfl (one_src (by simp [go_sem])) (by intro u hu; simp at hu; subst hu; rfl) (by unfold maxLen; omega) (by omega) (by first | omega | (simp; omega)) ?_)
    intro v' w3 hown' hgrow _
    have hb3 := own_row_below (hown.alloc (.cells #[.int .i64 1] 3)) (HB.out.alloc HB.out.size _) hgrow (Nat.le_refl _) (by simp; omega)
    have q3 : w3.ownsRow w0.heap.size 3 1 v' (st.length + 1) (stkV stN (1 :: st)) := by rw [stkV_cons, HFL.out]; exact hown'
    clear hown hown' hgrow hsz0
    have HB := Lib.hid hb3
    have HO := Lib.hid q3
    obtain ⟨aV, cV, hvf⟩ := own_form q3
    subst hvf
    clear hb3 q3
    obtain ⟨M, hM⟩ : ∃ M, (st).length + 1 = M := ⟨_, rfl⟩
    have HQ : Hid (decide ((1 :: st).length ≤ 16) = decide (M ≤ 16)) := Lib.hid (by rw [← hM]; rfl)
    rw [hM] at HO ⊢
    have HM := Lib.hid hM
    clear hM
    by_cases h16 : M ≤ 16
    · have h16I : (M : Int) ≤ 16 := by omega
      go_wp2_with fail
      exact bodyPost_ret (v := .tuple #[.slice aV M cV, .bool true]) (by simp [results, Try.results84, go_sem]) rfl ⟨_, by rw [HQ.out, decide_eq_true h16], (by rw [show (1 :: st).length = M from HM.out]; exact HO.out), HB.out⟩
    · have h16I : ¬ (M : Int) ≤ 16 := by omega
      go_wp2_with fail
      exact bodyPost_ret (v := .tuple #[.slice aV M cV, .bool false]) (by simp [results, Try.results84, go_sem]) rfl ⟨_, by rw [HQ.out, decide_eq_false h16], (by rw [show (1 :: st).length = M from HM.out]; exact HO.out), HB.out⟩
  by_cases hk2 : k = 2
  · subst hk2
    have e := (goS_col (.inr rfl) st).symm.trans hres
    subst e
    clear hres
    have hown := HO.out
    have hsz0 := HB.out.size
    obtain ⟨FL, hFL⟩ : ∃ fl, stkV stN st = fl := ⟨_, rfl⟩
    rw [hFL] at hown
    have HFL := Lib.hid hFL
    clear hFL HO
    go_upto_region 14 with (at_builtin; refine wpList_append_own _ rfl _ _ 75 rfl w0.heap.size 3 i0 (.int .i64 0) 1 8 Try.underlying75 hi hz0 hz1 hz2 rfl (by decide) _ _ _ rfl (hown.alloc _) ⟨W1.heap.size, 0, none⟩ 1 1 [.int .i64 1] rfl rfl (one_src (by simp [go_sem])) (by intro u hu; simp at hu; subst hu; rfl) (by unfold maxLen; omega) (by omega) (by first | omega | (simp; omega)) ?_)
    intro v' w3 hown' hgrow _
    have hb3 := own_row_below (hown.alloc (.cells #[.int .i64 1] 3)) (HB.out.alloc HB.out.size _) hgrow (Nat.le_refl _) (by simp; omega)
    have q3 : w3.ownsRow w0.heap.size 3 1 v' (st.length + 1) (stkV stN (1 :: st)) := by rw [stkV_cons, HFL.out]; exact hown'
    clear hown hown' hgrow hsz0
    have HB := Lib.hid hb3
    have HO := Lib.hid q3
    obtain ⟨aV, cV, hvf⟩ := own_form q3
    subst hvf
    clear hb3 q3
    obtain ⟨M, hM⟩ : ∃ M, (st).length + 1 = M := ⟨_, rfl⟩
    have HQ : Hid (decide ((1 :: st).length ≤ 16) = decide (M ≤ 16)) := Lib.hid (by rw [← hM]; rfl)
    rw [hM] at HO ⊢
    have HM := Lib.hid hM
    clear hM
    by_cases h16 : M ≤ 16
    · have h16I : (M : Int) ≤ 16 := by omega
      go_wp2_with fail
      exact bodyPost_ret (v := .tuple #[.slice aV M cV, .bool true]) (by simp [results, Try.results84, go_sem]) rfl ⟨_, by rw [HQ.out, decide_eq_true h16], (by rw [show (1 :: st).length = M from HM.out]; exact HO.out), HB.out⟩
    · have h16I : ¬ (M : Int) ≤ 16 := by omega
      go_wp2_with fail
      exact bodyPost_ret (v := .tuple #[.slice aV M cV, .bool false]) (by simp [results, Try.results84, go_sem]) rfl ⟨_, by rw [HQ.out, decide_eq_false h16], (by rw [show (1 :: st).length = M from HM.out]; exact HO.out), HB.out⟩
  by_cases hk3 : k = 3
  · subst hk3
    have e := (goS_const st).symm.trans hres
    subst e
    clear hres
    have hown := HO.out
    have hsz0 := HB.out.size
    obtain ⟨FL, hFL⟩ : ∃ fl, stkV stN st = fl := ⟨_, rfl⟩
    rw [hFL] at hown
    have HFL := Lib.hid hFL
    clear hFL HO
    go_upto_region 14 with (at_builtin; refine wpList_append_own _ rfl _ _ 75 rfl w0.heap.size 3 i0 (.int .i64 0) 1 8 Try.underlying75 hi hz0 hz1 hz2 rfl (by decide) _ _ _ rfl (hown.alloc _) ⟨W1.heap.size, 0, none⟩ 1 1 [.int .i64 0] rfl rfl (one_src (by simp [go_sem])) (by intro u hu; simp at hu; subst hu; rfl) (by unfold maxLen; omega) (by omega) (by first | omega | (simp; omega)) ?_)
    intro v' w3 hown' hgrow _
    have hb3 := own_row_below (hown.alloc (.cells #[.int .i64 0] 3)) (HB.out.alloc HB.out.size _) hgrow (Nat.le_refl _) (by simp; omega)
    have q3 : w3.ownsRow w0.heap.size 3 1 v' (st.length + 1) (stkV stN (0 :: st)) := by rw [stkV_cons, HFL.out]; exact hown'
    clear hown hown' hgrow hsz0
    have HB := Lib.hid hb3
    have HO := Lib.hid q3
    obtain ⟨aV, cV, hvf⟩ := own_form q3
    subst hvf
    clear hb3 q3
    obtain ⟨M, hM⟩ : ∃ M, (st).length + 1 = M := ⟨_, rfl⟩
    have HQ : Hid (decide ((0 :: st).length ≤ 16) = decide (M ≤ 16)) := Lib.hid (by rw [← hM]; rfl)
    rw [hM] at HO ⊢
    have HM := Lib.hid hM
    clear hM
    by_cases h16 : M ≤ 16
    · have h16I : (M : Int) ≤ 16 := by omega
      go_wp2_with fail
      exact bodyPost_ret (v := .tuple #[.slice aV M cV, .bool true]) (by simp [results, Try.results84, go_sem]) rfl ⟨_, by rw [HQ.out, decide_eq_true h16], (by rw [show (0 :: st).length = M from HM.out]; exact HO.out), HB.out⟩
    · have h16I : ¬ (M : Int) ≤ 16 := by omega
      go_wp2_with fail
      exact bodyPost_ret (v := .tuple #[.slice aV M cV, .bool false]) (by simp [results, Try.results84, go_sem]) rfl ⟨_, by rw [HQ.out, decide_eq_false h16], (by rw [show (0 :: st).length = M from HM.out]; exact HO.out), HB.out⟩
  by_cases hfew : st.length < 2
  · have e := (goS_few (by omega) hk3 hfew).symm.trans hres
    subst e
    clear hres
    have hv3 : IntKind.i64.wrap ((st.length : Int) - 2) = (st.length : Int) - 2 := IntWalk.i64_in _ (by omega)
    have hv4 : wrap64 ((st.length : Int) - 2) = (st.length : Int) - 2 := IntWalk.wrap64_in _ (by omega)
    have hfI : (st.length : Int) - 2 < 0 := by omega
    have hkd : k = 4 ∨ k = 5 ∨ k = 6 := by omega
    clear HO
    rcases hkd with rfl | rfl | rfl
    all_goals
      go_wp2_with fail
      exact bodyPost_ret (v := .tuple #[.slice none 0 0, .bool false]) (by simp [results, Try.results84, go_sem]) rfl ⟨rfl, HB.out⟩
  obtain ⟨y, x, r, rfl⟩ : ∃ y x r, st = y :: x :: r := by
    match st, hfew with
    | y :: x :: r, _ => exact ⟨y, x, r, rfl⟩
    | [_], h => exact absurd (by simp) h
    | [], h => exact absurd (by simp) h
  have hsr : y + (x + r.sum) ≤ 500 := by simpa using hsum
  have hlr : r.length + 1 + 1 ≤ 16 := by simpa using hs
  obtain ⟨z, hz⟩ : ∃ z, joinN k x y = z := ⟨_, rfl⟩
  have e := (goS_two (by omega) hk3 y x r).symm.trans hres
  rw [hz] at e
  subst e
  clear hres
  have kc := fun W => hjoined_is k n x y z W (by omega) hz
  obtain ⟨M2, hM2⟩ : ∃ M2, r.length + 1 + 1 = M2 := ⟨_, rfl⟩
  obtain ⟨M1, hM1⟩ : ∃ M1, r.length + 1 = M1 := ⟨_, rfl⟩
  have HN := Lib.hid (stp_nums r.length M1 M2 hM1 hM2 hlr)
  obtain ⟨gs, cs', hu8, hcs, hcsm, hcx, hcy, hcut⟩ := stk_two stN_len HO.out
  have hrM : r.length ≤ cs' := by omega
  rw [hM2] at hcs
  have hu8' : aS = some ⟨gs, 0, none⟩ ∧ cS = cs' := by
    have e := hu8
    simp only [List.length_cons] at e
    cases e
    exact ⟨rfl, rfl⟩
  obtain ⟨rfl, rfl⟩ := hu8'
  clear hu8
  simp only [List.length_cons, hM2] at HO ⊢
  replace hcx := hcx 0 (by decide); replace hcy := hcy 0 (by decide)
  simp only [Nat.mul_one, Nat.add_zero, hM1] at hcx hcy
  replace hcx : W1.cell? ⟨gs, r.length, none⟩ = some (.int .i64 (x : Int)) := hcx
  replace hcy : W1.cell? ⟨gs, M1, none⟩ = some (.int .i64 (y : Int)) := hcy
  have HCX := Lib.hid hcx; have HCY := Lib.hid hcy; have HCUT := Lib.hid hcut; have HC0 := Lib.hid c0; have HC1 := Lib.hid c1
  clear hcx hcy hcut HO hM1 hM2 hfew hsum hs hz hsr
  have hkd : k = 4 ∨ k = 5 ∨ k = 6 := by omega
  have hne : ¬ k = 1 ∧ ¬ k = 2 ∧ ¬ k = 3 := ⟨hk1, hk2, hk3⟩
  rcases hkd with rfl | rfl | rfl
  · obtain ⟨hv3, hv4, hv1, hv2, hl2, hl3, hl4, hl5, hl6, hl7⟩ := HN.out
    clear HN
    go_upto_region 13 with fail
    clear c0 c1
    have HBR := Lib.hid HB.out.size
    refine wp_lay [(29, []), (30, []), (31, [29, 30]), (32, []), (33, []), (34, []), (35, [33, 34]), (36, [35]), (37, []), (38, []), (39, [38]), (40, [37, 39]), (41, [40]), (42, [32, 36, 41]), (43, [42]), (44, [31, 43])]
      (StkX w0 W1 3 1 32 36 41 42 43 44 0 r.length (stkV stN r) [.int .i64 (z : Int)] [29, 30, 31, 32, 33, 34, 35, 36, 37, 38, 39, 40, 41, 42] (StpVal gs r.length M1 M2 cS x y z 4 n)) (by kernel_rfl) (by kernel_rfl) (fun σ => StkX.start (Below.refl _ _).drew σ) ?_ ?_
    · refine opsw_cons ?_ (opsw_cons ?_ (opsw_cons ?_ (opsw_cons ?_ (opsw_cons ?_ (opsw_cons ?_ (opsw_cons ?_ (opsw_cons ?_ (opsw_cons ?_ (opsw_cons ?_ (opsw_cons ?_ (opsw_cons ?_ (opsw_cons ?_ (opsw_cons ?_ (opsw_cons ?_ (opsw_cons ?_ opsw_nil)))))))))))))))
      all_goals
        refine OpRunsW.any ?_
        intro Q0 D σ W K hW hd hn hK
        simp only [fill, List.map, Act.put, List.setIfInBounds_toArray, List.set_cons_zero, List.set_cons_succ] at hK ⊢
      · have HW := Lib.hid hW
        clear hW
        go_simp
        exact hK _ _ (HW.out.next (Below.refl _ _) (by decide) rfl)
      · have HW := Lib.hid hW
        clear hW
        go_simp
        exact hK _ _ (HW.out.next (Below.refl _ _) (by decide) rfl)
      · have h29 : σ 29 = (.slice (some ⟨gs, 0, none⟩) M2 cS) := hW.o.sv 29 (by decide) (hn 29 (by decide))
        have h30 : σ 30 = (.int .i64 (r.length : Int)) := hW.o.sv 30 (by decide) (hn 30 (by decide))
        simp only [h29, h30] at hK
        have HW := Lib.hid hW
        clear hW
        go_simp
        exact hK _ _ (HW.out.next (Below.refl _ _) (by decide) rfl)
      · have hop := hW.openx hd
        have c0 := bkeep (hW.o.pre hop) HC0.out
        have c1 := bkeep (hW.o.pre hop) HC1.out
        have HW := Lib.hid hW
        clear hW hop
        go_simp
        exact hK _ _ (HW.out.next (Below.refl _ _) (by decide) rfl)
      · have HW := Lib.hid hW
        clear hW
        go_simp
        exact hK _ _ (HW.out.next (Below.refl _ _) (by decide) rfl)
      · have HW := Lib.hid hW
        clear hW
        go_simp
        exact hK _ _ (HW.out.next (Below.refl _ _) (by decide) rfl)
      · have h33 : σ 33 = (.slice (some ⟨gs, 0, none⟩) M2 cS) := hW.o.sv 33 (by decide) (hn 33 (by decide))
        have h34 : σ 34 = (.int .i64 (r.length : Int)) := hW.o.sv 34 (by decide) (hn 34 (by decide))
        simp only [h33, h34] at hK
        have HW := Lib.hid hW
        clear hW
        go_simp
        exact hK _ _ (HW.out.next (Below.refl _ _) (by decide) rfl)
      · have h35 : σ 35 = (.pointer (some ⟨gs, r.length, none⟩)) := hW.o.sv 35 (by decide) (hn 35 (by decide))
        simp only [h35] at hK
        have hop := hW.o.opena hd
        have c0 := bkeep (hW.o.pre hop) HCX.out
        have HW := Lib.hid hW
        clear hW
        go_simp
        exact hK _ _ (HW.out.next (Below.refl _ _) (by decide) rfl)
      · have HW := Lib.hid hW
        clear hW
        go_simp
        exact hK _ _ (HW.out.next (Below.refl _ _) (by decide) rfl)
      · have HW := Lib.hid hW
        clear hW
        go_simp
        exact hK _ _ (HW.out.next (Below.refl _ _) (by decide) rfl)
      · have h38 : σ 38 = (.int .i64 (r.length : Int)) := hW.o.sv 38 (by decide) (hn 38 (by decide))
        simp only [h38] at hK
        have HW := Lib.hid hW
        clear hW
        go_simp
        exact hK _ _ (HW.out.next (Below.refl _ _) (by decide) rfl)
      · have h37 : σ 37 = (.slice (some ⟨gs, 0, none⟩) M2 cS) := hW.o.sv 37 (by decide) (hn 37 (by decide))
        have h39 : σ 39 = (.int .i64 (M1 : Int)) := hW.o.sv 39 (by decide) (hn 39 (by decide))
        simp only [h37, h39] at hK
        have HW := Lib.hid hW
        clear hW
        go_simp
        exact hK _ _ (HW.out.next (Below.refl _ _) (by decide) rfl)
      · have h40 : σ 40 = (.pointer (some ⟨gs, M1, none⟩)) := hW.o.sv 40 (by decide) (hn 40 (by decide))
        simp only [h40] at hK
        have hop := hW.o.openl hd
        have c0 := bkeep (hW.o.pre hop) HCY.out
        have HW := Lib.hid hW
        clear hW
        go_simp
        exact hK _ _ (HW.out.next (Below.refl _ _) (by decide) rfl)
      · have h32 : σ 32 = (.agg #[.int .i64 4, .int .u64 n]) := hW.o.sv 32 (by decide) (hn 32 (by decide))
        have h36 : σ 36 = (.int .i64 (x : Int)) := hW.o.sv 36 (by decide) (hn 36 (by decide))
        have h41 : σ 41 = (.int .i64 (y : Int)) := hW.o.sv 41 (by decide) (hn 41 (by decide))
        simp only [h32, h36, h41] at hK
        have hA := And.intro (hn 32 (by decide)) (hn 36 (by decide))
        have hL := hn 41 (by decide)
        have HH := Lib.hid (And.intro hd (And.intro hA hL))
        have HW := Lib.hid hW
        clear hW hd hA hL
        go_simp
        go_at_call 86
        refine (kc _).mono ?_
        rintro e w2 ⟨rfl, hb⟩
        exact hK _ _ (HW.out.call HH.out.1 HH.out.2.1.1 HH.out.2.1.2 HH.out.2.2 hb (by decide) rfl)
      · have h42 : σ 42 = (.int .i64 (z : Int)) := hW.o.sv 42 (by decide) (hn 42 (by decide))
        simp only [h42] at hK
        have HH := Lib.hid (And.intro hd (hn 42 (by decide)))
        have HW := Lib.hid hW
        clear hW hd
        go_simp
        exact hK _ _ (HW.out.build HH.out.1 HH.out.2 ((Below.refl _ _).alloc (Nat.le_refl _) _) (by decide) (by decide) (one_src (by simp [go_sem])))
      · have hsb := hn 43 (by decide)
        obtain ⟨gl, hl, hcell⟩ := hW.o.li hd hsb
        have h31 : σ 31 = (.slice (some ⟨gs, 0, none⟩) r.length cS) := hW.o.sv 31 (by decide) (hn 31 (by decide))
        have hpre := hW.o.pre hd
        have hown := own_keep HCUT.out hpre
        have hBW := bthen HB.out hpre
        rw [if_pos (by rfl)]
        refine wp_append_at3 (.tmp 31) (.tmp 43) 75 (by rfl) w0.heap.size 3 i0 (.int .i64 0) 1 8 Try.underlying75 hi hz0 hz1 hz2 rfl (by decide) (.slice (some ⟨gs, 0, none⟩) r.length cS) r.length (stkV stN r) (by exact h31) hown (some ⟨gl, 0, none⟩) 1 1 [.int .i64 (z : Int)] (by exact hl) rfl (fun h => by cases h) (fun h => by cases h) (by rintro ad e; cases e; exact hcell) (by intro u hu; simp at hu; subst hu; rfl) (by unfold maxLen; omega) (by omega) hBW.size ?_
        intro v' w' q1 q2 q3
        exact hK _ _ (hW.app hd hsb (by decide) (by decide) q1 (own_row_below hown hBW q2 (Nat.le_refl _) hBW.size))
    · intro D σ W hW hD
      obtain ⟨hq1, hq2⟩ := hW.o.post (hD 44 (by decide))
      have q3 : W.ownsRow w0.heap.size 3 1 (σ 44) (r.length + 1) (stkV stN (z :: r)) := by rw [stkV_cons]; exact hq1
      have hb3 := hq2
      obtain ⟨s7, hs7⟩ : ∃ v, σ 44 = v := ⟨_, rfl⟩
      rw [hs7] at q3
      clear hW hD hq1 hq2 HCX HCY HCUT kc HC0 HC1
      simp only [fill, List.map, Act.put, List.setIfInBounds_toArray, List.set_cons_zero, List.set_cons_succ, List.length_cons, List.length_nil, List.drop_succ_cons, List.drop_zero, Nat.reduceAdd, hs7]
      clear hs7
      have HB := Lib.hid hb3
      have HO := Lib.hid q3
      obtain ⟨aV, cV, hvf⟩ := own_form q3
      subst hvf
      clear hb3 q3
      obtain ⟨M, hM⟩ : ∃ M, (r).length + 1 = M := ⟨_, rfl⟩
      have HQ : Hid (decide ((z :: r).length ≤ 16) = decide (M ≤ 16)) := Lib.hid (by rw [← hM]; rfl)
      rw [hM] at HO ⊢
      have HM := Lib.hid hM
      clear hM
      by_cases h16 : M ≤ 16
      · have h16I : (M : Int) ≤ 16 := by omega
        go_wp2_with fail
        exact bodyPost_ret (v := .tuple #[.slice aV M cV, .bool true]) (by simp [results, Try.results84, go_sem]) rfl ⟨_, by rw [HQ.out, decide_eq_true h16], (by rw [show (z :: r).length = M from HM.out]; exact HO.out), HB.out⟩
      · have h16I : ¬ (M : Int) ≤ 16 := by omega
        go_wp2_with fail
        exact bodyPost_ret (v := .tuple #[.slice aV M cV, .bool false]) (by simp [results, Try.results84, go_sem]) rfl ⟨_, by rw [HQ.out, decide_eq_false h16], (by rw [show (z :: r).length = M from HM.out]; exact HO.out), HB.out⟩
  · obtain ⟨hv3, hv4, hv1, hv2, hl2, hl3, hl4, hl5, hl6, hl7⟩ := HN.out
    clear HN
    go_upto_region 13 with fail
    clear c0 c1
    have HBR := Lib.hid HB.out.size
    refine wp_lay [(29, []), (30, []), (31, [29, 30]), (32, []), (33, []), (34, []), (35, [33, 34]), (36, [35]), (37, []), (38, []), (39, [38]), (40, [37, 39]), (41, [40]), (42, [32, 36, 41]), (43, [42]), (44, [31, 43])]
      (StkX w0 W1 3 1 32 36 41 42 43 44 0 r.length (stkV stN r) [.int .i64 (z : Int)] [29, 30, 31, 32, 33, 34, 35, 36, 37, 38, 39, 40, 41, 42] (StpVal gs r.length M1 M2 cS x y z 5 n)) (by kernel_rfl) (by kernel_rfl) (fun σ => StkX.start (Below.refl _ _).drew σ) ?_ ?_
    · refine opsw_cons ?_ (opsw_cons ?_ (opsw_cons ?_ (opsw_cons ?_ (opsw_cons ?_ (opsw_cons ?_ (opsw_cons ?_ (opsw_cons ?_ (opsw_cons ?_ (opsw_cons ?_ (opsw_cons ?_ (opsw_cons ?_ (opsw_cons ?_ (opsw_cons ?_ (opsw_cons ?_ (opsw_cons ?_ opsw_nil)))))))))))))))
      all_goals
        refine OpRunsW.any ?_
        intro Q0 D σ W K hW hd hn hK
        simp only [fill, List.map, Act.put, List.setIfInBounds_toArray, List.set_cons_zero, List.set_cons_succ] at hK ⊢
      · have HW := Lib.hid hW
        clear hW
        go_simp
        exact hK _ _ (HW.out.next (Below.refl _ _) (by decide) rfl)
      · have HW := Lib.hid hW
        clear hW
        go_simp
        exact hK _ _ (HW.out.next (Below.refl _ _) (by decide) rfl)
      · have h29 : σ 29 = (.slice (some ⟨gs, 0, none⟩) M2 cS) := hW.o.sv 29 (by decide) (hn 29 (by decide))
        have h30 : σ 30 = (.int .i64 (r.length : Int)) := hW.o.sv 30 (by decide) (hn 30 (by decide))
        simp only [h29, h30] at hK
        have HW := Lib.hid hW
        clear hW
        go_simp
        exact hK _ _ (HW.out.next (Below.refl _ _) (by decide) rfl)
      · have hop := hW.openx hd
        have c0 := bkeep (hW.o.pre hop) HC0.out
        have c1 := bkeep (hW.o.pre hop) HC1.out
        have HW := Lib.hid hW
        clear hW hop
        go_simp
        exact hK _ _ (HW.out.next (Below.refl _ _) (by decide) rfl)
      · have HW := Lib.hid hW
        clear hW
        go_simp
        exact hK _ _ (HW.out.next (Below.refl _ _) (by decide) rfl)
      · have HW := Lib.hid hW
        clear hW
        go_simp
        exact hK _ _ (HW.out.next (Below.refl _ _) (by decide) rfl)
      · have h33 : σ 33 = (.slice (some ⟨gs, 0, none⟩) M2 cS) := hW.o.sv 33 (by decide) (hn 33 (by decide))
        have h34 : σ 34 = (.int .i64 (r.length : Int)) := hW.o.sv 34 (by decide) (hn 34 (by decide))
        simp only [h33, h34] at hK
        have HW := Lib.hid hW
        clear hW
        go_simp
        exact hK _ _ (HW.out.next (Below.refl _ _) (by decide) rfl)
      · have h35 : σ 35 = (.pointer (some ⟨gs, r.length, none⟩)) := hW.o.sv 35 (by decide) (hn 35 (by decide))
        simp only [h35] at hK
        have hop := hW.o.opena hd
        have c0 := bkeep (hW.o.pre hop) HCX.out
        have HW := Lib.hid hW
        clear hW
        go_simp
        exact hK _ _ (HW.out.next (Below.refl _ _) (by decide) rfl)
      · have HW := Lib.hid hW
        clear hW
        go_simp
        exact hK _ _ (HW.out.next (Below.refl _ _) (by decide) rfl)
      · have HW := Lib.hid hW
        clear hW
        go_simp
        exact hK _ _ (HW.out.next (Below.refl _ _) (by decide) rfl)
      · have h38 : σ 38 = (.int .i64 (r.length : Int)) := hW.o.sv 38 (by decide) (hn 38 (by decide))
        simp only [h38] at hK
        have HW := Lib.hid hW
        clear hW
        go_simp
        exact hK _ _ (HW.out.next (Below.refl _ _) (by decide) rfl)
      · have h37 : σ 37 = (.slice (some ⟨gs, 0, none⟩) M2 cS) := hW.o.sv 37 (by decide) (hn 37 (by decide))
        have h39 : σ 39 = (.int .i64 (M1 : Int)) := hW.o.sv 39 (by decide) (hn 39 (by decide))
        simp only [h37, h39] at hK
        have HW := Lib.hid hW
        clear hW
        go_simp
        exact hK _ _ (HW.out.next (Below.refl _ _) (by decide) rfl)
      · have h40 : σ 40 = (.pointer (some ⟨gs, M1, none⟩)) := hW.o.sv 40 (by decide) (hn 40 (by decide))
        simp only [h40] at hK
        have hop := hW.o.openl hd
        have c0 := bkeep (hW.o.pre hop) HCY.out
        have HW := Lib.hid hW
        clear hW
        go_simp
        exact hK _ _ (HW.out.next (Below.refl _ _) (by decide) rfl)
      · have h32 : σ 32 = (.agg #[.int .i64 5, .int .u64 n]) := hW.o.sv 32 (by decide) (hn 32 (by decide))
        have h36 : σ 36 = (.int .i64 (x : Int)) := hW.o.sv 36 (by decide) (hn 36 (by decide))
        have h41 : σ 41 = (.int .i64 (y : Int)) := hW.o.sv 41 (by decide) (hn 41 (by decide))
        simp only [h32, h36, h41] at hK
        have hA := And.intro (hn 32 (by decide)) (hn 36 (by decide))
        have hL := hn 41 (by decide)
        have HH := Lib.hid (And.intro hd (And.intro hA hL))
        have HW := Lib.hid hW
        clear hW hd hA hL
        go_simp
        go_at_call 86
        refine (kc _).mono ?_
        rintro e w2 ⟨rfl, hb⟩
        exact hK _ _ (HW.out.call HH.out.1 HH.out.2.1.1 HH.out.2.1.2 HH.out.2.2 hb (by decide) rfl)
      · have h42 : σ 42 = (.int .i64 (z : Int)) := hW.o.sv 42 (by decide) (hn 42 (by decide))
        simp only [h42] at hK
        have HH := Lib.hid (And.intro hd (hn 42 (by decide)))
        have HW := Lib.hid hW
        clear hW hd
        go_simp
        exact hK _ _ (HW.out.build HH.out.1 HH.out.2 ((Below.refl _ _).alloc (Nat.le_refl _) _) (by decide) (by decide) (one_src (by simp [go_sem])))
      · have hsb := hn 43 (by decide)
        obtain ⟨gl, hl, hcell⟩ := hW.o.li hd hsb
        have h31 : σ 31 = (.slice (some ⟨gs, 0, none⟩) r.length cS) := hW.o.sv 31 (by decide) (hn 31 (by decide))
        have hpre := hW.o.pre hd
        have hown := own_keep HCUT.out hpre
        have hBW := bthen HB.out hpre
        rw [if_pos (by rfl)]
        refine wp_append_at3 (.tmp 31) (.tmp 43) 75 (by rfl) w0.heap.size 3 i0 (.int .i64 0) 1 8 Try.underlying75 hi hz0 hz1 hz2 rfl (by decide) (.slice (some ⟨gs, 0, none⟩) r.length cS) r.length (stkV stN r) (by exact h31) hown (some ⟨gl, 0, none⟩) 1 1 [.int .i64 (z : Int)] (by exact hl) rfl (fun h => by cases h) (fun h => by cases h) (by rintro ad e; cases e; exact hcell) (by intro u hu; simp at hu; subst hu; rfl) (by unfold maxLen; omega) (by omega) hBW.size ?_
        intro v' w' q1 q2 q3
        exact hK _ _ (hW.app hd hsb (by decide) (by decide) q1 (own_row_below hown hBW q2 (Nat.le_refl _) hBW.size))
    · intro D σ W hW hD
      obtain ⟨hq1, hq2⟩ := hW.o.post (hD 44 (by decide))
      have q3 : W.ownsRow w0.heap.size 3 1 (σ 44) (r.length + 1) (stkV stN (z :: r)) := by rw [stkV_cons]; exact hq1
      have hb3 := hq2
      obtain ⟨s7, hs7⟩ : ∃ v, σ 44 = v := ⟨_, rfl⟩
      rw [hs7] at q3
      clear hW hD hq1 hq2 HCX HCY HCUT kc HC0 HC1
      simp only [fill, List.map, Act.put, List.setIfInBounds_toArray, List.set_cons_zero, List.set_cons_succ, List.length_cons, List.length_nil, List.drop_succ_cons, List.drop_zero, Nat.reduceAdd, hs7]
      clear hs7
      have HB := Lib.hid hb3
      have HO := Lib.hid q3
      obtain ⟨aV, cV, hvf⟩ := own_form q3
      subst hvf
      clear hb3 q3
      obtain ⟨M, hM⟩ : ∃ M, (r).length + 1 = M := ⟨_, rfl⟩
      have HQ : Hid (decide ((z :: r).length ≤ 16) = decide (M ≤ 16)) := Lib.hid (by rw [← hM]; rfl)
      rw [hM] at HO ⊢
      have HM := Lib.hid hM
      clear hM
      by_cases h16 : M ≤ 16
      · have h16I : (M : Int) ≤ 16 := by omega
        go_wp2_with fail
        exact bodyPost_ret (v := .tuple #[.slice aV M cV, .bool true]) (by simp [results, Try.results84, go_sem]) rfl ⟨_, by rw [HQ.out, decide_eq_true h16], (by rw [show (z :: r).length = M from HM.out]; exact HO.out), HB.out⟩
      · have h16I : ¬ (M : Int) ≤ 16 := by omega
        go_wp2_with fail
        exact bodyPost_ret (v := .tuple #[.slice aV M cV, .bool false]) (by simp [results, Try.results84, go_sem]) rfl ⟨_, by rw [HQ.out, decide_eq_false h16], (by rw [show (z :: r).length = M from HM.out]; exact HO.out), HB.out⟩
  · obtain ⟨hv3, hv4, hv1, hv2, hl2, hl3, hl4, hl5, hl6, hl7⟩ := HN.out
    clear HN
    go_upto_region 13 with fail
    clear c0 c1
    have HBR := Lib.hid HB.out.size
    refine wp_lay [(29, []), (30, []), (31, [29, 30]), (32, []), (33, []), (34, []), (35, [33, 34]), (36, [35]), (37, []), (38, []), (39, [38]), (40, [37, 39]), (41, [40]), (42, [32, 36, 41]), (43, [42]), (44, [31, 43])]
      (StkX w0 W1 3 1 32 36 41 42 43 44 0 r.length (stkV stN r) [.int .i64 (z : Int)] [29, 30, 31, 32, 33, 34, 35, 36, 37, 38, 39, 40, 41, 42] (StpVal gs r.length M1 M2 cS x y z 6 n)) (by kernel_rfl) (by kernel_rfl) (fun σ => StkX.start (Below.refl _ _).drew σ) ?_ ?_
    · refine opsw_cons ?_ (opsw_cons ?_ (opsw_cons ?_ (opsw_cons ?_ (opsw_cons ?_ (opsw_cons ?_ (opsw_cons ?_ (opsw_cons ?_ (opsw_cons ?_ (opsw_cons ?_ (opsw_cons ?_ (opsw_cons ?_ (opsw_cons ?_ (opsw_cons ?_ (opsw_cons ?_ (opsw_cons ?_ opsw_nil)))))))))))))))
      all_goals
        refine OpRunsW.any ?_
        intro Q0 D σ W K hW hd hn hK
        simp only [fill, List.map, Act.put, List.setIfInBounds_toArray, List.set_cons_zero, List.set_cons_succ] at hK ⊢
      · have HW := Lib.hid hW
        clear hW
        go_simp
        exact hK _ _ (HW.out.next (Below.refl _ _) (by decide) rfl)
      · have HW := Lib.hid hW
        clear hW
        go_simp
        exact hK _ _ (HW.out.next (Below.refl _ _) (by decide) rfl)
      · have h29 : σ 29 = (.slice (some ⟨gs, 0, none⟩) M2 cS) := hW.o.sv 29 (by decide) (hn 29 (by decide))
        have h30 : σ 30 = (.int .i64 (r.length : Int)) := hW.o.sv 30 (by decide) (hn 30 (by decide))
        simp only [h29, h30] at hK
        have HW := Lib.hid hW
        clear hW
        go_simp
        exact hK _ _ (HW.out.next (Below.refl _ _) (by decide) rfl)
      · have hop := hW.openx hd
        have c0 := bkeep (hW.o.pre hop) HC0.out
        have c1 := bkeep (hW.o.pre hop) HC1.out
        have HW := Lib.hid hW
        clear hW hop
        go_simp
        exact hK _ _ (HW.out.next (Below.refl _ _) (by decide) rfl)
      · have HW := Lib.hid hW
        clear hW
        go_simp
        exact hK _ _ (HW.out.next (Below.refl _ _) (by decide) rfl)
      · have HW := Lib.hid hW
        clear hW
        go_simp
        exact hK _ _ (HW.out.next (Below.refl _ _) (by decide) rfl)
      · have h33 : σ 33 = (.slice (some ⟨gs, 0, none⟩) M2 cS) := hW.o.sv 33 (by decide) (hn 33 (by decide))
        have h34 : σ 34 = (.int .i64 (r.length : Int)) := hW.o.sv 34 (by decide) (hn 34 (by decide))
        simp only [h33, h34] at hK
        have HW := Lib.hid hW
        clear hW
        go_simp
        exact hK _ _ (HW.out.next (Below.refl _ _) (by decide) rfl)
      · have h35 : σ 35 = (.pointer (some ⟨gs, r.length, none⟩)) := hW.o.sv 35 (by decide) (hn 35 (by decide))
        simp only [h35] at hK
        have hop := hW.o.opena hd
        have c0 := bkeep (hW.o.pre hop) HCX.out
        have HW := Lib.hid hW
        clear hW
        go_simp
        exact hK _ _ (HW.out.next (Below.refl _ _) (by decide) rfl)
      · have HW := Lib.hid hW
        clear hW
        go_simp
        exact hK _ _ (HW.out.next (Below.refl _ _) (by decide) rfl)
      · have HW := Lib.hid hW
        clear hW
        go_simp
        exact hK _ _ (HW.out.next (Below.refl _ _) (by decide) rfl)
      · have h38 : σ 38 = (.int .i64 (r.length : Int)) := hW.o.sv 38 (by decide) (hn 38 (by decide))
        simp only [h38] at hK
        have HW := Lib.hid hW
        clear hW
        go_simp
        exact hK _ _ (HW.out.next (Below.refl _ _) (by decide) rfl)
      · have h37 : σ 37 = (.slice (some ⟨gs, 0, none⟩) M2 cS) := hW.o.sv 37 (by decide) (hn 37 (by decide))
        have h39 : σ 39 = (.int .i64 (M1 : Int)) := hW.o.sv 39 (by decide) (hn 39 (by decide))
        simp only [h37, h39] at hK
        have HW := Lib.hid hW
        clear hW
        go_simp
        exact hK _ _ (HW.out.next (Below.refl _ _) (by decide) rfl)
      · have h40 : σ 40 = (.pointer (some ⟨gs, M1, none⟩)) := hW.o.sv 40 (by decide) (hn 40 (by decide))
        simp only [h40] at hK
        have hop := hW.o.openl hd
        have c0 := bkeep (hW.o.pre hop) HCY.out
        have HW := Lib.hid hW
        clear hW
        go_simp
        exact hK _ _ (HW.out.next (Below.refl _ _) (by decide) rfl)
      · have h32 : σ 32 = (.agg #[.int .i64 6, .int .u64 n]) := hW.o.sv 32 (by decide) (hn 32 (by decide))
        have h36 : σ 36 = (.int .i64 (x : Int)) := hW.o.sv 36 (by decide) (hn 36 (by decide))
        have h41 : σ 41 = (.int .i64 (y : Int)) := hW.o.sv 41 (by decide) (hn 41 (by decide))
        simp only [h32, h36, h41] at hK
        have hA := And.intro (hn 32 (by decide)) (hn 36 (by decide))
        have hL := hn 41 (by decide)
        have HH := Lib.hid (And.intro hd (And.intro hA hL))
        have HW := Lib.hid hW
        clear hW hd hA hL
        go_simp
        go_at_call 86
        refine (kc _).mono ?_
        rintro e w2 ⟨rfl, hb⟩
        exact hK _ _ (HW.out.call HH.out.1 HH.out.2.1.1 HH.out.2.1.2 HH.out.2.2 hb (by decide) rfl)
      · have h42 : σ 42 = (.int .i64 (z : Int)) := hW.o.sv 42 (by decide) (hn 42 (by decide))
        simp only [h42] at hK
        have HH := Lib.hid (And.intro hd (hn 42 (by decide)))
        have HW := Lib.hid hW
        clear hW hd
        go_simp
        exact hK _ _ (HW.out.build HH.out.1 HH.out.2 ((Below.refl _ _).alloc (Nat.le_refl _) _) (by decide) (by decide) (one_src (by simp [go_sem])))
      · have hsb := hn 43 (by decide)
        obtain ⟨gl, hl, hcell⟩ := hW.o.li hd hsb
        have h31 : σ 31 = (.slice (some ⟨gs, 0, none⟩) r.length cS) := hW.o.sv 31 (by decide) (hn 31 (by decide))
        have hpre := hW.o.pre hd
        have hown := own_keep HCUT.out hpre
        have hBW := bthen HB.out hpre
        rw [if_pos (by rfl)]
        refine wp_append_at3 (.tmp 31) (.tmp 43) 75 (by rfl) w0.heap.size 3 i0 (.int .i64 0) 1 8 Try.underlying75 hi hz0 hz1 hz2 rfl (by decide) (.slice (some ⟨gs, 0, none⟩) r.length cS) r.length (stkV stN r) (by exact h31) hown (some ⟨gl, 0, none⟩) 1 1 [.int .i64 (z : Int)] (by exact hl) rfl (fun h => by cases h) (fun h => by cases h) (by rintro ad e; cases e; exact hcell) (by intro u hu; simp at hu; subst hu; rfl) (by unfold maxLen; omega) (by omega) hBW.size ?_
        intro v' w' q1 q2 q3
        exact hK _ _ (hW.app hd hsb (by decide) (by decide) q1 (own_row_below hown hBW q2 (Nat.le_refl _) hBW.size))
    · intro D σ W hW hD
      obtain ⟨hq1, hq2⟩ := hW.o.post (hD 44 (by decide))
      have q3 : W.ownsRow w0.heap.size 3 1 (σ 44) (r.length + 1) (stkV stN (z :: r)) := by rw [stkV_cons]; exact hq1
      have hb3 := hq2
      obtain ⟨s7, hs7⟩ : ∃ v, σ 44 = v := ⟨_, rfl⟩
      rw [hs7] at q3
      clear hW hD hq1 hq2 HCX HCY HCUT kc HC0 HC1
      simp only [fill, List.map, Act.put, List.setIfInBounds_toArray, List.set_cons_zero, List.set_cons_succ, List.length_cons, List.length_nil, List.drop_succ_cons, List.drop_zero, Nat.reduceAdd, hs7]
      clear hs7
      have HB := Lib.hid hb3
      have HO := Lib.hid q3
      obtain ⟨aV, cV, hvf⟩ := own_form q3
      subst hvf
      clear hb3 q3
      obtain ⟨M, hM⟩ : ∃ M, (r).length + 1 = M := ⟨_, rfl⟩
      have HQ : Hid (decide ((z :: r).length ≤ 16) = decide (M ≤ 16)) := Lib.hid (by rw [← hM]; rfl)
      rw [hM] at HO ⊢
      have HM := Lib.hid hM
      clear hM
      by_cases h16 : M ≤ 16
      · have h16I : (M : Int) ≤ 16 := by omega
        go_wp2_with fail
        exact bodyPost_ret (v := .tuple #[.slice aV M cV, .bool true]) (by simp [results, Try.results84, go_sem]) rfl ⟨_, by rw [HQ.out, decide_eq_true h16], (by rw [show (z :: r).length = M from HM.out]; exact HO.out), HB.out⟩
      · have h16I : ¬ (M : Int) ≤ 16 := by omega
        go_wp2_with fail
        exact bodyPost_ret (v := .tuple #[.slice aV M cV, .bool false]) (by simp [results, Try.results84, go_sem]) rfl ⟨_, by rw [HQ.out, decide_eq_false h16], (by rw [show (z :: r).length = M from HM.out]; exact HO.out), HB.out⟩
theorem hstep_none (w0 : World) (v : Value) (st : List Nat) (k n : Int) (w : World) (hres : goS k st = none) (hk : 1 ≤ k ∧ k ≤ 6) (hs : st.length ≤ 16) (hsum : st.sum ≤ 500) (hown : w.ownsRow w0.heap.size 3 1 v st.length (stkV stN st)) (hB : Below w0.heap.size w0 w) :
    Calls Try.prog 84 #[v, .agg #[.int .i64 k, .int .u64 n]] w fun E w' => E = .returned (.tuple #[.slice none 0 0, .bool false]) ∧ Below w0.heap.size w0 w' :=
  hstep_is w0 v st k n none w hres hk hs hsum hown hB
theorem hstep_some (w0 : World) (v : Value) (st l : List Nat) (k n : Int) (q : Bool) (w : World) (hres : goS k st = some l) (hq : decide (l.length ≤ 16) = q) (hk : 1 ≤ k ∧ k ≤ 6) (hs : st.length ≤ 16) (hsum : st.sum ≤ 500) (hown : w.ownsRow w0.heap.size 3 1 v st.length (stkV stN st)) (hB : Below w0.heap.size w0 w) :
    Calls Try.prog 84 #[v, .agg #[.int .i64 k, .int .u64 n]] w fun E w' => ∃ a c, E = .returned (.tuple #[.slice a l.length c, .bool q]) ∧ w'.ownsRow w0.heap.size 3 1 (.slice a l.length c) l.length (stkV stN l) ∧ Below w0.heap.size w0 w' :=
  (hstep_is w0 v st k n (some l) w hres hk hs hsum hown hB).mono fun e w' ⟨v', h1, h2, h3⟩ => by
    obtain ⟨a, c, hv⟩ := own_form h2
    subst hv
    exact ⟨a, c, by rw [h1, hq], h2, h3⟩
theorem within_bad {k n cols : Int} {nx : Bool} (hr : rightO (k, n) = true) (hw : withinB k n cols nx = false) (st : List Nat) : pushS cols nx (k, n) st = (3, st) := by
  unfold withinB at hw
  by_cases h1 : k = 1
  · subst h1
    rw [if_pos rfl] at hw
    exact push_far hr (by simp) (.inl rfl) (by simpa using hw)
  · rw [if_neg h1] at hw
    by_cases h2 : k = 2
    · subst h2
      rw [if_pos rfl] at hw
      cases nx with
      | false => exact push_bad (.inr ⟨rfl, rfl⟩)
      | true => exact push_far hr (by simp) (.inr rfl) (by simpa using hw)
    · rw [if_neg h2] at hw; cases hw
theorem within_some {k n cols : Int} {nx : Bool} {st l : List Nat} (hr : rightO (k, n) = true) (hw : withinB k n cols nx = true) (hg : goS k st = some l) : pushS cols nx (k, n) st = (0, l) := by
  unfold withinB at hw
  unfold goS at hg
  by_cases h1 : k = 1
  · subst h1
    rw [if_pos rfl] at hw
    rw [if_pos (.inl rfl)] at hg
    cases hg
    exact push_col hr (by simp) (.inl rfl) (by simpa using hw)
  · by_cases h2 : k = 2
    · subst h2
      rw [if_neg h1, if_pos rfl] at hw
      rw [if_pos (.inr rfl)] at hg
      cases hg
      simp at hw
      exact push_col hr (by simp [hw.1]) (.inr rfl) hw.2
    · rw [if_neg (by simp [h1, h2])] at hg
      by_cases h3 : k = 3
      · rw [if_pos h3] at hg
        cases hg
        exact push_const hr h3
      · rw [if_neg h3] at hg
        match st, hg with
        | y :: x :: r, hg =>
          cases hg
          exact push_two hr (by simp [h1, h2]) h3
theorem within_none {k n cols : Int} {nx : Bool} {st : List Nat} (hr : rightO (k, n) = true) (hg : goS k st = none) : pushS cols nx (k, n) st = (4, st) := by
  unfold goS at hg
  by_cases h1 : k = 1 ∨ k = 2
  · rw [if_pos h1] at hg; cases hg
  · rw [if_neg h1] at hg
    by_cases h3 : k = 3
    · rw [if_pos h3] at hg; cases hg
    · rw [if_neg h3] at hg
      match st, hg with
      | [], _ => exact push_few hr h1 h3 (by simp)
      | [_], _ => exact push_few hr h1 h3 (by simp)
def maxL (st : List Nat) : Nat := st.foldr max 0
theorem maxL_cons (x : Nat) (st : List Nat) : maxL (x :: st) = max x (maxL st) := rfl
theorem maxL_go {k : Int} {st l : List Nat} (hg : goS k st = some l) : max (maxL st) (topS l) = maxL l := by
  unfold goS at hg
  split at hg
  · cases hg; rw [maxL_cons]; show max (maxL st) 1 = _; omega
  · split at hg
    · cases hg; rw [maxL_cons]; show max (maxL st) 0 = _; omega
    · match st, hg with
      | y :: x :: r, hg =>
        cases hg
        rw [maxL_cons, maxL_cons, maxL_cons]
        show max (max y (max x (maxL r))) (joinN k x y) = _
        unfold joinN
        split <;> omega
def ChkRelP (w : World) (zs : List Opn) (cols : Int) (nx : Bool) (D : Nat × Int) (v i : Value) (W : World) : Prop :=
  ∃ (k : Nat) (st : List Nat), k ≤ zs.length ∧ i = .int .i64 k ∧ Below w.heap.size w W ∧ W.ownsRow w.heap.size 3 1 v st.length (stkV stN st) ∧ st.length ≤ 16 ∧ st.sum ≤ k ∧ tellS cols nx (zs.drop k) st (maxL st) = D
set_option maxRecDepth 100000 in
set_option maxHeartbeats 8000000 in
theorem hcheck_is (a : Option Addr) (cap : Nat) (zs : List Opn) (cols : Int) (nx : Bool) (d : Nat) (e : Int) (w : World) (hO : OpA w a zs.length zs) (hu : ∀ o ∈ zs, OkO o) (hz : checkB zs cols nx = (d, e)) :
    Calls Try.prog 79 #[.slice a zs.length cap, .int .i64 cols, .bool nx] w fun E w' => E = .returned (.tuple #[.int .i64 (d : Int), .int .i64 e]) ∧ Below w.heap.size w w' := by
  have hmax := hO.2.1
  unfold maxLen at hmax
  have HC := Lib.hid hO.2.2
  have HU := Lib.hid hu
  clear hO hu
  unfold checkB at hz
  by_cases hbig : 256 < zs.length
  · rw [if_pos hbig] at hz
    obtain ⟨rfl, rfl⟩ := Prod.mk.inj hz
    have hbI : (256 : Int) < (zs.length : Int) := by omega
    clear hz
    go_enter Try.func79, Try.ntmps79
    go_wp2
    exact bodyPost_ret (v := .tuple #[.int .i64 0, .int .i64 6]) (by simp [results, Try.results79, go_sem]) rfl ⟨rfl, Below.refl _ _⟩
  rw [if_neg hbig] at hz
  have HZ := Lib.hid hz
  have hbI : ¬ (256 : Int) < (zs.length : Int) := by omega
  have hlen : zs.length ≤ 256 := by omega
  clear hz hbig hmax
  go_enter Try.func79, Try.ntmps79
  go_upto_region 5 with fail
  go_loopw [8, 17] (ChkRelP w zs cols nx (d, e)) (fun _ i _ => zs.length - (intOf i).toNat)
  case atStart => exact ⟨0, [], Nat.zero_le _, rfl, Below.refl _ _, World.ownsRow_nil _ _ _ _, by simp, by simp, by rw [List.drop_zero]; exact HZ.out⟩
  case round =>
    clear HZ hbI
    obtain ⟨k, st, hk, rfl, hB, hown, hst, hsum, hres⟩ := hrel
    by_cases hlt : k < zs.length
    · have hlt' : (k : Int) < (zs.length : Int) := by omega
      have hk0 : (0 : Int) ≤ (k : Int) := by omega
      rw [drop_at hlt] at hres
      have hok : OkO (zs.getD k (0, 0)) := by
        have e : zs.getD k (0, 0) = zs[k] := by simp [List.getD, hlt]
        rw [e]
        exact HU.out _ (List.getElem_mem hlt)
      obtain ⟨b, off, rfl, u0, u1⟩ := HC.out k hlt
      replace u0 := bkeep hB u0; replace u1 := bkeep hB u1
      obtain ⟨rest, hrest⟩ : ∃ r, zs.drop (k + 1) = r := ⟨_, rfl⟩
      rw [hrest] at hres
      have HREST := Lib.hid hrest
      clear hrest
      generalize zs.getD k (0, 0) = o at *
      obtain ⟨kd, nn⟩ := o
      dsimp only at u0 u1
      have HB := Lib.hid hB; have HO := Lib.hid hown; have HRES := Lib.hid hres
      obtain ⟨aS, cS, hv⟩ := own_form hown
      subst hv
      clear hB hown hres
      go_upto_region 7 with fail
      obtain ⟨g6, hg6⟩ : ∃ g, wr.heap.size = g := ⟨_, rfl⟩
      refine wp_gen (fun W => Below w.heap.size w W ∧ W.ownsRow w.heap.size 3 1 (.slice aS st.length cS) st.length (stkV stN st) ∧ W.cell? ⟨wr.heap.size, 0, none⟩ = some (.int .i64 kd) ∧ W.cell? ⟨wr.heap.size, 1, none⟩ = some (.int .u64 nn)) ⟨HB.out.alloc HB.out.size _, HO.out.alloc _, by simp [go_sem], by simp [go_sem]⟩ ?_
      rw [hg6]
      rintro W1 ⟨hB, hown, c0, c1⟩
      have HB := Lib.hid hB; have HO := Lib.hid hown
      clear hB hown hg6 u0 u1
      have kr := fun r h => kright_is kd nn r (w := W1) hok h
      by_cases hr : rightO (kd, nn) = false
      · have hD := (tell_err (l := rest) (wo := maxL st) (push_bad (cols := cols) (nx := nx) (st := st) (.inl hr)) (by decide)).symm.trans HRES.out
        obtain ⟨rfl, rfl⟩ := Prod.mk.inj hD
        clear hD HRES
        go_wp2_with (go_at_call 82; (with_reducible refine (kr false hr).mono ?_); rintro e w2 ⟨rfl, hb⟩; replace HB := Lib.hid (bthen HB.out hb); replace HO := Lib.hid (own_keep HO.out hb); replace c0 := bkeep hb c0; replace c1 := bkeep hb c1; clear hb)
        exact bodyPost_ret (v := .tuple #[.int .i64 0, .int .i64 3]) (by simp [results, Try.results79, go_sem]) rfl ⟨rfl, HB.out⟩
      have hrt : rightO (kd, nn) = true := by simpa using hr
      have hk := right_kind hrt
      dsimp only at hk
      have hn0 : 0 ≤ nn := hok.2.1
      have hk6 : 1 ≤ kd ∧ kd ≤ 6 := by omega
      obtain ⟨q, hq⟩ : ∃ q, withinB kd nn cols nx = q := ⟨_, rfl⟩
      have kw := fun W => hwithin_is kd nn cols nx q W hrt hn0 hq
      cases q with
      | false =>
        have hD := (tell_err (l := rest) (wo := maxL st) (within_bad hrt hq st) (by decide)).symm.trans HRES.out
        obtain ⟨rfl, rfl⟩ := Prod.mk.inj hD
        clear hD HRES hq
        go_wp2_with (first | (go_at_call 82; (with_reducible refine (kr true hrt).mono ?_); rintro e w2 ⟨rfl, hb⟩; replace HB := Lib.hid (bthen HB.out hb); replace HO := Lib.hid (own_keep HO.out hb); replace c0 := bkeep hb c0; replace c1 := bkeep hb c1; clear hb) | (go_at_call 83; (with_reducible refine (kw _).mono ?_); rintro e w2 ⟨rfl, hb⟩; replace HB := Lib.hid (bthen HB.out hb); replace HO := Lib.hid (own_keep HO.out hb); replace c0 := bkeep hb c0; replace c1 := bkeep hb c1; clear hb))
        exact bodyPost_ret (v := .tuple #[.int .i64 0, .int .i64 3]) (by simp [results, Try.results79, go_sem]) rfl ⟨rfl, HB.out⟩
      | true =>
        have hsum5 : st.sum ≤ 500 := by omega
        cases hgo : goS kd st with
        | none =>
          have hD := (tell_err (l := rest) (wo := maxL st) (within_none (cols := cols) (nx := nx) hrt hgo) (by decide)).symm.trans HRES.out
          obtain ⟨rfl, rfl⟩ := Prod.mk.inj hD
          have ks := fun W hO hB => hstep_none w (.slice aS st.length cS) st kd nn W hgo hk6 hst hsum5 hO hB
          clear hD HRES hq hgo
          go_wp2_with (first | (go_at_call 82; (with_reducible refine (kr true hrt).mono ?_); rintro e w2 ⟨rfl, hb⟩; replace HB := Lib.hid (bthen HB.out hb); replace HO := Lib.hid (own_keep HO.out hb); replace c0 := bkeep hb c0; replace c1 := bkeep hb c1; clear hb) | (go_at_call 83; (with_reducible refine (kw _).mono ?_); rintro e w2 ⟨rfl, hb⟩; replace HB := Lib.hid (bthen HB.out hb); replace HO := Lib.hid (own_keep HO.out hb); replace c0 := bkeep hb c0; replace c1 := bkeep hb c1; clear hb) | (go_at_call 84; (with_reducible refine (ks _ HO.out HB.out).mono ?_); rintro e w3 ⟨rfl, hb⟩; clear HB HO c0 c1; have HB := Lib.hid hb; clear hb))
          exact bodyPost_ret (v := .tuple #[.int .i64 0, .int .i64 4]) (by simp [results, Try.results79, go_sem]) rfl ⟨rfl, HB.out⟩
        | some l =>
          have hpp := within_some hrt hq hgo
          have hsum2 := (pushS_sum (cols := cols) (nx := nx) (show (pushS cols nx _ _).1 = 0 by rw [hpp])).1
          rw [hpp] at hsum2
          dsimp only at hsum2
          by_cases h16 : 16 < l.length
          · have hD := (tell_high (l := rest) (wo := maxL st) hpp h16).symm.trans HRES.out
            obtain ⟨rfl, rfl⟩ := Prod.mk.inj hD
            have ks := fun W hO hB => hstep_some w (.slice aS st.length cS) st l kd nn false W hgo (decide_eq_false (by omega)) hk6 hst hsum5 hO hB
            clear hD HRES hq hgo hpp hsum2
            go_wp2_with (first | (go_at_call 82; (with_reducible refine (kr true hrt).mono ?_); rintro e w2 ⟨rfl, hb⟩; replace HB := Lib.hid (bthen HB.out hb); replace HO := Lib.hid (own_keep HO.out hb); replace c0 := bkeep hb c0; replace c1 := bkeep hb c1; clear hb) | (go_at_call 83; (with_reducible refine (kw _).mono ?_); rintro e w2 ⟨rfl, hb⟩; replace HB := Lib.hid (bthen HB.out hb); replace HO := Lib.hid (own_keep HO.out hb); replace c0 := bkeep hb c0; replace c1 := bkeep hb c1; clear hb) | (go_at_call 84; (with_reducible refine (ks _ HO.out HB.out).mono ?_); rintro e w3 ⟨a3, c3, rfl, ho, hb⟩; clear HB HO c0 c1; have HB := Lib.hid hb; have HO := Lib.hid ho; clear hb ho))
            exact bodyPost_ret (v := .tuple #[.int .i64 0, .int .i64 4]) (by simp [results, Try.results79, go_sem]) rfl ⟨rfl, HB.out⟩
          · have HS := Lib.hid (((tell_go (l := rest) (wo := maxL st) hpp h16).symm.trans HRES.out))
            have HMX := Lib.hid (maxL_go hgo)
            have HSU := Lib.hid (show l.sum ≤ k + 1 by omega)
            have HLN := Lib.hid (show l.length ≤ 16 by omega)
            have ks := fun W hO hB => hstep_some w (.slice aS st.length cS) st l kd nn true W hgo (decide_eq_true (by omega)) hk6 hst hsum5 hO hB
            clear HRES hq hgo hpp hsum2 h16
            go_wp2_with (first | (go_at_call 82; (with_reducible refine (kr true hrt).mono ?_); rintro e w2 ⟨rfl, hb⟩; replace HB := Lib.hid (bthen HB.out hb); replace HO := Lib.hid (own_keep HO.out hb); replace c0 := bkeep hb c0; replace c1 := bkeep hb c1; clear hb) | (go_at_call 83; (with_reducible refine (kw _).mono ?_); rintro e w2 ⟨rfl, hb⟩; replace HB := Lib.hid (bthen HB.out hb); replace HO := Lib.hid (own_keep HO.out hb); replace c0 := bkeep hb c0; replace c1 := bkeep hb c1; clear hb) | (go_at_call 84; (with_reducible refine (ks _ HO.out HB.out).mono ?_); rintro e w3 ⟨a3, c3, rfl, ho, hb⟩; clear HB HO c0 c1; have HB := Lib.hid hb; have HO := Lib.hid ho; clear hb ho))
            go_roundw
            case rel => exact ⟨k + 1, l, by omega, by go_num, HB.out, HO.out, HLN.out, HSU.out, by rw [HREST.out, ← HMX.out]; exact HS.out⟩
            case measure => simp [intOf]; omega
    · obtain rfl : k = zs.length := by omega
      rw [List.drop_length, tellS_nil] at hres
      unfold endS at hres
      have HB := Lib.hid hB
      clear hB
      by_cases h1 : st.length ≠ 1
      · rw [if_pos h1] at hres
        obtain ⟨rfl, rfl⟩ := Prod.mk.inj hres
        obtain ⟨aS, cS, rfl⟩ := own_form hown
        have h1I : ¬ (st.length : Int) = 1 := by omega
        have h1J : ((st.length : Int) != 1) = true := by simp; omega
        clear hres hown
        go_wp2_with fail
        exact bodyPost_ret (v := .tuple #[.int .i64 0, .int .i64 4]) (by simp [results, Try.results79, go_sem]) rfl ⟨rfl, HB.out⟩
      · rw [if_neg h1] at hres
        obtain ⟨x, rfl⟩ : ∃ x, st = [x] := List.length_eq_one_iff.1 (by omega)
        obtain ⟨g', cap', rfl, hcp, hcm, hcell⟩ := stk_one (r := []) stN_len hown
        have htop := hcell 0 (by decide)
        simp only [List.length_nil, Nat.zero_mul, Nat.add_zero] at htop
        replace htop : wr.cell? ⟨g', 0, none⟩ = some (.int .i64 (x : Int)) := htop
        have hmx : maxL [x] = x := by rw [maxL_cons]; show max x 0 = x; omega
        rw [hmx] at hres
        clear hcell hown h1 hsum hmx
        by_cases h4 : 4 < x
        · rw [if_pos h4] at hres
          obtain ⟨rfl, rfl⟩ := Prod.mk.inj hres
          have h4I : (4 : Int) < (x : Int) := by omega
          clear hres
          go_wp2_with fail
          exact bodyPost_ret (v := .tuple #[.int .i64 0, .int .i64 5]) (by simp [results, Try.results79, go_sem]) rfl ⟨rfl, HB.out⟩
        · rw [if_neg h4] at hres
          obtain ⟨hx, rfl⟩ := Prod.mk.inj hres
          have hx : x = d := hx
          subst hx
          have h4I : ¬ (4 : Int) < (x : Int) := by omega
          clear hres
          go_wp2_with fail
          exact bodyPost_ret (v := .tuple #[.int .i64 (x : Int), .int .i64 0]) (by simp [results, Try.results79, go_sem]) rfl ⟨rfl, HB.out⟩
theorem ask16 : AskShape (fun _ => True) where
  keep := fun _ _ => trivial
  check := fun a len cap zs cols nx d e W hO hu hl hc hz _ => by
    obtain rfl := hO.1
    exact hcheck_is a cap zs cols nx d e W hO hu hz
end Go.Proofs.Ytjcgakmhpblanaa
