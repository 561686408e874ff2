/-
  Two slices of pairs that a call puts together itself, both appended to in one region that draws its order ('xs, ys = append(xs, a), append(ys, b)'); a third one, of numbers, stands beside. No function of the program is named.
-/
import Derived.Test.YtmgbdccfgbflnaaLay
import Derived.Test.YtmgbdccfgbflnaaOwnQ
import Derived.Maps.AppendAt
import Derived.Laws.OwnMore
import Derived.OwnWalk
namespace Go.Proofs.Ytmgbdccfgbflnaa
open Go Go.RowKit
set_option linter.unusedVariables false

theorem wp_append_own_at {P : Program} {w : World} {o : Oper} {a : Act} {K : Act → World → Prop} {Q : Exit → Act → World → Prop} (s x : Operand) (t : TypeId)
    (ho : o.op = .call { callee := .builtin .append, args := #[s, x], argTypes := #[t, t] })
    (base : Nat) (e : TypeId) (i : TypeInfo) (z : Value) (size bytes : Nat) (ht : P.underlying t = some (.slice e)) (hi : P.info? e = some i) (hz : i.zero = some z)
    (hsize : i.size = size) (hby : i.bytes = bytes) (hzs : z.cells.size = size) (hsz : 0 < size)
    (v : Value) (n : Nat) (xs : List Value) (hs : a.eval s = v) (hown : w.ownsRow base e size v n xs)
    (ad : Addr) (m c : Nat) (news : List Value) (hx : a.eval x = .slice (some ad) m c) (hl : news.length = m * size) (hnews : ∀ j u, news[j]? = some u → w.cell? (ad.add j) = some u) (h1 : ∀ u ∈ news, u.oneCell' = true)
    (h63 : n + m ≤ maxLen) (hbytes : (n + m) * bytes ≤ 140737488355328) (hbase : base ≤ w.heap.size)
    (h : ∀ v' w', w'.ownsRow base e size v' (n + m) (xs ++ news) → w.grownBy w' v.ownBlock → (v'.ownBlock = v.ownBlock ∨ v'.ownBlock = some w.heap.size) → K (a.put o.dst v') w') : o.wp P a w K Q := by
  obtain ⟨v', w', hr, h2, h3, h4, h5⟩ := run_append_own_at (P := P) w base t o.type e i z size bytes ht hi hz hsize hby hzs hsz v n xs hown ad m c news hl hnews h1 h63 hbytes hbase
  unfold Oper.wp execOp
  simp only [ho, resolve, invoke, builtin, Sem.run_bind, Sem.run_pure, Result.andThen_ok, List.map_toArray, List.map_cons, List.map_nil, hs, hx, hr]
  exact h v' w' h2 h3 h5
theorem grown_of_below {W W' : World} {row : Option Nat} (h : Below W.heap.size W W') : W.grownBy W' row := ⟨h.os, h.tape, h.output, h.size, fun k hk _ => h.block k hk⟩
theorem Below.of_grown {W W' : World} (h : W.grownBy W' none) : Below W.heap.size W W' := ⟨h.os, h.tape, h.output, h.size, fun k hk => h.block k hk (by simp)⟩
theorem own_block {W : World} {base : Nat} {e : TypeId} {size n : Nat} {v : Value} {xs : List Value} (h : W.ownsRow base e size v n xs) {k : Nat} (hk : v.ownBlock = some k) : ∃ cur, W.heap[k]? = some (.cells cur e (0, 0)) := by
  rcases h.2 with ⟨rfl, _⟩ | ⟨g, cap, cur, rfl, _, hg, _⟩
  · simp [Value.ownBlock] at hk
  · simp [Value.ownBlock] at hk
    subst hk
    exact ⟨cur, hg⟩
/-- Rows of unlike elements lie in unlike blocks. -/
theorem own_unlike {W : World} {base base' : Nat} {e e' : TypeId} {size size' n n' : Nat} {v v' : Value} {xs xs' : List Value} (h : W.ownsRow base e size v n xs) (h' : W.ownsRow base' e' size' v' n' xs') (hne : e ≠ e') : v.ownBlock = none ∨ v.ownBlock ≠ v'.ownBlock := by
  cases hv : v.ownBlock with
  | none => exact Or.inl rfl
  | some k =>
    refine Or.inr fun he => ?_
    obtain ⟨c, hc⟩ := own_block h hv
    obtain ⟨c', hc'⟩ := own_block h' he.symm
    rw [hc] at hc'
    cases hc'
    exact hne rfl
theorem own_apart {v v' : Value} (h : ∀ k, v.ownBlock = some k → v'.ownBlock ≠ some k) : v'.ownBlock = none ∨ v'.ownBlock ≠ v.ownBlock := by
  cases hv : v'.ownBlock with
  | none => exact Or.inl rfl
  | some k => exact Or.inr fun he => h k he.symm hv
theorem MadeQ.kept {W w w' : World} {v : Value} {xs : List (Int × Int)} {row : Option Nat} (h : MadeQ W w v xs) (hg : w.grownBy w' row) (hne : v.ownBlock = none ∨ v.ownBlock ≠ row) (hr : ∀ k, row = some k → W.heap.size ≤ k) : MadeQ W w' v xs :=
  ⟨h.1.kept hg hne, h.2.grown hg h.2.size hr⟩
theorem MadeU.kept {W w w' : World} {v : Value} {xs : List Int} {row : Option Nat} (h : MadeU W w v xs) (hg : w.grownBy w' row) (hne : v.ownBlock = none ∨ v.ownBlock ≠ row) (hr : ∀ k, row = some k → W.heap.size ≤ k) : MadeU W w' v xs :=
  ⟨h.1.kept hg hne, h.2.grown hg h.2.size hr⟩
theorem MadeQ.grow {W w w' : World} {v v' : Value} {xs : List (Int × Int)} {y z : Int} (h : MadeQ W w v xs) (hown : w'.ownsRow W.heap.size 41 2 v' (xs.length + 1) (flat xs ++ [.int .u64 y, .int .u64 z])) (hg : w.grownBy w' v.ownBlock) : MadeQ W w' v' (xs ++ [(y, z)]) :=
  ⟨by rw [List.length_append, flat_append]; exact hown, h.2.grown hg h.2.size (own_ge h.1)⟩
theorem Var.grown {W W' : World} {g : Nat} {x y : Int} {row : Option Nat} (h : Var W g x y) (hg : W.grownBy W' row) (hne : row ≠ some g) : Var W' g x y := by
  obtain ⟨c0, c1, f0, f1⟩ := h
  have hlt : g < W.heap.size := World.block_lt_of_cell? W _ c0
  have hb := hg.block g hlt (fun h => hne h.symm)
  exact ⟨(World.cell?_of_block (a := ⟨g, 0, none⟩) hb).trans c0, (World.cell?_of_block (a := ⟨g, 1, none⟩) hb).trans c1, (World.frozen?_of_block (a := ⟨g, 0, none⟩) hb).trans f0, (World.frozen?_of_block (a := ⟨g, 1, none⟩) hb).trans f1⟩

theorem qrow_cells {W : World} {b off : Nat} {zs : List (Int × Int)} (hc : ∀ i, i < zs.length → W.cell? ⟨b, off + i * 2, none⟩ = some (.int .u64 (zs.getD i (0, 0)).1) ∧ W.cell? ⟨b, off + i * 2 + 1, none⟩ = some (.int .u64 (zs.getD i (0, 0)).2)) : ∀ j u, (flat zs)[j]? = some u → W.cell? ((⟨b, off, none⟩ : Addr).add j) = some u := by
  intro j u hu
  have hj : j < zs.length * 2 := by
    have := (List.getElem?_eq_some_iff.1 hu).1
    rwa [flat_length] at this
  obtain ⟨e0, e1⟩ := flat_at zs (j / 2) (by omega)
  obtain ⟨c0, c1⟩ := hc (j / 2) (by omega)
  rw [Addr.add_lit]
  by_cases c : j % 2 = 0
  · rw [show j / 2 * 2 = j by omega] at e0 c0
    rw [hu] at e0
    rw [c0]; exact e0.symm
  · rw [show j / 2 * 2 + 1 = j by omega] at e1
    rw [show off + j / 2 * 2 + 1 = off + j by omega] at c1
    rw [hu] at e1
    rw [c1]; exact e1.symm
/-- append of a whole slice of pairs, nil or not. -/
theorem wpList_append_q {P : Program} {w : World} {ops : Array Oper} {rest : List Oper} {o : Oper} {a : Act} {Q : Exit → Act → World → Prop} (hgd : o.guard = none) (s x : Operand) (t : TypeId)
    (ho : o.op = .call { callee := .builtin .append, args := #[s, x], argTypes := #[t, t] })
    (base : Nat) (e : TypeId) (i : TypeInfo) (z : Value) (bytes : Nat) (ht : P.underlying t = some (.slice e)) (hi : P.info? e = some i) (hz : i.zero = some z)
    (hsize : i.size = 2) (hby : i.bytes = bytes) (hzs : z.cells.size = 2)
    (v : Value) (n : Nat) (xs : List Value) (hs : a.eval s = v) (hown : w.ownsRow base e 2 v n xs) (sv : Value) (zs : List (Int × Int)) (hx : a.eval x = sv) (hr : QRow w sv zs)
    (h63 : n + zs.length ≤ maxLen) (hbytes : (n + zs.length) * bytes ≤ 140737488355328) (hbase : base ≤ w.heap.size)
    (h : ∀ v' w', w'.ownsRow base e 2 v' (n + zs.length) (xs ++ flat zs) → w.grownBy w' v.ownBlock → wpList P ops Q rest (a.put o.dst v') w') :
    wpList P ops Q (o :: rest) a w := by
  have one : ∀ u ∈ flat zs, u.oneCell' = true := by
    intro u hu
    obtain ⟨y, _, hy⟩ := List.mem_flatMap.1 hu
    simp at hy
    rcases hy with rfl | rfl <;> rfl
  rcases hr with ⟨rfl, rfl⟩ | ⟨ad, cap, rfl, rfl⟩ | ⟨b, off, cap, rfl, hl, hm, hc⟩
  · refine wpList_plain hgd fun K hK => ?_
    have hrun := run_append_owned_none (P := P) w base t o.type e i 2 ht hi v n xs hown
    unfold Oper.wp execOp
    simp only [ho, resolve, invoke, builtin, Sem.run_bind, Sem.run_pure, Result.andThen_ok, List.map_toArray, List.map_cons, List.map_nil, hs, hx, hrun]
    exact hK _ _ (h v w (by simpa [flat] using hown) (World.grownBy.refl _ _))
  · exact wpList_append_own w hgd s x t ho base e i z 2 bytes ht hi hz hsize hby hzs (by omega) v n xs hs hown ad 0 cap [] hx rfl (fun j u hu => by simp at hu) (fun u hu => by cases hu) (by simpa using h63) (by simpa using hbytes) hbase fun v' w' h1 h2 _ => h v' w' (by simpa [flat] using h1) h2
  · exact wpList_append_own w hgd s x t ho base e i z 2 bytes ht hi hz hsize hby hzs (by omega) v n xs hs hown ⟨b, off, none⟩ zs.length cap (flat zs) hx (flat_length zs) (qrow_cells hc) one h63 hbytes hbase fun v' w' h1 h2 _ => h v' w' h1 h2

def curV (D : Nat → Bool) (σ : Nat → Value) (d : Nat) (v : Value) : Value := if D d = true then σ d else v
def curL (D : Nat → Bool) (d : Nat) (xs : List (Int × Int)) (p : Int × Int) : List (Int × Int) := if D d = true then xs ++ [p] else xs
/-- What holds while the region runs: s1, s2: the slots of the two new arrays of one pair; a1, a2: of the appends; f1, f2: of what is assigned. -/
structure Apps (w : World) (s1 a1 f1 s2 a2 f2 : Nat) (v7 v8 v9 : Value) (xs ys : List (Int × Int)) (p q : Int × Int) (ns : List Int) (simple : List Nat) (val : Nat → Value) (D : Nat → Bool) (σ : Nat → Value) (W : World) : Prop where
  rx : MadeQ w W (curV D σ a1 v7) (curL D a1 xs p)
  ry : MadeQ w W (curV D σ a2 v8) (curL D a2 ys q)
  rn : MadeU w W v9 ns
  ap : ∀ k, (curV D σ a1 v7).ownBlock = some k → (curV D σ a2 v8).ownBlock ≠ some k
  n1 : D s1 = true → D a1 = false → ∃ g, σ s1 = .slice (some ⟨g, 0, none⟩) 1 1 ∧ Var W g p.1 p.2 ∧ (curV D σ a1 v7).ownBlock ≠ some g ∧ (curV D σ a2 v8).ownBlock ≠ some g
  n2 : D s2 = true → D a2 = false → ∃ g, σ s2 = .slice (some ⟨g, 0, none⟩) 1 1 ∧ Var W g q.1 q.2 ∧ (curV D σ a1 v7).ownBlock ≠ some g ∧ (curV D σ a2 v8).ownBlock ≠ some g
  e1 : D f1 = true → D a1 = true ∧ σ f1 = σ a1
  e2 : D f2 = true → D a2 = true ∧ σ f2 = σ a2
  sv : ∀ d, d ∈ simple → D d = true → σ d = val d
section
variable {w : World} {s1 a1 f1 s2 a2 f2 : Nat} {v7 v8 v9 : Value} {xs ys : List (Int × Int)} {p q : Int × Int} {ns : List Int} {simple : List Nat} {val : Nat → Value} {D : Nat → Bool} {σ : Nat → Value} {W : World}
theorem Apps.start (h7 : MadeQ w W v7 xs) (h8 : MadeQ w W v8 ys) (h9 : MadeU w W v9 ns) (ap : ∀ k, v7.ownBlock = some k → v8.ownBlock ≠ some k) (σ : Nat → Value) : Apps w s1 a1 f1 s2 a2 f2 v7 v8 v9 xs ys p q ns simple val (fun _ => false) σ W :=
  ⟨h7, h8, h9, ap, fun h => absurd h Bool.false_ne_true, fun h => absurd h Bool.false_ne_true, fun h => absurd h Bool.false_ne_true, fun h => absurd h Bool.false_ne_true, fun d _ h => absurd h Bool.false_ne_true⟩
theorem curV_other {d e : Nat} {v u : Value} (h : e ≠ d) : curV (fun k => if k = d then true else D k) (fun k => if k = d then u else σ k) e v = curV D σ e v := by unfold curV; simp [h]
theorem curL_other {d e : Nat} (h : e ≠ d) : curL (fun k => if k = d then true else D k) e xs p = curL D e xs p := by unfold curL; simp [h]
/-- An operation by new memory alone. -/
theorem Apps.next (h : Apps w s1 a1 f1 s2 a2 f2 v7 v8 v9 xs ys p q ns simple val D σ W) {d : Nat} {v : Value} {W' : World} (hb : Below W.heap.size W W') (hd : D d = false) (h0 : d ≠ s1 ∧ d ≠ a1 ∧ d ≠ f1 ∧ d ≠ s2 ∧ d ≠ a2 ∧ d ≠ f2) (hv : v = val d) :
    Apps w s1 a1 f1 s2 a2 f2 v7 v8 v9 xs ys p q ns simple val (fun k => if k = d then true else D k) (fun k => if k = d then v else σ k) W' := by
  obtain ⟨h1, h2, h3, h4, h5, h6⟩ := h0
  refine ⟨?_, ?_, h.rn.keep hb, ?_, ?_, ?_, ?_, ?_, ?_⟩
  · rw [curV_other (Ne.symm h2), curL_other (Ne.symm h2)]; exact h.rx.keep hb
  · rw [curV_other (Ne.symm h5), curL_other (Ne.symm h5)]; exact h.ry.keep hb
  · rw [curV_other (Ne.symm h2), curV_other (Ne.symm h5)]; exact h.ap
  · rw [curV_other (Ne.symm h2), curV_other (Ne.symm h5)]
    simp only [if_neg (Ne.symm h1), if_neg (Ne.symm h2)]
    intro c1 c2
    obtain ⟨g, k1, k2, k3⟩ := h.n1 c1 c2
    exact ⟨g, k1, k2.keep hb, k3⟩
  · rw [curV_other (Ne.symm h2), curV_other (Ne.symm h5)]
    simp only [if_neg (Ne.symm h4), if_neg (Ne.symm h5)]
    intro c1 c2
    obtain ⟨g, k1, k2, k3⟩ := h.n2 c1 c2
    exact ⟨g, k1, k2.keep hb, k3⟩
  · simp only [if_neg (Ne.symm h3), if_neg (Ne.symm h2)]; exact h.e1
  · simp only [if_neg (Ne.symm h6), if_neg (Ne.symm h5)]; exact h.e2
  · intro e he
    by_cases c : e = d
    · subst c; intro _; simp only [if_pos]; exact hv
    · simp only [if_neg c]; exact h.sv e he
/-- A new array of one pair. -/
theorem Apps.lay1 (h : Apps w s1 a1 f1 s2 a2 f2 v7 v8 v9 xs ys p q ns simple val D σ W) (t : TypeId) (hd : D s1 = false) (h0 : s1 ≠ a1 ∧ s1 ≠ f1 ∧ s1 ≠ s2 ∧ s1 ≠ a2 ∧ s1 ≠ f2) (hs : s1 ∉ simple) :
    Apps w s1 a1 f1 s2 a2 f2 v7 v8 v9 xs ys p q ns simple val (fun k => if k = s1 then true else D k) (fun k => if k = s1 then .slice (some ⟨W.heap.size, 0, none⟩) 1 1 else σ k) (W.alloc (.cells #[.int .u64 p.1, .int .u64 p.2] t)) := by
  obtain ⟨h2, h3, h4, h5, h6⟩ := h0
  have hb := (Below.refl W.heap.size W).alloc (Nat.le_refl _) (.cells #[.int .u64 p.1, .int .u64 p.2] t)
  refine ⟨?_, ?_, h.rn.keep hb, ?_, ?_, ?_, ?_, ?_, ?_⟩
  · rw [curV_other (Ne.symm h2), curL_other (Ne.symm h2)]; exact h.rx.keep hb
  · rw [curV_other (Ne.symm h5), curL_other (Ne.symm h5)]; exact h.ry.keep hb
  · rw [curV_other (Ne.symm h2), curV_other (Ne.symm h5)]; exact h.ap
  · rw [curV_other (Ne.symm h2), curV_other (Ne.symm h5)]
    intro _ _
    refine ⟨W.heap.size, by rw [if_pos rfl], Var.new _ _ _ _, fun hk => ?_, fun hk => ?_⟩
    · have := (h.rx.1.lt _ hk).2; omega
    · have := (h.ry.1.lt _ hk).2; omega
  · rw [curV_other (Ne.symm h2), curV_other (Ne.symm h5)]
    simp only [if_neg (Ne.symm h4), if_neg (Ne.symm h5)]
    intro c1 c2
    obtain ⟨g, k1, k2, k3⟩ := h.n2 c1 c2
    exact ⟨g, k1, k2.keep hb, k3⟩
  · simp only [if_neg (Ne.symm h3), if_neg (Ne.symm h2)]; exact h.e1
  · simp only [if_neg (Ne.symm h6), if_neg (Ne.symm h5)]; exact h.e2
  · intro e he
    have c : e ≠ s1 := fun c => hs (c ▸ he)
    simp only [if_neg c]; exact h.sv e he
/-- An append. -/
theorem Apps.app1 (h : Apps w s1 a1 f1 s2 a2 f2 v7 v8 v9 xs ys p q ns simple val D σ W) (hte : 41 ≠ 22) {v' : Value} {W' : World} (hd : D a1 = false) (h0 : a1 ≠ s1 ∧ a1 ≠ f1 ∧ a1 ≠ s2 ∧ a1 ≠ a2 ∧ a1 ≠ f2) (hs : a1 ∉ simple)
    (hown : W'.ownsRow w.heap.size 41 2 v' (xs.length + 1) (flat xs ++ [.int .u64 p.1, .int .u64 p.2])) (hg : W.grownBy W' v7.ownBlock) (hat : v'.ownBlock = v7.ownBlock ∨ v'.ownBlock = some W.heap.size) :
    Apps w s1 a1 f1 s2 a2 f2 v7 v8 v9 xs ys p q ns simple val (fun k => if k = a1 then true else D k) (fun k => if k = a1 then v' else σ k) W' := by
  obtain ⟨h2, h3, h4, h5, h6⟩ := h0
  have hrx : MadeQ w W v7 xs := by have := h.rx; unfold curV curL at this; simpa [hd] using this
  have hap : ∀ k, v7.ownBlock = some k → (curV D σ a2 v8).ownBlock ≠ some k := by have := h.ap; unfold curV at this ⊢; simpa [hd] using this
  have hge : ∀ k, v7.ownBlock = some k → w.heap.size ≤ k := own_ge hrx.1
  have cv : curV (fun k => if k = a1 then true else D k) (fun k => if k = a1 then v' else σ k) a1 v7 = v' := by unfold curV; simp
  have cl : curL (fun k => if k = a1 then true else D k) a1 xs p = xs ++ [p] := by unfold curL; simp
  have hlt8 : ∀ k, (curV D σ a2 v8).ownBlock = some k → k < W.heap.size := fun k hk => (h.ry.1.lt k hk).2
  refine ⟨?_, ?_, h.rn.kept hg (own_unlike h.rn.1 hrx.1 (Ne.symm hte)) hge, ?_, ?_, ?_, ?_, ?_, ?_⟩
  · rw [cv, cl]; exact hrx.grow hown hg
  · rw [curV_other (Ne.symm h5), curL_other (Ne.symm h5)]
    exact h.ry.kept hg (own_apart hap) hge
  · rw [cv, curV_other (Ne.symm h5)]
    intro k hk
    rcases hat with he | he
    · exact hap k (he ▸ hk)
    · intro h8
      have := hlt8 k h8
      rw [hk] at he
      cases he
      omega
  · intro _ c2; simp at c2
  · rw [cv, curV_other (Ne.symm h5)]
    simp only [if_neg (Ne.symm h4), if_neg (Ne.symm h5)]
    intro c1 c2
    obtain ⟨g, k1, k2, k3, k4⟩ := h.n2 c1 c2
    have k3' : v7.ownBlock ≠ some g := by unfold curV at k3; simpa [hd] using k3
    refine ⟨g, k1, k2.grown hg k3', fun hv => ?_, k4⟩
    rcases hat with he | he
    · exact k3' (he ▸ hv)
    · rw [hv] at he
      cases he
      exact absurd k2.lt (Nat.lt_irrefl _)
  · simp only [if_neg (Ne.symm h3)]
    intro c; have := (h.e1 c).1; rw [hd] at this; cases this
  · simp only [if_neg (Ne.symm h6), if_neg (Ne.symm h5)]; exact h.e2
  · intro e he
    have c : e ≠ a1 := fun c => hs (c ▸ he)
    simp only [if_neg c]; exact h.sv e he
/-- What is assigned. -/
theorem Apps.put1 (h : Apps w s1 a1 f1 s2 a2 f2 v7 v8 v9 xs ys p q ns simple val D σ W) (hd : D a1 = true) (h0 : f1 ≠ s1 ∧ f1 ≠ a1 ∧ f1 ≠ s2 ∧ f1 ≠ a2 ∧ f1 ≠ f2) (hs : f1 ∉ simple) :
    Apps w s1 a1 f1 s2 a2 f2 v7 v8 v9 xs ys p q ns simple val (fun k => if k = f1 then true else D k) (fun k => if k = f1 then σ a1 else σ k) W := by
  obtain ⟨h2, h3, h4, h5, h6⟩ := h0
  refine ⟨?_, ?_, h.rn, ?_, ?_, ?_, ?_, ?_, ?_⟩
  · rw [curV_other (Ne.symm h3), curL_other (Ne.symm h3)]; exact h.rx
  · rw [curV_other (Ne.symm h5), curL_other (Ne.symm h5)]; exact h.ry
  · rw [curV_other (Ne.symm h3), curV_other (Ne.symm h5)]; exact h.ap
  · rw [curV_other (Ne.symm h3), curV_other (Ne.symm h5)]
    simp only [if_neg (Ne.symm h2), if_neg (Ne.symm h3)]; exact h.n1
  · rw [curV_other (Ne.symm h3), curV_other (Ne.symm h5)]
    simp only [if_neg (Ne.symm h4), if_neg (Ne.symm h5)]; exact h.n2
  · simp only [if_neg (Ne.symm h3)]
    intro _; exact ⟨hd, by simp⟩
  · simp only [if_neg (Ne.symm h6), if_neg (Ne.symm h5)]; exact h.e2
  · intro e he
    have c : e ≠ f1 := fun c => hs (c ▸ he)
    simp only [if_neg c]; exact h.sv e he
/-- The same, seen from the other side. -/
theorem Apps.turn (h : Apps w s1 a1 f1 s2 a2 f2 v7 v8 v9 xs ys p q ns simple val D σ W) : Apps w s2 a2 f2 s1 a1 f1 v8 v7 v9 ys xs q p ns simple val D σ W :=
  ⟨h.ry, h.rx, h.rn, fun k h1 h2 => h.ap k h2 h1, fun c1 c2 => by obtain ⟨g, k1, k2, k3, k4⟩ := h.n2 c1 c2; exact ⟨g, k1, k2, k4, k3⟩, fun c1 c2 => by obtain ⟨g, k1, k2, k3, k4⟩ := h.n1 c1 c2; exact ⟨g, k1, k2, k4, k3⟩, h.e2, h.e1, h.sv⟩
end
end Go.Proofs.Ytmgbdccfgbflnaa
