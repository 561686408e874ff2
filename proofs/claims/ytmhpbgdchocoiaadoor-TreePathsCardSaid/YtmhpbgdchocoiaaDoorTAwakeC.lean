/-
  The awake of layer 10's law. (Written by gen_tawake.py from XTAwake's frame.)
-/
import Derived.Test.YtmhpbgdchocoiaaDoorGTree
import Derived.Test.YtmhpbgdchocoiaaDoorGNum
namespace Go.Proofs.YtmhpbgdchocoiaaDoor
open Go Go.RowKit Go.Sort Go.BigFrame
set_option linter.unusedVariables false

def twoF (A B : ByteArray) (j : Nat) : ByteArray := if j = 0 then A else B
theorem u1 : ∀ x ∈ ([1] : List Int), U x := by intro x hx; simp at hx; subst hx; unfold U; omega
theorem u2 : ∀ x ∈ ([2] : List Int), U x := by intro x hx; simp at hx; subst hx; unfold U; omega
theorem two_lit (W : World) (A B : ByteArray) (t : TypeId) : StrS (W.alloc (.cells #[.string A, .string B] t)) (some ⟨W.heap.size, 0, none⟩) 2 2 (twoF A B) :=
  ⟨str_lit W #[.string A, .string B] t 2 _ (by unfold maxLen; omega) (fun j hj => by
    have : j = 0 ∨ j = 1 := by omega
    rcases this with rfl | rfl <;> rfl), by omega, by unfold maxLen; omega, fun h => by cases h⟩
theorem three_lit (W : World) (A B C : ByteArray) (t : TypeId) : StrS (W.alloc (.cells #[.string A, .string B, .string C] t)) (some ⟨W.heap.size, 0, none⟩) 3 3 (fun j => if j = 0 then A else if j = 1 then B else C) :=
  ⟨str_lit W #[.string A, .string B, .string C] t 3 _ (by unfold maxLen; omega) (fun j hj => by
    have : j = 0 ∨ j = 1 ∨ j = 2 := by omega
    rcases this with rfl | rfl | rfl <;> rfl), by omega, by unfold maxLen; omega, fun h => by cases h⟩
theorem one_size {g : Nat → ByteArray} (h : (g 0).size = 32) : ∀ k, k < 1 → (g k).size ≤ 100 := fun k hk => by
  have e : k = 0 := by omega
  subst e
  omega
theorem nil_tree (W : World) (f : Nat → ByteArray) : TreeA 0 W none 0 0 f := ⟨by omega, by unfold maxLen; omega, fun _ => ⟨rfl, rfl⟩, fun k hk => by omega⟩
/-- What stands while the last chain is asked. -/
structure AwSt (w : World) (g2 g4 : Nat) (b : Option Addr) (cb : Nat) (p : Option Addr) (cp : Nat) (A B : ByteArray) (W : World) : Prop where
  bel : Below w.heap.size w W
  row : RowA W (some ⟨g2, 0, none⟩) 1 [2]
  tree : TreeA (g4 + 1) W b 2 cb (twoF A B)
  path : StrS W p 1 cp (pathB (twoF A B) 1)
theorem AwSt.keep {w W W' : World} {g2 g4 : Nat} {b : Option Addr} {cb : Nat} {p : Option Addr} {cp : Nat} {A B : ByteArray} (h : AwSt w g2 g4 b cb p cp A B W) (hb : Below W.heap.size W W') : AwSt w g2 g4 b cb p cp A B W' :=
  ⟨bthen h.bel hb, h.row.keep hb, h.tree.keep hb, h.path.keep hb⟩
def TAwR (g2 bp op cp g4 cb : Nat) (b : Option Addr) (A B R : ByteArray) (sl : Nat) (v : Value) (W : World) : Prop :=
  match sl with
  | 34 => v = .slice b 2 cb
  | 35 => v = .int .i64 2
  | 38 => v = .slice b 2 cb
  | 39 => v = .string R
  | 40 => v = .string A
  | 41 => v = .string B
  | 42 => v = .string R
  | 49 => v = .slice (some ⟨bp, op, none⟩) 1 cp
  | 50 => v = .int .i64 1
  | 54 => v = .slice (some ⟨bp, op, none⟩) 1 cp
  | 55 => v = .pointer (some ⟨bp, op, none⟩)
  | 56 => v = .string A
  | 57 => v = .string A
  | 61 => v = .bool false
  | 65 => v = .slice b 2 cb
  | 66 => v = .string R
  | 67 => v = .agg #[.slice (some ⟨g2, 0, none⟩) 1 1, .slice none 0 0, .slice (some ⟨bp, op, none⟩) 1 cp]
  | 71 => v = .slice b 2 cb
  | 72 => v = .string R
  | 73 => v = .agg #[.slice (some ⟨g2, 0, none⟩) 1 1, .slice none 0 0, .slice (some ⟨bp, op, none⟩) 1 cp]
  | 74 => v = .bool false
  | 78 => v = .string B
  | 79 => v = .slice (some ⟨bp, op, none⟩) 1 cp
  | 80 => v = .string R
  | 81 => v = .slice b 2 cb
  | 82 => v = .string R
  | 86 => v = .string A
  | 87 => v = .string B
  | 88 => v = .string A
  | 89 => ∃ g : Nat, v = .slice (some ⟨g, 0, none⟩) 3 3 ∧ StrS W (some ⟨g, 0, none⟩) 3 3 (fun j => if j = 0 then A else if j = 1 then B else A)
  | 90 => ∃ (a : Option Addr) (c : Nat), v = .slice a 0 c
  | 91 => v = .int .i64 0
  | 95 => v = .string ⟨#[]⟩
  | _ => v = .bool true
theorem TAwR.keep {g2 bp op cp g4 cb : Nat} {b : Option Addr} {A B R : ByteArray} {sl : Nat} {v : Value} {W W' : World} (h : TAwR g2 bp op cp g4 cb b A B R sl v W) (hb : Below W.heap.size W W') : TAwR g2 bp op cp g4 cb b A B R sl v W' := by
  unfold TAwR at *
  split at h
  all_goals first | exact h | (obtain ⟨g, h1, h2⟩ := h; exact ⟨g, h1, h2.keep hb⟩)
set_option maxRecDepth 100000 in
set_option maxHeartbeats 8000000 in
theorem tawake (G : World → Prop) (hA : AskTree G) (w : World) (hG0 : G w) : Calls Tryd.prog 9 #[] w fun e w' => e = .returned (.bool true) ∧ Below w.heap.size w w' := by
  have HK := Lib.hid (fun (W W' : World) => @AskTree.keep G hA W W')
  have hne := node_ne
  rw [← leaf_1, ← leaf_2] at hne
  have sA := leafB_size (rowB [1])
  have sB := leafB_size (rowB [2])
  have k1 := fun (g : Nat) (W : World) (hr : RowA W (some ⟨g, 0, none⟩) 1 [1]) => rlof_is (some ⟨g, 0, none⟩) 1 1 [1] none 0 0 [] (.slice none 0 0) W hr u1 (nil_qrow _) uqnil (by decide) (by decide)
  have k2 := fun (g : Nat) (W : World) (hr : RowA W (some ⟨g, 0, none⟩) 1 [2]) => rlof_is (some ⟨g, 0, none⟩) 1 1 [2] none 0 0 [] (.slice none 0 0) W hr u2 (nil_qrow _) uqnil (by decide) (by decide)
  have k8 := fun (g : Nat) (root : ByteArray) (i : Int) (hi : -9223372036854775808 ≤ i ∧ i ≤ 9223372036854775807) (p : Option Addr) (c : Nat) (gg : Nat → ByteArray) (hgg : (gg 0).size = 32) (W : World) (hr : RowA W (some ⟨g, 0, none⟩) 1 [2]) (hS : StrS W p 1 c gg) (hg : G W) => hA.leads root 1 i (some ⟨g, 0, none⟩) 1 1 [2] none 0 0 [] p 1 c gg W hr u2 (nil_qrow _) uqnil (by decide) (by decide) hS (by decide) (one_size hgg) (by omega) hi hg
  rw [openB_nil] at k1 k2
  simp only [openB_nil] at k8
  generalize leafB (rowB [1]) = A at *
  generalize leafB (rowB [2]) = B at *
  have k3 := fun (W : World) (t : TypeId) (hg : G W) => hA.build (some ⟨W.heap.size, 0, none⟩) 2 2 (twoF A B) (W.alloc (.cells #[.string A, .string B] t)) (two_lit W A B t) (by decide) (fun j hj => by unfold twoF; split <;> omega) (HK.out _ _ hg ((Below.refl _ _).alloc (Nat.le_refl _) _))
  have k4 := fun (D : Nat) (b : Option Addr) (c : Nat) (W : World) (hT : TreeA D W b 2 c (twoF A B)) (hg : G W) => hA.path D b 2 c (twoF A B) 1 W hT (by decide) (by omega) hg
  have k5 := fun (D : Nat) (b : Option Addr) (c : Nat) (W : World) (hT : TreeA D W b 2 c (twoF A B)) (hg : G W) => hA.path D b 2 c (twoF A B) 2 W hT (by decide) (by omega) hg
  have k6 := fun (D : Nat) (b : Option Addr) (c : Nat) (W : World) (hT : TreeA D W b 2 c (twoF A B)) (hg : G W) => hA.root D b 2 c (twoF A B) W hT (by decide) hg
  have k7 := fun (W : World) => rlnode_is A B W (by omega)
  have k9 := fun (p : Option Addr) (c : Nat) (gg : Nat → ByteArray) (hgg : (gg 0).size = 32) (W : World) (hS : StrS W p 1 c gg) (hg : G W) => hA.climb B 1 p 1 c gg W hS (by decide) (one_size hgg) (by omega) (by decide) hg
  have k10 := fun (g : Nat) (W : World) (hS : StrS W (some ⟨g, 0, none⟩) 3 3 (fun j => if j = 0 then A else if j = 1 then B else A)) (hg : G W) => hA.build (some ⟨g, 0, none⟩) 3 3 _ W hS (by decide) (fun j hj => by split <;> (try split) <;> omega) hg
  have k11 := fun (W : World) (hg : G W) => hA.root 0 none 0 0 (twoF A B) W (nil_tree _ _) (by decide) hg
  rw [show rowsN 2 = 2 from rfl] at k3
  rw [show rowsN 3 = 0 from rfl] at k10
  rw [if_neg (by decide), show lev (twoF A B) (2 - 1) 0 = nodeB A B from rfl] at k6
  rw [if_pos rfl] at k11
  clear hA
  go_enter Tryd.func9, Tryd.ntmps9
  go_upto_region 2 with fail
  refine wp_gen (fun W => Below w.heap.size w W ∧ (RowA W (some ⟨w.heap.size, 0, none⟩) 1 [1] ∧ RowA W (some ⟨w.heap.size + 1, 0, none⟩) 1 [2]) ∧ OpenV W (w.heap.size + 1 + 1) (.slice (some ⟨w.heap.size, 0, none⟩) 1 1) (.slice none 0 0) (.slice none 0 0) ∧ OpenV W (w.heap.size + 1 + 1 + 1) (.slice (some ⟨w.heap.size + 1, 0, none⟩) 1 1) (.slice none 0 0) (.slice none 0 0) ∧ W.frozen? ⟨w.heap.size + 1 + 1 + 1, 2, none⟩ = false) ⟨?_, ⟨(row_one (by simp [go_sem])).at, (row_one (by simp [go_sem])).at⟩, ⟨by simp [go_sem], by simp [go_sem], by simp [go_sem]⟩, ⟨by simp [go_sem], by simp [go_sem], by simp [go_sem]⟩, by simp [go_sem]⟩ ?_
  · exact ((((Below.refl _ _).alloc (Nat.le_refl _) _).alloc (by simp) _).alloc (by simp; omega) _).alloc (by simp; omega) _
  rintro W1 ⟨hB, ⟨hr1, hr2⟩, hX, hY, hF⟩
  obtain ⟨g1, hg1⟩ : ∃ g, w.heap.size = g := ⟨_, rfl⟩
  obtain ⟨g2, hg2⟩ : ∃ g, g1 + 1 = g := ⟨_, rfl⟩
  obtain ⟨g3, hg3⟩ : ∃ g, g2 + 1 = g := ⟨_, rfl⟩
  obtain ⟨g4, hg4⟩ : ∃ g, g3 + 1 = g := ⟨_, rfl⟩
  rw [hg1] at hr1 hr2 hX hY hF
  rw [hg2] at hr2 hX hY hF
  rw [hg3] at hX hY hF
  rw [hg4] at hY hF
  simp only [hg1, hg2, hg3, hg4]
  have h34 : g3 ≠ g4 := by omega
  have hg24 : g4 ≠ g2 := by omega
  have hW4 : w.heap.size ≤ g4 := by omega
  have HB := Lib.hid hB; have HR1 := Lib.hid hr1; have HR2 := Lib.hid hr2; have HX := Lib.hid hX; have HY := Lib.hid hY; have HG := Lib.hid (HK.out _ _ hG0 hB)
  obtain ⟨x0, x1, x2⟩ := hX
  obtain ⟨y0, y1, y2⟩ := hY
  clear hB hr1 hr2 hg1 hg2 hg3 hg4
  replace x0 := fun q : Regrown => cell_regrown x0 q.d q.os
  replace x1 := fun q : Regrown => cell_regrown x1 q.d q.os
  replace x2 := fun q : Regrown => cell_regrown x2 q.d q.os
  replace y0 := fun q : Regrown => cell_regrown y0 q.d q.os
  replace y1 := fun q : Regrown => cell_regrown y1 q.d q.os
  replace y2 := fun q : Regrown => cell_regrown y2 q.d q.os
  refine wp_region_quiet_below (by kernel_rfl) (by kernel_rfl) ?_
  repeat (first | go_big_quiet_step (first
    | (go_at_call 17; with_reducible exact Calls.regrown_of (k1 g1 _ (HR1.out.keep (below_regrown W1 _ _))))
    | (go_at_call 17; with_reducible exact Calls.regrown_of (k2 g2 _ (HR2.out.keep (below_regrown W1 _ _))))) | quiet_step (fail))
  refine wpQuiet_nil ?_
  rintro _ ⟨pq, rfl⟩
  have hbq := below_regrown W1 pq.d pq.os
  have hFq : (grow (redrawn W1 pq.d) pq.os).frozen? ⟨g4, 2, none⟩ = false := bfree hbq HY.out.2.2 hF
  go_upto_region 3 with fail
  refine wp_gen (fun W => Below w.heap.size w W ∧ RowA W (some ⟨g2, 0, none⟩) 1 [2] ∧ OpenV W g4 (.slice (some ⟨g2, 0, none⟩) 1 1) (.slice none 0 0) (.slice none 0 0) ∧ G W ∧ W.frozen? ⟨g4, 2, none⟩ = false) ⟨bthen HB.out hbq, HR2.out.keep hbq, HY.out.keep hbq, HK.out _ _ HG.out hbq, hFq⟩ ?_
  clear HB HR1 HR2 HX HY HG x0 x1 x2 y0 y1 y2 hbq hFq hF
  rintro W2 ⟨hB, hr2, hY, hG, hF⟩
  go_upto_region 4 with (go_at_call 10; (with_reducible refine (k3 W2 _ hG).mono ?_); rintro e w1 ⟨hb, b, cb, rfl, hT⟩)
  have hb2 := (Below.refl W2.heap.size W2).alloc (Nat.le_refl _) (.cells #[.string A, .string B] 9)
  have hb3 := bthen hb2 hb
  refine wp_gen (fun W => Below w.heap.size w W ∧ RowA W (some ⟨g2, 0, none⟩) 1 [2] ∧ OpenV W g4 (.slice (some ⟨g2, 0, none⟩) 1 1) (.slice none 0 0) (.slice none 0 0) ∧ G W ∧ W.frozen? ⟨g4, 2, none⟩ = false ∧ TreeA (g4 + 1) W b 2 cb (twoF A B)) ⟨bthen hB hb3, hr2.keep hb3, hY.keep hb3, HK.out _ _ hG hb3, bfree hb3 hY.2.2 hF, hT (g4 + 1) (by have := hY.lt; simp; omega) (fun x hx => by cases hx; have := hY.lt; show g4 + 1 ≤ W2.heap.size; omega)⟩ ?_
  clear hB hr2 hY hG hF hT hb hb2 hb3 k1 k2 k3
  rintro W3 ⟨hB, hr2, hY, hG, hF, hT⟩
  go_upto_region 5 with (go_at_call 15; (with_reducible refine (k4 _ b cb W3 hT hG).mono ?_); rintro e w1 ⟨hb, ⟨_, _, _, p, cp, rfl, hP, hPf⟩ | ⟨hno, _⟩⟩)
  refine wp_gen (fun W => Below w.heap.size w W ∧ RowA W (some ⟨g2, 0, none⟩) 1 [2] ∧ OpenV W g4 (.slice (some ⟨g2, 0, none⟩) 1 1) (.slice none 0 0) (.slice none 0 0) ∧ G W ∧ W.frozen? ⟨g4, 2, none⟩ = false ∧ TreeA (g4 + 1) W b 2 cb (twoF A B) ∧ StrS W p 1 cp (pathB (twoF A B) 1) ∧ (∀ x, p = some x → g4 ≠ x.block)) ⟨bthen hB hb, hr2.keep hb, hY.keep hb, HK.out _ _ hG hb, bfree hb hY.2.2 hF, hT.keep hb, hP, fun x hx => by have := hPf x hx; have := hY.lt; omega⟩ ?_
  clear hB hr2 hY hG hF hT hb hP hPf k4
  rintro W4 ⟨hB, hr2, hY, hG, hF, hT, hP, hPf⟩
  go_upto_region 6 with (go_at_call 15; (with_reducible refine (k5 _ b cb W4 hT hG).mono ?_); rintro e w1 ⟨hb, ⟨_, _, hno, _⟩ | ⟨_, p2, cp2, rfl⟩⟩)
  refine wp_gen (fun W => Below w.heap.size w W ∧ RowA W (some ⟨g2, 0, none⟩) 1 [2] ∧ OpenV W g4 (.slice (some ⟨g2, 0, none⟩) 1 1) (.slice none 0 0) (.slice none 0 0) ∧ G W ∧ W.frozen? ⟨g4, 2, none⟩ = false ∧ TreeA (g4 + 1) W b 2 cb (twoF A B) ∧ StrS W p 1 cp (pathB (twoF A B) 1) ∧ (∀ x, p = some x → g4 ≠ x.block)) ⟨bthen hB hb, hr2.keep hb, hY.keep hb, HK.out _ _ hG hb, bfree hb hY.2.2 hF, hT.keep hb, hP.keep hb, hPf⟩ ?_
  clear hB hr2 hY hG hF hT hb hP hPf k5
  rintro W5 ⟨hB, hr2, hY, hG, hF, hT, hP, hPf⟩
  have hg0 : pathB (twoF A B) 1 0 = A := rfl
  have hsz : (pathB (twoF A B) 1 0).size = 32 := by rw [hg0]; exact sA
  have hcl : climbB B 1 (pathB (twoF A B) 1) 1 = nodeB A B := by
    show (if 1 / 2 ^ 0 % 2 = 0 then _ else _) = _
    rw [if_neg (by decide)]
    rfl
  have hc0 : climbB B 0 (pathB (twoF A B) 1) 1 = nodeB B A := by
    show (if 0 / 2 ^ 0 % 2 = 0 then _ else _) = _
    rw [if_pos (by decide)]
    rfl
  have hl1 : leadsB (nodeB A B) 1 1 B (pathB (twoF A B) 1) 1 = true := by
    unfold leadsB
    exact decide_eq_true ⟨by decide, by decide, by decide, by decide, rfl, fun k hk => by
      have e : k = 0 := by omega
      subst e
      exact hsz, hcl⟩
  have hl0 : leadsB (nodeB A B) 1 0 B (pathB (twoF A B) 1) 1 = false := by
    unfold leadsB
    exact decide_eq_false fun h => hne (hc0.symm.trans h.2.2.2.2.2.2)
  have K1 := fun (W : World) (hr : RowA W (some ⟨g2, 0, none⟩) 1 [2]) (hS : StrS W p 1 cp (pathB (twoF A B) 1)) (hg : G W) => k8 g2 (nodeB A B) 1 (by omega) p cp _ hsz W hr hS hg
  have K0 := fun (W : World) (hr : RowA W (some ⟨g2, 0, none⟩) 1 [2]) (hS : StrS W p 1 cp (pathB (twoF A B) 1)) (hg : G W) => k8 g2 (nodeB A B) 0 (by omega) p cp _ hsz W hr hS hg
  have KC := fun (W : World) (hS : StrS W p 1 cp (pathB (twoF A B) 1)) (hg : G W) => k9 p cp _ hsz W hS hg
  rw [hcl] at KC
  rw [hl1] at K1
  rw [hl0] at K0
  obtain ⟨bp, op, rfl, p0⟩ := hP.1.2 0 (by decide)
  rw [Nat.add_zero, hg0] at p0
  have HS : Hid (AwSt w g2 g4 b cb (some ⟨bp, op, none⟩) cp A B (W5.setCell ⟨g4, 2, none⟩ (.slice (some ⟨bp, op, none⟩) 1 cp))) := Lib.hid ⟨hB.setCell hW4 _, ⟨hr2.1, hr2.2.1, fun k hk => by
    obtain ⟨b', off', e, c⟩ := hr2.2.2 k hk
    cases e
    exact ⟨_, _, rfl, (World.cell?_setCell_far _ _ _ _ hg24).trans c⟩⟩, hT.far (by omega), ⟨hP.1.far hPf, hP.2⟩⟩
  have z0 : (W5.setCell ⟨g4, 2, none⟩ (.slice (some ⟨bp, op, none⟩) 1 cp)).cell? ⟨g4, 0, none⟩ = some (.slice (some ⟨g2, 0, none⟩) 1 1) := (World.cell?_setCell_other _ _ _ _ (by intro hh; cases hh)).trans hY.1
  have z1 : (W5.setCell ⟨g4, 2, none⟩ (.slice (some ⟨bp, op, none⟩) 1 cp)).cell? ⟨g4, 1, none⟩ = some (.slice none 0 0) := (World.cell?_setCell_other _ _ _ _ (by intro hh; cases hh)).trans hY.2.1
  have z2 : (W5.setCell ⟨g4, 2, none⟩ (.slice (some ⟨bp, op, none⟩) 1 cp)).cell? ⟨g4, 2, none⟩ = some (.slice (some ⟨bp, op, none⟩) 1 cp) := by simp [go_sem, hY.2.2]
  have z3 : (W5.setCell ⟨g4, 2, none⟩ (.slice (some ⟨bp, op, none⟩) 1 cp)).cell? ⟨bp, op, none⟩ = some (.string A) := (World.cell?_setCell_far _ _ _ _ (hPf _ rfl)).trans p0
  have y2 := hY.2.2
  have HG0 := Lib.hid hG0
  clear hcl hc0 hl1 hl0 hne k8 k9 hB hr2 hY hG hT hP hPf hG0 h34 hg24 p0 hsz hg0
  generalize nodeB A B = R at *
  go_upto_region 7 with fail
  refine wp_loose [(34, []), (35, [34]), (36, [35]), (37, [36]), (38, [37]), (39, [37, 38]), (40, [37]), (41, [37]), (42, [37, 40, 41]), (43, [37, 39, 42]), (44, [37, 43]), (45, [44]), (46, [45]), (47, [45, 46]), (48, [47]), (49, [48]), (50, [48, 49]), (51, [48, 50]), (52, [48, 51]), (53, [52]), (54, [53]), (55, [53, 54]), (56, [53, 55]), (57, [53]), (58, [53, 56, 57]), (59, [53, 58]), (60, [59]), (61, [60]), (62, [60, 61]), (63, [60, 62]), (64, [63]), (65, [64]), (66, [64, 65]), (67, [64]), (68, [64, 66, 67]), (69, [64, 68]), (70, [69]), (71, [70]), (72, [70, 71]), (73, [70]), (74, [70, 72, 73]), (75, [70, 74]), (76, [70, 75]), (77, [76]), (78, [77]), (79, [77]), (80, [77, 78, 79]), (81, [77]), (82, [77, 81]), (83, [77, 80, 82]), (84, [77, 83]), (85, [84]), (86, [85]), (87, [85]), (88, [85]), (89, [85, 86, 87, 88]), (90, [85, 89]), (91, [85, 90]), (92, [85, 91]), (93, [85, 92]), (94, [93]), (95, [94]), (96, [94, 95]), (97, [94, 96])]
    (TAwR g2 bp op cp g4 cb b A B R) (fun d => false) (by kernel_rfl) (by kernel_rfl) (fun _ _ _ _ h hb => h.keep hb) ?_ ?_
  · refine opsrun_cons ?_ (opsrun_cons ?_ (opsrun_cons ?_ (opsrun_cons ?_ (opsrun_cons ?_ (opsrun_cons ?_ (opsrun_cons ?_ (opsrun_cons ?_ (opsrun_cons ?_ (opsrun_cons ?_ (opsrun_cons ?_ (opsrun_cons ?_ (opsrun_cons ?_ (opsrun_cons ?_ (opsrun_cons ?_ (opsrun_cons ?_ (opsrun_cons ?_ (opsrun_cons ?_ (opsrun_cons ?_ (opsrun_cons ?_ (opsrun_cons ?_ (opsrun_cons ?_ (opsrun_cons ?_ (opsrun_cons ?_ (opsrun_cons ?_ (opsrun_cons ?_ (opsrun_cons ?_ (opsrun_cons ?_ (opsrun_cons ?_ (opsrun_cons ?_ (opsrun_cons ?_ (opsrun_cons ?_ (opsrun_cons ?_ (opsrun_cons ?_ (opsrun_cons ?_ (opsrun_cons ?_ (opsrun_cons ?_ (opsrun_cons ?_ (opsrun_cons ?_ (opsrun_cons ?_ (opsrun_cons ?_ (opsrun_cons ?_ (opsrun_cons ?_ (opsrun_cons ?_ (opsrun_cons ?_ (opsrun_cons ?_ (opsrun_cons ?_ (opsrun_cons ?_ (opsrun_cons ?_ (opsrun_cons ?_ (opsrun_cons ?_ (opsrun_cons ?_ (opsrun_cons ?_ (opsrun_cons ?_ (opsrun_cons ?_ (opsrun_cons ?_ (opsrun_cons ?_ (opsrun_cons ?_ (opsrun_cons ?_ (opsrun_cons ?_ (opsrun_cons ?_ (opsrun_cons ?_ (opsrun_cons ?_ (opsrun_cons ?_ opsrun_nil)))))))))))))))))))))))))))))))))))))))))))))))))))))))))))))))
    all_goals
      refine OpRuns.any ?_
      intro Q0 σ W' K hb hn hK
      simp only [fill, List.map, Act.put, List.setIfInBounds_toArray, List.set_cons_zero, List.set_cons_succ] at hK ⊢
    · clear hn
      go_simp
      exact hK _ _ rfl (Below.refl _ _) (fun h => absurd h (by decide))
    · have h34 : σ 34 = _ := hn 34 (by decide)
      clear hn
      simp only [h34] at hK
      go_simp
      exact hK _ _ rfl (Below.refl _ _) (fun h => absurd h (by decide))
    · have h35 : σ 35 = _ := hn 35 (by decide)
      clear hn
      simp only [h35] at hK
      go_simp
      exact hK _ _ rfl (Below.refl _ _) (fun h => absurd h (by decide))
    · have h36 : σ 36 = _ := hn 36 (by decide)
      clear hn
      simp only [h36] at hK
      go_simp
      exact hK _ _ rfl (Below.refl _ _) (fun h => absurd h (by decide))
    · have h37 : σ 37 = _ := hn 37 (by decide)
      clear hn
      simp only [h37] at hK
      go_simp
      exact hK _ _ rfl (Below.refl _ _) (fun h => absurd h (by decide))
    · have h37 : σ 37 = _ := hn 37 (by decide)
      have h38 : σ 38 = _ := hn 38 (by decide)
      clear hn
      simp only [h37, h38] at hK
      go_simp
      go_at_call 12
      refine (k6 _ b cb _ (HS.out.tree.keep hb) (HK.out _ _ HG0.out (bthen HS.out.bel hb))).mono ?_
      rintro e w1 ⟨rfl, hb1⟩
      exact hK _ _ rfl hb1 (fun h => absurd h (by decide))
    · have h37 : σ 37 = _ := hn 37 (by decide)
      clear hn
      simp only [h37] at hK
      go_simp
      exact hK _ _ rfl (Below.refl _ _) (fun h => absurd h (by decide))
    · have h37 : σ 37 = _ := hn 37 (by decide)
      clear hn
      simp only [h37] at hK
      go_simp
      exact hK _ _ rfl (Below.refl _ _) (fun h => absurd h (by decide))
    · have h37 : σ 37 = _ := hn 37 (by decide)
      have h40 : σ 40 = _ := hn 40 (by decide)
      have h41 : σ 41 = _ := hn 41 (by decide)
      clear hn
      simp only [h37, h40, h41] at hK
      go_simp
      go_at_call 23
      refine (k7 _).mono ?_
      rintro e w1 ⟨rfl, hb1⟩
      exact hK _ _ rfl hb1 (fun h => absurd h (by decide))
    · have h37 : σ 37 = _ := hn 37 (by decide)
      have h39 : σ 39 = _ := hn 39 (by decide)
      have h42 : σ 42 = _ := hn 42 (by decide)
      clear hn
      simp only [h37, h39, h42] at hK
      go_simp
      exact hK _ _ rfl (Below.refl _ _) (fun h => absurd h (by decide))
    · have h37 : σ 37 = _ := hn 37 (by decide)
      have h43 : σ 43 = _ := hn 43 (by decide)
      clear hn
      simp only [h37, h43] at hK
      go_simp
      exact hK _ _ rfl (Below.refl _ _) (fun h => absurd h (by decide))
    · have h44 : σ 44 = _ := hn 44 (by decide)
      clear hn
      simp only [h44] at hK
      go_simp
      exact hK _ _ rfl (Below.refl _ _) (fun h => absurd h (by decide))
    · have h45 : σ 45 = _ := hn 45 (by decide)
      clear hn
      simp only [h45] at hK
      go_simp
      exact hK _ _ rfl (Below.refl _ _) (fun h => absurd h (by decide))
    · have h45 : σ 45 = _ := hn 45 (by decide)
      have h46 : σ 46 = _ := hn 46 (by decide)
      clear hn
      simp only [h45, h46] at hK
      go_simp
      exact hK _ _ rfl (Below.refl _ _) (fun h => absurd h (by decide))
    · have h47 : σ 47 = _ := hn 47 (by decide)
      clear hn
      simp only [h47] at hK
      go_simp
      exact hK _ _ rfl (Below.refl _ _) (fun h => absurd h (by decide))
    · have h48 : σ 48 = _ := hn 48 (by decide)
      clear hn
      simp only [h48] at hK
      go_simp
      exact hK _ _ rfl (Below.refl _ _) (fun h => absurd h (by decide))
    · have h48 : σ 48 = _ := hn 48 (by decide)
      have h49 : σ 49 = _ := hn 49 (by decide)
      clear hn
      simp only [h48, h49] at hK
      go_simp
      exact hK _ _ rfl (Below.refl _ _) (fun h => absurd h (by decide))
    · have h48 : σ 48 = _ := hn 48 (by decide)
      have h50 : σ 50 = _ := hn 50 (by decide)
      clear hn
      simp only [h48, h50] at hK
      go_simp
      exact hK _ _ rfl (Below.refl _ _) (fun h => absurd h (by decide))
    · have h48 : σ 48 = _ := hn 48 (by decide)
      have h51 : σ 51 = _ := hn 51 (by decide)
      clear hn
      simp only [h48, h51] at hK
      go_simp
      exact hK _ _ rfl (Below.refl _ _) (fun h => absurd h (by decide))
    · have h52 : σ 52 = _ := hn 52 (by decide)
      clear hn
      simp only [h52] at hK
      go_simp
      exact hK _ _ rfl (Below.refl _ _) (fun h => absurd h (by decide))
    · have h53 : σ 53 = _ := hn 53 (by decide)
      clear hn
      simp only [h53] at hK
      go_simp
      exact hK _ _ rfl (Below.refl _ _) (fun h => absurd h (by decide))
    · have h53 : σ 53 = _ := hn 53 (by decide)
      have h54 : σ 54 = _ := hn 54 (by decide)
      clear hn
      simp only [h53, h54] at hK
      go_simp
      exact hK _ _ rfl (Below.refl _ _) (fun h => absurd h (by decide))
    · have h53 : σ 53 = _ := hn 53 (by decide)
      have h55 : σ 55 = _ := hn 55 (by decide)
      clear hn
      simp only [h53, h55] at hK
      have z3' := bkeep hb z3
      clear z3
      go_simp
      exact hK _ _ rfl (Below.refl _ _) (fun h => absurd h (by decide))
    · have h53 : σ 53 = _ := hn 53 (by decide)
      clear hn
      simp only [h53] at hK
      go_simp
      exact hK _ _ rfl (Below.refl _ _) (fun h => absurd h (by decide))
    · have h53 : σ 53 = _ := hn 53 (by decide)
      have h56 : σ 56 = _ := hn 56 (by decide)
      have h57 : σ 57 = _ := hn 57 (by decide)
      clear hn
      simp only [h53, h56, h57] at hK
      go_simp
      exact hK _ _ rfl (Below.refl _ _) (fun h => absurd h (by decide))
    · have h53 : σ 53 = _ := hn 53 (by decide)
      have h58 : σ 58 = _ := hn 58 (by decide)
      clear hn
      simp only [h53, h58] at hK
      go_simp
      exact hK _ _ rfl (Below.refl _ _) (fun h => absurd h (by decide))
    · have h59 : σ 59 = _ := hn 59 (by decide)
      clear hn
      simp only [h59] at hK
      go_simp
      exact hK _ _ rfl (Below.refl _ _) (fun h => absurd h (by decide))
    · have h60 : σ 60 = _ := hn 60 (by decide)
      clear hn
      simp only [h60] at hK
      go_simp
      exact hK _ _ rfl (Below.refl _ _) (fun h => absurd h (by decide))
    · have h60 : σ 60 = _ := hn 60 (by decide)
      have h61 : σ 61 = _ := hn 61 (by decide)
      clear hn
      simp only [h60, h61] at hK
      go_simp
      exact hK _ _ rfl (Below.refl _ _) (fun h => absurd h (by decide))
    · have h60 : σ 60 = _ := hn 60 (by decide)
      have h62 : σ 62 = _ := hn 62 (by decide)
      clear hn
      simp only [h60, h62] at hK
      go_simp
      exact hK _ _ rfl (Below.refl _ _) (fun h => absurd h (by decide))
    · have h63 : σ 63 = _ := hn 63 (by decide)
      clear hn
      simp only [h63] at hK
      go_simp
      exact hK _ _ rfl (Below.refl _ _) (fun h => absurd h (by decide))
    · have h64 : σ 64 = _ := hn 64 (by decide)
      clear hn
      simp only [h64] at hK
      go_simp
      exact hK _ _ rfl (Below.refl _ _) (fun h => absurd h (by decide))
    · have h64 : σ 64 = _ := hn 64 (by decide)
      have h65 : σ 65 = _ := hn 65 (by decide)
      clear hn
      simp only [h64, h65] at hK
      go_simp
      go_at_call 12
      refine (k6 _ b cb _ (HS.out.tree.keep hb) (HK.out _ _ HG0.out (bthen HS.out.bel hb))).mono ?_
      rintro e w1 ⟨rfl, hb1⟩
      exact hK _ _ rfl hb1 (fun h => absurd h (by decide))
    · have h64 : σ 64 = _ := hn 64 (by decide)
      clear hn
      simp only [h64] at hK
      have z0' := bkeep hb z0
      have z1' := bkeep hb z1
      have z2' := bkeep hb z2
      clear z0 z1 z2
      go_simp
      exact hK _ _ rfl (Below.refl _ _) (fun h => absurd h (by decide))
    · have h64 : σ 64 = _ := hn 64 (by decide)
      have h66 : σ 66 = _ := hn 66 (by decide)
      have h67 : σ 67 = _ := hn 67 (by decide)
      clear hn
      simp only [h64, h66, h67] at hK
      go_simp
      go_at_call 18
      refine (K1 _ (HS.out.row.keep hb) (HS.out.path.keep hb) (HK.out _ _ HG0.out (bthen HS.out.bel hb))).mono ?_
      rintro e w1 ⟨rfl, hb1⟩
      exact hK _ _ rfl hb1 (fun h => absurd h (by decide))
    · have h64 : σ 64 = _ := hn 64 (by decide)
      have h68 : σ 68 = _ := hn 68 (by decide)
      clear hn
      simp only [h64, h68] at hK
      go_simp
      exact hK _ _ rfl (Below.refl _ _) (fun h => absurd h (by decide))
    · have h69 : σ 69 = _ := hn 69 (by decide)
      clear hn
      simp only [h69] at hK
      go_simp
      exact hK _ _ rfl (Below.refl _ _) (fun h => absurd h (by decide))
    · have h70 : σ 70 = _ := hn 70 (by decide)
      clear hn
      simp only [h70] at hK
      go_simp
      exact hK _ _ rfl (Below.refl _ _) (fun h => absurd h (by decide))
    · have h70 : σ 70 = _ := hn 70 (by decide)
      have h71 : σ 71 = _ := hn 71 (by decide)
      clear hn
      simp only [h70, h71] at hK
      go_simp
      go_at_call 12
      refine (k6 _ b cb _ (HS.out.tree.keep hb) (HK.out _ _ HG0.out (bthen HS.out.bel hb))).mono ?_
      rintro e w1 ⟨rfl, hb1⟩
      exact hK _ _ rfl hb1 (fun h => absurd h (by decide))
    · have h70 : σ 70 = _ := hn 70 (by decide)
      clear hn
      simp only [h70] at hK
      have z0' := bkeep hb z0
      have z1' := bkeep hb z1
      have z2' := bkeep hb z2
      clear z0 z1 z2
      go_simp
      exact hK _ _ rfl (Below.refl _ _) (fun h => absurd h (by decide))
    · have h70 : σ 70 = _ := hn 70 (by decide)
      have h72 : σ 72 = _ := hn 72 (by decide)
      have h73 : σ 73 = _ := hn 73 (by decide)
      clear hn
      simp only [h70, h72, h73] at hK
      go_simp
      go_at_call 18
      refine (K0 _ (HS.out.row.keep hb) (HS.out.path.keep hb) (HK.out _ _ HG0.out (bthen HS.out.bel hb))).mono ?_
      rintro e w1 ⟨rfl, hb1⟩
      exact hK _ _ rfl hb1 (fun h => absurd h (by decide))
    · have h70 : σ 70 = _ := hn 70 (by decide)
      have h74 : σ 74 = _ := hn 74 (by decide)
      clear hn
      simp only [h70, h74] at hK
      go_simp
      exact hK _ _ rfl (Below.refl _ _) (fun h => absurd h (by decide))
    · have h70 : σ 70 = _ := hn 70 (by decide)
      have h75 : σ 75 = _ := hn 75 (by decide)
      clear hn
      simp only [h70, h75] at hK
      go_simp
      exact hK _ _ rfl (Below.refl _ _) (fun h => absurd h (by decide))
    · have h76 : σ 76 = _ := hn 76 (by decide)
      clear hn
      simp only [h76] at hK
      go_simp
      exact hK _ _ rfl (Below.refl _ _) (fun h => absurd h (by decide))
    · have h77 : σ 77 = _ := hn 77 (by decide)
      clear hn
      simp only [h77] at hK
      go_simp
      exact hK _ _ rfl (Below.refl _ _) (fun h => absurd h (by decide))
    · have h77 : σ 77 = _ := hn 77 (by decide)
      clear hn
      simp only [h77] at hK
      go_simp
      exact hK _ _ rfl (Below.refl _ _) (fun h => absurd h (by decide))
    · have h77 : σ 77 = _ := hn 77 (by decide)
      have h78 : σ 78 = _ := hn 78 (by decide)
      have h79 : σ 79 = _ := hn 79 (by decide)
      clear hn
      simp only [h77, h78, h79] at hK
      go_simp
      go_at_call 20
      refine (KC _ (HS.out.path.keep hb) (HK.out _ _ HG0.out (bthen HS.out.bel hb))).mono ?_
      rintro e w1 ⟨rfl, hb1⟩
      exact hK _ _ rfl hb1 (fun h => absurd h (by decide))
    · have h77 : σ 77 = _ := hn 77 (by decide)
      clear hn
      simp only [h77] at hK
      go_simp
      exact hK _ _ rfl (Below.refl _ _) (fun h => absurd h (by decide))
    · have h77 : σ 77 = _ := hn 77 (by decide)
      have h81 : σ 81 = _ := hn 81 (by decide)
      clear hn
      simp only [h77, h81] at hK
      go_simp
      go_at_call 12
      refine (k6 _ b cb _ (HS.out.tree.keep hb) (HK.out _ _ HG0.out (bthen HS.out.bel hb))).mono ?_
      rintro e w1 ⟨rfl, hb1⟩
      exact hK _ _ rfl hb1 (fun h => absurd h (by decide))
    · have h77 : σ 77 = _ := hn 77 (by decide)
      have h80 : σ 80 = _ := hn 80 (by decide)
      have h82 : σ 82 = _ := hn 82 (by decide)
      clear hn
      simp only [h77, h80, h82] at hK
      go_simp
      exact hK _ _ rfl (Below.refl _ _) (fun h => absurd h (by decide))
    · have h77 : σ 77 = _ := hn 77 (by decide)
      have h83 : σ 83 = _ := hn 83 (by decide)
      clear hn
      simp only [h77, h83] at hK
      go_simp
      exact hK _ _ rfl (Below.refl _ _) (fun h => absurd h (by decide))
    · have h84 : σ 84 = _ := hn 84 (by decide)
      clear hn
      simp only [h84] at hK
      go_simp
      exact hK _ _ rfl (Below.refl _ _) (fun h => absurd h (by decide))
    · have h85 : σ 85 = _ := hn 85 (by decide)
      clear hn
      simp only [h85] at hK
      go_simp
      exact hK _ _ rfl (Below.refl _ _) (fun h => absurd h (by decide))
    · have h85 : σ 85 = _ := hn 85 (by decide)
      clear hn
      simp only [h85] at hK
      go_simp
      exact hK _ _ rfl (Below.refl _ _) (fun h => absurd h (by decide))
    · have h85 : σ 85 = _ := hn 85 (by decide)
      clear hn
      simp only [h85] at hK
      go_simp
      exact hK _ _ rfl (Below.refl _ _) (fun h => absurd h (by decide))
    · have h85 : σ 85 = _ := hn 85 (by decide)
      have h86 : σ 86 = _ := hn 86 (by decide)
      have h87 : σ 87 = _ := hn 87 (by decide)
      have h88 : σ 88 = _ := hn 88 (by decide)
      clear hn
      simp only [h85, h86, h87, h88] at hK
      go_simp
      exact hK _ _ ⟨W'.heap.size, rfl, three_lit _ _ _ _ _⟩ ((Below.refl _ _).alloc (Nat.le_refl _) _) (fun h => absurd h (by decide))
    · have h85 : σ 85 = _ := hn 85 (by decide)
      have p89 : ∃ g : Nat, (σ 89) = .slice (some ⟨g, 0, none⟩) 3 3 ∧ StrS W' (some ⟨g, 0, none⟩) 3 3 (fun j => if j = 0 then A else if j = 1 then B else A) := hn 89 (by decide)
      clear hn
      simp only [h85] at hK
      obtain ⟨g, e89, s89⟩ := p89
      simp only [e89] at hK
      go_simp
      go_at_call 10
      refine (k10 g _ s89 (HK.out _ _ HG0.out (bthen HS.out.bel hb))).mono ?_
      rintro e w1 ⟨hb1, b2, c2, rfl, _⟩
      exact hK _ _ ⟨_, _, rfl⟩ hb1 (fun h => absurd h (by decide))
    · have h85 : σ 85 = _ := hn 85 (by decide)
      have p90 : ∃ (a : Option Addr) (c : Nat), (σ 90) = .slice a 0 c := hn 90 (by decide)
      clear hn
      simp only [h85] at hK
      obtain ⟨a90, c90, e90⟩ := p90
      simp only [e90] at hK
      go_simp
      exact hK _ _ rfl (Below.refl _ _) (fun h => absurd h (by decide))
    · have h85 : σ 85 = _ := hn 85 (by decide)
      have h91 : σ 91 = _ := hn 91 (by decide)
      clear hn
      simp only [h85, h91] at hK
      go_simp
      exact hK _ _ rfl (Below.refl _ _) (fun h => absurd h (by decide))
    · have h85 : σ 85 = _ := hn 85 (by decide)
      have h92 : σ 92 = _ := hn 92 (by decide)
      clear hn
      simp only [h85, h92] at hK
      go_simp
      exact hK _ _ rfl (Below.refl _ _) (fun h => absurd h (by decide))
    · have h93 : σ 93 = _ := hn 93 (by decide)
      clear hn
      simp only [h93] at hK
      go_simp
      exact hK _ _ rfl (Below.refl _ _) (fun h => absurd h (by decide))
    · have h94 : σ 94 = _ := hn 94 (by decide)
      clear hn
      simp only [h94] at hK
      go_simp
      go_at_call 12
      refine (k11 _ (HK.out _ _ HG0.out (bthen HS.out.bel hb))).mono ?_
      rintro e w1 ⟨rfl, hb1⟩
      exact hK _ _ rfl hb1 (fun h => absurd h (by decide))
    · have h94 : σ 94 = _ := hn 94 (by decide)
      have h95 : σ 95 = _ := hn 95 (by decide)
      clear hn
      simp only [h94, h95] at hK
      go_simp
      exact hK _ _ rfl (Below.refl _ _) (fun h => absurd h (by decide))
    · have h94 : σ 94 = _ := hn 94 (by decide)
      have h96 : σ 96 = _ := hn 96 (by decide)
      clear hn
      simp only [h94, h96] at hK
      go_simp
      exact hK _ _ rfl (Below.refl _ _) (fun h => absurd h (by decide))
  · intro σ W' hb hR' hF
    have HB := Lib.hid (bthen HS.out.bel hb)
    have h97 : σ 97 = .bool true := hR' 97 (by decide)
    clear hR' hF hb z0 z1 z2 z3
    simp only [List.append, fill, List.map, Act.put, List.setIfInBounds_toArray, List.set_cons_zero, List.set_cons_succ, List.length_cons, List.length_nil, List.drop_succ_cons, List.drop_zero, Nat.reduceAdd, h97]
    go_wp2_with fail
    go_ret
    exact ⟨rfl, HB.out⟩
end Go.Proofs.YtmhpbgdchocoiaaDoor
