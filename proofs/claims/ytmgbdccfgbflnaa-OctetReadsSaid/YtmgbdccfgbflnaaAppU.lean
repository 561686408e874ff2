/-
  append of a whole slice of numbers onto a slice that the call made; two numbers at once. No function of the program is named.
-/
import Derived.Test.YtmgbdccfgbflnaaOwn
import Derived.Laws.AppendOwn
import Derived.Laws.OwnMore
import Derived.Tactics
namespace Go.Proofs.Ytmgbdccfgbflnaa
open Go Go.RowKit
set_option linter.unusedVariables false

theorem wpList_append_u {P : Program} {w : World} {ops : Array Oper} {rest : List Oper} {o : Oper} {a : Act} {Q : Exit → Act → World → Prop} (hw : Region.wanted o (yielded ops a.tmps) = true) (s x : Operand) (t : TypeId)
    (ho : o.op = .call { callee := .builtin .append, args := #[s, x], argTypes := #[t, t] })
    (base : Nat) (e : TypeId) (i : TypeInfo) (z : Value) (bytes : Nat) (ht : P.underlying t = some (.slice e)) (hi : P.info? e = some i) (hz : i.zero = some z)
    (hsize : i.size = 1) (hby : i.bytes = bytes) (hzs : z.cells.size = 1)
    (v : Value) (n : Nat) (xs : List Value) (hs : a.eval s = v) (hown : w.ownsRow base e 1 v n xs) (ax : Option Addr) (m c : Nat) (zs : List Int) (hx : a.eval x = .slice ax m c) (hnil : ax = none → m = 0 ∧ c = 0) (hr : RowA w ax m zs)
    (h63 : n + m ≤ maxLen) (hbytes : (n + m) * bytes ≤ 140737488355328) (hbase : base ≤ w.heap.size)
    (h : ∀ v' w', w'.ownsRow base e 1 v' (n + m) (xs ++ zs.map (Value.int .u64)) → w.grownBy w' v.ownBlock → wpList P ops Q rest (a.put o.dst v') w') :
    wpList P ops Q (o :: rest) a w := by
  have one : ∀ u ∈ zs.map (Value.int .u64), u.oneCell' = true := by
    intro u hu
    obtain ⟨j, _, rfl⟩ := List.mem_map.1 hu
    rfl
  cases ax with
  | none =>
    obtain ⟨rfl, rfl⟩ := hnil rfl
    obtain rfl : zs = [] := List.length_eq_zero_iff.mp hr.1
    refine wpList_step fun K hK => ?_
    rw [if_pos hw]
    have hrun := run_append_owned_none (P := P) w base t o.type e i 1 ht hi v n xs hown
    unfold Oper.wp execOp
    simp only [ho, resolve, invoke, builtin, Sem.run_bind, Sem.run_pure, Result.andThen_ok, List.map_toArray, List.map_cons, List.map_nil, hs, hx, hrun]
    exact hK _ _ (h v w (by simpa using hown) (World.grownBy.refl _ _))
  | some ad =>
    refine wpList_step fun K hK => ?_
    rw [if_pos hw]
    refine wp_append_own w s x t ho base e i z 1 bytes ht hi hz hsize hby hzs (by omega) v n xs hs hown ad m c (zs.map (Value.int .u64)) hx (by rw [List.length_map, hr.1]; omega) (fun j u hu => ?_) one h63 hbytes hbase fun v' w' h1 h2 _ => hK _ _ (h v' w' h1 h2)
    have hj : j < zs.length := by
      have := (List.getElem?_eq_some_iff.1 hu).1
      simpa using this
    obtain ⟨b, off, e1, c1⟩ := hr.2.2 j (by rw [← hr.1]; exact hj)
    cases e1
    rw [Addr.add_mid, c1]
    simp [hj] at hu
    rw [← hu]
    simp [List.getD, hj]
theorem own_none (W : World) (base : Nat) (e : TypeId) (hb : base ≤ W.heap.size) : (W.alloc (.cells #[] e)).ownsRow base e 1 (.slice (some ⟨W.heap.size, 0, none⟩) 0 0) 0 [] :=
  ⟨rfl, .inr ⟨W.heap.size, 0, #[], rfl, hb, heap_alloc_new W _, Nat.le_refl _, by unfold maxLen; omega, rfl, rfl⟩⟩
theorem own_rowA {w : World} {base : Nat} {e : TypeId} {v : Value} {n : Nat} {zs : List Int} (h : w.ownsRow base e 1 v n (zs.map (Value.int .u64))) (hn : n = zs.length) : ∃ a c, v = .slice a n c ∧ RowA w a n zs := by
  subst hn
  obtain ⟨a, c, rfl⟩ := own_form h
  exact ⟨a, c, rfl, (Row.own h).at⟩
theorem below_own2 {B : Nat} {W w w1 : World} {row : Option Nat} (h : Below B W w) (hg : w.grownBy w1 row) (hr : ∀ k, row = some k → B ≤ k) (hB : B ≤ w.heap.size) : Below B W w1 := h.grown hg hB hr
theorem MadeU.step2 {W w w1 : World} {v v' : Value} {xs : List Int} {y z : Int} (h : MadeU W w v xs) (o : Obj)
    (hown : w1.ownsRow W.heap.size 22 1 v' (xs.length + 2) (xs.map (Value.int .u64) ++ [.int .u64 y, .int .u64 z])) (hg : (w.alloc o).grownBy w1 v.ownBlock) : MadeU W w1 v' (xs ++ [y, z]) := by
  refine ⟨by rw [List.length_append, List.map_append]; exact hown, (h.2.alloc h.2.size o).grown hg ?_ (own_ge h.1)⟩
  have := h.2.size; show _ ≤ (w.heap.push o).size; simp; omega
end Go.Proofs.Ytmgbdccfgbflnaa
