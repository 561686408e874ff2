/-
  append of a whole slice of texts onto a slice that the call made. No function of the program is named.
-/
import Derived.Test.YtajjfonodfncmaaDoorSumM
import Derived.Laws.AppendOwn
import Derived.Laws.OwnMore
import Derived.Tactics
namespace Go.Proofs.YtajjfonodfncmaaDoor
open Go Go.RowKit
set_option linter.unusedVariables false

def strV (f : Nat → ByteArray) (n : Nat) : List Value := (List.range n).map fun j => .string (f j)
theorem strV_len (f : Nat → ByteArray) (n : Nat) : (strV f n).length = n := by simp [strV]
theorem strV_at (f : Nat → ByteArray) (n j : Nat) (u : Value) (h : (strV f n)[j]? = some u) : j < n ∧ u = .string (f j) := by
  have hj : j < n := by
    have := (List.getElem?_eq_some_iff.1 h).1
    simpa [strV] using this
  refine ⟨hj, ?_⟩
  simp [strV, hj] at h
  exact h.symm
theorem wpList_append_str {P : Program} {w : World} {ops : Array Oper} {rest : List Oper} {o : Oper} {a : Act} {Q : Exit → Act → World → Prop} (hw : Region.wanted o (yielded ops a.tmps) = true) (s x : Operand) (t : TypeId)
    (ho : o.op = .call { callee := .builtin .append, args := #[s, x], argTypes := #[t, t] })
    (base : Nat) (e : TypeId) (i : TypeInfo) (z : Value) (bytes : Nat) (ht : P.underlying t = some (.slice e)) (hi : P.info? e = some i) (hz : i.zero = some z)
    (hsize : i.size = 1) (hby : i.bytes = bytes) (hzs : z.cells.size = 1)
    (v : Value) (n : Nat) (xs : List Value) (hs : a.eval s = v) (hown : w.ownsRow base e 1 v n xs) (ax : Option Addr) (m c : Nat) (f : Nat → ByteArray) (hx : a.eval x = .slice ax m c) (hnil : ax = none → m = 0 ∧ c = 0) (hr : StrA w ax m f)
    (h63 : n + m ≤ maxLen) (hbytes : (n + m) * bytes ≤ 140737488355328) (hbase : base ≤ w.heap.size)
    (h : ∀ v' w', w'.ownsRow base e 1 v' (n + m) (xs ++ strV f m) → w.grownBy w' v.ownBlock → wpList P ops Q rest (a.put o.dst v') w') :
    wpList P ops Q (o :: rest) a w := by
  have one : ∀ u ∈ strV f m, u.oneCell' = true := by
    intro u hu
    obtain ⟨j, _, rfl⟩ := List.mem_map.1 hu
    rfl
  cases ax with
  | none =>
    obtain ⟨rfl, rfl⟩ := hnil rfl
    refine wpList_step fun K hK => ?_
    rw [if_pos hw]
    have hrun := run_append_owned_none (P := P) w base t o.type e i 1 ht hi v n xs hown
    unfold Oper.wp execOp
    simp only [ho, resolve, invoke, builtin, Sem.run_bind, Sem.run_pure, Result.andThen_ok, List.map_toArray, List.map_cons, List.map_nil, hs, hx, hrun]
    exact hK _ _ (h v w (by simpa [strV] using hown) (World.grownBy.refl _ _))
  | some ad =>
    refine wpList_step fun K hK => ?_
    rw [if_pos hw]
    refine wp_append_own w s x t ho base e i z 1 bytes ht hi hz hsize hby hzs (by omega) v n xs hs hown ad m c (strV f m) hx (by rw [strV_len]; omega) (fun j u hu => ?_) one h63 hbytes hbase fun v' w' h1 h2 _ => hK _ _ (h v' w' h1 h2)
    obtain ⟨hj, rfl⟩ := strV_at f m j u hu
    obtain ⟨b, off, e1, c1⟩ := hr.2 j hj
    cases e1
    rw [Addr.add_mid]
    exact c1
/-- What such a slice reads as. -/
theorem own_str {w : World} {base : Nat} {e : TypeId} {v : Value} {n : Nat} {f : Nat → ByteArray} (h : w.ownsRow base e 1 v n (strV f n)) (hn : 0 < n) (hm : n ≤ maxLen) : ∃ g c : Nat, v = .slice (some ⟨g, 0, none⟩) n c ∧ StrA w (some ⟨g, 0, none⟩) n f := by
  rcases h.2 with ⟨_, h0⟩ | ⟨g, cap, cur, rfl, hb, hg, hnc, hcm, hcs, htake⟩
  · omega
  · refine ⟨g, cap, rfl, hm, fun k hk => ⟨g, 0, rfl, ?_⟩⟩
    rw [Nat.zero_add, cell_of_row _ _ _ _ _ _ hg]
    have : (strV f n)[k]? = some (.string (f k)) := by simp [strV, hk]
    rw [← htake, Nat.mul_one, List.getElem?_take_of_lt hk] at this
    simpa using this
theorem own_new (W : World) (base : Nat) (s : Value) (e : TypeId) (hb : base ≤ W.heap.size) : (W.alloc (.cells #[s] e)).ownsRow base e 1 (.slice (some ⟨W.heap.size, 0, none⟩) 1 1) 1 [s] :=
  ⟨rfl, .inr ⟨W.heap.size, 1, #[s], rfl, hb, heap_alloc_new W _, Nat.le_refl _, by unfold maxLen; omega, rfl, rfl⟩⟩
end Go.Proofs.YtajjfonodfncmaaDoor
