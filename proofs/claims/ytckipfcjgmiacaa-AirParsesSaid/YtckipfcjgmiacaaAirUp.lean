/-
  One under way: a reader, a variable, its three lists put together.
-/
import Derived.Test.YtckipfcjgmiacaaAirRefR
import Derived.Test.YtckipfcjgmiacaaAirRefC
import Derived.Test.YtckipfcjgmiacaaFill
import Derived.Test.YtckipfcjgmiacaaFive
namespace Go.Proofs.Ytckipfcjgmiacaa
open Go Go.RowKit
set_option linter.unusedVariables false

abbrev strsV (l : List ByteArray) : List Value := l.map Value.string
def flatI (l : List (Int × Int)) : List Value := l.flatMap fun b => [.int .i64 b.1, .int .i64 b.2]
theorem flatI_app (l m : List (Int × Int)) : flatI (l ++ m) = flatI l ++ flatI m := by simp [flatI]
theorem flatI_at : ∀ (xs : List (Int × Int)) (i : Nat), i < xs.length → (flatI xs)[i * 2]? = some (.int .i64 (xs.getD i (0, 0)).1) ∧ (flatI xs)[i * 2 + 1]? = some (.int .i64 (xs.getD i (0, 0)).2)
  | x :: xs, 0, _ => ⟨rfl, rfl⟩
  | x :: xs, i + 1, h => by
    have ih := flatI_at xs i (by simpa using h)
    have e : flatI (x :: xs) = .int .i64 x.1 :: .int .i64 x.2 :: flatI xs := by simp [flatI]
    rw [e, show (i + 1) * 2 = i * 2 + 1 + 1 by omega]
    simpa [List.getD] using ih
/-- The state of one that is read: the reader's rest, the variable's cells, its rows. -/
structure AirUp (w : World) (B gr gR gA : Nat) (q : Rest) (c l : Int) (k2 k3 k4 v2 v3 v4 : Value) (xs ys : List ByteArray) (zs : List (Int × Int)) (W : World) : Prop where
  bel : Below w.heap.size w W
  lt : B ≤ W.heap.size
  rd : Duo W gR (.string q.1) (.bool q.2)
  a : Five W gA (.int .i64 c) (.int .i64 l) k2 k3 k4
  r : Five W gr (.int .i64 0) (.int .i64 0) (.slice none 0 0) (.slice none 0 0) (.slice none 0 0)
  o2 : W.ownsRow B 9 1 v2 xs.length (strsV xs)
  o3 : W.ownsRow B 9 1 v3 ys.length (strsV ys)
  o4 : W.ownsRow B 48 2 v4 zs.length (flatI zs)
  ne : ∀ k, v2.ownBlock = some k → v3.ownBlock ≠ some k
/-- Where the blocks lie. -/
structure AirB (w : World) (B gr gR gA : Nat) : Prop where
  r0 : w.heap.size ≤ gr
  r1 : gr < gR
  r2 : gR < gA
  r3 : gA < B
section
variable {w : World} {B gr gR gA : Nat} {q q' : Rest} {c l : Int} {k2 k3 k4 v2 v3 v4 : Value} {xs ys : List ByteArray} {zs : List (Int × Int)} {W W' : World}
theorem AirUp.keep (h : AirUp w B gr gR gA q c l k2 k3 k4 v2 v3 v4 xs ys zs W) (hb : Below W.heap.size W W') : AirUp w B gr gR gA q c l k2 k3 k4 v2 v3 v4 xs ys zs W' :=
  ⟨bthen h.bel hb, Nat.le_trans h.lt hb.size, h.rd.keep hb, h.a.keep hb, h.r.keep hb, own_keep h.o2 hb, own_keep h.o3 hb, own_keep h.o4 hb, h.ne⟩
theorem own_ne_or {W : World} {B g : Nat} {e : TypeId} {s n : Nat} {v : Value} {xs : List Value} (h : W.ownsRow B e s v n xs) (hg : g < B) : v.ownBlock = none ∨ v.ownBlock ≠ some g := by
  cases hv : v.ownBlock with
  | none => exact .inl rfl
  | some k => exact .inr fun e => by have := own_ge h k hv; cases e; omega
/-- The reader goes on. -/
theorem AirUp.read (h : AirUp w B gr gR gA q c l k2 k3 k4 v2 v3 v4 xs ys zs W) (hB : AirB w B gr gR gA) (hD : Duo W' gR (.string q'.1) (.bool q'.2)) (hg : W.grownBy W' (some gR)) : AirUp w B gr gR gA q' c l k2 k3 k4 v2 v3 v4 xs ys zs W' := by
  obtain ⟨b0, b1, b2, b3⟩ := hB
  have hws := h.bel.size
  refine ⟨h.bel.grown hg h.bel.size (fun k hk => by cases hk; omega), Nat.le_trans h.lt hg.size, hD, h.a.grown hg (fun k hk => by cases hk; omega), h.r.grown hg (fun k hk => by cases hk; omega), h.o2.kept hg (own_ne_or h.o2 (by omega)), h.o3.kept hg (own_ne_or h.o3 (by omega)), h.o4.kept hg (own_ne_or h.o4 (by omega)), h.ne⟩
theorem row_far {W : World} {B g : Nat} {e : TypeId} {s n : Nat} {v : Value} {xs : List Value} (h : W.ownsRow B e s v n xs) (hg : g < B) : ∀ k, v.ownBlock = some k → k ≠ g := fun k hk e => by have := own_ge h k hk; omega
/-- A text more of the first list. -/
theorem AirUp.app2 {t : ByteArray} {v' : Value} (h : AirUp w B gr gR gA q c l k2 k3 k4 v2 v3 v4 xs ys zs W) (hB : AirB w B gr gR gA) (hown : W'.ownsRow B 9 1 v' (xs.length + 1) (strsV xs ++ [.string t])) (hg : W.grownBy W' v2.ownBlock) (hat : v'.ownBlock = v2.ownBlock ∨ v'.ownBlock = some W.heap.size) :
    AirUp w B gr gR gA q c l k2 k3 k4 v' v3 v4 (xs ++ [t]) ys zs W' := by
  obtain ⟨b0, b1, b2, b3⟩ := hB
  have n3 : v3.ownBlock = none ∨ v3.ownBlock ≠ v2.ownBlock := by
    cases e : v3.ownBlock with
    | none => exact .inl rfl
    | some k => exact .inr fun e' => h.ne k e'.symm e
  refine ⟨h.bel.grown hg h.bel.size (fun k hk => by have := own_ge h.o2 k hk; omega), Nat.le_trans h.lt hg.size, h.rd.grown hg (row_far h.o2 (by omega)), h.a.grown hg (row_far h.o2 (by omega)), h.r.grown hg (row_far h.o2 (by omega)), by rw [List.length_append, strsV, List.map_append]; exact hown, h.o3.kept hg n3, h.o4.kept hg (own_unlike h.o4 h.o2 (by decide)), fun k hk => ?_⟩
  rcases hat with e | e
  · exact h.ne k (e ▸ hk)
  · rw [hk] at e
    cases e
    intro e'
    have := (h.o3.lt _ e').2
    omega
theorem AirUp.app3 {t : ByteArray} {v' : Value} (h : AirUp w B gr gR gA q c l k2 k3 k4 v2 v3 v4 xs ys zs W) (hB : AirB w B gr gR gA) (hown : W'.ownsRow B 9 1 v' (ys.length + 1) (strsV ys ++ [.string t])) (hg : W.grownBy W' v3.ownBlock) (hat : v'.ownBlock = v3.ownBlock ∨ v'.ownBlock = some W.heap.size) :
    AirUp w B gr gR gA q c l k2 k3 k4 v2 v' v4 xs (ys ++ [t]) zs W' := by
  obtain ⟨b0, b1, b2, b3⟩ := hB
  have n2 : v2.ownBlock = none ∨ v2.ownBlock ≠ v3.ownBlock := by
    cases e : v2.ownBlock with
    | none => exact .inl rfl
    | some k => exact .inr fun e' => h.ne k e e'.symm
  refine ⟨h.bel.grown hg h.bel.size (fun k hk => by have := own_ge h.o3 k hk; omega), Nat.le_trans h.lt hg.size, h.rd.grown hg (row_far h.o3 (by omega)), h.a.grown hg (row_far h.o3 (by omega)), h.r.grown hg (row_far h.o3 (by omega)), h.o2.kept hg n2, by rw [List.length_append, strsV, List.map_append]; exact hown, h.o4.kept hg (own_unlike h.o4 h.o3 (by decide)), fun k hk e2 => ?_⟩
  rcases hat with e | e
  · exact h.ne k hk (e ▸ e2)
  · rw [e2] at e
    cases e
    have := (h.o2.lt _ hk).2
    omega
theorem AirUp.app4 {b : Int × Int} {v' : Value} (h : AirUp w B gr gR gA q c l k2 k3 k4 v2 v3 v4 xs ys zs W) (hB : AirB w B gr gR gA) (hown : W'.ownsRow B 48 2 v' (zs.length + 1) (flatI zs ++ [.int .i64 b.1, .int .i64 b.2])) (hg : W.grownBy W' v4.ownBlock) :
    AirUp w B gr gR gA q c l k2 k3 k4 v2 v3 v' xs ys (zs ++ [b]) W' := by
  obtain ⟨b0, b1, b2, b3⟩ := hB
  exact ⟨h.bel.grown hg h.bel.size (fun k hk => by have := own_ge h.o4 k hk; omega), Nat.le_trans h.lt hg.size, h.rd.grown hg (row_far h.o4 (by omega)), h.a.grown hg (row_far h.o4 (by omega)), h.r.grown hg (row_far h.o4 (by omega)), h.o2.kept hg (own_unlike h.o2 h.o4 (by decide)), h.o3.kept hg (own_unlike h.o3 h.o4 (by decide)), by rw [List.length_append, flatI_app]; exact hown, h.ne⟩
theorem AirUp.store (h : AirUp w B gr gR gA q c l k2 k3 k4 v2 v3 v4 xs ys zs W) (hB : AirB w B gr gR gA) (o : Nat) (x k2' k3' k4' : Value) (hf : Five (W.setCell ⟨gA, o, none⟩ x) gA (.int .i64 c) (.int .i64 l) k2' k3' k4') : AirUp w B gr gR gA q c l k2' k3' k4' v2 v3 v4 xs ys zs (W.setCell ⟨gA, o, none⟩ x) := by
  obtain ⟨b0, b1, b2, b3⟩ := hB
  exact ⟨h.bel.setCell (by show w.heap.size ≤ gA; omega) _, by simpa [World.setCell] using h.lt, h.rd.far (by omega) _ _, hf, h.r.far (by omega) _ _, own_set h.o2 (by omega), own_set h.o3 (by omega), own_set h.o4 (by omega), h.ne⟩
end
/-- What the rows read as. -/
theorem own_strA {W : World} {B : Nat} {v : Value} {l : List ByteArray} (h : W.ownsRow B 9 1 v l.length (strsV l)) : ∃ a c, v = .slice a l.length c ∧ StrA W a l.length (tx l) := by
  rcases h.2 with ⟨hv, h0⟩ | ⟨g, cap, cur, hv, hb, hg, hn, hcap, hsz, ht⟩
  · exact ⟨none, 0, by rw [hv, h0], by unfold maxLen; omega, fun k hk => by omega⟩
  · refine ⟨some ⟨g, 0, none⟩, cap, hv, by omega, fun i hi => ⟨g, 0, rfl, ?_⟩⟩
    subst hv
    rw [Nat.zero_add, h.cellAt i (by omega)]
    simp [strsV, tx, List.getD, hi]
theorem own_boundA {W : World} {B : Nat} {v : Value} {l : List (Int × Int)} (h : W.ownsRow B 48 2 v l.length (flatI l)) : ∃ a c, v = .slice a l.length c ∧ BoundA W a l.length l := by
  rcases h.2 with ⟨hv, h0⟩ | ⟨g, cap, cur, hv, hb, hg, hn, hcap, hsz, ht⟩
  · exact ⟨none, 0, by rw [hv, h0], rfl, by unfold maxLen; omega, fun k hk => by omega⟩
  · refine ⟨some ⟨g, 0, none⟩, cap, hv, rfl, by omega, fun i hi => ⟨g, 0, rfl, ?_⟩⟩
    subst hv
    obtain ⟨f0, f1⟩ := flatI_at l i hi
    rw [Nat.zero_add, h.cellAt (i * 2) (by omega), h.cellAt (i * 2 + 1) (by omega)]
    exact ⟨f0, f1⟩
/-! What is read is no longer than what was there. -/
theorem numR_size (m : Int) (r : Rest) : (numR m r).2.1.size ≤ r.1.size := by
  unfold numR
  split
  · exact Nat.le_refl _
  · show (r.1.extract 8 r.1.size).size ≤ _; rw [ByteArray.size_extract]; omega
theorem textR_size (m : Int) (r : Rest) : (textR m r).2.1.size ≤ r.1.size := by
  have := numR_size m r
  unfold textR
  split
  · exact this
  · show ((numR m r).2.1.extract _ _).size ≤ _; rw [ByteArray.size_extract]; omega
theorem placeR_size (r : Rest) : (placeR r).2.1.size ≤ r.1.size := Nat.le_trans (numR_size _ _) (numR_size _ _)
theorem manyR_size {α : Type} {f : Rest → α × Rest} (hf : ∀ r, (f r).2.1.size ≤ r.1.size) (r : Rest) : ∀ k, (manyR f r k).2.1.size ≤ r.1.size
  | 0 => Nat.le_refl _
  | k + 1 => Nat.le_trans (hf _) (manyR_size hf r k)
theorem numR_bd {m : Int} (hm : 0 ≤ m) (r : Rest) : 0 ≤ (numR m r).1 ∧ (numR m r).1 ≤ m := by
  unfold numR
  split
  · exact ⟨Int.le_refl _, hm⟩
  · next c =>
    simp only [not_or] at c
    exact ⟨(numB_U _ _).1, by show numB r.1 0 ≤ m; omega⟩
end Go.Proofs.Ytckipfcjgmiacaa
