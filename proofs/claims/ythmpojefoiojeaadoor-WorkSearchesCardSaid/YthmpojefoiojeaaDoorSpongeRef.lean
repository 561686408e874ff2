/-
  What the document's calls of layer 12 come to. (Written by gen_sref.py.)
-/
import Derived.Test.YthmpojefoiojeaaDoorSpongeM
import Derived.Test.YthmpojefoiojeaaDoorLeafRef
import Derived.Test.YthmpojefoiojeaaDoorGNum
namespace Go.Proofs.YthmpojefoiojeaaDoor
open Go Go.RowKit Go.Sort Go.BigFrame
set_option linter.unusedVariables false

set_option maxHeartbeats 1000000 in
theorem rnew_is (l : ByteArray) (w : World) (hl : l.size ≤ 10000) : Calls Tryd.prog 14 #[.string l] w fun e w' => e = .returned (spong (newB l) 0) ∧ Below w.heap.size w w' := by
  have s1 := fun (W : World) (t : TypeId) => rsum2 byte2 l _ (newB_is l) (by show 1 + _ ≤ _; omega) W t
  have hb1 := fun (W : World) (o : Obj) => (Below.refl W.heap.size W).alloc (Nat.le_refl _) o
  generalize newB l = Z at *
  go_enter Tryd.func14, Tryd.ntmps14
  go_upto_region 1 with fail
  refine wp_gen (fun W => Below w.heap.size w W ∧ (W.cell? ⟨w.heap.size, 0, none⟩ = some (.string ⟨#[]⟩) ∧ W.cell? ⟨w.heap.size, 1, none⟩ = some (.int .i64 0)) ∧ W.frozen? ⟨w.heap.size, 0, none⟩ = false ∧ W.frozen? ⟨w.heap.size, 1, none⟩ = false) ⟨hb1 _ _, ⟨by simp [go_sem], by simp [go_sem]⟩, by simp [go_sem], by simp [go_sem]⟩ ?_
  obtain ⟨g, hg⟩ : ∃ g, w.heap.size = g := ⟨_, rfl⟩
  rintro W1 ⟨hB, ⟨c0, c1⟩, f0, f1⟩
  rw [hg] at c0 c1 f0 f1
  simp only [hg]
  have HB := Lib.hid hB
  have hgle : w.heap.size ≤ g := by omega
  clear hB hg hb1
  go_wp2_with (go_at_call 21; (with_reducible refine (s1 W1 _).mono ?_); rintro e w1 ⟨rfl, hb⟩; replace f0 := bfree hb c0 f0; replace f1 := bfree hb c1 f1; replace c0 := bkeep hb c0; replace c1 := bkeep hb c1; replace HB := Lib.hid (bthen HB.out hb); clear hb)
  exact bodyPost_ret (v := .agg #[.string Z, .int .i64 0]) (by simp [results, Tryd.results14, go_sem, c0, c1]) rfl ⟨rfl, (HB.out.setCell hgle _).setCell hgle _⟩
-- gen
theorem rsumL (l : List ByteArray) (n : Nat) (z : ByteArray) (hz : sumB (cat (tx l) n) = z) (hl : lens (tx l) n ≤ 1000000) (v : Value) (W : World) (h : StrL W v n l) : Calls Tryd.prog 21 #[v] W fun e w' => e = .returned (.string z) ∧ Below W.heap.size W w' :=
  sumL_of (G := fun _ => True) (fun a len cap F W h1 h2 _ => rsum_is a len cap F W h1 h2) l n z hz hl v W h trivial
theorem wrap_size (n : Nat) (h : n ≤ 1000000) : IntKind.u64.wrap (n : Int) = (n : Int) := by rw [IntKind.wrap_u64]; omega
def AbsR (g bp op n cap k : Nat) (s1 T E Z : ByteArray) (sl : Nat) (v : Value) (W : World) : Prop :=
  match sl with
  | 12 => v = .pointer (some ⟨g, 0, none⟩)
  | 13 => v = .string s1
  | 14 => v = .slice (some ⟨bp, op, none⟩) n cap
  | 15 => v = .int .i64 k
  | 16 => v = .pointer (some ⟨bp, op + k, none⟩)
  | 17 => v = .string T
  | 18 => v = .int .i64 (T.size : Int)
  | 19 => v = .int .u64 (T.size : Int)
  | 20 => v = .string E
  | 21 => v = .slice (some ⟨bp, op, none⟩) n cap
  | 22 => v = .int .i64 k
  | 23 => v = .pointer (some ⟨bp, op + k, none⟩)
  | 24 => v = .string T
  | 25 => StrL W v 4 [byte2, s1, E, T]
  | 26 => v = .string Z
  | 27 => v = .agg #[.string Z, .int .i64 0]
  | _ => v = .bool true
theorem AbsR.keep {g bp op n cap k : Nat} {s1 T E Z : ByteArray} {sl : Nat} {v : Value} {W W' : World} (h : AbsR g bp op n cap k s1 T E Z sl v W) (hb : Below W.heap.size W W') : AbsR g bp op n cap k s1 T E Z sl v W' := by
  unfold AbsR at *
  split at h
  all_goals first | exact h | (exact StrL.keep h hb)
def AbsRel (w : World) (g g2 : Nat) (s : ByteArray) (c : Int) (f : Nat → ByteArray) (n : Nat) (i : Value) (W : World) : Prop :=
  ∃ k : Nat, k ≤ n ∧ i = .int .i64 k ∧ Below w.heap.size w W ∧ Duo W g (.string (absL s f k)) (.int .i64 (if k = 0 then c else 0)) ∧ Duo W g2 (.string ⟨#[]⟩) (.int .i64 0)
def SqzR (g : Nat) (s : ByteArray) (c m : Int) (E Z : ByteArray) (sl : Nat) (v : Value) (W : World) : Prop :=
  match sl with
  | 5 => v = .pointer (some ⟨g, 0, none⟩)
  | 6 => v = .string s
  | 7 => v = .pointer (some ⟨g, 1, none⟩)
  | 8 => v = .int .i64 c
  | 9 => v = .int .u64 m
  | 10 => v = .string E
  | 11 => StrL W v 3 [byte3, s, E]
  | 12 => v = .string Z
  | _ => v = .bool true
theorem SqzR.keep {g : Nat} {s : ByteArray} {c m : Int} {E Z : ByteArray} {sl : Nat} {v : Value} {W W' : World} (h : SqzR g s c m E Z sl v W) (hb : Below W.heap.size W W') : SqzR g s c m E Z sl v W' := by
  unfold SqzR at *
  split at h
  all_goals first | exact h | (exact StrL.keep h hb)
end Go.Proofs.YthmpojefoiojeaaDoor
