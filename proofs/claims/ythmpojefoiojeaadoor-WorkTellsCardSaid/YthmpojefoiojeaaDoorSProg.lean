/-
  The program's calls of layer 12: what is asked of them is so. (Written by gen_sprog.py.)
-/
import Derived.Test.YthmpojefoiojeaaDoorSPro
import Derived.Test.YthmpojefoiojeaaDoorGNum
import Derived.Test.YthmpojefoiojeaaDoorGRow
namespace Go.Proofs.YthmpojefoiojeaaDoor
open Go Go.RowKit Go.Sort Go.BigFrame
set_option linter.unusedVariables false

theorem geight_is (n : Int) (hn : U n) (W : World) : Calls Tryd.prog 18 #[.int .u64 n] W fun e w' => e = .returned (.string (eightB n)) ∧ Below W.heap.size W w' := oeight_is n hn W
theorem gwrap_size (n : Nat) (h : n ≤ 1000000) : IntKind.u64.wrap (n : Int) = (n : Int) := by rw [IntKind.wrap_u64]; omega
theorem lens_tx2 (a b : ByteArray) (h : a.size + b.size ≤ 100000) : lens (tx [a, b]) 2 ≤ 1000000 := by simp only [lens, tx, List.getD]; show 0 + _ + _ ≤ _; simp only [List.getElem?_cons_zero, List.getElem?_cons_succ, Option.getD_some]; omega
theorem lens_tx3 (a b c : ByteArray) (h : a.size + b.size + c.size ≤ 100000) : lens (tx [a, b, c]) 3 ≤ 1000000 := by simp only [lens, tx, List.getD]; show 0 + _ + _ + _ ≤ _; simp only [List.getElem?_cons_zero, List.getElem?_cons_succ, Option.getD_some]; omega
theorem lens_tx4 (a b c d : ByteArray) (h : a.size + b.size + c.size + d.size ≤ 100000) : lens (tx [a, b, c, d]) 4 ≤ 1000000 := by simp only [lens, tx, List.getD]; show 0 + _ + _ + _ + _ ≤ _; simp only [List.getElem?_cons_zero, List.getElem?_cons_succ, Option.getD_some]; omega
theorem Duo.went {W W' : World} {g h : Nat} {u v x y : Value} (hD : Duo W g u v) (hW : Went h W W' x y) (hne : g ≠ h) (hx : x.ownBlock ≠ some g) : Duo W' g u v := by
  have hl := hD.lt
  obtain ⟨c0, c1, f0, f1⟩ := hD
  have hb := hW.block g hl hne hx
  exact ⟨(World.cell?_of_block (a := ⟨g, 0, none⟩) hb).trans c0, (World.cell?_of_block (a := ⟨g, 1, none⟩) hb).trans c1, (World.frozen?_of_block (a := ⟨g, 0, none⟩) hb).trans f0, (World.frozen?_of_block (a := ⟨g, 1, none⟩) hb).trans f1⟩
theorem str_one (W : World) (l : ByteArray) (t : TypeId) : StrA (W.alloc (.cells #[.string l] t)) (some ⟨W.heap.size, 0, none⟩) 1 (tx [l]) := str_lit W _ t 1 _ (by unfold maxLen; omega) fun j hj => by
  have : j = 0 := by omega
  subst this; rfl
/-- Texts side by side, in a block that is neither the variable's nor the row's. -/
def AbsS (g : Nat) (vv : Value) (l : List ByteArray) (v : Value) (W : World) : Prop := StrL W v l.length l ∧ (∀ b, v = .slice (some ⟨b, 0, none⟩) l.length l.length → b ≠ g) ∧ (∀ b, v = .slice (some ⟨b, 0, none⟩) l.length l.length → vv.ownBlock ≠ some b)
theorem AbsS.keep {g : Nat} {vv : Value} {l : List ByteArray} {v : Value} {W W' : World} (h : AbsS g vv l v W) (hb : Below W.heap.size W W') : AbsS g vv l v W' := ⟨h.1.keep hb, h.2⟩
def AbsG (g : Nat) (vv : Value) (s1 T E : ByteArray) (sl : Nat) (v : Value) (W : World) : Prop :=
  match sl with
  | 16 => v = .pointer (some ⟨g, 0, none⟩)
  | 17 => v = .pointer (some ⟨g, 0, none⟩)
  | 18 => v = .string s1
  | 19 => v = .string T
  | 20 => v = .int .i64 (T.size : Int)
  | 21 => v = .int .u64 (T.size : Int)
  | 22 => v = .string E
  | 23 => v = .string T
  | 24 => AbsS g vv [s1, E, T] v W
  | _ => v = .bool true
theorem AbsG.keep {g : Nat} {vv : Value} {s1 T E : ByteArray} {sl : Nat} {v : Value} {W W' : World} (h : AbsG g vv s1 T E sl v W) (hb : Below W.heap.size W W') : AbsG g vv s1 T E sl v W' := by
  unfold AbsG at *
  split at h
  all_goals first | exact h | (exact AbsS.keep h hb)
def AbsRelG (w : World) (g g2 : Nat) (s : ByteArray) (c : Int) (f : Nat → ByteArray) (n : Nat) (i : Value) (W : World) : Prop :=
  ∃ (k : Nat) (v : Value), k ≤ n ∧ i = .int .i64 k ∧ Below w.heap.size w W ∧ Stp w.heap.size W g (absL s f k) (if k = 0 then c else 0) v [] ∧ Duo W g2 (.string ⟨#[]⟩) (.int .i64 0) ∧ v.ownBlock ≠ some g2
def SqzG (g : Nat) (s : ByteArray) (c m : Int) (E : ByteArray) (sl : Nat) (v : Value) (W : World) : Prop :=
  match sl with
  | 7 => v = .pointer (some ⟨g, 2, none⟩)
  | 8 => v = .pointer (some ⟨g, 0, none⟩)
  | 9 => v = .pointer (some ⟨g, 0, none⟩)
  | 10 => v = .string s
  | 11 => v = .pointer (some ⟨g, 0, none⟩)
  | 12 => v = .pointer (some ⟨g, 1, none⟩)
  | 13 => v = .int .i64 c
  | 14 => v = .int .u64 m
  | 15 => v = .string E
  | 16 => StrL W v 3 [byte3, s, E]
  | _ => v = .bool true
theorem SqzG.keep {g : Nat} {s : ByteArray} {c m : Int} {E : ByteArray} {sl : Nat} {v : Value} {W W' : World} (h : SqzG g s c m E sl v W) (hb : Below W.heap.size W W') : SqzG g s c m E sl v W' := by
  unfold SqzG at *
  split at h
  all_goals first | exact h | (exact StrL.keep h hb)
/-- While what is squeezed is summed. -/
structure SqW (w : World) (g g2 : Nat) (s : ByteArray) (c : Int) (l : List ByteArray) (Z : ByteArray) (val : Nat → Value) (D : Nat → Bool) (σ : Nat → Value) (W : World) : Prop where
  st : ∃ v, Stp w.heap.size W g s c v (if D 27 = true then [] else l) ∧ v.ownBlock ≠ some g2
  bel : Below w.heap.size w W
  duo : Duo W g2 (.string ⟨#[]⟩) (.int .i64 0)
  z : D 27 = true → σ 27 = .string Z
  sv : ∀ d, d ∈ [24, 25, 26] → D d = true → σ d = val d
theorem SqW.next {w : World} {g g2 : Nat} {s : ByteArray} {c : Int} {l : List ByteArray} {Z : ByteArray} {val : Nat → Value} {D : Nat → Bool} {σ : Nat → Value} {W : World} (h : SqW w g g2 s c l Z val D σ W) {d : Nat} {u : Value} (h0 : d ≠ 27) (hu : u = val d) :
    SqW w g g2 s c l Z val (fun k => if k = d then true else D k) (fun k => if k = d then u else σ k) W := by
  refine ⟨by simpa only [if_neg (Ne.symm h0)] using h.st, h.bel, h.duo, by simpa only [if_neg (Ne.symm h0)] using h.z, fun e he => ?_⟩
  by_cases k : e = d
  · subst k; intro _; simp only [if_pos]; exact hu
  · simp only [if_neg k]; exact h.sv e he
def SqVal (g : Nat) (s : ByteArray) (c : Int) : Nat → Value
  | 24 => .pointer (some ⟨g, 0, none⟩)
  | 25 => .agg #[.string s, .int .i64 c]
  | 26 => .pointer (some ⟨g, 2, none⟩)
  | _ => undef
theorem Stp.count {B : Nat} {W : World} {g : Nat} {s : ByteArray} {c : Int} {v : Value} {l : List ByteArray} (h : Stp B W g s c v l) (c' : Int) : Stp B (W.setCell ⟨g, 1, none⟩ (.int .i64 c')) g s c' v l := by
  obtain ⟨c0, c1, c2, f0, f1, f2, ho, ne, le⟩ := h
  refine ⟨by simp [go_sem, c0], by simp [go_sem, c1], by simp [go_sem, c2], by simp [f0], by simp [f1], by simp [f2], ?_, ne, le⟩
  exact ho.kept (grown_set W g 1 _) (by
    cases hv : v.ownBlock with
    | none => exact .inl rfl
    | some k => exact .inr (by intro e; exact ne (hv.trans e)))
end Go.Proofs.YthmpojefoiojeaaDoor
