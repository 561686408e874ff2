/-
  Sponges: plain; what is asked of the program's calls of layer 12.
-/
import Derived.Test.YthfkfgjhgicfeaaDoorLeafM
namespace Go.Proofs.YthfkfgjhgicfeaaDoor
open Go Go.RowKit
set_option linter.unusedVariables false

abbrev byte2 : ByteArray := ⟨#[2]⟩
abbrev byte3 : ByteArray := ⟨#[3]⟩
/-- A variable of two cells of any kind, unfrozen. -/
def Duo (W : World) (g : Nat) (u v : Value) : Prop := W.cell? ⟨g, 0, none⟩ = some u ∧ W.cell? ⟨g, 1, none⟩ = some v ∧ W.frozen? ⟨g, 0, none⟩ = false ∧ W.frozen? ⟨g, 1, none⟩ = false
theorem Duo.keep {W w1 : World} {g : Nat} {u v : Value} (h : Duo W g u v) (hb : Below W.heap.size W w1) : Duo w1 g u v :=
  ⟨bkeep hb h.1, bkeep hb h.2.1, bfree hb h.1 h.2.2.1, bfree hb h.2.1 h.2.2.2⟩
theorem Duo.lt {W : World} {g : Nat} {u v : Value} (h : Duo W g u v) : g < W.heap.size := World.block_lt_of_cell? W _ h.1
theorem Duo.new (W : World) (u v : Value) (t : TypeId) : Duo (W.alloc (.cells #[u, v] t)) W.heap.size u v := by simp [Duo, go_sem]
theorem Duo.far {W : World} {g g' : Nat} {u v : Value} (h : Duo W g u v) (hg : g' ≠ g) (o : Nat) (x : Value) : Duo (W.setCell ⟨g', o, none⟩ x) g u v := by
  obtain ⟨c0, c1, f0, f1⟩ := h
  exact ⟨(World.cell?_setCell_far _ _ _ _ hg).trans c0, (World.cell?_setCell_far _ _ _ _ hg).trans c1, by simp [f0], by simp [f1]⟩
theorem Duo.set {W : World} {g : Nat} {u v : Value} (h : Duo W g u v) (u' v' : Value) : Duo ((W.setCell ⟨g, 0, none⟩ u').setCell ⟨g, 1, none⟩ v') g u' v' := by
  obtain ⟨c0, c1, f0, f1⟩ := h
  simp [Duo, go_sem, c0, c1, f0, f1]
/-- Texts laid side by side in a slice. -/
def tx (l : List ByteArray) (j : Nat) : ByteArray := l.getD j ⟨#[]⟩
def StrL (W : World) (v : Value) (n : Nat) (l : List ByteArray) : Prop := ∃ b, v = .slice (some ⟨b, 0, none⟩) n n ∧ StrA W (some ⟨b, 0, none⟩) n (tx l)
theorem StrL.keep {W W' : World} {v : Value} {n : Nat} {l : List ByteArray} (h : StrL W v n l) (hb : Below W.heap.size W W') : StrL W' v n l := by
  obtain ⟨b, rfl, h⟩ := h
  exact ⟨b, rfl, h.keep hb⟩
theorem StrL.new (W : World) (l : List ByteArray) (n : Nat) (t : TypeId) (hn : l.length = n) (hm : n ≤ 100) : StrL (W.alloc (.cells (l.map Value.string).toArray t)) (.slice (some ⟨W.heap.size, 0, none⟩) n n) n l :=
  ⟨_, rfl, str_lit W _ t n _ (by unfold maxLen; omega) fun j hj => by
    have : j < l.length := by omega
    simp [tx, List.getD, this]⟩
theorem sumL_of {f : FuncId} {G : World → Prop} (hs : ∀ (a : Option Addr) (len cap : Nat) (F : Nat → ByteArray) (W : World), StrA W a len F → lens F len ≤ 1000000 → G W → Calls Tryd.prog f #[.slice a len cap] W fun e w' => e = .returned (.string (sumB (cat F len))) ∧ Below W.heap.size W w')
    (l : List ByteArray) (n : Nat) (z : ByteArray) (hz : sumB (cat (tx l) n) = z) (hl : lens (tx l) n ≤ 1000000) (v : Value) (W : World) (h : StrL W v n l) (hG : G W) : Calls Tryd.prog f #[v] W fun e w' => e = .returned (.string z) ∧ Below W.heap.size W w' := by
  obtain ⟨b, rfl, h⟩ := h
  have := hs _ n n _ W h hl hG
  rw [hz] at this
  exact this
theorem cat_tx2 (a b : ByteArray) : cat (tx [a, b]) 2 = a ++ b := by rw [cat_two]; rfl
theorem cat_tx3 (a b c : ByteArray) : cat (tx [a, b, c]) 3 = a ++ b ++ c := by rw [cat_three]; rfl
theorem cat_tx4 (a b c d : ByteArray) : cat (tx [a, b, c, d]) 4 = a ++ b ++ c ++ d := by show cat _ 3 ++ _ = _; rw [cat_three]; rfl
def newB (l : ByteArray) : ByteArray := sumB (byte2 ++ l)
def absB (s t : ByteArray) : ByteArray := sumB (byte2 ++ s ++ eightB t.size ++ t)
def sqB (s : ByteArray) (c : Int) : ByteArray := sumB (byte3 ++ s ++ eightB (IntKind.u64.wrap c))
def absL (s : ByteArray) (f : Nat → ByteArray) : Nat → ByteArray
  | 0 => s
  | k + 1 => absB (absL s f k) (f k)
theorem newB_size (l : ByteArray) : (newB l).size = 32 := by unfold newB; exact sumB_size _
theorem absB_size (s t : ByteArray) : (absB s t).size = 32 := by unfold absB; exact sumB_size _
theorem sqB_size (s : ByteArray) (c : Int) : (sqB s c).size = 32 := by unfold sqB; exact sumB_size _
theorem absL_size (s : ByteArray) (f : Nat → ByteArray) (m : Nat) (hs : s.size ≤ m) (hm : 32 ≤ m) : ∀ n, (absL s f n).size ≤ m
  | 0 => hs
  | n + 1 => by rw [absL, absB_size]; exact hm
theorem newB_is (l : ByteArray) : sumB (byte2 ++ l) = newB l := by unfold newB; rfl
theorem absB_is (s t : ByteArray) : sumB (byte2 ++ s ++ eightB t.size ++ t) = absB s t := by unfold absB; rfl
theorem sqB_is (s : ByteArray) (c : Int) : sumB (byte3 ++ s ++ eightB (IntKind.u64.wrap c)) = sqB s c := by unfold sqB; rfl
abbrev spong (s : ByteArray) (c : Int) : Value := .agg #[.string s, .int .i64 c]
end Go.Proofs.YthfkfgjhgicfeaaDoor
