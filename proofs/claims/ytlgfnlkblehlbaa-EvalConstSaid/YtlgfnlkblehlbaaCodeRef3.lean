/-
  What the document's Parse of layer 15 comes to. (Written by gen_cparse.py.)
-/
import Derived.Test.YtlgfnlkblehlbaaCodeRef2
namespace Go.Proofs.Ytlgfnlkblehlbaa
open Go Go.RowKit
set_option linter.unusedVariables false

theorem infoOp : (Try.prog.info? 38).map (fun i => (i.zero, i.size, i.bytes)) = some (some (.agg #[.int .i64 0, .int .u64 0]), 2, 16) := by kernel_rfl
def flatO (xs : List Opn) : List Value := xs.flatMap fun z => [.int .i64 z.1, .int .u64 z.2]
theorem flatO_at : ∀ (xs : List Opn) (i : Nat), i < xs.length → (flatO xs)[i * 2]? = some (.int .i64 (xs.getD i (0, 0)).1) ∧ (flatO xs)[i * 2 + 1]? = some (.int .u64 (xs.getD i (0, 0)).2)
  | x :: xs, 0, _ => ⟨rfl, rfl⟩
  | x :: xs, i + 1, h => by
    have ih := flatO_at xs i (by simpa using h)
    have e : flatO (x :: xs) = .int .i64 x.1 :: .int .u64 x.2 :: flatO xs := by simp [flatO]
    rw [e, show (i + 1) * 2 = i * 2 + 1 + 1 by omega]
    simpa [List.getD] using ih
theorem own_oprow {W : World} {B : Nat} {v : Value} {l : List Opn} (h : W.ownsRow B 38 2 v l.length (flatO l)) : ∃ a c, v = .slice a l.length c ∧ OpA W a l.length l ∧ (a = none → c = 0) := by
  rcases h.2 with ⟨hv, h0⟩ | ⟨g, cap, cur, hv, hb, hg, hn, hcap, hsz, ht⟩
  · exact ⟨none, 0, by rw [hv, h0], ⟨rfl, by unfold maxLen; omega, fun k hk => by omega⟩, fun _ => rfl⟩
  · refine ⟨some ⟨g, 0, none⟩, cap, hv, ⟨rfl, by omega, fun i hi => ⟨g, 0, rfl, ?_⟩⟩, fun h => by cases h⟩
    subst hv
    have h0 := h.cellAt (i * 2) (by omega)
    have h1 := h.cellAt (i * 2 + 1) (by omega)
    obtain ⟨f0, f1⟩ := flatO_at l i hi
    rw [Nat.zero_add, h0, h1]
    exact ⟨f0, f1⟩
theorem numB_from (s : ByteArray) (o : Nat) (h : o + 8 ≤ s.size) : numB (s.extract o s.size) 0 = numB s o := by
  unfold numB
  exact numP_ext fun j hj => by rw [Nat.zero_add, byt_extract _ _ _ _ (Nat.le_refl _) (by omega)]
/-- What is parsed, in a row of its own. -/
def ParseOwn (W : World) (m : List Opn) (r : Int) (e : Ending) (w' : World) : Prop := Below W.heap.size W w' ∧ ∃ v, e = .returned (.tuple #[v, .int .i64 r]) ∧ w'.ownsRow W.heap.size 38 2 v m.length (flatO m)
def ParseRel (w : World) (s : ByteArray) (m : List Opn) (r : Int) (v i : Value) (W : World) : Prop :=
  ∃ (a : Nat) (out : List Opn) (ad : Option Addr) (cap : Nat), (a ≤ s.size ∧ a ≤ 9 * out.length) ∧ v = .slice ad out.length cap ∧ i = .int .i64 a ∧ Below w.heap.size w W ∧ W.ownsRow w.heap.size 38 2 v out.length (flatO out) ∧ out.length ≤ 256 ∧ parseR s a out = (m, r)
end Go.Proofs.Ytlgfnlkblehlbaa
