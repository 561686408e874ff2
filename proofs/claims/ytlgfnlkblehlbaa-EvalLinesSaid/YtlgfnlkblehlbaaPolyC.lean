/-
  A slice of pairs as a polynomial: what comes in (as it may stand), what is told (as it is kept). No function of the program is named.
-/
import Derived.Test.YtlgfnlkblehlbaaPolyM
import Derived.Test.YtlgfnlkblehlbaaGRow
namespace Go.Proofs.Ytlgfnlkblehlbaa
open Go.RowKit
set_option linter.unusedVariables false

def encL (l : List F2) : List (Int × Int) := l.map fun x => (enc x.a, enc x.b)
theorem encL_len (l : List F2) : (encL l).length = l.length := by simp [encL]
theorem encL_at (l : List F2) (k : Nat) : (encL l).getD k (0, 0) = (enc (cq l k).a, enc (cq l k).b) := by
  unfold encL cq
  rw [List.getD, List.getD, List.getElem?_map]
  cases l[k]? <;> rfl
/-- What comes in. -/
def Poly (W : World) (v : Value) (l : List F2) : Prop := ∃ zs, QRow W v zs ∧ (∀ n ∈ zs, U n.1 ∧ U n.2) ∧ zs.map toQ = l
theorem Poly.keep {W w1 : World} {v : Value} {l : List F2} (h : Poly W v l) (hb : Below W.heap.size W w1) : Poly w1 v l := by
  obtain ⟨zs, h1, h2, h3⟩ := h
  exact ⟨zs, h1.keep hb, h2, h3⟩
/-- .. cell by cell. -/
def PolyA (W : World) (a : Option Addr) (len : Nat) (l : List F2) : Prop :=
  l.length = len ∧ len ≤ maxLen ∧ ∀ k, k < len → ∃ (b off : Nat) (z0 z1 : Int), a = some ⟨b, off, none⟩ ∧ W.cell? ⟨b, off + k * 2, none⟩ = some (.int .u64 z0) ∧ W.cell? ⟨b, off + k * 2 + 1, none⟩ = some (.int .u64 z1) ∧ Rep z0 z1 (cq l k)
theorem PolyA.keep {W w1 : World} {a : Option Addr} {len : Nat} {l : List F2} (h : PolyA W a len l) (hb : Below W.heap.size W w1) : PolyA w1 a len l :=
  ⟨h.1, h.2.1, fun k hk => by obtain ⟨b, off, z0, z1, e, c, d, r⟩ := h.2.2 k hk; exact ⟨b, off, z0, z1, e, bkeep hb c, bkeep hb d, r⟩⟩
theorem Poly.at {W : World} {a : Option Addr} {len cap : Nat} {l : List F2} (h : Poly W (.slice a len cap) l) : PolyA W a len l := by
  obtain ⟨zs, h1, h2, rfl⟩ := h
  obtain ⟨e, hm, hc⟩ := h1.at
  refine ⟨by rw [List.length_map]; exact e, hm, fun k hk => ?_⟩
  obtain ⟨b, off, ea, c, d⟩ := hc k hk
  have hu := UU_getD h2 k (by omega)
  refine ⟨b, off, _, _, ea, c, d, ?_⟩
  have : cq (zs.map toQ) k = toQ (zs.getD k (0, 0)) := by
    unfold cq
    simp [List.getD, show k < zs.length by omega]
  rw [this]
  exact rep_raw hu.1 hu.2
theorem Poly.slice {W : World} {v : Value} {l : List F2} (h : Poly W v l) : ∃ a c, v = .slice a l.length c := by
  obtain ⟨zs, h1, _, rfl⟩ := h
  rcases h1 with ⟨rfl, rfl⟩ | ⟨a, c, rfl, rfl⟩ | ⟨b, off, c, rfl, _⟩
  · exact ⟨none, 0, rfl⟩
  · exact ⟨_, c, rfl⟩
  · exact ⟨_, c, by rw [List.length_map]⟩
theorem Poly.of {W : World} {a : Option Addr} {len cap : Nat} {zs : List (Int × Int)} (h : QRow W (.slice a len cap) zs) (hu : ∀ n ∈ zs, U n.1 ∧ U n.2) : Poly W (.slice a len cap) (zs.map toQ) := ⟨zs, h, hu, rfl⟩
/-- What is told. -/
def IsP (W : World) (v : Value) (l : List F2) : Prop := QRow W v (encL l)
theorem IsP.keep {W w1 : World} {v : Value} {l : List F2} (h : IsP W v l) (hb : Below W.heap.size W w1) : IsP w1 v l := QRow.keep h hb
theorem IsP.poly {W : World} {v : Value} {l : List F2} (h : IsP W v l) : Poly W v l := by
  refine ⟨encL l, h, fun n hn => ?_, ?_⟩
  · obtain ⟨x, _, rfl⟩ := List.mem_map.1 hn
    exact ⟨enc_U _, enc_U _⟩
  · unfold encL
    rw [List.map_map]
    have : (toQ ∘ fun x : F2 => (enc x.a, enc x.b)) = id := by
      funext x; exact F2.eq (toF_enc _) (toF_enc _)
    rw [this, List.map_id]
theorem IsP.slice {W : World} {v : Value} {l : List F2} (h : IsP W v l) : ∃ a c, v = .slice a l.length c := h.poly.slice
theorem IsP.nil (W : World) : IsP W (.slice none 0 0) [] := Or.inl ⟨rfl, rfl⟩
/-- A row that a call made, as a polynomial. -/
def mk (n : Nat) (f : Nat → F2) : List F2 := (List.range n).map f
theorem mk_len (n : Nat) (f : Nat → F2) : (mk n f).length = n := by simp [mk]
theorem mk_at (n : Nat) (f : Nat → F2) (i : Nat) (h : i < n) : cq (mk n f) i = f i := by simp [mk, cq, List.getD, h]
theorem mk_upto {n : Nat} {f : Nat → F2} (h : Upto n f) (i : Nat) : cq (mk n f) i = f i := by
  by_cases hi : i < n
  · exact mk_at n f i hi
  · rw [h i (by omega)]
    have := cq_upto (mk n f) i (by rw [mk_len]; omega)
    exact this
theorem pl_mk {n : Nat} {f : Nat → F2} (h : Upto n f) : pl (mk n f).length (cq (mk n f)) = pl n f := pl_same (cq_upto _) h (mk_upto h)
theorem Arr.isP {W : World} {g n c : Nat} {f : Nat → F2} (h : Arr W g (n * 2) (pc fun j => encP (f j))) (h1 : n ≤ c) (h2 : c ≤ maxLen) : IsP W (.slice (some ⟨g, 0, none⟩) n c) (mk n f) :=
  Or.inr (Or.inr ⟨g, 0, c, by rw [encL_len, mk_len], by rw [encL_len, mk_len]; exact h1, h2, fun i hi => by
    rw [encL_len, mk_len] at hi
    rw [encL_at, mk_at n f i hi, Nat.zero_add]
    exact ⟨(h.cells i hi).1, (h.cells i hi).2.1⟩⟩)
/-- A call that tells a polynomial. -/
def RetP (l : List F2) (w : World) (e : Ending) (w' : World) : Prop := ∃ v, e = .returned v ∧ Below w.heap.size w w' ∧ IsP w' v l
/-- .. in a row of its own. -/
def Fresh (B : Nat) (v : Value) : Prop := ∀ a n c, v = .slice (some a) n c → B ≤ a.block
def RetF (l : List F2) (w : World) (e : Ending) (w' : World) : Prop := ∃ v, e = .returned v ∧ Below w.heap.size w w' ∧ IsP w' v l ∧ Fresh w.heap.size v
theorem RetF.ret {l : List F2} {w w' : World} {e : Ending} (h : RetF l w e w') : RetP l w e w' := by
  obtain ⟨v, h1, h2, h3, _⟩ := h
  exact ⟨v, h1, h2, h3⟩
theorem Fresh.less {B C : Nat} {v : Value} (h : Fresh B v) (hc : C ≤ B) : Fresh C v := fun a n c e => Nat.le_trans hc (h a n c e)
theorem IsP.far {W : World} {v : Value} {l : List F2} {B g : Nat} (h : IsP W v l) (hf : Fresh B v) (hg : g < B) (o : Nat) (u : Value) : IsP (W.setCell ⟨g, o, none⟩ u) v l := by
  rcases h with ⟨rfl, h⟩ | ⟨a, c, rfl, h⟩ | ⟨b, off, c, rfl, h1, h2, h3⟩
  · exact Or.inl ⟨rfl, h⟩
  · exact Or.inr (Or.inl ⟨a, c, rfl, h⟩)
  · have hb := hf _ _ _ rfl
    simp only at hb
    exact Or.inr (Or.inr ⟨b, off, c, rfl, h1, h2, fun i hi => ⟨(World.cell?_setCell_far _ _ _ _ (by show g ≠ b; omega)).trans (h3 i hi).1, (World.cell?_setCell_far _ _ _ _ (by show g ≠ b; omega)).trans (h3 i hi).2⟩⟩)
/-- Under way: the first m cells stand. -/
def prt (f : Nat → F2) (m j : Nat) : Int × Int := if j < m then encP (f j) else (0, 0)
theorem prt_step {f : Nat → F2} {m : Nat} {x : F2} (hx : f m = x) : ∀ j, (if j = m then (enc x.a, enc x.b) else prt f m j) = prt f (m + 1) j := by
  intro j
  unfold prt
  by_cases h : j = m
  · subst h; rw [if_pos rfl, if_pos (by omega), hx]; rfl
  · rw [if_neg h]
    by_cases h2 : j < m
    · rw [if_pos h2, if_pos (by omega)]
    · rw [if_neg h2, if_neg (by omega)]
theorem prt_all (f : Nat → F2) (n : Nat) : ∀ j, j < n → prt f n j = encP (f j) := fun j hj => if_pos hj
end Go.Proofs.Ytlgfnlkblehlbaa
