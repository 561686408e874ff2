/-
  PolyC: A slice of pairs as a polynomial: what comes in (as it may stand), what is told (as it is kept). No function of the program is named.
  PTrim: What the document's Trim and Degree of layer 5 come to: contracts for the walk. (Written by gen_ptrim.py.)
  PolyRef: What the document's At, Scale and Add of layer 5 come to: contracts for the walk. (Written by gen_polyref.py.)
  PolyAdd: What the document's Add of layer 5 comes to: a contract for the walk. (Written by gen_polyref2.py.)
  PolyMul: What the document's Mul and Divide of layer 5 come to: contracts for the walk. (Written by gen_polyref3.py.)
  PolyThr: What the document's Lift and Through of layer 5 come to: contracts for the walk.
  PolyThru: What the document's Through of layer 5 comes to: a contract for the walk. (Written by gen_polythr.py.)
  PolyAsk: What is asked of package poly, call by call, under names; the document's 'the same' of two polynomials.
  PolyLem: What holds of sums, products and quotients of polynomials as they are told. Plain mathematics over XPolyAsk's words.
  PolyLemT: What holds of the one through points, as it is told: for the walk of PolyThrough. Plain mathematics over XPolyAsk's words.
-/
import Derived.Test.YthfkfgjhgicfeaaDoorPolyM
import Derived.Test.YthfkfgjhgicfeaaDoorGRow
import Derived.Test.YthfkfgjhgicfeaaDoorGRef
import Derived.Test.YthfkfgjhgicfeaaDoorGNum
import Derived.IntWalk
import Derived.Test.YthfkfgjhgicfeaaDoorSame
import Derived.Test.YthfkfgjhgicfeaaDoorOpenPairs
namespace Go.Proofs.YthfkfgjhgicfeaaDoor
open Go.RowKit
set_option linter.unusedVariables false

def encL (l : List F2) : List (Int × Int) := l.map fun x => (enc x.a, enc x.b)
theorem encL_len (l : List F2) : (encL l).length = l.length := by simp [encL]
theorem encL_at (l : List F2) (k : Nat) : (encL l).getD k (0, 0) = (enc (cq l k).a, enc (cq l k).b) := by
  unfold encL cq
  rw [List.getD, List.getD, List.getElem?_map]
  cases l[k]? <;> rfl
/-- What comes in. -/
def Poly (W : World) (v : Value) (l : List F2) : Prop := ∃ zs, QRow W v zs ∧ (∀ n ∈ zs, U n.1 ∧ U n.2) ∧ zs.map toQ = l
theorem Poly.keep {W w1 : World} {v : Value} {l : List F2} (h : Poly W v l) (hb : Below W.heap.size W w1) : Poly w1 v l := by
  obtain ⟨zs, h1, h2, h3⟩ := h
  exact ⟨zs, h1.keep hb, h2, h3⟩
/-- .. cell by cell. -/
def PolyA (W : World) (a : Option Addr) (len : Nat) (l : List F2) : Prop :=
  l.length = len ∧ len ≤ maxLen ∧ ∀ k, k < len → ∃ (b off : Nat) (z0 z1 : Int), a = some ⟨b, off, none⟩ ∧ W.cell? ⟨b, off + k * 2, none⟩ = some (.int .u64 z0) ∧ W.cell? ⟨b, off + k * 2 + 1, none⟩ = some (.int .u64 z1) ∧ Rep z0 z1 (cq l k)
theorem PolyA.keep {W w1 : World} {a : Option Addr} {len : Nat} {l : List F2} (h : PolyA W a len l) (hb : Below W.heap.size W w1) : PolyA w1 a len l :=
  ⟨h.1, h.2.1, fun k hk => by obtain ⟨b, off, z0, z1, e, c, d, r⟩ := h.2.2 k hk; exact ⟨b, off, z0, z1, e, bkeep hb c, bkeep hb d, r⟩⟩
theorem Poly.at {W : World} {a : Option Addr} {len cap : Nat} {l : List F2} (h : Poly W (.slice a len cap) l) : PolyA W a len l := by
  obtain ⟨zs, h1, h2, rfl⟩ := h
  obtain ⟨e, hm, hc⟩ := h1.at
  refine ⟨by rw [List.length_map]; exact e, hm, fun k hk => ?_⟩
  obtain ⟨b, off, ea, c, d⟩ := hc k hk
  have hu := UU_getD h2 k (by omega)
  refine ⟨b, off, _, _, ea, c, d, ?_⟩
  have : cq (zs.map toQ) k = toQ (zs.getD k (0, 0)) := by
    unfold cq
    simp [List.getD, show k < zs.length by omega]
  rw [this]
  exact rep_raw hu.1 hu.2
theorem Poly.slice {W : World} {v : Value} {l : List F2} (h : Poly W v l) : ∃ a c, v = .slice a l.length c := by
  obtain ⟨zs, h1, _, rfl⟩ := h
  rcases h1 with ⟨rfl, rfl⟩ | ⟨a, c, rfl, rfl⟩ | ⟨b, off, c, rfl, _⟩
  · exact ⟨none, 0, rfl⟩
  · exact ⟨_, c, rfl⟩
  · exact ⟨_, c, by rw [List.length_map]⟩
theorem Poly.of {W : World} {a : Option Addr} {len cap : Nat} {zs : List (Int × Int)} (h : QRow W (.slice a len cap) zs) (hu : ∀ n ∈ zs, U n.1 ∧ U n.2) : Poly W (.slice a len cap) (zs.map toQ) := ⟨zs, h, hu, rfl⟩
/-- What is told. -/
def IsP (W : World) (v : Value) (l : List F2) : Prop := QRow W v (encL l)
theorem IsP.keep {W w1 : World} {v : Value} {l : List F2} (h : IsP W v l) (hb : Below W.heap.size W w1) : IsP w1 v l := QRow.keep h hb
theorem IsP.poly {W : World} {v : Value} {l : List F2} (h : IsP W v l) : Poly W v l := by
  refine ⟨encL l, h, fun n hn => ?_, ?_⟩
  · obtain ⟨x, _, rfl⟩ := List.mem_map.1 hn
    exact ⟨enc_U _, enc_U _⟩
  · unfold encL
    rw [List.map_map]
    have : (toQ ∘ fun x : F2 => (enc x.a, enc x.b)) = id := by
      funext x; exact F2.eq (toF_enc _) (toF_enc _)
    rw [this, List.map_id]
theorem IsP.slice {W : World} {v : Value} {l : List F2} (h : IsP W v l) : ∃ a c, v = .slice a l.length c := h.poly.slice
theorem IsP.nil (W : World) : IsP W (.slice none 0 0) [] := Or.inl ⟨rfl, rfl⟩
/-- A row that a call made, as a polynomial. -/
def mk (n : Nat) (f : Nat → F2) : List F2 := (List.range n).map f
theorem mk_len (n : Nat) (f : Nat → F2) : (mk n f).length = n := by simp [mk]
theorem mk_at (n : Nat) (f : Nat → F2) (i : Nat) (h : i < n) : cq (mk n f) i = f i := by simp [mk, cq, List.getD, h]
theorem mk_upto {n : Nat} {f : Nat → F2} (h : Upto n f) (i : Nat) : cq (mk n f) i = f i := by
  by_cases hi : i < n
  · exact mk_at n f i hi
  · rw [h i (by omega)]
    have := cq_upto (mk n f) i (by rw [mk_len]; omega)
    exact this
theorem pl_mk {n : Nat} {f : Nat → F2} (h : Upto n f) : pl (mk n f).length (cq (mk n f)) = pl n f := pl_same (cq_upto _) h (mk_upto h)
theorem Arr.isP {W : World} {g n c : Nat} {f : Nat → F2} (h : Arr W g (n * 2) (pc fun j => encP (f j))) (h1 : n ≤ c) (h2 : c ≤ maxLen) : IsP W (.slice (some ⟨g, 0, none⟩) n c) (mk n f) :=
  Or.inr (Or.inr ⟨g, 0, c, by rw [encL_len, mk_len], by rw [encL_len, mk_len]; exact h1, h2, fun i hi => by
    rw [encL_len, mk_len] at hi
    rw [encL_at, mk_at n f i hi, Nat.zero_add]
    exact ⟨(h.cells i hi).1, (h.cells i hi).2.1⟩⟩)
/-- A call that tells a polynomial. -/
def RetP (l : List F2) (w : World) (e : Ending) (w' : World) : Prop := ∃ v, e = .returned v ∧ Below w.heap.size w w' ∧ IsP w' v l
/-- .. in a row of its own. -/
def Fresh (B : Nat) (v : Value) : Prop := ∀ a n c, v = .slice (some a) n c → B ≤ a.block
def RetF (l : List F2) (w : World) (e : Ending) (w' : World) : Prop := ∃ v, e = .returned v ∧ Below w.heap.size w w' ∧ IsP w' v l ∧ Fresh w.heap.size v
theorem RetF.ret {l : List F2} {w w' : World} {e : Ending} (h : RetF l w e w') : RetP l w e w' := by
  obtain ⟨v, h1, h2, h3, _⟩ := h
  exact ⟨v, h1, h2, h3⟩
theorem Fresh.less {B C : Nat} {v : Value} (h : Fresh B v) (hc : C ≤ B) : Fresh C v := fun a n c e => Nat.le_trans hc (h a n c e)
theorem IsP.far {W : World} {v : Value} {l : List F2} {B g : Nat} (h : IsP W v l) (hf : Fresh B v) (hg : g < B) (o : Nat) (u : Value) : IsP (W.setCell ⟨g, o, none⟩ u) v l := by
  rcases h with ⟨rfl, h⟩ | ⟨a, c, rfl, h⟩ | ⟨b, off, c, rfl, h1, h2, h3⟩
  · exact Or.inl ⟨rfl, h⟩
  · exact Or.inr (Or.inl ⟨a, c, rfl, h⟩)
  · have hb := hf _ _ _ rfl
    simp only at hb
    exact Or.inr (Or.inr ⟨b, off, c, rfl, h1, h2, fun i hi => ⟨(World.cell?_setCell_far _ _ _ _ (by show g ≠ b; omega)).trans (h3 i hi).1, (World.cell?_setCell_far _ _ _ _ (by show g ≠ b; omega)).trans (h3 i hi).2⟩⟩)
/-- Under way: the first m cells stand. -/
def prt (f : Nat → F2) (m j : Nat) : Int × Int := if j < m then encP (f j) else (0, 0)
theorem prt_step {f : Nat → F2} {m : Nat} {x : F2} (hx : f m = x) : ∀ j, (if j = m then (enc x.a, enc x.b) else prt f m j) = prt f (m + 1) j := by
  intro j
  unfold prt
  by_cases h : j = m
  · subst h; rw [if_pos rfl, if_pos (by omega), hx]; rfl
  · rw [if_neg h]
    by_cases h2 : j < m
    · rw [if_pos h2, if_pos (by omega)]
    · rw [if_neg h2, if_neg (by omega)]
theorem prt_all (f : Nat → F2) (n : Nat) : ∀ j, j < n → prt f n j = encP (f j) := fun j hj => if_pos hj
end Go.Proofs.YthfkfgjhgicfeaaDoor
namespace Go.Proofs.YthfkfgjhgicfeaaDoor
open Go.RowKit
set_option linter.unusedVariables false

theorem infoQ5 : (Tryd.prog.info? 31).map (fun i => (i.zero, i.size, i.bytes)) = some (some (.agg #[.int .u64 0, .int .u64 0]), 2, 16) := by kernel_rfl
def TrimDown (w : World) (l : List F2) (len : Nat) (i : Value) (W : World) : Prop := ∃ n : Nat, n ≤ len ∧ i = .int .i64 n ∧ tn (cq l) len = tn (cq l) n ∧ Below w.heap.size w W
def TrimUp (w : World) (g n : Nat) (f : Nat → F2) (i : Value) (W : World) : Prop := ∃ m : Nat, m ≤ n ∧ i = .int .i64 m ∧ Below w.heap.size w W ∧ Arr W g (n * 2) (pc (prt f m))
theorem enc_zero_iff (x : F) : enc x = 0 ↔ x = 0 := by
  constructor
  · intro h
    have := toF_enc x
    rw [h] at this
    rw [← this]; rfl
  · rintro rfl; rfl
theorem enc_ne {x : F2} (h : x ≠ 0) : enc x.a ≠ 0 ∨ enc x.b ≠ 0 := by
  by_cases h1 : enc x.a = 0
  · refine Or.inr fun h2 => h (F2.eq ((enc_zero_iff _).1 h1) ((enc_zero_iff _).1 h2))
  · exact Or.inl h1

end Go.Proofs.YthfkfgjhgicfeaaDoor
namespace Go.Proofs.YthfkfgjhgicfeaaDoor
open Go.RowKit
set_option linter.unusedVariables false
def AtR (b off len cap k g3 g5 : Nat) (x0 x1 o0 o1 m0 m1 z0 z1 n0 n1 : Int) (sl : Nat) (v : Value) (W : World) : Prop :=
  match sl with
  | 14 => v = .agg #[.int .u64 o0, .int .u64 o1]
  | 15 => v = .agg #[.int .u64 x0, .int .u64 x1]
  | 16 => v = .agg #[.int .u64 m0, .int .u64 m1]
  | 17 => v = .slice (some ⟨b, off, none⟩) len cap
  | 18 => v = .int .i64 k
  | 19 => v = .pointer (some ⟨b, off + k * 2, none⟩)
  | 20 => v = .agg #[.int .u64 z0, .int .u64 z1]
  | _ => v = .agg #[.int .u64 n0, .int .u64 n1]
theorem AtR.keep {b off len cap k g3 g5 : Nat} {x0 x1 o0 o1 m0 m1 z0 z1 n0 n1 : Int} {sl : Nat} {v : Value} {W W' : World} (h : AtR b off len cap k g3 g5 x0 x1 o0 o1 m0 m1 z0 z1 n0 n1 sl v W) (hb : Below W.heap.size W W') : AtR b off len cap k g3 g5 x0 x1 o0 o1 m0 m1 z0 z1 n0 n1 sl v W' := h

def AtDown (w : World) (l : List F2) (x : F2) (len : Nat) (x0 x1 : Int) (i : Value) (W : World) : Prop :=
  ∃ n : Nat, n ≤ len ∧ i = .int .i64 ((n : Int) - 1) ∧ Below w.heap.size w W ∧ Var W w.heap.size x0 x1 ∧ Var W (w.heap.size + 1) 0 0 ∧ Var W (w.heap.size + 1 + 1) (enc (hq len (cq l) x n).a) (enc (hq len (cq l) x n).b)
def PScaleR (g n b off cap k : Nat) (x0 x1 z0 z1 m0 m1 : Int) (sl : Nat) (v : Value) (W : World) : Prop :=
  match sl with
  | 16 => v = .slice (some ⟨g, 0, none⟩) n n
  | 17 => v = .int .i64 k
  | 18 => v = .slice (some ⟨b, off, none⟩) n cap
  | 19 => v = .int .i64 k
  | 20 => v = .pointer (some ⟨b, off + k * 2, none⟩)
  | 21 => v = .agg #[.int .u64 z0, .int .u64 z1]
  | 22 => v = .agg #[.int .u64 x0, .int .u64 x1]
  | 23 => v = .agg #[.int .u64 m0, .int .u64 m1]
  | _ => v = .pointer (some ⟨g, k * 2, none⟩)
theorem PScaleR.keep {g n b off cap k : Nat} {x0 x1 z0 z1 m0 m1 : Int} {sl : Nat} {v : Value} {W W' : World} (h : PScaleR g n b off cap k x0 x1 z0 z1 m0 m1 sl v W) (hb : Below W.heap.size W W') : PScaleR g n b off cap k x0 x1 z0 z1 m0 m1 sl v W' := h

def ScaleUp (w : World) (n : Nat) (f : Nat → F2) (x0 x1 : Int) (i : Value) (W : World) : Prop :=
  ∃ m : Nat, m ≤ n ∧ i = .int .i64 m ∧ Below w.heap.size w W ∧ Var W w.heap.size x0 x1 ∧ Arr W (w.heap.size + 1) (n * 2) (pc (prt f m))
end Go.Proofs.YthfkfgjhgicfeaaDoor
namespace Go.Proofs.YthfkfgjhgicfeaaDoor
open Go.RowKit
set_option linter.unusedVariables false

/-- A sum. -/
def addP (l m : List F2) : List F2 := pl (max l.length m.length) (fun i => cq l i + cq m i)
theorem addP_upto (l m : List F2) {n : Nat} (h1 : l.length ≤ n) (h2 : m.length ≤ n) : Upto n (fun i => cq l i + cq m i) := fun i hi => by dsimp only; rw [cq_upto l i (by omega), cq_upto m i (by omega), F2.add_zero]
theorem addP_is (l m : List F2) {n : Nat} (h1 : l.length ≤ n) (h2 : m.length ≤ n) : pl n (fun i => cq l i + cq m i) = addP l m := pl_same (addP_upto l m h1 h2) (addP_upto l m (Nat.le_max_left _ _) (Nat.le_max_right _ _)) (fun _ => rfl)
def AddR6 (g n b off len cap k : Nat) (o0 o1 z0 z1 m0 m1 : Int) (sl : Nat) (v : Value) (W : World) : Prop :=
  match sl with
  | 23 => v = .slice (some ⟨g, 0, none⟩) n n
  | 24 => v = .int .i64 k
  | 25 => v = .slice (some ⟨g, 0, none⟩) n n
  | 26 => v = .int .i64 k
  | 27 => v = .pointer (some ⟨g, k * 2, none⟩)
  | 28 => v = .agg #[.int .u64 o0, .int .u64 o1]
  | 29 => v = .slice (some ⟨b, off, none⟩) len cap
  | 30 => v = .int .i64 k
  | 31 => v = .pointer (some ⟨b, off + k * 2, none⟩)
  | 32 => v = .agg #[.int .u64 z0, .int .u64 z1]
  | 33 => v = .agg #[.int .u64 m0, .int .u64 m1]
  | _ => v = .pointer (some ⟨g, k * 2, none⟩)
theorem AddR6.keep {g n b off len cap k : Nat} {o0 o1 z0 z1 m0 m1 : Int} {sl : Nat} {v : Value} {W W' : World} (h : AddR6 g n b off len cap k o0 o1 z0 z1 m0 m1 sl v W) (hb : Below W.heap.size W W') : AddR6 g n b off len cap k o0 o1 z0 z1 m0 m1 sl v W' := h
def AddR8 (g n b off len cap k : Nat) (o0 o1 z0 z1 m0 m1 : Int) (sl : Nat) (v : Value) (W : World) : Prop :=
  match sl with
  | 39 => v = .slice (some ⟨g, 0, none⟩) n n
  | 40 => v = .int .i64 k
  | 41 => v = .slice (some ⟨g, 0, none⟩) n n
  | 42 => v = .int .i64 k
  | 43 => v = .pointer (some ⟨g, k * 2, none⟩)
  | 44 => v = .agg #[.int .u64 o0, .int .u64 o1]
  | 45 => v = .slice (some ⟨b, off, none⟩) len cap
  | 46 => v = .int .i64 k
  | 47 => v = .pointer (some ⟨b, off + k * 2, none⟩)
  | 48 => v = .agg #[.int .u64 z0, .int .u64 z1]
  | 49 => v = .agg #[.int .u64 m0, .int .u64 m1]
  | _ => v = .pointer (some ⟨g, k * 2, none⟩)
theorem AddR8.keep {g n b off len cap k : Nat} {o0 o1 z0 z1 m0 m1 : Int} {sl : Nat} {v : Value} {W W' : World} (h : AddR8 g n b off len cap k o0 o1 z0 z1 m0 m1 sl v W) (hb : Below W.heap.size W W') : AddR8 g n b off len cap k o0 o1 z0 z1 m0 m1 sl v W' := h

def AddUp (w : World) (n : Nat) (f : Nat → F2) (i : Value) (W : World) : Prop :=
  ∃ m : Nat, m ≤ n ∧ i = .int .i64 m ∧ Below w.heap.size w W ∧ Arr W w.heap.size (n * 2) (pc (prt f m))

end Go.Proofs.YthfkfgjhgicfeaaDoor
namespace Go.Proofs.YthfkfgjhgicfeaaDoor
open Go.RowKit
set_option linter.unusedVariables false

/-- A product; a quotient. -/
def mulP (l m : List F2) : List F2 := pl (l.length + m.length - 1) (cv (cq l) (cq m))
def divP (l : List F2) (x : F2) : List F2 := pl (l.length - 1) (dq l.length (cq l) x)
theorem mulP_upto (l m : List F2) : Upto (l.length + m.length - 1) (cv (cq l) (cq m)) := cv_upto (cq_upto l) (cq_upto m)
theorem pl_nil {n : Nat} {c : Nat → F2} (h : ∀ i, c i = 0) : pl n c = [] := by unfold pl; rw [tn_nil h]; rfl
theorem mulP_nil (l m : List F2) (h : l.length = 0 ∨ m.length = 0) : mulP l m = [] := pl_nil fun i => sq_none fun j _ => by
  rcases h with h | h
  · rw [cq_upto l j (by omega), F2.zero_mul]
  · rw [cq_upto m (i - j) (by omega), F2.mul_zero]
/-- The first i rows of a product. -/
def cvp (a b : Nat → F2) (i p : Nat) : F2 := sq i (fun j => if j ≤ p then a j * b (p - j) else 0)
theorem cvp_all {a b : Nat → F2} {n : Nat} (ha : Upto n a) (p : Nat) : cvp a b n p = cv a b p := by
  unfold cvp cv
  rcases Nat.le_total n (p + 1) with h | h
  · rw [sq_more (f := fun j => a j * b (p - j)) h (fun i h1 _ => by rw [ha i h1, F2.zero_mul])]
    exact sq_congr fun j hj => if_pos (by omega)
  · rw [sq_more (n := p + 1) h (fun i h1 _ => if_neg (by omega))]
    exact sq_congr fun j hj => if_pos (by omega)
/-- .. and of the next one its first j. -/
def cvr (a b : Nat → F2) (i j p : Nat) : F2 := cvp a b i p + if i ≤ p ∧ p < i + j then a i * b (p - i) else 0
theorem cvr_zero (a b : Nat → F2) (i p : Nat) : cvr a b i 0 p = cvp a b i p := by unfold cvr; rw [if_neg (by omega), F2.add_zero]
theorem cvr_end {a b : Nat → F2} {m : Nat} (hb : Upto m b) (i p : Nat) : cvr a b i m p = cvp a b (i + 1) p := by
  unfold cvr cvp
  rw [sq_succ]
  congr 1
  by_cases h : i ≤ p
  · rw [if_pos h]
    by_cases h2 : p < i + m
    · rw [if_pos ⟨h, h2⟩]
    · rw [if_neg (fun h => h2 h.2), hb (p - i) (by omega), F2.mul_zero]
  · rw [if_neg h, if_neg (fun h' => h h'.1)]
theorem cvr_step (a b : Nat → F2) (i j p : Nat) : cvr a b i (j + 1) p = if p = i + j then cvr a b i j p + a i * b j else cvr a b i j p := by
  unfold cvr
  by_cases h : p = i + j
  · rw [if_pos h, if_pos (by omega), if_neg (by omega), F2.add_zero, show p - i = j by omega]
  · rw [if_neg h]
    by_cases h2 : i ≤ p ∧ p < i + j
    · rw [if_pos h2, if_pos (by omega)]
    · rw [if_neg h2, if_neg (by omega)]

def MulOut (w : World) (n la : Nat) (a b : Nat → F2) (i : Value) (W : World) : Prop :=
  ∃ k : Nat, k ≤ la ∧ i = .int .i64 k ∧ Below w.heap.size w W ∧ Arr W w.heap.size (n * 2) (pc fun p => encP (cvp a b k p))
def MulIn (w : World) (n lb : Nat) (a b : Nat → F2) (k : Nat) (j : Value) (W : World) : Prop :=
  ∃ q : Nat, q ≤ lb ∧ j = .int .i64 q ∧ Below w.heap.size w W ∧ Arr W w.heap.size (n * 2) (pc fun p => encP (cvr a b k q p))
def MulR (g n b off len cap b2 off2 len2 cap2 i j p : Nat) (o0 o1 x0 x1 y0 y1 m0 m1 n0 n1 : Int) (sl : Nat) (v : Value) (W : World) : Prop :=
  match sl with
  | 35 => v = .slice (some ⟨g, 0, none⟩) n n
  | 36 => v = .int .i64 i
  | 37 => v = .int .i64 j
  | 38 => v = .int .i64 p
  | 39 => v = .slice (some ⟨g, 0, none⟩) n n
  | 40 => v = .int .i64 i
  | 41 => v = .int .i64 j
  | 42 => v = .int .i64 p
  | 43 => v = .pointer (some ⟨g, p * 2, none⟩)
  | 44 => v = .agg #[.int .u64 o0, .int .u64 o1]
  | 45 => v = .slice (some ⟨b, off, none⟩) len cap
  | 46 => v = .int .i64 i
  | 47 => v = .pointer (some ⟨b, off + i * 2, none⟩)
  | 48 => v = .agg #[.int .u64 x0, .int .u64 x1]
  | 49 => v = .slice (some ⟨b2, off2, none⟩) len2 cap2
  | 50 => v = .int .i64 j
  | 51 => v = .pointer (some ⟨b2, off2 + j * 2, none⟩)
  | 52 => v = .agg #[.int .u64 y0, .int .u64 y1]
  | 53 => v = .agg #[.int .u64 m0, .int .u64 m1]
  | 54 => v = .agg #[.int .u64 n0, .int .u64 n1]
  | _ => v = .pointer (some ⟨g, p * 2, none⟩)
theorem MulR.keep {g n b off len cap b2 off2 len2 cap2 i j p : Nat} {o0 o1 x0 x1 y0 y1 m0 m1 n0 n1 : Int} {sl : Nat} {v : Value} {W W' : World} (h : MulR g n b off len cap b2 off2 len2 cap2 i j p o0 o1 x0 x1 y0 y1 m0 m1 n0 n1 sl v W) (hb : Below W.heap.size W W') : MulR g n b off len cap b2 off2 len2 cap2 i j p o0 o1 x0 x1 y0 y1 m0 m1 n0 n1 sl v W' := h

def DivR (b off len cap k : Nat) (x0 x1 o0 o1 m0 m1 z0 z1 n0 n1 : Int) (sl : Nat) (v : Value) (W : World) : Prop :=
  match sl with
  | 24 => v = .agg #[.int .u64 o0, .int .u64 o1]
  | 25 => v = .agg #[.int .u64 x0, .int .u64 x1]
  | 26 => v = .agg #[.int .u64 m0, .int .u64 m1]
  | 27 => v = .slice (some ⟨b, off, none⟩) len cap
  | 28 => v = .int .i64 k
  | 29 => v = .pointer (some ⟨b, off + k * 2, none⟩)
  | 30 => v = .agg #[.int .u64 z0, .int .u64 z1]
  | _ => v = .agg #[.int .u64 n0, .int .u64 n1]
theorem DivR.keep {b off len cap k : Nat} {x0 x1 o0 o1 m0 m1 z0 z1 n0 n1 : Int} {sl : Nat} {v : Value} {W W' : World} (h : DivR b off len cap k x0 x1 o0 o1 m0 m1 z0 z1 n0 n1 sl v W) (hb : Below W.heap.size W W') : DivR b off len cap k x0 x1 o0 o1 m0 m1 z0 z1 n0 n1 sl v W' := h

def DivR11 (n : Nat) (g B : Nat) (l : List F2) (r0 r1 : Int) (sl : Nat) (v : Value) (W : World) : Prop :=
  match sl with
  | 39 => v = .slice (some ⟨g, 0, none⟩) n n
  | 41 => v = .agg #[.int .u64 r0, .int .u64 r1]
  | _ => IsP W v l ∧ Fresh B v
theorem DivR11.keep {n g B : Nat} {l : List F2} {r0 r1 : Int} {sl : Nat} {v : Value} {W W' : World} (h : DivR11 n g B l r0 r1 sl v W) (hb : Below W.heap.size W W') : DivR11 n g B l r0 r1 sl v W' := by
  unfold DivR11 at *
  split at h
  all_goals first | exact h | exact ⟨IsP.keep h.1 hb, h.2⟩
/-- What Divide tells. -/
def RetD (l : List F2) (r : F2) (w : World) (e : Ending) (w' : World) : Prop := ∃ v, e = .returned (.tuple #[v, .agg #[.int .u64 (enc r.a), .int .u64 (enc r.b)]]) ∧ Below w.heap.size w w' ∧ IsP w' v l
/-- The quotient's row, the coefficients from n - 1 on done. -/
def dvr (len : Nat) (c : Nat → F2) (x : F2) (n j : Nat) : Int × Int := if n ≤ j + 1 then encP (hq len c x (j + 1)) else (0, 0)
def DivDown (w : World) (c : Nat → F2) (x : F2) (len : Nat) (x0 x1 : Int) (i : Value) (W : World) : Prop :=
  ∃ n : Nat, n ≤ len ∧ i = .int .i64 ((n : Int) - 1) ∧ Below w.heap.size w W ∧ Var W w.heap.size x0 x1 ∧ Var W (w.heap.size + 1) 0 0 ∧ Var W (w.heap.size + 1 + 1 + 1) (enc (hq len c x n).a) (enc (hq len c x n).b) ∧ Arr W (w.heap.size + 1 + 1) ((len - 1) * 2) (pc (dvr len c x n))
theorem dvr_start (len : Nat) (c : Nat → F2) (x : F2) (j : Nat) (h : j < len - 1) : dvr len c x len j = (0, 0) := if_neg (by omega)
theorem dvr_end (len : Nat) (c : Nat → F2) (x : F2) (j : Nat) : dvr len c x 0 j = encP (dq len c x j) := if_pos (by omega)
theorem dvr_step {len : Nat} {c : Nat → F2} {x : F2} {k : Nat} {y : F2} (hy : hq len c x (k + 1) = y) (j : Nat) : (if j = k then (enc y.a, enc y.b) else dvr len c x (k + 1 + 1) j) = dvr len c x (k + 1) j := by
  unfold dvr
  by_cases e : j = k
  · subst e; rw [if_pos rfl, if_pos (Nat.le_refl _), hy]; rfl
  · rw [if_neg e]
    by_cases h : k + 1 + 1 ≤ j + 1
    · rw [if_pos h, if_pos (by omega)]
    · rw [if_neg h, if_neg (by omega)]
theorem dvr_low {len : Nat} {c : Nat → F2} {x : F2} (j : Nat) : dvr len c x 1 j = dvr len c x 0 j := by unfold dvr; rw [if_pos (by omega), if_pos (by omega)]

end Go.Proofs.YthfkfgjhgicfeaaDoor
namespace Go.Proofs.YthfkfgjhgicfeaaDoor
open Go.RowKit Go.Sort Go.BigFrame
set_option linter.unusedVariables false

def liftL (zs : List Int) : List F2 := zs.map fun z => lift (toF z)
theorem liftL_len (zs : List Int) : (liftL zs).length = zs.length := by simp [liftL]
theorem liftL_snoc (zs : List Int) (k : Nat) (h : k < zs.length) : encL ((liftL zs).take k) ++ [(enc (lift (toF (zs.getD k 0))).a, enc (lift (toF (zs.getD k 0))).b)] = encL ((liftL zs).take (k + 1)) := by
  rw [List.take_succ_eq_append_getElem (by rw [liftL_len]; exact h)]
  unfold encL
  rw [List.map_append]
  congr 1
  simp [liftL, List.getD, h]
def LiftUp (w : World) (zs : List Int) (i v : Value) (W : World) : Prop := ∃ k : Nat, k ≤ zs.length ∧ i = .int .i64 k ∧ MadeQ w W v (encL ((liftL zs).take k))

/-- Neg, and X less a pair as a slice. -/
theorem lin_poly (x : F2) (i : Nat) : cq [-x, 1] i = lin x i := by
  unfold cq lin
  match i with
  | 0 => rfl
  | 1 => rfl
  | i + 2 => rfl
theorem mul_lin {n : Nat} {c : Nat → F2} (h : Upto n c) (x : F2) {m : Nat} {d : Nat → F2} (hd : Upto m d) (he : ∀ i, cv c (lin x) i = d i) : mulP (pl n c) [-x, 1] = pl m d :=
  pl_same (mulP_upto _ _) hd (fun i => (cv_congr (cq_pl h) (lin_poly x) i).trans (he i))
theorem add_scale {n m : Nat} {c d e : Nat → F2} (hc : Upto n c) (hd : Upto m d) {k : Nat} (he : Upto k e) (x : F2) (h : ∀ i, c i + d i * x = e i) : addP (pl n c) (pl (pl m d).length (fun i => cq (pl m d) i * x)) = pl k e := by
  have hs : Upto (pl m d).length (fun i => cq (pl m d) i * x) := fun i hi => by dsimp only; rw [cq_upto (pl m d) i hi, F2.zero_mul]
  refine pl_same (addP_upto _ _ (Nat.le_max_left _ _) (Nat.le_max_right _ _)) he fun i => ?_
  rw [cq_pl hc, cq_pl hs, cq_pl hd]
  exact h i

def NotAt (g : Nat) (v : Value) : Prop := ∀ a n c, v = .slice (some a) n c → 0 < n → a.block ≠ g
theorem Fresh.notAt {B g : Nat} {v : Value} (h : Fresh B v) (hg : g < B) : NotAt g v := fun a n c e _ => by have := h a n c e; omega
theorem IsP.notAt {W : World} {v : Value} {l : List F2} {g : Nat} (h : IsP W v l) (hg : W.heap.size ≤ g) : NotAt g v := by
  intro a n c e hn
  rcases h with ⟨rfl, _⟩ | ⟨a', c', rfl, _⟩ | ⟨b, off, c', rfl, h1, h2, h3⟩
  · cases e
  · cases e; omega
  · cases e
    have := World.block_lt_of_cell? W _ (h3 0 hn).1
    simp at this ⊢; omega
theorem IsP.off {W : World} {v : Value} {l : List F2} {g : Nat} (h : IsP W v l) (hf : NotAt g v) (o : Nat) (u : Value) : IsP (W.setCell ⟨g, o, none⟩ u) v l := by
  rcases h with ⟨rfl, h⟩ | ⟨a, c, rfl, h⟩ | ⟨b, off, c, rfl, h1, h2, h3⟩
  · exact Or.inl ⟨rfl, h⟩
  · exact Or.inr (Or.inl ⟨a, c, rfl, h⟩)
  · exact Or.inr (Or.inr ⟨b, off, c, rfl, h1, h2, fun i hi => by
      have hb := hf _ _ _ rfl (by omega)
      exact ⟨(World.cell?_setCell_far _ _ _ _ (Ne.symm hb)).trans (h3 i hi).1, (World.cell?_setCell_far _ _ _ _ (Ne.symm hb)).trans (h3 i hi).2⟩⟩)
theorem isP_one {W : World} {g : Nat} {a : F2} (h0 : W.cell? ⟨g, 0, none⟩ = some (.int .u64 (enc a.a))) (h1 : W.cell? ⟨g, 1, none⟩ = some (.int .u64 (enc a.b))) : IsP W (.slice (some ⟨g, 0, none⟩) 1 1) [a] :=
  Or.inr (Or.inr ⟨g, 0, 1, rfl, by simp [encL], by unfold maxLen; omega, fun i hi => by
    have : i = 0 := by simp [encL] at hi; omega
    subst this
    exact ⟨h0, h1⟩⟩)
theorem isP_two {W : World} {g : Nat} {a b : F2} (h0 : W.cell? ⟨g, 0, none⟩ = some (.int .u64 (enc a.a))) (h1 : W.cell? ⟨g, 1, none⟩ = some (.int .u64 (enc a.b))) (h2 : W.cell? ⟨g, 2, none⟩ = some (.int .u64 (enc b.a))) (h3 : W.cell? ⟨g, 3, none⟩ = some (.int .u64 (enc b.b))) :
    IsP W (.slice (some ⟨g, 0, none⟩) 2 2) [a, b] :=
  Or.inr (Or.inr ⟨g, 0, 2, rfl, by simp [encL], by unfold maxLen; omega, fun i hi => by
    have : i = 0 ∨ i = 1 := by simp [encL] at hi; omega
    rcases this with rfl | rfl
    · exact ⟨h0, h1⟩
    · exact ⟨h2, h3⟩⟩)
theorem pl_one2 : pl 1 one2 = [1] := by
  have h : tn one2 1 = 1 := tn_is one2_upto one2_upto (by show one2 0 ≠ 0; exact F2.one_ne_zero)
  unfold pl
  rw [h]; rfl
theorem pp_skip (i : Nat) (x : Nat → F2) : pl (pn i (i + 1)) (pp i x (i + 1)) = pl (pn i i) (pp i x i) := pl_same (pp_upto _ _ _) (pp_upto _ _ _) (fun j => by show (if i = i then pp i x i else _) j = _; rw [if_pos rfl])
theorem ps_skip (i : Nat) (x : Nat → F2) (y : F2) : ps i x y (i + 1) = ps i x y i := by show (if i = i then _ else _) = _; rw [if_pos rfl]
theorem pp_mul (i k : Nat) (x : Nat → F2) (h : k ≠ i) : mulP (pl (pn i k) (pp i x k)) [-(x k), 1] = pl (pn i (k + 1)) (pp i x (k + 1)) := mul_lin (pp_upto _ _ _) (x k) (pp_upto _ _ _) (fun j => by show _ = (if k = i then _ else _ : Nat → F2) j; rw [if_neg h])
theorem ps_mul (i k : Nat) (x : Nat → F2) (y : F2) (h : k ≠ i) : ps i x y k * (y - x k) = ps i x y (k + 1) := by show _ = (if k = i then _ else _); rw [if_neg h]
theorem lgr_zero (n : Nat) (x y : Nat → F2) : pl n (lgr n x y 0) = [] := pl_nil fun _ => rfl
theorem lgr_step (n : Nat) (x y : Nat → F2) (i : Nat) (hi : i < n) (w : F2) (hw : qinv (ps i x (x i) n) * y i = w) :
    addP (pl n (lgr n x y i)) (pl (pl (pn i n) (pp i x n)).length (fun j => cq (pl (pn i n) (pp i x n)) j * w)) = pl n (lgr n x y (i + 1)) :=
  add_scale (lgr_upto n x y i (by omega)) (pp_upto _ _ _) (lgr_upto n x y (i + 1) (by omega)) w (fun j => by rw [← hw]; rfl)

/-- Whether there is one through points; and it. -/
def thrB (l m : List F2) : Bool := decide (l.length = m.length) && (List.range l.length).all fun i => decide (ps i (cq l) (cq l i) l.length ≠ 0)
def thrL (l m : List F2) : List F2 := if thrB l m = true then pl l.length (lgr l.length (cq l) (cq m) l.length) else []
def RetT (l m : List F2) (w : World) (e : Ending) (w' : World) : Prop := ∃ v, e = .returned (.tuple #[v, .bool (thrB l m)]) ∧ Below w.heap.size w w' ∧ IsP w' v (thrL l m)
theorem RetT.no {l m : List F2} {w w' : World} {e : Ending} (h : thrB l m = false) (he : e = .returned (.tuple #[.slice none 0 0, .bool false])) (hb : Below w.heap.size w w') : RetT l m w e w' :=
  ⟨.slice none 0 0, by rw [h]; exact he, hb, by unfold thrL; rw [h]; exact IsP.nil _⟩
theorem RetT.yes {l m r : List F2} {w w' : World} {e : Ending} {v : Value} (h : thrB l m = true) (h2 : thrL l m = r) (he : e = .returned (.tuple #[v, .bool true])) (hb : Below w.heap.size w w') (hp : IsP w' v r) : RetT l m w e w' := by
  subst h2
  exact ⟨v, by rw [h]; exact he, hb, hp⟩
theorem thrB_len {l m : List F2} (h : l.length ≠ m.length) : thrB l m = false := by unfold thrB; simp [h]
theorem thrB_two {l m : List F2} {i : Nat} (hi : i < l.length) (h : ps i (cq l) (cq l i) l.length = 0) : thrB l m = false := by
  unfold thrB
  rw [Bool.and_eq_false_iff]
  right
  rw [List.all_eq_false]
  exact ⟨i, List.mem_range.2 hi, by simp [h]⟩
theorem thrB_yes {l m : List F2} (h : l.length = m.length) (h2 : ∀ i, i < l.length → ps i (cq l) (cq l i) l.length ≠ 0) : thrB l m = true := by
  unfold thrB
  rw [Bool.and_eq_true, List.all_eq_true]
  exact ⟨by simpa using h, fun i hi => by simpa using h2 i (List.mem_range.1 hi)⟩
end Go.Proofs.YthfkfgjhgicfeaaDoor
namespace Go.Proofs.YthfkfgjhgicfeaaDoor
open Go.RowKit Go.Sort Go.BigFrame
set_option linter.unusedVariables false

def ThrOut (w : World) (n : Nat) (x y : Nat → F2) (v i : Value) (W : World) : Prop :=
  ∃ k : Nat, k ≤ n ∧ i = .int .i64 k ∧ Below w.heap.size w W ∧ IsP W v (pl n (lgr n x y k)) ∧ ∀ j, j < k → ps j x (x j) n ≠ 0
def ThrIn (w : World) (n i : Nat) (x : Nat → F2) (gb : Nat) (vo : Value) (lo : List F2) (v8 j : Value) (W : World) : Prop :=
  ∃ k : Nat, k ≤ n ∧ j = .int .i64 k ∧ Below w.heap.size w W ∧ IsP W v8 (pl (pn i k) (pp i x k)) ∧ Var W gb (enc (ps i x (x i) k).a) (enc (ps i x (x i) k).b) ∧ IsP W vo lo ∧ NotAt gb v8
def ThrR14 (gb b off len cap i j : Nat) (o0 o1 x0 x1 y0 y1 m0 m1 n0 n1 : Int) (sl : Nat) (v : Value) (W : World) : Prop :=
  match sl with
  | 45 => v = .agg #[.int .u64 o0, .int .u64 o1]
  | 46 => v = .slice (some ⟨b, off, none⟩) len cap
  | 47 => v = .int .i64 i
  | 48 => v = .pointer (some ⟨b, off + i * 2, none⟩)
  | 49 => v = .agg #[.int .u64 x0, .int .u64 x1]
  | 50 => v = .slice (some ⟨b, off, none⟩) len cap
  | 51 => v = .int .i64 j
  | 52 => v = .pointer (some ⟨b, off + j * 2, none⟩)
  | 53 => v = .agg #[.int .u64 y0, .int .u64 y1]
  | 54 => v = .agg #[.int .u64 m0, .int .u64 m1]
  | _ => v = .agg #[.int .u64 n0, .int .u64 n1]
theorem ThrR14.keep {gb b off len cap i j : Nat} {o0 o1 x0 x1 y0 y1 m0 m1 n0 n1 : Int} {sl : Nat} {v : Value} {W W' : World} (h : ThrR14 gb b off len cap i j o0 o1 x0 x1 y0 y1 m0 m1 n0 n1 sl v W) (hb : Below W.heap.size W W') : ThrR14 gb b off len cap i j o0 o1 x0 x1 y0 y1 m0 m1 n0 n1 sl v W' := h

def ThrR18 (vo v8 : Value) (b off len cap i B : Nat) (q0 q1 y0 y1 m0 m1 : Int) (l1 l2 : List F2) (sl : Nat) (v : Value) (W : World) : Prop :=
  match sl with
  | 63 => v = vo
  | 64 => v = v8
  | 65 => v = .agg #[.int .u64 q0, .int .u64 q1]
  | 66 => v = .slice (some ⟨b, off, none⟩) len cap
  | 67 => v = .int .i64 i
  | 68 => v = .pointer (some ⟨b, off + i * 2, none⟩)
  | 69 => v = .agg #[.int .u64 y0, .int .u64 y1]
  | 70 => v = .agg #[.int .u64 m0, .int .u64 m1]
  | 71 => IsP W v l1
  | _ => IsP W v l2
theorem ThrR18.keep {vo v8 : Value} {b off len cap i B : Nat} {q0 q1 y0 y1 m0 m1 : Int} {l1 l2 : List F2} {sl : Nat} {v : Value} {W W' : World} (h : ThrR18 vo v8 b off len cap i B q0 q1 y0 y1 m0 m1 l1 l2 sl v W) (hb : Below W.heap.size W W') : ThrR18 vo v8 b off len cap i B q0 q1 y0 y1 m0 m1 l1 l2 sl v W' := by
  unfold ThrR18 at *
  split at h
  all_goals first | exact h | exact IsP.keep h hb

end Go.Proofs.YthfkfgjhgicfeaaDoor
namespace Go.Proofs.YthfkfgjhgicfeaaDoor
open Go.RowKit Go.Sort Go.BigFrame
set_option linter.unusedVariables false

def RetI (d : Int) (w : World) (e : Ending) (w' : World) : Prop := e = .returned (.int .i64 d) ∧ Below w.heap.size w w'
def RetQ (y : F2) (w : World) (e : Ending) (w' : World) : Prop := e = .returned (.agg #[.int .u64 (enc y.a), .int .u64 (enc y.b)]) ∧ Below w.heap.size w w'
def trimP (l : List F2) : List F2 := pl l.length (cq l)
def degP (l : List F2) : Int := (tn (cq l) l.length : Int) - 1
def atP (l : List F2) (x : F2) : F2 := qe l.length (cq l) x
def scaP (l : List F2) (x : F2) : List F2 := pl l.length (fun i => cq l i * x)
end Go.Proofs.YthfkfgjhgicfeaaDoor
namespace Go.Proofs.YthfkfgjhgicfeaaDoor
set_option linter.unusedVariables false

theorem atP_pl {n : Nat} {c : Nat → F2} (h : Upto n c) (x : F2) : atP (pl n c) x = qe n c x := qe_pl h x
theorem degP_pl {n : Nat} {c : Nat → F2} (h : Upto n c) : degP (pl n c) = (tn c n : Int) - 1 := by unfold degP; rw [tn_pl h]
theorem atP_mul (l m : List F2) (x : F2) : atP (mulP l m) x = atP l x * atP m x := by
  unfold mulP
  rw [atP_pl (mulP_upto l m)]
  exact cv_eval _ _ (cq_upto l) _ _ (cq_upto m) _ x (by omega)
theorem atP_add (l m : List F2) (x : F2) : atP (addP l m) x = atP l x + atP m x := by
  unfold addP
  rw [atP_pl (addP_upto l m (Nat.le_max_left _ _) (Nat.le_max_right _ _)), qe_add, qe_more x (Nat.le_max_left _ _) (cq_upto l), qe_more x (Nat.le_max_right _ _) (cq_upto m)]
  rfl
theorem scaP_upto (l : List F2) (x : F2) : Upto l.length (fun i => cq l i * x) := fun i hi => by dsimp only; rw [cq_upto l i hi, F2.zero_mul]
theorem atP_sca (l : List F2) (z x : F2) : atP (scaP l z) x = z * atP l x := by
  unfold scaP
  rw [atP_pl (scaP_upto l z), qe_scale]
  rfl
theorem div_upto (l : List F2) (x : F2) : Upto (l.length - 1) (dq l.length (cq l) x) := dq_upto _ _ _
theorem degP_div (l : List F2) (x : F2) : degP (divP l x) = max (degP l - 1) (-1) := by
  unfold divP
  rw [degP_pl (div_upto l x), dq_tn (cq_upto l)]
  unfold degP
  generalize tn (cq l) l.length = t
  omega
theorem lin_cq (x : F2) (i : Nat) : cq [-x, 1] i = lin x i := lin_poly x i
theorem euclidP (l : List F2) (x : F2) : addP (mulP (divP l x) [-x, 1]) [atP l x] = trimP l := by
  have hu := div_upto l x
  refine pl_same (addP_upto _ _ (Nat.le_max_left _ _) (Nat.le_max_right _ _)) (cq_upto l) fun i => ?_
  unfold mulP divP
  rw [cq_pl (mulP_upto _ _), cv_congr (cq_pl hu) (lin_cq x) i, ← euclid (cq_upto l) x i]
  congr 1
  cases i with
  | zero => rfl
  | succ i => rw [if_neg (by omega)]; exact cq_upto [atP l x] (i + 1) (by simp)
theorem degP_mul (l m : List F2) : degP (mulP l m) = if degP l < 0 ∨ degP m < 0 then -1 else degP l + degP m := by
  unfold mulP
  rw [degP_pl (mulP_upto l m), tn_cv (cq_upto l) (cq_upto m)]
  unfold degP
  generalize tn (cq l) l.length = s
  generalize tn (cq m) m.length = t
  by_cases h : s = 0 ∨ t = 0
  · rw [if_pos h, if_pos (by omega)]; rfl
  · rw [if_neg h, if_neg (by omega)]; omega
theorem degP_add (l m : List F2) : degP (addP l m) ≤ max (degP l) (degP m) := by
  have hu := addP_upto l m (Nat.le_max_left l.length m.length) (Nat.le_max_right _ _)
  unfold addP
  rw [degP_pl hu]
  unfold degP
  have h : tn (fun i => cq l i + cq m i) (max l.length m.length) ≤ max (tn (cq l) l.length) (tn (cq m) m.length) := by
    refine Nat.le_of_not_lt fun hlt => ?_
    obtain ⟨k, hk⟩ : ∃ k, tn (fun i => cq l i + cq m i) (max l.length m.length) = k + 1 := ⟨tn (fun i => cq l i + cq m i) (max l.length m.length) - 1, by omega⟩
    refine tn_top hk ?_
    rw [tn_upto (cq_upto l) k (by omega), tn_upto (cq_upto m) k (by omega), F2.add_zero]
  omega
theorem degP_nn (l : List F2) : -1 ≤ degP l ∧ degP l < l.length := by
  unfold degP
  have := tn_le (cq l) l.length
  omega
/-- X less each of some, all together. -/
def rootsP (l : List F2) (k : Nat) : List F2 := pl (k + 1) (pp l.length (cq l) k)
theorem pp_upto' (l : List F2) (k : Nat) (h : k ≤ l.length) : Upto (k + 1) (pp l.length (cq l) k) := by
  have := pp_upto l.length (cq l) k
  unfold pn at this
  rwa [if_neg (by omega)] at this
theorem rootsP_zero (l : List F2) : rootsP l 0 = [1] := pl_one2
theorem rootsP_step (l : List F2) (k : Nat) (h : k < l.length) : mulP (rootsP l k) [-(cq l k), 1] = rootsP l (k + 1) := by
  refine mul_lin (pp_upto' l k (by omega)) (cq l k) (pp_upto' l (k + 1) (by omega)) fun i => ?_
  show _ = (if k = l.length then _ else _ : Nat → F2) i
  rw [if_neg (by omega)]
theorem degP_roots (l : List F2) (k : Nat) (h : k ≤ l.length) : degP (rootsP l k) = k := by
  unfold rootsP
  have hu := pp_upto' l k h
  rw [degP_pl hu, tn_is hu hu (by rw [pp_top l.length (cq l) k h]; exact F2.one_ne_zero)]
  omega
theorem atP_roots (l : List F2) (k : Nat) (h : k ≤ l.length) (x : F2) : atP (rootsP l k) x = 0 ↔ ∃ i, i < k ∧ x = cq l i := by
  unfold rootsP
  rw [atP_pl (pp_upto' l k h)]
  have e := pp_eval l.length (cq l) x k
  unfold pn at e
  rw [if_neg (by omega)] at e
  rw [e, ps_zero]
  exact ⟨fun ⟨i, h1, _, h3⟩ => ⟨i, h1, h3⟩, fun ⟨i, h1, h3⟩ => ⟨i, h1, by omega, h3⟩⟩
end Go.Proofs.YthfkfgjhgicfeaaDoor
namespace Go.Proofs.YthfkfgjhgicfeaaDoor
set_option linter.unusedVariables false

/-- No two of a list are the same. -/
def Apart (l : List F2) : Prop := ∀ i j, i < l.length → j < i → cq l i ≠ cq l j
theorem Apart.yes {l m : List F2} (h : Apart l) (hl : l.length = m.length) : thrB l m = true := by
  refine thrB_yes hl fun i hi h0 => ?_
  obtain ⟨j, h1, h2, h3⟩ := (ps_zero i (cq l) (cq l i) l.length).1 h0
  rcases Nat.lt_or_gt_of_ne h2 with c | c
  · exact h i j hi c h3
  · exact h j i h1 c h3.symm
theorem Apart.thrL {l m : List F2} (h : Apart l) (hl : l.length = m.length) : thrL l m = pl l.length (lgr l.length (cq l) (cq m) l.length) := by
  unfold Go.Proofs.YthfkfgjhgicfeaaDoor.thrL
  rw [if_pos (h.yes hl)]
theorem Apart.at {l m : List F2} (h : Apart l) (hl : l.length = m.length) (i : Nat) (hi : i < l.length) : atP (Go.Proofs.YthfkfgjhgicfeaaDoor.thrL l m) (cq l i) = cq m i := by
  rw [h.thrL hl, atP_pl (lgr_upto _ _ _ _ (Nat.le_refl _))]
  exact lgr_eval _ _ _ h i hi
theorem Apart.deg {l m : List F2} (h : Apart l) (hl : l.length = m.length) : degP (Go.Proofs.YthfkfgjhgicfeaaDoor.thrL l m) < l.length := by
  rw [h.thrL hl, degP_pl (lgr_upto _ _ _ _ (Nat.le_refl _))]
  have := tn_le (lgr l.length (cq l) (cq m) l.length) l.length
  omega
theorem Apart.len {l m : List F2} (h : Apart l) (hl : l.length = m.length) : (Go.Proofs.YthfkfgjhgicfeaaDoor.thrL l m).length ≤ l.length := by
  rw [h.thrL hl, pl_len]
  exact tn_le _ _
/-- The values of p at a list's first k. -/
def valsP (p l : List F2) (k : Nat) : List F2 := mk k fun i => atP p (cq l i)
theorem valsP_len (p l : List F2) (k : Nat) : (valsP p l k).length = k := mk_len _ _
theorem valsP_at (p l : List F2) (k i : Nat) (h : i < k) : cq (valsP p l k) i = atP p (cq l i) := mk_at _ _ _ h
theorem valsP_succ (p l : List F2) (k : Nat) : valsP p l (k + 1) = valsP p l k ++ [atP p (cq l k)] := by unfold valsP mk; rw [List.range_succ, List.map_append]; rfl
/-- The one through a polynomial's values at more places than its degree is it. -/
theorem Apart.one {p l : List F2} (h : Apart l) (hd : degP p < l.length) : Go.Proofs.YthfkfgjhgicfeaaDoor.thrL l (valsP p l l.length) = trimP p := by
  have hl : l.length = (valsP p l l.length).length := (valsP_len _ _ _).symm
  have hu : Upto l.length (cq p) := (tn_upto (cq_upto p)).more (by unfold degP at hd; omega)
  rw [h.thrL hl]
  unfold trimP
  refine pl_same (lgr_upto _ _ _ _ (Nat.le_refl _)) (cq_upto p) fun i => ?_
  refine through_one (lgr_upto _ _ _ _ (Nat.le_refl _)) hu (cq l) h (fun j hj => ?_) i
  rw [lgr_eval _ _ _ h j hj, valsP_at _ _ _ _ hj]
  unfold atP
  by_cases c : p.length ≤ l.length
  · exact (qe_more _ c (cq_upto p)).symm
  · exact qe_more _ (by omega) hu
end Go.Proofs.YthfkfgjhgicfeaaDoor
