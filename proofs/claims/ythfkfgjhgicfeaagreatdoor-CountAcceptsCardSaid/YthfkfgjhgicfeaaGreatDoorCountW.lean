/-
  Sets of places as they lie in memory; what is asked of the program's calls of layer 23.
-/
import Derived.Test.YthfkfgjhgicfeaaGreatDoorCountE
import Derived.Test.YthfkfgjhgicfeaaGreatDoorGChain
import Derived.Test.YthfkfgjhgicfeaaGreatDoorGJudgeR
import Derived.Test.YthfkfgjhgicfeaaGreatDoorGPolyR
namespace Go.Proofs.YthfkfgjhgicfeaaGreatDoor
open Go Go.RowKit
set_option linter.unusedVariables false

/-- A slice of small numbers. -/
def NRowA (w : World) (a : Option Addr) (len : Nat) (I : List Nat) : Prop :=
  I.length = len ∧ len ≤ maxLen ∧ ∀ k, k < len → ∃ b off : Nat, a = some ⟨b, off, none⟩ ∧ w.cell? ⟨b, off + k, none⟩ = some (.int .i64 (I.getD k 0 : Nat))
theorem NRowA.keep {w w' : World} {a : Option Addr} {len : Nat} {I : List Nat} (h : NRowA w a len I) (hb : Below w.heap.size w w') : NRowA w' a len I :=
  ⟨h.1, h.2.1, fun k hk => by obtain ⟨b, off, e, c⟩ := h.2.2 k hk; exact ⟨b, off, e, bkeep hb c⟩⟩
theorem NRowA.cut {w : World} {a : Option Addr} {len d : Nat} {I : List Nat} (h : NRowA w a len I) (hd : d ≤ len) : NRowA w a d (I.take d) := by
  obtain ⟨h1, h2, h3⟩ := h
  refine ⟨by simp; omega, by omega, fun k hk => ?_⟩
  obtain ⟨b, off, e, c⟩ := h3 k (by omega)
  exact ⟨b, off, e, by rw [c]; simp [List.getD, hk]⟩
def natsV (I : List Nat) : List Value := I.map fun (i : Nat) => Value.int .i64 (i : Int)
theorem natsV_len (I : List Nat) : (natsV I).length = I.length := by simp [natsV]
theorem own_nrow {W : World} {B : Nat} {v : Value} {I : List Nat} (h : W.ownsRow B 3 1 v I.length (natsV I)) : ∃ a c, v = .slice a I.length c ∧ NRowA W a I.length I ∧ I.length ≤ c := by
  rcases h.2 with ⟨rfl, h0⟩ | ⟨g, cap, cur, rfl, hb, hg, hn, hc, _⟩
  · exact ⟨none, 0, by rw [h0], ⟨rfl, by unfold maxLen; omega, fun k hk => by omega⟩, by omega⟩
  · refine ⟨some ⟨g, 0, none⟩, cap, rfl, ⟨rfl, by omega, fun k hk => ⟨g, 0, rfl, ?_⟩⟩, hn⟩
    have := h.cells (g := g) rfl k (.int .i64 (I.getD k 0 : Nat)) (by simp [natsV, List.getD, hk])
    rwa [Addr.add_lit] at this
/-- What its cells are. -/
theorem NRowA.src {W : World} {a : Option Addr} {len : Nat} {I : List Nat} (h : NRowA W a len I) : ∀ ad, a = some ad → ∀ j u, (natsV I)[j]? = some u → W.cell? (ad.add j) = some u := fun ad ha j u hu => by
  have hj : j < len := by
    have := (List.getElem?_eq_some_iff.1 hu).1
    rw [natsV_len, h.1] at this; exact this
  obtain ⟨b, off, e, c⟩ := h.2.2 j hj
  rw [ha] at e; cases e
  rw [Addr.add_lit, c]
  rw [← hu]
  simp [natsV, List.getD, show j < I.length by rw [h.1]; exact hj]
theorem NRowA.nil0 {W : World} {a : Option Addr} {len : Nat} {I : List Nat} (h : NRowA W a len I) : a = none → len = 0 := fun ha => by
  rcases Nat.eq_zero_or_pos len with h0 | h0
  · exact h0
  · obtain ⟨b, off, e, _⟩ := h.2.2 0 h0
    rw [ha] at e; cases e
theorem nrowP_keep {W W' : World} {a : Option Addr} {n : Nat} {l : List Nat} (h : NRowA W a n l) (hb : Below W.heap.size W W') : NRowA W' a n l := h.keep hb
abbrev NTab (W : World) (a : Option Addr) (n : Nat) (rows : List (List Nat)) : Prop := RowsP NRowA W a n rows
/-! ### What is told -/
def RowQPost (W : World) (l : QL) (e : Ending) (w' : World) : Prop := Below W.heap.size W w' ∧ ∃ (a : Option Addr) (c : Nat), e = .returned (.slice a l.length c) ∧ QRow w' (.slice a l.length c) l
def NTabPost (W : World) (rows : List (List Nat)) (e : Ending) (w' : World) : Prop := Below W.heap.size W w' ∧ ∃ (a : Option Addr) (c : Nat), e = .returned (.slice a rows.length c) ∧ NTab w' a rows.length rows
def IntPost (W : World) (n : Nat) (e : Ending) (w' : World) : Prop := e = .returned (.int .i64 (n : Int)) ∧ Below W.heap.size W w'
def SeenPost (W : World) (l : List Quad) (e : Ending) (w' : World) : Prop := Below W.heap.size W w' ∧ ∃ (a : Option Addr) (c : Nat), e = .returned (.tuple #[quadV (l.getD 0 zeroQ), .slice a (l.drop 1).length c]) ∧ QuadsA w' a (l.drop 1).length (l.drop 1)
def BadPost (W : World) (r : List F2 × Bool) (e : Ending) (w' : World) : Prop := Below W.heap.size W w' ∧ ∃ (a : Option Addr) (c : Nat), e = .returned (.tuple #[.slice a r.1.length c, .bool r.2]) ∧ QRowA w' a r.1.length (encL r.1)
def TabPost (W : World) (rows : List QL) (e : Ending) (w' : World) : Prop := Below W.heap.size W w' ∧ ∃ (a : Option Addr) (c : Nat), e = .returned (.slice a rows.length c) ∧ TabQ w' a rows.length rows ∧ rows.length ≤ c
def UsR (l : QL) : Prop := ∀ n ∈ l, U n.1 ∧ U n.2
def UsT (rows : List QL) : Prop := ∀ r ∈ rows, UsR r
structure AskCount (G : World → Prop) : Prop where
  keep : ∀ {W W' : World}, G W → Below W.heap.size W W' → G W'
  seen : ∀ (a : Option Addr) (n c : Nat) (rows : List QL) (pl : Int) (W : World), TabQ W a n rows → UsT rows → n ≤ 1000 → (∀ r ∈ rows, r.length ≤ 4294967296) → I64 pl → G W →
    Calls Tryz.prog 7 #[.slice a n c, .int .i64 pl] W (SeenPost W (opnV rows pl))
  accepts : ∀ (k bl fo qu gr : Int) (a : Option Addr) (n c : Nat) (bys : QL) (ta : Option Addr) (tn tc : Nat) (rows : List QL) (fa : Option Addr) (fn fc : Nat) (fin : QL) (W : World), 0 ≤ k ∧ k ≤ 10 → 1 ≤ bl ∧ bl ≤ 4 → I64 fo → QRowA W a n bys → UsR bys → TabQ W ta tn rows → UsT rows → tn ≤ 1000 → (∀ r ∈ rows, r.length ≤ 4294967296) → QRowA W fa fn fin → UsR fin → G W →
    Calls Tryz.prog 12 #[.int .i64 k, .agg #[.int .i64 bl, .int .i64 fo, .int .i64 qu, .int .i64 gr], .slice a n c, .slice ta tn tc, .slice fa fn fc] W (IntPost W (acceptsV k bl fo bys rows fin))
  agree : ∀ (a : Option Addr) (n c : Nat) (word : QL) (f : Int) (la : Option Addr) (ln lc : Nat) (line : QL) (two : Bool) (W : World), QRowA W a n word → UsR word → n ≤ 64 → 0 ≤ f ∧ f ≤ 64 → QRowA W la ln line → UsR line → ln ≤ 1000 → G W →
    Calls Tryz.prog 15 #[.slice a n c, .int .i64 f, .slice la ln lc, .bool two] W (IntPost W (agreeV word f (line.map toQ) two))
  best : ∀ (a : Option Addr) (n c : Nat) (word : QL) (f dim : Int) (two : Bool) (W : World), QRowA W a n word → UsR word → n ≤ 16 → 0 ≤ f ∧ f ≤ 64 → 0 ≤ dim ∧ dim ≤ 4 → G W →
    Calls Tryz.prog 17 #[.slice a n c, .int .i64 f, .int .i64 dim, .bool two] W (IntPost W (bestV word f dim two))
  bad : ∀ (a : Option Addr) (n c : Nat) (word : QL) (f dim places : Int) (W : World), QRowA W a n word → UsR word → n ≤ 16 → n ≤ c → 0 ≤ f ∧ f ≤ 64 → I64 dim → dim ≤ 4 → I64 places → G W →
    Calls Tryz.prog 19 #[.slice a n c, .int .i64 f, .int .i64 dim, .int .i64 places] W (BadPost W (badV word f dim places))
  words : ∀ (a : Option Addr) (n c : Nat) (word : QL) (ya : Option Addr) (yn yc : Nat) (ys : QL) (W : World), QRowA W a n word → UsR word → n ≤ 4294967296 → n ≤ c → QRowA W ya yn ys → UsR ys → yn ≤ 1000 → G W →
    Calls Tryz.prog 9 #[.slice a n c, .slice ya yn yc] W (TabPost W (wordsV word ys))
end Go.Proofs.YthfkfgjhgicfeaaGreatDoor
