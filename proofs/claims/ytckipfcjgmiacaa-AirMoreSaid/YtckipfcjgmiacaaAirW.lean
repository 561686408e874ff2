/-
  What rows must keep, in memory; what is asked of the program's calls of layer 18.
-/
import Derived.Test.YtckipfcjgmiacaaAirBack
import Derived.Test.YtckipfcjgmiacaaCodeRef
import Derived.Test.YtckipfcjgmiacaaSpongeM
namespace Go.Proofs.Ytckipfcjgmiacaa
open Go Go.RowKit
set_option linter.unusedVariables false

/-- A slice of pairs of integers. -/
def BoundA (w : World) (a : Option Addr) (len : Nat) (zs : List (Int × Int)) : Prop :=
  zs.length = len ∧ len ≤ maxLen ∧ ∀ k, k < len → ∃ b off : Nat, a = some ⟨b, off, none⟩ ∧ w.cell? ⟨b, off + k * 2, none⟩ = some (.int .i64 (zs.getD k (0, 0)).1) ∧ w.cell? ⟨b, off + k * 2 + 1, none⟩ = some (.int .i64 (zs.getD k (0, 0)).2)
theorem BoundA.keep {w w' : World} {a : Option Addr} {len : Nat} {zs : List (Int × Int)} (h : BoundA w a len zs) (hb : Below w.heap.size w w') : BoundA w' a len zs :=
  ⟨h.1, h.2.1, fun k hk => by obtain ⟨b, off, e, c0, c1⟩ := h.2.2 k hk; exact ⟨b, off, e, bkeep hb c0, bkeep hb c1⟩⟩
theorem BoundA.far {W : World} {a : Option Addr} {n g o : Nat} {v : Value} {zs : List (Int × Int)} (h : BoundA W a n zs) (ha : ∀ x, a = some x → g ≠ x.block) : BoundA (W.setCell ⟨g, o, none⟩ v) a n zs :=
  ⟨h.1, h.2.1, fun k hk => by
    obtain ⟨b, off, e, c0, c1⟩ := h.2.2 k hk
    exact ⟨b, off, e, (World.cell?_setCell_far _ _ _ _ (ha _ e)).trans c0, (World.cell?_setCell_far _ _ _ _ (ha _ e)).trans c1⟩⟩
/-- Where the lists of one lie. -/
structure AirAt where
  sa : Option Addr
  sc : Nat
  ra : Option Addr
  rc : Nat
  ba : Option Addr
  bc : Nat
abbrev AirP.cell (A : AirP) (p : AirAt) : List Value := [.int .i64 A.cols, .int .i64 A.log, .slice p.sa A.steps.length p.sc, .slice p.ra A.rules.length p.rc, .slice p.ba A.bounds.length p.bc]
abbrev AirP.val (A : AirP) (p : AirAt) : Value := .agg #[.int .i64 A.cols, .int .i64 A.log, .slice p.sa A.steps.length p.sc, .slice p.ra A.rules.length p.rc, .slice p.ba A.bounds.length p.bc]
def AirA (W : World) (A : AirP) (p : AirAt) : Prop := StrA W p.sa A.steps.length (tx A.steps) ∧ StrA W p.ra A.rules.length (tx A.rules) ∧ BoundA W p.ba A.bounds.length A.bounds ∧ A.bounds.length ≤ p.bc
theorem AirA.keep {W W' : World} {A : AirP} {p : AirAt} (h : AirA W A p) (hb : Below W.heap.size W W') : AirA W' A p := ⟨h.1.keep hb, h.2.1.keep hb, h.2.2.1.keep hb, h.2.2.2⟩
/-- As it may come: its numbers. -/
structure OkAir (A : AirP) : Prop where
  cols : -9223372036854775808 ≤ A.cols ∧ A.cols ≤ 9223372036854775807
  log : -9223372036854775808 ≤ A.log ∧ A.log ≤ 9223372036854775807
  steps : ∀ t ∈ A.steps, t.size ≤ 9223372036854775807
  rules : ∀ t ∈ A.rules, t.size ≤ 9223372036854775807
  bounds : ∀ b ∈ A.bounds, (-9223372036854775808 ≤ b.1 ∧ b.1 ≤ 9223372036854775807) ∧ (-9223372036854775808 ≤ b.2 ∧ b.2 ≤ 9223372036854775807)
/-- Its lists are short. -/
def FewAir (A : AirP) : Prop := A.steps.length ≤ 40 ∧ A.rules.length ≤ 40 ∧ A.bounds.length ≤ 40
/-- Lists of operations. -/
def OpsA (W : World) (a : Option Addr) (n : Nat) (ls : List (List Opn)) : Prop :=
  ls.length = n ∧ n ≤ maxLen ∧ ∀ k, k < n → ∃ b off : Nat, a = some ⟨b, off, none⟩ ∧ ∃ (ak : Option Addr) (ck : Nat), W.cell? ⟨b, off + k, none⟩ = some (.slice ak (ls.getD k []).length ck) ∧ OpA W ak (ls.getD k []).length (ls.getD k []) ∧ (ak = none → ck = 0)
theorem OpsA.keep {W W' : World} {a : Option Addr} {n : Nat} {ls : List (List Opn)} (h : OpsA W a n ls) (hb : Below W.heap.size W W') : OpsA W' a n ls :=
  ⟨h.1, h.2.1, fun k hk => by
    obtain ⟨b, off, e, ak, ck, hc, ho, hn⟩ := h.2.2 k hk
    exact ⟨b, off, e, ak, ck, bkeep hb hc, ho.keep hb, hn⟩⟩
def RulesPost (W : World) (ls : List (List Opn)) (r : Int) (e : Ending) (w' : World) : Prop :=
  Below W.heap.size W w' ∧ ∃ (a : Option Addr) (cap : Nat), e = .returned (.tuple #[.slice a ls.length cap, .int .i64 r]) ∧ OpsA w' a ls.length ls ∧ (a = none → cap = 0)
def AirPost (W : World) (A : AirP) (r : Int) (e : Ending) (w' : World) : Prop :=
  Below W.heap.size W w' ∧ ∃ p : AirAt, e = .returned (.tuple #[A.val p, .int .i64 r]) ∧ AirA w' A p
structure AskAir (G : World → Prop) : Prop where
  keep : ∀ {W W' : World}, G W → Below W.heap.size W W' → G W'
  size : ∀ (A : AirP) (p : AirAt) (W : World), AirA W A p → OkAir A → A.near → G W → Calls Try.prog 15 #[A.val p] W fun e w' => e = .returned (.int .i64 A.size) ∧ Below W.heap.size W w'
  rules : ∀ (A : AirP) (p : AirAt) (ls : List (List Opn)) (r : Int) (W : World), AirA W A p → OkAir A → FewAir A → A.all = (ls, r) → G W → Calls Try.prog 11 #[A.val p] W (RulesPost W ls r)
  check : ∀ (A : AirP) (p : AirAt) (r : Int) (W : World), AirA W A p → OkAir A → FewAir A → A.check = r → G W → Calls Try.prog 10 #[A.val p] W fun e w' => e = .returned (.int .i64 r) ∧ Below W.heap.size W w'
  degree : ∀ (A : AirP) (p : AirAt) (W : World), AirA W A p → OkAir A → FewAir A → A.check = 0 → G W → Calls Try.prog 17 #[A.val p] W fun e w' => e = .returned (.int .i64 (A.degree : Int)) ∧ Below W.heap.size W w'
  parts : ∀ (A : AirP) (p : AirAt) (W : World), AirA W A p → OkAir A → FewAir A → A.check = 0 → G W → Calls Try.prog 19 #[A.val p] W fun e w' => e = .returned (.int .i64 (A.parts : Int)) ∧ Below W.heap.size W w'
  print : ∀ (A : AirP) (p : AirAt) (W : World), AirA W A p → OkAir A → FewAir A → A.check = 0 → G W → Calls Try.prog 24 #[A.val p] W fun e w' => e = .returned (.string A.print) ∧ Below W.heap.size W w'
  parse : ∀ (s : ByteArray) (A : AirP) (r : Int) (W : World), s.size ≤ 100000 → parseA s = (A, r) → G W → Calls Try.prog 21 #[.string s] W (AirPost W A r)
end Go.Proofs.Ytckipfcjgmiacaa
