/-
  The walks of layer 8's statements: they answer true.
-/
import Derived.Test.YtmgbdccfgbflnaaOProg
import Derived.Test.YtmgbdccfgbflnaaOLWrites
import Derived.Test.YtmgbdccfgbflnaaOLReads
import Derived.Test.YtmgbdccfgbflnaaOLBack
import Derived.Test.YtmgbdccfgbflnaaOLSizes
import Derived.Test.YtmgbdccfgbflnaaOpenPairs
namespace Go.Proofs.Ytmgbdccfgbflnaa
open Go Go.RowKit
set_option linter.unusedVariables false

/-- A slice of numbers, as it comes. -/
def Came8 (w : World) (a : Option Addr) (len cap : Nat) (z0 : List Int) : Prop :=
  (a = none ∧ len = 0 ∧ cap = 0 ∧ z0 = []) ∨ ∃ x, a = some x ∧ len ≤ cap ∧ cap ≤ maxLen ∧ z0.length = cap ∧ (∀ i, i < z0.length → w.cell? (x.add i) = some (.int .u64 (z0.getD i 0))) ∧ ∀ n ∈ z0, (Lit.int .u64 n).wf = true
theorem Came8.row {w : World} {a : Option Addr} {len cap : Nat} {z0 : List Int} (h : Came8 w a len cap z0) : RowA w a len (z0.take len) ∧ (∀ n ∈ z0.take len, U n) ∧ (a = none → len = 0 ∧ cap = 0) := by
  obtain ⟨hr, _, hwf⟩ := Row.came h
  refine ⟨hr.at, fun n hn => U_wf (hwf n hn), fun hn => ?_⟩
  rcases h with ⟨_, h1, h2, _⟩ | ⟨x, e, _⟩
  · exact ⟨h1, h2⟩
  · rw [hn] at e; cases e
theorem I64_wf {a : Int} (h : (Lit.int .i64 a).wf = true) : -9223372036854775808 ≤ a ∧ a ≤ 9223372036854775807 := Go.bounds_i64 h
theorem owrites_walk (n : Int) (a : Option Addr) (len cap : Nat) (z0 : List Int) (b : Option Addr) (lenb capb : Nat) (qs : List (Int × Int)) (hn : U n) (w : World) (h : Came8 w a len cap z0) (hp : IsPairs w b lenb capb qs) :
    Calls Try.prog 3 #[.int .u64 n, .slice a len cap, .slice b lenb capb] w fun e w' => e = .returned (.bool true) ∧ Below w.heap.size w w' := by
  obtain ⟨hr, hu, _⟩ := h.row
  obtain ⟨hq, _, hv⟩ := hp.row
  exact owrites_body ask8 n hn a len cap _ b lenb capb qs w hr hu hq.at hv
theorem oreads_walk (s : ByteArray) (n : Int) (hs : s.size ≤ maxLen) (hn : -9223372036854775808 ≤ n ∧ n ≤ 9223372036854775807) (w : World) :
    Calls Try.prog 4 #[.string s, .int .i64 n] w fun e w' => e = .returned (.bool true) ∧ Below w.heap.size w w' :=
  oreads_body ask8 s n w hs
theorem oback_walk (a : Option Addr) (len cap : Nat) (z0 : List Int) (b : Option Addr) (lenb capb : Nat) (qs : List (Int × Int)) (t : ByteArray) (ht : t.size ≤ maxLen) (w : World) (h : Came8 w a len cap z0) (hp : IsPairs w b lenb capb qs) :
    Calls Try.prog 5 #[.slice a len cap, .slice b lenb capb, .string t] w fun e w' => e = .returned (.bool true) ∧ Below w.heap.size w w' := by
  obtain ⟨hr, hu, _⟩ := h.row
  obtain ⟨hq, _, hv⟩ := hp.row
  exact oback_body ask8 a len cap _ b lenb capb qs t w hr hu hq.at hv ht
theorem osizes_walk (a : Option Addr) (len cap : Nat) (z0 : List Int) (a2 : Option Addr) (len2 cap2 : Nat) (z2 : List Int) (b : Option Addr) (lenb capb : Nat) (qs : List (Int × Int)) (w : World) (h : Came8 w a len cap z0) (h2 : Came8 w a2 len2 cap2 z2) (hp : IsPairs w b lenb capb qs) :
    Calls Try.prog 6 #[.slice a len cap, .slice a2 len2 cap2, .slice b lenb capb] w fun e w' => e = .returned (.bool true) ∧ Below w.heap.size w w' := by
  obtain ⟨hr, hu, hn⟩ := h.row
  obtain ⟨hr2, hu2, hn2⟩ := h2.row
  obtain ⟨hq, _, hv⟩ := hp.row
  exact osizes_body ask8 a len cap _ a2 len2 cap2 _ b lenb capb qs w hr hu hn hr2 hu2 hn2 hq.at hv
end Go.Proofs.Ytmgbdccfgbflnaa
