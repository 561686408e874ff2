/-
  The walks of layer 9's statements: they answer true.
-/
import Derived.Test.YtgamoanhplnknaaDoorLProg
import Derived.Test.YtgamoanhplnknaaDoorLLTells
import Derived.Test.YtgamoanhplnknaaDoorLLTexts
import Derived.Test.YtgamoanhplnknaaDoorOpenPairs
import Derived.Test.YtgamoanhplnknaaDoorOpenStr2
namespace Go.Proofs.YtgamoanhplnknaaDoor
open Go Go.RowKit
set_option linter.unusedVariables false

/-- A slice of numbers, as it comes. -/
def Came9 (w : World) (a : Option Addr) (len cap : Nat) (z0 : List Int) : Prop :=
  (a = none ∧ len = 0 ∧ cap = 0 ∧ z0 = []) ∨ ∃ x, a = some x ∧ len ≤ cap ∧ cap ≤ maxLen ∧ z0.length = cap ∧ (∀ i, i < z0.length → w.cell? (x.add i) = some (.int .u64 (z0.getD i 0))) ∧ ∀ n ∈ z0, (Lit.int .u64 n).wf = true
theorem Came9.row {w : World} {a : Option Addr} {len cap : Nat} {z0 : List Int} (h : Came9 w a len cap z0) : RowA w a len (z0.take len) ∧ (∀ n ∈ z0.take len, U n) := by
  obtain ⟨hr, _, hwf⟩ := Row.came h
  exact ⟨hr.at, fun n hn => U_wf (hwf n hn)⟩
theorem ltells_walk (a : Option Addr) (len cap : Nat) (z0 : List Int) (b : Option Addr) (lenb capb : Nat) (qs : List (Int × Int)) (s0 s1 : ByteArray) (hs : s0.size + s1.size ≤ maxLen) (w : World) (h : Came9 w a len cap z0) (hp : IsPairs w b lenb capb qs) (hT : Laid7 w) :
    Calls Tryd.prog 3 #[.slice a len cap, .slice b lenb capb, .agg #[.string s0, .string s1]] w fun e w' => e = .returned (.bool true) ∧ Below w.heap.size w w' := by
  obtain ⟨hr, hu⟩ := h.row
  obtain ⟨hq, _, hv⟩ := hp.row
  exact ltells_body _ ask9 a len cap _ b lenb capb qs s0 s1 w (tabB_of hT) hr hu hq.at hv (by omega) (by omega) hs
theorem ltexts_walk (a : Option Addr) (len cap : Nat) (z0 : List Int) (a2 : Option Addr) (len2 cap2 : Nat) (z2 : List Int) (b : Option Addr) (lenb capb : Nat) (qs : List (Int × Int)) (w : World) (h : Came9 w a len cap z0) (h2 : Came9 w a2 len2 cap2 z2) (hp : IsPairs w b lenb capb qs) (hT : Laid7 w) :
    Calls Tryd.prog 4 #[.slice a len cap, .slice a2 len2 cap2, .slice b lenb capb] w fun e w' => e = .returned (.bool true) ∧ Below w.heap.size w w' := by
  obtain ⟨hr, hu⟩ := h.row
  obtain ⟨hr2, hu2⟩ := h2.row
  obtain ⟨hq, _, hv⟩ := hp.row
  exact ltexts_body _ ask9 a len cap _ a2 len2 cap2 _ b lenb capb qs w (tabB_of hT) hr hu hr2 hu2 hq.at hv
end Go.Proofs.YtgamoanhplnknaaDoor
