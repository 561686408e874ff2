/-
  The walks of layer 10's statements: they answer true.
-/
import Derived.Test.YtmhpbgdchocoiaaDoorTProg
import Derived.Test.YtmhpbgdchocoiaaDoorTAwakeC
import Derived.Test.YtmhpbgdchocoiaaDoorTLLeads
import Derived.Test.YtmhpbgdchocoiaaDoorTLOne
import Derived.Test.YtmhpbgdchocoiaaDoorTLBuilds
import Derived.Test.YtmhpbgdchocoiaaDoorTLRows
import Derived.Test.YtmhpbgdchocoiaaDoorTLPaths
import Derived.Test.YtmhpbgdchocoiaaDoorOpenOpen
import Derived.Test.YtmhpbgdchocoiaaDoorGRoot
namespace Go.Proofs.YtmhpbgdchocoiaaDoor
open Go Go.RowKit
set_option linter.unusedVariables false

theorem U16_wf {a : Int} (h : (Lit.int .u16 a).wf = true) : 0 ≤ a ∧ a ≤ 65535 := Go.bounds_u16 h
theorem IsStrs.strS {w : World} {a : Option Addr} {len cap : Nat} {f : Nat → ByteArray} (h : IsStrs w a len cap f) : StrS w a len cap f := h.sane
theorem tawake7 (W : World) (hT : TabL W) : Calls Tryd.prog 9 #[] W fun e w' => e = .returned (.bool true) ∧ Below W.heap.size W w' := tawake _ ask10 W hT
theorem tbuilds_walk (a : Option Addr) (len cap : Nat) (f : Nat → ByteArray) (i : Int) (hi : -9223372036854775808 ≤ i ∧ i ≤ 9223372036854775807) (w : World) (h : IsStrs w a len cap f) (hT : Laid10 w) :
    Calls Tryd.prog 3 #[.slice a len cap, .int .i64 i] w fun e w' => e = .returned (.bool true) ∧ Below w.heap.size w w' :=
  tbuilds_body _ ask10 tawake7 a len cap f i w (tabL_of hT) h.strS hi
theorem trows_walk (a : Option Addr) (len cap : Nat) (f : Nat → ByteArray) (w : World) (h : IsStrs w a len cap f) (hT : Laid10 w) :
    Calls Tryd.prog 6 #[.slice a len cap] w fun e w' => e = .returned (.bool true) ∧ Below w.heap.size w w' :=
  trows_body _ ask10 tawake7 a len cap f w (tabL_of hT) h.strS
theorem tone_walk (a : Option Addr) (len cap : Nat) (z0 : List Int) (root : ByteArray) (hs : root.size ≤ maxLen) (w : World) (h : Came .u64 w a len cap z0) (hT : Laid10 w) :
    Calls Tryd.prog 7 #[.slice a len cap, .string root] w fun e w' => e = .returned (.bool true) ∧ Below w.heap.size w w' :=
  tone_body _ ask10 tawake7 a len cap _ root w (tabL_of hT) h.row.1 h.row.2
theorem tleads_walk (root : ByteArray) (i0 i1 : Int) (a : Option Addr) (len cap : Nat) (zs : List Int) (b : Option Addr) (lenb capb : Nat) (qs : List (Int × Int)) (p : Option Addr) (n c : Nat) (g : Nat → ByteArray) (hs : root.size ≤ maxLen) (h0 : -9223372036854775808 ≤ i0 ∧ i0 ≤ 9223372036854775807) (h1 : -9223372036854775808 ≤ i1 ∧ i1 ≤ 9223372036854775807) (w : World) (h : IsOpen w a len cap zs b lenb capb qs p n c g) (hT : Laid10 w) :
    Calls Tryd.prog 4 #[.string root, .agg #[.int .i64 i0, .int .i64 i1], .agg #[.slice a len cap, .slice b lenb capb, .slice p n c]] w fun e w' => e = .returned (.bool true) ∧ Below w.heap.size w w' := by
  obtain ⟨hz, hq, hg⟩ := h
  obtain ⟨q1, _, q3⟩ := hq.row
  exact tleads_body _ ask10 tawake7 root i0 i1 a len cap _ b lenb capb qs p n c g w (tabL_of hT) hz.row.1 hz.row.2 q1.at q3 hg.strS h0 h1
theorem rows_of {w : World} {a : Option Addr} {len cap : Nat} {R : Nat → Option Addr × Nat × Nat × List Int} (h : IsRows w a len cap R) : RowsA w a len (fun j => (R j).1) (fun j => (R j).2.1) (fun j => (R j).2.2.1) (fun j => (R j).2.2.2.take (R j).2.1) := by
  rcases h with ⟨_, rfl, _⟩ | ⟨y, rfl, hl, hm, hi⟩
  · exact ⟨by unfold maxLen; omega, fun j hj => by omega⟩
  · refine ⟨by omega, fun j hj => ?_⟩
    obtain ⟨b, off, spot⟩ := y
    have hspot : spot = none := by
      have := World.cell?_spot (hi 0 (by omega)).1
      simpa [Addr.add] using this
    subst hspot
    obtain ⟨h1, h2⟩ := hi j hj
    rw [Go.WideShapes.add_plain] at h1
    exact ⟨b, off, rfl, h1, h2.row.1, h2.row.2⟩
theorem tpaths_walk (a : Option Addr) (len cap : Nat) (R : Nat → Option Addr × Nat × Nat × List Int) (k i : Int) (hk : 0 ≤ k ∧ k ≤ 255) (hi : 0 ≤ i ∧ i ≤ 65535) (w : World) (h : IsRows w a len cap R) (hT : Laid10 w) :
    Calls Tryd.prog 5 #[.slice a len cap, .int .u8 k, .int .u16 i] w fun e w' => e = .returned (.bool true) ∧ Below w.heap.size w w' :=
  tpaths_body _ ask10 tawake7 a len cap _ _ _ _ k i w (tabL_of hT) (rows_of h) ⟨hk.1, by omega⟩ ⟨hi.1, by omega⟩
end Go.Proofs.YtmhpbgdchocoiaaDoor
