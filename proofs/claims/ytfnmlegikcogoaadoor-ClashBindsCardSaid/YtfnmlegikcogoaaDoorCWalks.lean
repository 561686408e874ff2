/-
  The walks of layer 11's statements: they answer true.
-/
import Derived.Test.YtfnmlegikcogoaaDoorCProg
import Derived.Test.YtfnmlegikcogoaaDoorCAwake
import Derived.Test.YtfnmlegikcogoaaDoorCLTrails
import Derived.Test.YtfnmlegikcogoaaDoorCLUnlike
import Derived.Test.YtfnmlegikcogoaaDoorCLExtracts
import Derived.Test.YtfnmlegikcogoaaDoorCLBinds
import Derived.Test.YtfnmlegikcogoaaDoorCLLeads
import Derived.Test.YtfnmlegikcogoaaDoorOpenOpen
import Derived.Test.YtfnmlegikcogoaaDoorGRoot
namespace Go.Proofs.YtfnmlegikcogoaaDoor
open Go Go.RowKit
set_option linter.unusedVariables false

theorem IsStrs.strS11 {w : World} {a : Option Addr} {len cap : Nat} {f : Nat → ByteArray} (h : IsStrs w a len cap f) : StrS w a len cap f := h.sane
theorem cawake7 (W : World) (hT : TabB W) : Calls Tryd.prog 9 #[] W fun e w' => e = .returned (.bool true) ∧ Below W.heap.size W w' := cawake _ ask11 W hT
theorem ctrails_walk (i : Int) (a : Option Addr) (len cap : Nat) (zs : List Int) (b : Option Addr) (lenb capb : Nat) (qs : List (Int × Int)) (p : Option Addr) (n c : Nat) (g : Nat → ByteArray) (hi : -9223372036854775808 ≤ i ∧ i ≤ 9223372036854775807) (w : World) (h : IsOpen w a len cap zs b lenb capb qs p n c g) (hT : Laid7 w) :
    Calls Tryd.prog 3 #[.int .i64 i, .agg #[.slice a len cap, .slice b lenb capb, .slice p n c]] w fun e w' => e = .returned (.bool true) ∧ Below w.heap.size w w' := by
  obtain ⟨hz, hq, hg⟩ := h
  obtain ⟨q1, _, q3⟩ := hq.row
  exact ctrails_body _ ask11 cawake7 i a len cap _ b lenb capb qs p n c g w (tabB_of hT) hz.row.1 hz.row.2 q1.at q3 hg.strS11 hi
theorem cleads_walk (i : Int) (a : Option Addr) (len cap : Nat) (zs : List Int) (b : Option Addr) (lenb capb : Nat) (qs : List (Int × Int)) (p : Option Addr) (n c : Nat) (g : Nat → ByteArray) (hi : -9223372036854775808 ≤ i ∧ i ≤ 9223372036854775807) (w : World) (h : IsOpen w a len cap zs b lenb capb qs p n c g) (hT : Laid7 w) :
    Calls Tryd.prog 7 #[.int .i64 i, .agg #[.slice a len cap, .slice b lenb capb, .slice p n c]] w fun e w' => e = .returned (.bool true) ∧ Below w.heap.size w w' := by
  obtain ⟨hz, hq, hg⟩ := h
  obtain ⟨q1, _, q3⟩ := hq.row
  exact cleads_body _ ask11 cawake7 i a len cap _ b lenb capb qs p n c g w (tabB_of hT) hz.row.1 hz.row.2 q1.at q3 hg.strS11 hi
theorem cunlike_walk (a : Option Addr) (n c : Nat) (f : Nat → ByteArray) (b : Option Addr) (m d : Nat) (g : Nat → ByteArray) (w : World) (h : IsStrs w a n c f) (h2 : IsStrs w b m d g) (hT : Laid7 w) :
    Calls Tryd.prog 4 #[.slice a n c, .slice b m d] w fun e w' => e = .returned (.bool true) ∧ Below w.heap.size w w' :=
  cunlike_body _ ask11 cawake7 a n c f b m d g w (tabB_of hT) h.strS11 h2.strS11
theorem cextracts_walk (root : ByteArray) (d i : Int) (a : Option Addr) (len cap : Nat) (zs : List Int) (b : Option Addr) (lenb capb : Nat) (qs : List (Int × Int)) (p : Option Addr) (n c : Nat) (g : Nat → ByteArray) (a2 : Option Addr) (len2 cap2 : Nat) (zs2 : List Int) (b2 : Option Addr) (lenb2 capb2 : Nat) (qs2 : List (Int × Int)) (p2 : Option Addr) (n2 c2 : Nat) (g2 : Nat → ByteArray)
    (hs : root.size ≤ maxLen) (hd : -9223372036854775808 ≤ d ∧ d ≤ 9223372036854775807) (hi : -9223372036854775808 ≤ i ∧ i ≤ 9223372036854775807) (w : World) (h : IsOpen w a len cap zs b lenb capb qs p n c g ∧ IsOpen w a2 len2 cap2 zs2 b2 lenb2 capb2 qs2 p2 n2 c2 g2) (hT : Laid7 w) :
    Calls Tryd.prog 5 #[.string root, .agg #[.int .i64 d, .int .i64 i], .agg #[.slice a len cap, .slice b lenb capb, .slice p n c, .slice a2 len2 cap2, .slice b2 lenb2 capb2, .slice p2 n2 c2]] w fun e w' => e = .returned (.bool true) ∧ Below w.heap.size w w' := by
  obtain ⟨⟨hz, hq, hg⟩, hz2, hq2, hg2⟩ := h
  obtain ⟨q1, _, q3⟩ := hq.row
  obtain ⟨r1, _, r3⟩ := hq2.row
  exact cextracts_body _ ask11 cawake7 root d i a len cap _ b lenb capb qs p n c g a2 len2 cap2 _ b2 lenb2 capb2 qs2 p2 n2 c2 g2 w (tabB_of hT) hs hz.row.1 hz.row.2 q1.at q3 hg.strS11 hz2.row.1 hz2.row.2 r1.at r3 hg2.strS11 hd hi
theorem cbinds_walk (root : ByteArray) (d i : Int) (a : Option Addr) (len cap : Nat) (zs : List Int) (b : Option Addr) (lenb capb : Nat) (qs : List (Int × Int)) (p : Option Addr) (n c : Nat) (g : Nat → ByteArray) (a2 : Option Addr) (len2 cap2 : Nat) (zs2 : List Int) (b2 : Option Addr) (lenb2 capb2 : Nat) (qs2 : List (Int × Int)) (p2 : Option Addr) (n2 c2 : Nat) (g2 : Nat → ByteArray)
    (hs : root.size ≤ maxLen) (hd : -9223372036854775808 ≤ d ∧ d ≤ 9223372036854775807) (hi : -9223372036854775808 ≤ i ∧ i ≤ 9223372036854775807) (w : World) (h : IsOpen w a len cap zs b lenb capb qs p n c g ∧ IsOpen w a2 len2 cap2 zs2 b2 lenb2 capb2 qs2 p2 n2 c2 g2) (hT : Laid7 w) :
    Calls Tryd.prog 6 #[.string root, .agg #[.int .i64 d, .int .i64 i], .agg #[.slice a len cap, .slice b lenb capb, .slice p n c, .slice a2 len2 cap2, .slice b2 lenb2 capb2, .slice p2 n2 c2]] w fun e w' => e = .returned (.bool true) ∧ Below w.heap.size w w' := by
  obtain ⟨⟨hz, hq, hg⟩, hz2, hq2, hg2⟩ := h
  obtain ⟨q1, _, q3⟩ := hq.row
  obtain ⟨r1, _, r3⟩ := hq2.row
  exact cbinds_body _ ask11 cawake7 root d i a len cap _ b lenb capb qs p n c g a2 len2 cap2 _ b2 lenb2 capb2 qs2 p2 n2 c2 g2 w (tabB_of hT) hs hz.row.1 hz.row.2 q1.at q3 hg.strS11 hz2.row.1 hz2.row.2 r1.at r3 hg2.strS11 hd hi
end Go.Proofs.YtfnmlegikcogoaaDoor
