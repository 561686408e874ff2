/-
  What is asked of the program's calls of layer 11 is so.
-/
import Derived.Test.YtfnmlegikcogoaaDoorRows
import Derived.Test.YtfnmlegikcogoaaDoorCPro1
import Derived.Test.YtfnmlegikcogoaaDoorCPro3
import Derived.Test.YtfnmlegikcogoaaDoorTPro3
import Derived.Test.YtfnmlegikcogoaaDoorBProg
namespace Go.Proofs.YtfnmlegikcogoaaDoor
open Go Go.RowKit
set_option linter.unusedVariables false

theorem gextract_is (root : ByteArray) (depth i : Int) (a : Option Addr) (len cap : Nat) (zs : List Int) (b : Option Addr) (lenb capb : Nat) (qs : List (Int × Int)) (p : Option Addr) (n c : Nat) (g : Nat → ByteArray) (a2 : Option Addr) (len2 cap2 : Nat) (zs2 : List Int) (b2 : Option Addr) (lenb2 capb2 : Nat) (qs2 : List (Int × Int)) (p2 : Option Addr) (n2 c2 : Nat) (g2 : Nat → ByteArray) (x y : ByteArray) (ok : Bool) (w : World)
    (hr : RowA w a len zs) (hu : ∀ n ∈ zs, U n) (hq : QRowA w b lenb qs) (hv : ∀ n ∈ qs, U n.1 ∧ U n.2) (hl : len ≤ 10000) (hlb : lenb ≤ 10000) (hS : StrS w p n c g) (hn : n ≤ 70) (hg : ∀ k, k < n → (g k).size ≤ 100)
    (hr2 : RowA w a2 len2 zs2) (hu2 : ∀ n ∈ zs2, U n) (hq2 : QRowA w b2 lenb2 qs2) (hv2 : ∀ n ∈ qs2, U n.1 ∧ U n.2) (hl2 : len2 ≤ 10000) (hlb2 : lenb2 ≤ 10000) (hS2 : StrS w p2 n2 c2 g2) (hn2 : n2 ≤ 70) (hg2 : ∀ k, k < n2 → (g2 k).size ≤ 100)
    (hd : -9223372036854775808 ≤ depth ∧ depth ≤ 9223372036854775807) (hi : -9223372036854775808 ≤ i ∧ i ≤ 9223372036854775807) (he : extractB root depth i (openB zs qs) g n (openB zs2 qs2) g2 n2 = (x, y, ok)) (hT : TabB w) :
    Calls Tryd.prog 15 #[.string root, .int .i64 depth, .int .i64 i, .agg #[.slice a len cap, .slice b lenb capb, .slice p n c], .agg #[.slice a2 len2 cap2, .slice b2 lenb2 capb2, .slice p2 n2 c2]] w fun e w' => e = .returned (.tuple #[.string x, .string y, .bool ok]) ∧ Below w.heap.size w w' := by
  have k1 := fun (W : World) (hb : Below w.heap.size w W) => gleads_is root depth i a len cap zs b lenb capb qs p n c g W (hr.keep hb) hu (hq.keep hb) hv hl hlb (hS.1.keep hb) hn hg hd hi (hT.keep hb)
  have k2 := fun (W : World) (hb : Below w.heap.size w W) => gleads_is root depth i a2 len2 cap2 zs2 b2 lenb2 capb2 qs2 p2 n2 c2 g2 W (hr2.keep hb) hu2 (hq2.keep hb) hv2 hl2 hlb2 (hS2.1.keep hb) hn2 hg2 hd hi (hT.keep hb)
  have k3 := fun (W : World) (hb : Below w.heap.size w W) => gltext_is a len cap zs b lenb capb qs (.slice p n c) W (hr.keep hb) hu (hq.keep hb) hv hl hlb
  have k4 := fun (W : World) (hb : Below w.heap.size w W) => gltext_is a2 len2 cap2 zs2 b2 lenb2 capb2 qs2 (.slice p2 n2 c2) W (hr2.keep hb) hu2 (hq2.keep hb) hv2 hl2 hlb2
  have t1 := fun (W : World) (hb : Below w.heap.size w W) => gtrail_is i a len cap zs b lenb capb qs p n c g W (hr.keep hb) hu (hq.keep hb) hv hl hlb (hS.keep hb) hn hg hi (hT.keep hb)
  have t2 := fun (W : World) (hb : Below w.heap.size w W) => gtrail_is i a2 len2 cap2 zs2 b2 lenb2 capb2 qs2 p2 n2 c2 g2 W (hr2.keep hb) hu2 (hq2.keep hb) hv2 hl2 hlb2 (hS2.keep hb) hn2 hg2 hi (hT.keep hb)
  unfold extractB at he
  by_cases hy : leadsB root depth i (leafB (openB zs qs)) g n = true ∧ leadsB root depth i (leafB (openB zs2 qs2)) g2 n2 = true ∧ openB zs qs ≠ openB zs2 qs2
  · rw [if_pos hy] at he
    rw [hy.1] at k1
    rw [hy.2.1] at k2
    exact gextract_yes root depth i a len cap b lenb capb p n c a2 len2 cap2 b2 lenb2 capb2 p2 n2 c2 _ _ w k1 k2 k3 k4 _ _ x y ok hy.2.2 t1 t2 he hn hn2
  · rw [if_neg hy] at he
    simp only [Prod.mk.injEq] at he
    obtain ⟨rfl, rfl, rfl⟩ := he
    exact gextract_no root depth i a len cap b lenb capb p n c a2 len2 cap2 b2 lenb2 capb2 p2 n2 c2 _ _ _ _ w k1 k2 k3 k4 hy
theorem ask11 : AskClash TabB where
  keep := fun h hb => h.keep hb
  trail := fun i a len cap zs b lenb capb qs p n c g W hr hu hq hv hl hlb hS hn hg hi hT => gtrail_is i a len cap zs b lenb capb qs p n c g W hr hu hq hv hl hlb hS hn hg hi hT
  unlike := fun a n c f b m d g x y ok W h1 h2 hn hm hz _ => gunlike_is a n c f b m d g x y ok W h1.1 h2.1 hn hm hz
  extract := fun root depth i a len cap zs b lenb capb qs p n c g a2 len2 cap2 zs2 b2 lenb2 capb2 qs2 p2 n2 c2 g2 x y ok W hr hu hq hv hl hlb hS hn hg hr2 hu2 hq2 hv2 hl2 hlb2 hS2 hn2 hg2 hd hi he hT =>
    gextract_is root depth i a len cap zs b lenb capb qs p n c g a2 len2 cap2 zs2 b2 lenb2 capb2 qs2 p2 n2 c2 g2 x y ok W hr hu hq hv hl hlb hS hn hg hr2 hu2 hq2 hv2 hl2 hlb2 hS2 hn2 hg2 hd hi he hT
end Go.Proofs.YtfnmlegikcogoaaDoor
