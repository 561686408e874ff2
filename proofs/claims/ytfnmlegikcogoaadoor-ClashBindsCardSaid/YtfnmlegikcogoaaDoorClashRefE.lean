/-
  What the document's Extract comes to, of openings.
-/
import Derived.Test.YtfnmlegikcogoaaDoorClashRefX
namespace Go.Proofs.YtfnmlegikcogoaaDoor
open Go Go.RowKit
set_option linter.unusedVariables false

theorem rextract_is (root : ByteArray) (depth i : Int) (a : Option Addr) (len cap : Nat) (zs : List Int) (b : Option Addr) (lenb capb : Nat) (qs : List (Int × Int)) (p : Option Addr) (n c : Nat) (g : Nat → ByteArray) (a2 : Option Addr) (len2 cap2 : Nat) (zs2 : List Int) (b2 : Option Addr) (lenb2 capb2 : Nat) (qs2 : List (Int × Int)) (p2 : Option Addr) (n2 c2 : Nat) (g2 : Nat → ByteArray) (x y : ByteArray) (ok : Bool) (w : World)
    (hr : RowA w a len zs) (hu : ∀ n ∈ zs, U n) (hq : QRowA w b lenb qs) (hv : ∀ n ∈ qs, U n.1 ∧ U n.2) (hl : len ≤ 10000) (hlb : lenb ≤ 10000) (hS : StrS w p n c g) (hn : n ≤ 70) (hg : ∀ k, k < n → (g k).size ≤ 100)
    (hr2 : RowA w a2 len2 zs2) (hu2 : ∀ n ∈ zs2, U n) (hq2 : QRowA w b2 lenb2 qs2) (hv2 : ∀ n ∈ qs2, U n.1 ∧ U n.2) (hl2 : len2 ≤ 10000) (hlb2 : lenb2 ≤ 10000) (hS2 : StrS w p2 n2 c2 g2) (hn2 : n2 ≤ 70) (hg2 : ∀ k, k < n2 → (g2 k).size ≤ 100)
    (hd : -9223372036854775808 ≤ depth ∧ depth ≤ 9223372036854775807) (hi : -9223372036854775808 ≤ i ∧ i ≤ 9223372036854775807) (he : extractB root depth i (openB zs qs) g n (openB zs2 qs2) g2 n2 = (x, y, ok)) :
    Calls Tryd.prog 16 #[.string root, .int .i64 depth, .int .i64 i, .agg #[.slice a len cap, .slice b lenb capb, .slice p n c], .agg #[.slice a2 len2 cap2, .slice b2 lenb2 capb2, .slice p2 n2 c2]] w fun e w' => e = .returned (.tuple #[.string x, .string y, .bool ok]) ∧ Below w.heap.size w w' := by
  have k1 := fun (W : World) (hb : Below w.heap.size w W) => rleads_is root depth i a len cap zs b lenb capb qs p n c g W (hr.keep hb) hu (hq.keep hb) hv hl hlb (hS.1.keep hb) hg hd hi
  have k2 := fun (W : World) (hb : Below w.heap.size w W) => rleads_is root depth i a2 len2 cap2 zs2 b2 lenb2 capb2 qs2 p2 n2 c2 g2 W (hr2.keep hb) hu2 (hq2.keep hb) hv2 hl2 hlb2 (hS2.1.keep hb) hg2 hd hi
  have k3 := fun (W : World) (hb : Below w.heap.size w W) => rltext_is a len cap zs b lenb capb qs (.slice p n c) W (hr.keep hb) hu (hq.keep hb) hv hl hlb
  have k4 := fun (W : World) (hb : Below w.heap.size w W) => rltext_is a2 len2 cap2 zs2 b2 lenb2 capb2 qs2 (.slice p2 n2 c2) W (hr2.keep hb) hu2 (hq2.keep hb) hv2 hl2 hlb2
  have t1 := fun (W : World) (hb : Below w.heap.size w W) => rtrail_is i a len cap zs b lenb capb qs p n c g W (hr.keep hb) hu (hq.keep hb) hv hl hlb (hS.keep hb) hn hg hi
  have t2 := fun (W : World) (hb : Below w.heap.size w W) => rtrail_is i a2 len2 cap2 zs2 b2 lenb2 capb2 qs2 p2 n2 c2 g2 W (hr2.keep hb) hu2 (hq2.keep hb) hv2 hl2 hlb2 (hS2.keep hb) hn2 hg2 hi
  unfold extractB at he
  by_cases hy : leadsB root depth i (leafB (openB zs qs)) g n = true ∧ leadsB root depth i (leafB (openB zs2 qs2)) g2 n2 = true ∧ openB zs qs ≠ openB zs2 qs2
  · rw [if_pos hy] at he
    rw [hy.1] at k1
    rw [hy.2.1] at k2
    exact rextract_yes root depth i a len cap b lenb capb p n c a2 len2 cap2 b2 lenb2 capb2 p2 n2 c2 _ _ w k1 k2 k3 k4 _ _ x y ok hy.2.2 t1 t2 he
  · rw [if_neg hy] at he
    simp only [Prod.mk.injEq] at he
    obtain ⟨rfl, rfl, rfl⟩ := he
    exact rextract_no root depth i a len cap b lenb capb p n c a2 len2 cap2 b2 lenb2 capb2 p2 n2 c2 _ _ _ _ w k1 k2 k3 k4 hy
end Go.Proofs.YtfnmlegikcogoaaDoor
