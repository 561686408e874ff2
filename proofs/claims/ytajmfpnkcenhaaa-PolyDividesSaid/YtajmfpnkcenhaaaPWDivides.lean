/-
  The walk of PolyDivides: it answers true.
-/
import Derived.Test.YtajmfpnkcenhaaaPgThr
import Derived.Test.YtajmfpnkcenhaaaPolyAw
import Derived.Test.YtajmfpnkcenhaaaPLDivides
namespace Go.Proofs.Ytajmfpnkcenhaaa
open Go.RowKit
set_option linter.unusedVariables false

theorem aw_is (W : World) : Calls Try.prog 9 #[] W fun e w' => e = .returned (.bool true) ∧ Below W.heap.size W w' := aw5 ask W
theorem IsPairs.poly {w : World} {a : Option Addr} {len cap : Nat} {zs : List (Int × Int)} (h : IsPairs w a len cap zs) : Poly w (.slice a len cap) (zs.map toQ) := ⟨zs, h.row.1, h.row.2.2, rfl⟩
theorem pdivides_walk (a0 : Option Addr) (len0 cap0 : Nat) (z0 : List (Int × Int)) (x0 x1 : Int) (a2 : Option Addr) (len2 cap2 : Nat) (z2 : Nat → Int) (hx0 : U x0) (hx1 : U x1) (w : World) (w0 : IsPairs w a0 len0 cap0 z0) (w2 : IsFlat .u64 4 w a2 len2 cap2 z2) :
    Calls Try.prog 4 #[.slice a0 len0 cap0, .agg #[.int .u64 x0, .int .u64 x1], .slice a2 len2 cap2] w fun e w' => e = .returned (.bool true) ∧ Below w.heap.size w w' :=
  pdivides_body ask aw_is a0 len0 cap0 _ x0 x1 _ a2 len2 cap2 z2 w w0.poly (rep_raw hx0 hx1) w2
end Go.Proofs.Ytajmfpnkcenhaaa
