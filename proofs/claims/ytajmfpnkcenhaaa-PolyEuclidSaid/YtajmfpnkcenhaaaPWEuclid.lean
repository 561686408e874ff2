/-
  The walk of PolyEuclid: it answers true.
-/
import Derived.Test.YtajmfpnkcenhaaaPgThr
import Derived.Test.YtajmfpnkcenhaaaPolyAw
import Derived.Test.YtajmfpnkcenhaaaPLEuclid
namespace Go.Proofs.Ytajmfpnkcenhaaa
open Go.RowKit
set_option linter.unusedVariables false

theorem aw_is (W : World) : Calls Try.prog 9 #[] W fun e w' => e = .returned (.bool true) ∧ Below W.heap.size W w' := aw5 ask W
theorem IsPairs.poly {w : World} {a : Option Addr} {len cap : Nat} {zs : List (Int × Int)} (h : IsPairs w a len cap zs) : Poly w (.slice a len cap) (zs.map toQ) := ⟨zs, h.row.1, h.row.2.2, rfl⟩
theorem peuclid_walk (a0 : Option Addr) (len0 cap0 : Nat) (z0 : List (Int × Int)) (x0 x1 y0 y1 : Int) (hx0 : U x0) (hx1 : U x1) (hy0 : U y0) (hy1 : U y1) (w : World) (w0 : IsPairs w a0 len0 cap0 z0) :
    Calls Try.prog 5 #[.slice a0 len0 cap0, .agg #[.int .u64 x0, .int .u64 x1], .agg #[.int .u64 y0, .int .u64 y1]] w fun e w' => e = .returned (.bool true) ∧ Below w.heap.size w w' :=
  peuclid_body ask aw_is a0 len0 cap0 _ x0 x1 y0 y1 _ _ w w0.poly (rep_raw hx0 hx1) (rep_raw hy0 hy1)
end Go.Proofs.Ytajmfpnkcenhaaa
