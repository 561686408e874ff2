/-
  The walk of PolyThrough: it answers true.
-/
import Derived.Test.YtajmfpnkcenhaaaPgThr
import Derived.Test.YtajmfpnkcenhaaaPolyAw
import Derived.Test.YtajmfpnkcenhaaaPLThrough
namespace Go.Proofs.Ytajmfpnkcenhaaa
open Go.RowKit
set_option linter.unusedVariables false

theorem aw_is (W : World) : Calls Try.prog 9 #[] W fun e w' => e = .returned (.bool true) ∧ Below W.heap.size W w' := aw5 ask W
theorem IsPairs.poly {w : World} {a : Option Addr} {len cap : Nat} {zs : List (Int × Int)} (h : IsPairs w a len cap zs) : Poly w (.slice a len cap) (zs.map toQ) := ⟨zs, h.row.1, h.row.2.2, rfl⟩
theorem pthrough_walk (a0 : Option Addr) (len0 cap0 : Nat) (z0 : List (Int × Int)) (a1 : Option Addr) (len1 cap1 : Nat) (z1 : List (Int × Int)) (w : World) (w0 : IsPairs w a0 len0 cap0 z0) (w1 : IsPairs w a1 len1 cap1 z1) :
    Calls Try.prog 6 #[.slice a0 len0 cap0, .slice a1 len1 cap1] w fun e w' => e = .returned (.bool true) ∧ Below w.heap.size w w' :=
  pthrough_body ask aw_is a0 a1 len0 len1 cap0 cap1 _ _ w w0.poly w1.poly
end Go.Proofs.Ytajmfpnkcenhaaa
