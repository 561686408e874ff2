/-
  The walk of EvalLines: it answers true.
-/
import Derived.Test.YtlgfnlkblehlbaaVProg
import Derived.Test.YtlgfnlkblehlbaaVLLines
import Derived.Test.YtlgfnlkblehlbaaOpsArg
import Derived.Test.YtlgfnlkblehlbaaRowArg
namespace Go.Proofs.Ytlgfnlkblehlbaa
open Go Go.RowKit Go.Deep
set_option linter.unusedVariables false

theorem vawake1 (W : World) (_ : True) : Calls Try.prog 10 #[] W fun e w' => e = .returned (.bool true) ∧ Below W.heap.size W w' := vawake _ ask17 W trivial
theorem vlines_walk (v0 v1 : Value) (w : World) (h0 : shOps.Arg w v0) (h1 : (Sh.rep 4 (Sh.slice shPair)).Arg w v1) : Calls Try.prog 7 #[v0, v1] w fun e w' => e = .returned (.bool true) ∧ Below w.heap.size w w' := by
  obtain ⟨a, n, cap, rfl, ha⟩ := h0.slice
  obtain ⟨zs, hO, hu⟩ := ha.ops
  obtain ⟨b0, l0, p0, b1, l1, p1, b2, l2, p2, b3, l3, p3, rfl, s0, s1, s2, s3⟩ := h1.four
  obtain ⟨q0, r0, u0⟩ := s0.qrow
  obtain ⟨q1, r1, u1⟩ := s1.qrow
  obtain ⟨q2, r2, u2⟩ := s2.qrow
  obtain ⟨q3, r3, u3⟩ := s3.qrow
  exact vlines_body _ ask17 vawake1 a n cap zs b0 l0 p0 q0 b1 l1 p1 q1 b2 l2 p2 q2 b3 l3 p3 q3 w trivial hO hu r0 u0 r1 u1 r2 u2 r3 u3
end Go.Proofs.Ytlgfnlkblehlbaa
