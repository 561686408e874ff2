/-
  The contracts of layer 1 with the answer under a name; what a uint64's bounds are.
-/
import Derived.Test.YtmgbdccfgbflnaaList
import Derived.OpenShut
namespace Go.Proofs.Ytmgbdccfgbflnaa
open Go.RowKit
set_option linter.unusedVariables false

theorem U_lit (a : Int) (h : decide (0 ≤ a) = true) (h' : decide (a < 18446744073709551616) = true) : U a := ⟨of_decide_eq_true h, of_decide_eq_true h'⟩

theorem U_wf {a : Int} (h : (Lit.int .u64 a).wf = true) : U a := by
  have := Go.bounds_u64 h
  unfold U; omega

theorem rem_toF (a : Int) (ha : U a) : Int.tmod a 18446744069414584321 = enc (toF a) := by
  rw [enc_toF a ha.1, Int.tmod_eq_emod_of_nonneg ha.1]
theorem mod_toF (a : Int) (ha : U a) : a % 18446744069414584321 = enc (toF a) := (enc_toF a ha.1).symm

end Go.Proofs.Ytmgbdccfgbflnaa
