/-
  The contracts of layer 1 with the answer under a name; what a uint64's bounds are.
-/
import Derived.Test.YteleepblfipncaaList
import Derived.OpenShut
namespace Go.Proofs.Yteleepblfipncaa
open Go.RowKit
set_option linter.unusedVariables false

theorem U_lit (a : Int) (h : decide (0 ≤ a) = true) (h' : decide (a < 18446744073709551616) = true) : U a := ⟨of_decide_eq_true h, of_decide_eq_true h'⟩

theorem U_wf {a : Int} (h : (Lit.int .u64 a).wf = true) : U a := by
  have := Go.bounds_u64 h
  unfold U; omega

theorem add_is (a b z : Int) (ha : U a) (hb : U b) (h : enc (toF a + toF b) = z) (w : World) : Calls Try.prog 53 #[.int .u64 a, .int .u64 b] w fun e w' => e = .returned (.int .u64 z) ∧ w = w' := h ▸ add_any a b ha hb w
theorem sub_is (a b z : Int) (ha : U a) (hb : U b) (h : enc (toF a - toF b) = z) (w : World) : Calls Try.prog 51 #[.int .u64 a, .int .u64 b] w fun e w' => e = .returned (.int .u64 z) ∧ w = w' := h ▸ sub_any a b ha hb w
theorem mul_is (a b z : Int) (ha : U a) (hb : U b) (h : enc (toF a * toF b) = z) (w : World) : Calls Try.prog 37 #[.int .u64 a, .int .u64 b] w fun e w' => e = .returned (.int .u64 z) ∧ w = w' := h ▸ mul_any a b ha hb w
theorem neg_is (a z : Int) (ha : U a) (h : enc (-toF a) = z) (w : World) : Calls Try.prog 61 #[.int .u64 a] w fun e w' => e = .returned (.int .u64 z) ∧ w = w' := h ▸ neg_any a ha w
theorem pow_is (a n z : Int) (ha : U a) (hn : U n) (h : enc (fpow (toF a) n.toNat) = z) (w : World) : Calls Try.prog 34 #[.int .u64 a, .int .u64 n] w fun e w' => e = .returned (.int .u64 z) ∧ w = w' := h ▸ pow_any a n ha hn w

theorem rem_toF (a : Int) (ha : U a) : Int.tmod a 18446744069414584321 = enc (toF a) := by
  rw [enc_toF a ha.1, Int.tmod_eq_emod_of_nonneg ha.1]
theorem mod_toF (a : Int) (ha : U a) : a % 18446744069414584321 = enc (toF a) := (enc_toF a ha.1).symm

end Go.Proofs.Yteleepblfipncaa
