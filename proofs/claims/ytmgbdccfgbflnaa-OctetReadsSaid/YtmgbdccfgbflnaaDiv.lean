/-
  math/bits.Div64 and Rem64 at the divisor P: what is left of a number of two words, by P.
-/
import Derived.Test.YtmgbdccfgbflnaaPrime
import Derived.LoopTactic
import Derived.BigQuiet
import Derived.Deep.QuietTactic
import Derived.RegionTactic
namespace Go.Proofs.Ytmgbdccfgbflnaa
open Go.RowKit
set_option linter.unusedVariables false
def DivPost (rm : Int) (w : World) (e : Ending) (w' : World) : Prop := ∃ q' : Int, e = .returned (.tuple #[.int .u64 q', .int .u64 rm]) ∧ ∃ n, w' = w.drewN n

/-- A digit of the quotient by P: tried as q with rest r, in truth Q. -/
def Digit (q r t Q : Int) : Prop :=
  (0 ≤ q ∧ q < 4294967296 ∧ 0 ≤ r ∧ r < 4294967295 ∧ 0 ≤ t ∧ t < 4294967296 ∧ q ≤ 4294967296 * r + t ∧ Q = q) ∨ (r = 0 ∧ 0 ≤ t ∧ t < 4294967296 ∧ t < q ∧ 0 ≤ Q ∧ q = Q + 1 ∧ q ≤ 4294967296)

theorem Digit.facts {q r t Q : Int} (d : Digit q r t Q) : 0 ≤ Q ∧ Q < 4294967296 ∧ 0 ≤ t ∧ t < 4294967296 := by
  rcases d with ⟨a1, a2, a3, a4, a5, a6, a7, a8⟩ | ⟨a1, a2, a3, a4, a5, a6, a7⟩ <;> omega

theorem digit_of (h t q r : Int) (h0 : 0 ≤ h) (h1 : h < 18446744069414584321) (t0 : 0 ≤ t) (t1 : t < 4294967296) (e : h = q * 4294967295 + r) (r0 : 0 ≤ r) (r1 : r < 4294967295) :
    ∃ Q, Digit q r t Q ∧ 0 ≤ h * 4294967296 + t - Q * 18446744069414584321 ∧ h * 4294967296 + t - Q * 18446744069414584321 < 18446744069414584321 := by
  by_cases c : q < 4294967296 ∧ q ≤ 4294967296 * r + t
  · exact ⟨q, Or.inl (by omega), by omega, by omega⟩
  · exact ⟨q - 1, Or.inr (by omega), by omega, by omega⟩

end Go.Proofs.Ytmgbdccfgbflnaa
