/-
  Div: math/bits.Div64 and Rem64 at the divisor P: what is left of a number of two words, by P.
  Ref: What the calls of the document's answer for layer 1 come to, as the field's: contracts for the walk.
  RefList: What the document's Sum and Prod of layer 1 come to: contracts for the walk.
  PairRef: What the calls of the document's answer for layer 2 come to: contracts for the walk.
  PairRefB: What the calls of the document's answer for layer 2 come to, the rest: contracts for the walk.
-/
import Derived.Test.YthmpojefoiojeaaDoorGNum
import Derived.LoopTactic
import Derived.BigQuiet
import Derived.Deep.QuietTactic
import Derived.RegionTactic
import Derived.Lib.QuietBelow
namespace Go.Proofs.YthmpojefoiojeaaDoor
open Go.RowKit
set_option linter.unusedVariables false
set_option maxRecDepth 10000 in
theorem len64P (w : World) : Calls Tryd.prog 26 #[.int .u64 18446744069414584321] w fun e w' => e = .returned (.int .i64 64) ∧ w = w' := by
  go_enter Tryd.func26, Tryd.ntmps26
  go_wp2
  go_ret
  refine ⟨?_, rfl⟩
  kernel_rfl
theorem lz64P (w : World) : Calls Tryd.prog 19 #[.int .u64 18446744069414584321] w fun e w' => e = .returned (.int .i64 0) ∧ w = w' := by
  go_enter Tryd.func19, Tryd.ntmps19
  go_wp2_with (go_at_call 26; ((with_reducible refine (len64P _).mono ?_); rintro e w' ⟨rfl, rfl⟩))
  go_ret
  exact ⟨rfl, rfl⟩

def DivPost (rm : Int) (w : World) (e : Ending) (w' : World) : Prop := ∃ q' : Int, e = .returned (.tuple #[.int .u64 q', .int .u64 rm]) ∧ ∃ n, w' = w.drewN n

/-- A digit of the quotient by P: tried as q with rest r, in truth Q. -/
def Digit (q r t Q : Int) : Prop :=
  (0 ≤ q ∧ q < 4294967296 ∧ 0 ≤ r ∧ r < 4294967295 ∧ 0 ≤ t ∧ t < 4294967296 ∧ q ≤ 4294967296 * r + t ∧ Q = q) ∨ (r = 0 ∧ 0 ≤ t ∧ t < 4294967296 ∧ t < q ∧ 0 ≤ Q ∧ q = Q + 1 ∧ q ≤ 4294967296)

theorem Digit.facts {q r t Q : Int} (d : Digit q r t Q) : 0 ≤ Q ∧ Q < 4294967296 ∧ 0 ≤ t ∧ t < 4294967296 := by
  rcases d with ⟨a1, a2, a3, a4, a5, a6, a7, a8⟩ | ⟨a1, a2, a3, a4, a5, a6, a7⟩ <;> omega

theorem digit_of (h t q r : Int) (h0 : 0 ≤ h) (h1 : h < 18446744069414584321) (t0 : 0 ≤ t) (t1 : t < 4294967296) (e : h = q * 4294967295 + r) (r0 : 0 ≤ r) (r1 : r < 4294967295) :
    ∃ Q, Digit q r t Q ∧ 0 ≤ h * 4294967296 + t - Q * 18446744069414584321 ∧ h * 4294967296 + t - Q * 18446744069414584321 < 18446744069414584321 := by
  by_cases c : q < 4294967296 ∧ q ≤ 4294967296 * r + t
  · exact ⟨q, Or.inl (by omega), by omega, by omega⟩
  · exact ⟨q - 1, Or.inr (by omega), by omega, by omega⟩

end Go.Proofs.YthmpojefoiojeaaDoor
namespace Go.Proofs.YthmpojefoiojeaaDoor
open Go.RowKit
set_option linter.unusedVariables false

theorem enc_wrap_sub (y : F) : IntKind.u64.wrap (18446744069414584321 - enc y) = 18446744069414584321 - enc y := by
  have := enc_nonneg y; have := enc_lt y; rw [IntKind.wrap_u64]; omega

theorem hiOf_lt (a b : Int) (ha : 0 ≤ a ∧ a < 18446744069414584321) (hb : 0 ≤ b ∧ b < 18446744069414584321) : hiOf a b < 18446744069414584321 := by
  obtain ⟨a0, a1⟩ := ha
  obtain ⟨b0, b1⟩ := hb
  obtain ⟨n, rfl⟩ := Int.eq_ofNat_of_zero_le a0
  obtain ⟨m, rfl⟩ := Int.eq_ofNat_of_zero_le b0
  have h : n * m ≤ 18446744069414584320 * 18446744069414584320 := Nat.mul_le_mul (by omega) (by omega)
  have e : (n : Int) * (m : Int) = ((n * m : Nat) : Int) := (Int.natCast_mul n m).symm
  unfold hiOf
  rw [e]
  omega

end Go.Proofs.YthmpojefoiojeaaDoor
namespace Go.Proofs.YthmpojefoiojeaaDoor
open Go.RowKit
set_option linter.unusedVariables false

end Go.Proofs.YthmpojefoiojeaaDoor
namespace Go.Proofs.YthmpojefoiojeaaDoor
open Go.RowKit Go.Sort Go.BigFrame
set_option linter.unusedVariables false

theorem below_drewN {B : Nat} {a : World} : ∀ {w : World}, Below B a w → ∀ n, Below B a (w.drewN n)
  | w, h, n => ⟨h.os, h.tape, h.output, h.size, h.block⟩
theorem exit_gen {K : Act → World → Prop} {Q : Exit → Act → World → Prop} {e : Exit} {a : Act} {w : World} (S : World → Prop) (h : S w) (k : ∀ W, S W → Exit.then K Q e a W) : Exit.then K Q e a w := k w h
theorem ref_below {f : FuncId} {args : Array Value} {v : Value} {w : World} (h : Calls Tryd.prog f args w fun e w' => e = .returned v ∧ ∃ n, w' = w.drewN n) : Calls Tryd.prog f args w fun e w' => e = .returned v ∧ Below w.heap.size w w' :=
  h.mono fun _ _ ⟨he, n, hn⟩ => ⟨he, hn ▸ below_drewN (Below.refl _ _) n⟩
/-- What the slots of Scale's statement hold. -/
def ScaleR (a b c : Int) (l : F2) (s t : Int) (k : Nat) (v : Value) (W : World) : Prop :=
  match k with
  | 5 => v = .agg #[.int .u64 a, .int .u64 b]
  | 6 => v = .int .u64 c
  | 7 => v = .agg #[.int .u64 (enc l.a), .int .u64 (enc l.b)]
  | _ => v = .agg #[.int .u64 s, .int .u64 t]
theorem ScaleR.keep {a b c : Int} {l : F2} {s t : Int} {k : Nat} {v : Value} {W W' : World} (h : ScaleR a b c l s t k v W) (hb : Below W.heap.size W W') : ScaleR a b c l s t k v W' := h
end Go.Proofs.YthmpojefoiojeaaDoor
namespace Go.Proofs.YthmpojefoiojeaaDoor
open Go.RowKit Go.Sort Go.BigFrame
set_option linter.unusedVariables false

end Go.Proofs.YthmpojefoiojeaaDoor
