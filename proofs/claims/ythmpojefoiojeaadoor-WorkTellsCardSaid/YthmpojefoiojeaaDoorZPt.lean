/-
  What zero.many, Spot come to, and the document's Spot: contracts for the walk. (Written by gen_zpt.py.)
-/
import Derived.Test.YthmpojefoiojeaaDoorZRow
import Derived.Test.YthmpojefoiojeaaDoorGNum
namespace Go.Proofs.YthmpojefoiojeaaDoor
open Go.RowKit Go.Sort Go.BigFrame
set_option linter.unusedVariables false


theorem pow2_lt {k : Nat} (hk : k ≤ 32) : ((2 ^ k : Nat) : Int) ≤ 4294967296 ∧ 1 ≤ ((2 ^ k : Nat) : Int) := by
  have h1 := Nat.pow_le_pow_right (n := 2) (by decide) hk
  have h2 := Nat.two_pow_pos k
  omega
theorem pow2_U {k : Nat} (hk : k ≤ 32) : U ((2 ^ k : Nat) : Int) := by
  have := pow2_lt hk
  unfold U; omega
theorem wrapu_pow {k : Nat} (hk : k ≤ 32) : IntKind.u64.wrap (2 ^ k) = ((2 ^ k : Nat) : Int) := by
  have : ∀ k, k ≤ 32 → IntKind.u64.wrap (2 ^ k) = ((2 ^ k : Nat) : Int) := by decide +kernel
  exact this k hk
def SpotR (a b k i r la lb s t : Int) (sl : Nat) (v : Value) (W : World) : Prop :=
  match sl with
  | 7 => v = .agg #[.int .u64 a, .int .u64 b]
  | 8 => v = .int .i64 k
  | 9 => v = .int .i64 i
  | 10 => v = .int .u64 r
  | 11 => v = .agg #[.int .u64 la, .int .u64 lb]
  | _ => v = .agg #[.int .u64 s, .int .u64 t]
theorem SpotR.keep {a b k i r la lb s t : Int} {sl : Nat} {v : Value} {W W' : World} (h : SpotR a b k i r la lb s t sl v W) (hb : Below W.heap.size W W') : SpotR a b k i r la lb s t sl v W' := h

def RSpotR (a b k i r la lb s t : Int) (sl : Nat) (v : Value) (W : World) : Prop :=
  match sl with
  | 7 => v = .agg #[.int .u64 a, .int .u64 b]
  | 8 => v = .int .i64 k
  | 9 => v = .int .i64 i
  | 10 => v = .int .u64 r
  | 11 => v = .agg #[.int .u64 la, .int .u64 lb]
  | _ => v = .agg #[.int .u64 s, .int .u64 t]
theorem RSpotR.keep {a b k i r la lb s t : Int} {sl : Nat} {v : Value} {W W' : World} (h : RSpotR a b k i r la lb s t sl v W) (hb : Below W.heap.size W W') : RSpotR a b k i r la lb s t sl v W' := h

end Go.Proofs.YthmpojefoiojeaaDoor
