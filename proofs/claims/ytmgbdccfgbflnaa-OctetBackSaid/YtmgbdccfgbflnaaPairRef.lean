/-
  What the calls of the document's answer for layer 2 come to: contracts for the walk.
-/
import Derived.Test.YtmgbdccfgbflnaaPairSum
import Derived.Test.YtmgbdccfgbflnaaRefList
import Derived.Test.YtmgbdccfgbflnaaLoose
import Derived.Lib.QuietBelow
import Derived.BigQuiet
namespace Go.Proofs.Ytmgbdccfgbflnaa
open Go.RowKit Go.Sort Go.BigFrame
set_option linter.unusedVariables false

theorem below_drewN {B : Nat} {a : World} : ∀ {w : World}, Below B a w → ∀ n, Below B a (w.drewN n)
  | w, h, n => ⟨h.os, h.tape, h.output, h.size, h.block⟩
theorem exit_gen {K : Act → World → Prop} {Q : Exit → Act → World → Prop} {e : Exit} {a : Act} {w : World} (S : World → Prop) (h : S w) (k : ∀ W, S W → Exit.then K Q e a W) : Exit.then K Q e a w := k w h
theorem ref_below {f : FuncId} {args : Array Value} {v : Value} {w : World} (h : Calls Try.prog f args w fun e w' => e = .returned v ∧ ∃ n, w' = w.drewN n) : Calls Try.prog f args w fun e w' => e = .returned v ∧ Below w.heap.size w w' :=
  h.mono fun _ _ ⟨he, n, hn⟩ => ⟨he, hn ▸ below_drewN (Below.refl _ _) n⟩
/-- What the slots of Scale's statement hold. -/
def ScaleR (a b c : Int) (l : F2) (s t : Int) (k : Nat) (v : Value) (W : World) : Prop :=
  match k with
  | 5 => v = .agg #[.int .u64 a, .int .u64 b]
  | 6 => v = .int .u64 c
  | 7 => v = .agg #[.int .u64 (enc l.a), .int .u64 (enc l.b)]
  | _ => v = .agg #[.int .u64 s, .int .u64 t]
theorem ScaleR.keep {a b c : Int} {l : F2} {s t : Int} {k : Nat} {v : Value} {W W' : World} (h : ScaleR a b c l s t k v W) (hb : Below W.heap.size W W') : ScaleR a b c l s t k v W' := h
end Go.Proofs.Ytmgbdccfgbflnaa
