/-
  What is asked of package poly, call by call, under names; the document's 'the same' of two polynomials.
-/
import Derived.Test.YtlgfnlkblehlbaaPolyThru
import Derived.Test.YtlgfnlkblehlbaaSame
import Derived.Test.YtlgfnlkblehlbaaOpenPairs
namespace Go.Proofs.Ytlgfnlkblehlbaa
open Go.RowKit Go.Sort Go.BigFrame
set_option linter.unusedVariables false

def RetI (d : Int) (w : World) (e : Ending) (w' : World) : Prop := e = .returned (.int .i64 d) ∧ Below w.heap.size w w'
def RetQ (y : F2) (w : World) (e : Ending) (w' : World) : Prop := e = .returned (.agg #[.int .u64 (enc y.a), .int .u64 (enc y.b)]) ∧ Below w.heap.size w w'
def trimP (l : List F2) : List F2 := pl l.length (cq l)
def degP (l : List F2) : Int := (tn (cq l) l.length : Int) - 1
def atP (l : List F2) (x : F2) : F2 := qe l.length (cq l) x
def scaP (l : List F2) (x : F2) : List F2 := pl l.length (fun i => cq l i * x)
/-- The document's, in the same words. -/
theorem dtrim (v : Value) (l : List F2) (w : World) (h : Poly w v l) (hl : l.length ≤ 65536) : Calls Try.prog 61 #[v] w (RetP (trimP l) w) := rtrim v l w h (by omega)
theorem dat (v : Value) (l : List F2) (x0 x1 : Int) (x : F2) (w : World) (h : Poly w v l) (hx : Rep x0 x1 x) (hl : l.length ≤ 65536) : Calls Try.prog 24 #[v, .agg #[.int .u64 x0, .int .u64 x1]] w (RetQ (atP l x) w) := rat v l x0 x1 x _ w h hx (by omega) rfl
theorem dadd (v u : Value) (l m : List F2) (w : World) (h1 : Poly w v l) (h2 : Poly w u m) (hl : l.length ≤ 65536) (hm : m.length ≤ 65536) : Calls Try.prog 46 #[v, u] w (RetP (addP l m) w) := (raddP v u l m w h1 h2 (by omega) (by omega)).mono fun _ _ h => h.ret
theorem dscale (v : Value) (l : List F2) (x0 x1 : Int) (x : F2) (w : World) (h : Poly w v l) (hx : Rep x0 x1 x) (hl : l.length ≤ 65536) : Calls Try.prog 47 #[v, .agg #[.int .u64 x0, .int .u64 x1]] w (RetP (scaP l x) w) := (rscaleP v l x0 x1 x w h hx (by omega)).mono fun _ _ h => h.ret
theorem dmul (v u : Value) (l m : List F2) (w : World) (h1 : Poly w v l) (h2 : Poly w u m) (hl : l.length ≤ 65536) (hm : m.length ≤ 65536) : Calls Try.prog 43 #[v, u] w (RetP (mulP l m) w) := (rmulP v u l m w h1 h2 (by omega) (by omega)).mono fun _ _ h => h.ret
theorem dthrough (v u : Value) (l m : List F2) (w : World) (h1 : Poly w v l) (h2 : Poly w u m) (hl : l.length ≤ 65536) (hm : m.length ≤ 65536) : Calls Try.prog 23 #[v, u] w (RetT l m w) := rthrP v u l m w h1 h2 (by omega) (by omega)
end Go.Proofs.Ytlgfnlkblehlbaa
