/-
  What is asked of package poly, call by call, under names; the document's 'the same' of two polynomials.
-/
import Derived.Test.YtajmfpnkcenhaaaPolyThru
import Derived.Test.YtajmfpnkcenhaaaSame
import Derived.Test.YtajmfpnkcenhaaaOpenPairs
namespace Go.Proofs.Ytajmfpnkcenhaaa
open Go.RowKit Go.Sort Go.BigFrame
set_option linter.unusedVariables false

def RetI (d : Int) (w : World) (e : Ending) (w' : World) : Prop := e = .returned (.int .i64 d) ∧ Below w.heap.size w w'
def RetQ (y : F2) (w : World) (e : Ending) (w' : World) : Prop := e = .returned (.agg #[.int .u64 (enc y.a), .int .u64 (enc y.b)]) ∧ Below w.heap.size w w'
def trimP (l : List F2) : List F2 := pl l.length (cq l)
def degP (l : List F2) : Int := (tn (cq l) l.length : Int) - 1
def atP (l : List F2) (x : F2) : F2 := qe l.length (cq l) x
def scaP (l : List F2) (x : F2) : List F2 := pl l.length (fun i => cq l i * x)
structure AskPoly : Prop where
  trim : ∀ v l w, Poly w v l → l.length ≤ 65536 → Calls Try.prog 19 #[v] w (RetP (trimP l) w)
  degree : ∀ v l w, Poly w v l → l.length ≤ 65536 → Calls Try.prog 17 #[v] w (RetI (degP l) w)
  at' : ∀ v l x0 x1 x w, Poly w v l → Rep x0 x1 x → l.length ≤ 65536 → Calls Try.prog 21 #[v, .agg #[.int .u64 x0, .int .u64 x1]] w (RetQ (atP l x) w)
  lift : ∀ v zs w, Row w v zs → (∀ n ∈ zs, U n) → zs.length ≤ 65536 → Calls Try.prog 27 #[v] w (RetP (liftL zs) w)
  add : ∀ v u l m w, Poly w v l → Poly w u m → l.length ≤ 65536 → m.length ≤ 65536 → Calls Try.prog 11 #[v, u] w (RetP (addP l m) w)
  scale : ∀ v l x0 x1 x w, Poly w v l → Rep x0 x1 x → l.length ≤ 65536 → Calls Try.prog 15 #[v, .agg #[.int .u64 x0, .int .u64 x1]] w (RetP (scaP l x) w)
  mul : ∀ v u l m w, Poly w v l → Poly w u m → l.length ≤ 65536 → m.length ≤ 65536 → Calls Try.prog 13 #[v, u] w (RetP (mulP l m) w)
  divide : ∀ v l x0 x1 x w, Poly w v l → Rep x0 x1 x → l.length ≤ 65536 → Calls Try.prog 23 #[v, .agg #[.int .u64 x0, .int .u64 x1]] w (RetD (divP l x) (atP l x) w)
  through : ∀ v u l m w, Poly w v l → Poly w u m → l.length ≤ 65536 → m.length ≤ 65536 → Calls Try.prog 25 #[v, u] w (RetT l m w)

/-- The document's, in the same words. -/
theorem dtrim (v : Value) (l : List F2) (w : World) (h : Poly w v l) (hl : l.length ≤ 65536) : Calls Try.prog 20 #[v] w (RetP (trimP l) w) := rtrim v l w h (by omega)
theorem ddegree (v : Value) (l : List F2) (w : World) (h : Poly w v l) (hl : l.length ≤ 65536) : Calls Try.prog 18 #[v] w (RetI (degP l) w) := rdegree v l w h (by omega) _ rfl
theorem dat (v : Value) (l : List F2) (x0 x1 : Int) (x : F2) (w : World) (h : Poly w v l) (hx : Rep x0 x1 x) (hl : l.length ≤ 65536) : Calls Try.prog 22 #[v, .agg #[.int .u64 x0, .int .u64 x1]] w (RetQ (atP l x) w) := rat v l x0 x1 x _ w h hx (by omega) rfl
theorem dlift (v : Value) (zs : List Int) (w : World) (h : Row w v zs) (hu : ∀ n ∈ zs, U n) (hl : zs.length ≤ 65536) : Calls Try.prog 28 #[v] w (RetP (liftL zs) w) := rliftP v zs w h hu (by omega)
theorem dadd (v u : Value) (l m : List F2) (w : World) (h1 : Poly w v l) (h2 : Poly w u m) (hl : l.length ≤ 65536) (hm : m.length ≤ 65536) : Calls Try.prog 12 #[v, u] w (RetP (addP l m) w) := (raddP v u l m w h1 h2 (by omega) (by omega)).mono fun _ _ h => h.ret
theorem dscale (v : Value) (l : List F2) (x0 x1 : Int) (x : F2) (w : World) (h : Poly w v l) (hx : Rep x0 x1 x) (hl : l.length ≤ 65536) : Calls Try.prog 16 #[v, .agg #[.int .u64 x0, .int .u64 x1]] w (RetP (scaP l x) w) := (rscaleP v l x0 x1 x w h hx (by omega)).mono fun _ _ h => h.ret
theorem dmul (v u : Value) (l m : List F2) (w : World) (h1 : Poly w v l) (h2 : Poly w u m) (hl : l.length ≤ 65536) (hm : m.length ≤ 65536) : Calls Try.prog 14 #[v, u] w (RetP (mulP l m) w) := (rmulP v u l m w h1 h2 (by omega) (by omega)).mono fun _ _ h => h.ret
theorem ddivide (v : Value) (l : List F2) (x0 x1 : Int) (x : F2) (w : World) (h : Poly w v l) (hx : Rep x0 x1 x) (hl : l.length ≤ 65536) : Calls Try.prog 24 #[v, .agg #[.int .u64 x0, .int .u64 x1]] w (RetD (divP l x) (atP l x) w) := rdivP v l x0 x1 x w h hx (by omega)
theorem dthrough (v u : Value) (l m : List F2) (w : World) (h1 : Poly w v l) (h2 : Poly w u m) (hl : l.length ≤ 65536) (hm : m.length ≤ 65536) : Calls Try.prog 26 #[v, u] w (RetT l m w) := rthrP v u l m w h1 h2 (by omega) (by omega)
theorem sameP (v u : Value) (l : List F2) (w : World) (h1 : IsP w v l) (h2 : IsP w u l) : Calls Try.prog 10 #[v, u] w fun e w' => e = .returned (.bool true) ∧ Below w.heap.size w w' := by
  obtain ⟨a1, c1, rfl⟩ := h1.slice
  obtain ⟨a2, c2, rfl⟩ := h2.slice
  exact (sameq_is a1 a2 _ _ c1 c2 _ _ w h1.at h2.at rfl).mono fun e w' ⟨h, n, hn⟩ => ⟨h, by subst hn; exact below_drewN (Below.refl _ _) n⟩
end Go.Proofs.Ytajmfpnkcenhaaa
