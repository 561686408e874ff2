/-
  What the calls of the document's answer for layer 2 come to: contracts for the walk.
-/
import Derived.Test.YtflabonifbhmnaaDoorPairSum
import Derived.Test.YtflabonifbhmnaaDoorRefList
import Derived.Test.YtflabonifbhmnaaDoorLoose
import Derived.Lib.QuietBelow
import Derived.BigQuiet
namespace Go.Proofs.YtflabonifbhmnaaDoor
open Go.RowKit Go.Sort Go.BigFrame
set_option linter.unusedVariables false

theorem below_drewN {B : Nat} {a : World} : ∀ {w : World}, Below B a w → ∀ n, Below B a (w.drewN n)
  | w, h, n => ⟨h.os, h.tape, h.output, h.size, h.block⟩
theorem exit_gen {K : Act → World → Prop} {Q : Exit → Act → World → Prop} {e : Exit} {a : Act} {w : World} (S : World → Prop) (h : S w) (k : ∀ W, S W → Exit.then K Q e a W) : Exit.then K Q e a w := k w h
theorem ref_below {f : FuncId} {args : Array Value} {v : Value} {w : World} (h : Calls Tryd.prog f args w fun e w' => e = .returned v ∧ ∃ n, w' = w.drewN n) : Calls Tryd.prog f args w fun e w' => e = .returned v ∧ Below w.heap.size w w' :=
  h.mono fun _ _ ⟨he, n, hn⟩ => ⟨he, hn ▸ below_drewN (Below.refl _ _) n⟩
theorem refadd_is (a b z : Int) (ha : U a) (hb : U b) (h : enc (toF a + toF b) = z) (w : World) : Calls Tryd.prog 22 #[.int .u64 a, .int .u64 b] w fun e w' => e = .returned (.int .u64 z) ∧ w = w' := h ▸ refadd_any a b ha hb w
theorem refprod_tri (x y z : Int) (p : F) (v : Value) (w : World) (hx : U x) (hy : U y) (hz : U z) (hr : Row w v [x, y, z]) (hp : toF x * (toF y * toF z) = p) : Calls Tryd.prog 31 #[v] w fun e w' => e = .returned (.int .u64 (enc p)) ∧ ∃ n, w' = w.drewN n := by
  have h := refprod_any v [x, y, z] w hr (by intro n hn; simp at hn; rcases hn with rfl | rfl | rfl <;> assumption)
  rw [show fprod ([x, y, z].map toF) = p by rw [← hp]; simp only [List.map, fprod]; grind] at h
  exact h

theorem radd_q (a b c d : Int) (x y z : F2) (hx : Rep a b x) (hy : Rep c d y) (hz : x + y = z) (w : World) : Calls Tryd.prog 58 #[.agg #[.int .u64 a, .int .u64 b], .agg #[.int .u64 c, .int .u64 d]] w fun e w' => e = .returned (.agg #[.int .u64 (enc z.a), .int .u64 (enc z.b)]) ∧ Below w.heap.size w w' := by
  have k1 := refadd_is a c (enc z.a) hx.1 hy.1 (by rw [hx.2.2.1, hy.2.2.1, ← hz]; rfl)
  have k2 := refadd_is b d (enc z.b) hx.2.1 hy.2.1 (by rw [hx.2.2.2, hy.2.2.2, ← hz]; rfl)
  generalize enc z.a = s at *
  generalize enc z.b = t at *
  clear hx hy hz
  go_enter Tryd.func58, Tryd.ntmps58
  go_wp2_with fail
  go_region_held3 (fun w' => w'.cell? ⟨w.heap.size, 0, none⟩ = some (.int .u64 a) ∧ w'.cell? ⟨w.heap.size, 1, none⟩ = some (.int .u64 b) ∧ w'.cell? ⟨w.heap.size + 1, 0, none⟩ = some (.int .u64 c) ∧ w'.cell? ⟨w.heap.size + 1, 1, none⟩ = some (.int .u64 d)) (go_keep)
    (first | (go_at_call 22; ((with_reducible refine (k1 _).mono ?_); rintro e w' ⟨rfl, rfl⟩)) | (go_at_call 22; ((with_reducible refine (k2 _).mono ?_); rintro e w' ⟨rfl, rfl⟩)))
  go_wp2
  exact bodyPost_ret (v := .agg #[.int .u64 s, .int .u64 t]) (by simp [results, Tryd.results58, go_sem]) rfl ⟨rfl, ((((Below.refl _ _).alloc (Nat.le_refl _) _).alloc (by simp) _).alloc (by simp; omega) _).drew⟩

/-- What the slots of Scale's statement hold. -/
def ScaleR (a b c : Int) (l : F2) (s t : Int) (k : Nat) (v : Value) (W : World) : Prop :=
  match k with
  | 5 => v = .agg #[.int .u64 a, .int .u64 b]
  | 6 => v = .int .u64 c
  | 7 => v = .agg #[.int .u64 (enc l.a), .int .u64 (enc l.b)]
  | _ => v = .agg #[.int .u64 s, .int .u64 t]
theorem ScaleR.keep {a b c : Int} {l : F2} {s t : Int} {k : Nat} {v : Value} {W W' : World} (h : ScaleR a b c l s t k v W) (hb : Below W.heap.size W W') : ScaleR a b c l s t k v W' := h
end Go.Proofs.YtflabonifbhmnaaDoor
