/-
  What the calls of package pair come to, as the pairs': contracts for the walk.
-/
import Derived.Test.YtflabonifbhmnaaDoorFtwo
import Derived.Test.YtflabonifbhmnaaDoorIs
import Derived.StillTailTactics
import Derived.Deep.RegionHeld3
import Derived.StillTactics
import Derived.Laws.Pointers
import Derived.WalkSpells
namespace Go.Proofs.YtflabonifbhmnaaDoor
open Go.RowKit
set_option linter.unusedVariables false

/-- What two numbers are as a pair. -/
def Rep (a b : Int) (x : F2) : Prop := U a ∧ U b ∧ toF a = x.a ∧ toF b = x.b
theorem rep_enc (x : F2) : Rep (enc x.a) (enc x.b) x := ⟨enc_U _, enc_U _, toF_enc _, toF_enc _⟩
theorem rep_raw {a b : Int} (ha : U a) (hb : U b) : Rep a b ⟨toF a, toF b⟩ := ⟨ha, hb, rfl, rfl⟩
theorem rep_zero : Rep 0 0 0 := rep_enc 0
theorem rep_one : Rep 1 0 1 := rep_enc 1

theorem bkeep {W w1 : World} (hb : Below W.heap.size W w1) {p : Addr} {v : Value} (h : W.cell? p = some v) : w1.cell? p = some v :=
  (hb.cell (World.block_lt_of_cell? W _ h)).trans h
theorem bfree {W w1 : World} (hb : Below W.heap.size W w1) {p : Addr} {v : Value} (h : W.cell? p = some v) (hf : W.frozen? p = false) : w1.frozen? p = false :=
  (hb.frozen (World.block_lt_of_cell? W _ h)).trans hf
theorem bcell {W w1 : World} (hb : Below W.heap.size W w1) : (∀ b o, b < W.heap.size → w1.cell? ⟨b, o, none⟩ = W.cell? ⟨b, o, none⟩) ∧ (∀ b o, b < W.heap.size → w1.frozen? ⟨b, o, none⟩ = W.frozen? ⟨b, o, none⟩) :=
  ⟨fun b o h => hb.cell (p := ⟨b, o, none⟩) h, fun b o h => hb.frozen (p := ⟨b, o, none⟩) h⟩
theorem bthen {w W w1 : World} (h : Below w.heap.size w W) (hb : Below W.heap.size W w1) : Below w.heap.size w w1 := h.trans (hb.mono h.size)
theorem wp_gen {P : Program} {c : Code} {Q : Exit → Act → World → Prop} {a : Act} {w : World} (S : World → Prop) (h : S w) (k : ∀ W, S W → c.wp P Q a W) : c.wp P Q a w := k w h

/-- A variable of two cells, unfrozen. -/
def Var (W : World) (g : Nat) (x y : Int) : Prop := W.cell? ⟨g, 0, none⟩ = some (.int .u64 x) ∧ W.cell? ⟨g, 1, none⟩ = some (.int .u64 y) ∧ W.frozen? ⟨g, 0, none⟩ = false ∧ W.frozen? ⟨g, 1, none⟩ = false
theorem Var.keep {W w1 : World} {g : Nat} {x y : Int} (h : Var W g x y) (hb : Below W.heap.size W w1) : Var w1 g x y :=
  ⟨bkeep hb h.1, bkeep hb h.2.1, bfree hb h.1 h.2.2.1, bfree hb h.2.1 h.2.2.2⟩
theorem Var.lt {W : World} {g : Nat} {x y : Int} (h : Var W g x y) : g < W.heap.size := World.block_lt_of_cell? W _ h.1
theorem Var.alloc {W : World} {g : Nat} {x y : Int} (h : Var W g x y) (o : Obj) : Var (W.alloc o) g x y :=
  h.keep ((Below.refl _ _).alloc (Nat.le_refl _) _)
theorem Var.drew {W : World} {g : Nat} {x y : Int} (h : Var W g x y) : Var W.drew g x y := h
theorem Var.new (W : World) (x y : Int) (t : TypeId) : Var (W.alloc (.cells #[.int .u64 x, .int .u64 y] t)) W.heap.size x y := by simp [Var, go_sem]
theorem Var.far {W : World} {g g' : Nat} {x y : Int} (h : Var W g x y) (hg : g' ≠ g) (o : Nat) (v : Value) : Var (W.setCell ⟨g', o, none⟩ v) g x y := by
  obtain ⟨c0, c1, f0, f1⟩ := h
  exact ⟨(World.cell?_setCell_far _ _ _ _ hg).trans c0, (World.cell?_setCell_far _ _ _ _ hg).trans c1, by simp [f0], by simp [f1]⟩
theorem Var.set {W : World} {g : Nat} {x y : Int} (h : Var W g x y) (x' y' : Int) : Var ((W.setCell ⟨g, 0, none⟩ (.int .u64 x')).setCell ⟨g, 1, none⟩ (.int .u64 y')) g x' y' := by
  obtain ⟨c0, c1, f0, f1⟩ := h
  simp [Var, go_sem, c0, c1, f0, f1]
theorem row_one {W : World} {g : Nat} {x : Int} (h0 : W.cell? ⟨g, 0, none⟩ = some (.int .u64 x)) : Row W (.slice (some ⟨g, 0, none⟩) 1 1) [x] := by
  right; right
  refine ⟨g, 0, 1, rfl, by simp, by unfold maxLen; omega, ?_⟩
  intro i hi
  have : i = 0 := by simp at hi; omega
  subst this; exact h0
theorem row_tri {W : World} {g : Nat} {x y z : Int} (h0 : W.cell? ⟨g, 0, none⟩ = some (.int .u64 x)) (h1 : W.cell? ⟨g, 1, none⟩ = some (.int .u64 y)) (h2 : W.cell? ⟨g, 2, none⟩ = some (.int .u64 z)) : Row W (.slice (some ⟨g, 0, none⟩) 3 3) [x, y, z] := by
  right; right
  refine ⟨g, 0, 3, rfl, by simp, by unfold maxLen; omega, ?_⟩
  intro i hi
  have : i = 0 ∨ i = 1 ∨ i = 2 := by simp at hi; omega
  rcases this with rfl | rfl | rfl
  · exact h0
  · exact h1
  · exact h2
theorem padd_q (a b c d : Int) (x y z : F2) (hx : Rep a b x) (hy : Rep c d y) (hz : x + y = z) (w : World) : Calls Tryd.prog 53 #[.agg #[.int .u64 a, .int .u64 b], .agg #[.int .u64 c, .int .u64 d]] w fun e w' => e = .returned (.agg #[.int .u64 (enc z.a), .int .u64 (enc z.b)]) ∧ Below w.heap.size w w' := by
  have k1 := add_is a c (enc z.a) hx.1 hy.1 (by rw [hx.2.2.1, hy.2.2.1, ← hz]; rfl)
  have k2 := add_is b d (enc z.b) hx.2.1 hy.2.1 (by rw [hx.2.2.2, hy.2.2.2, ← hz]; rfl)
  generalize enc z.a = s at *
  generalize enc z.b = t at *
  clear hx hy hz
  go_enter Tryd.func53, Tryd.ntmps53
  go_wp2_with fail
  go_region_held3 (fun w' => w'.cell? ⟨w.heap.size, 0, none⟩ = some (.int .u64 a) ∧ w'.cell? ⟨w.heap.size, 1, none⟩ = some (.int .u64 b) ∧ w'.cell? ⟨w.heap.size + 1, 0, none⟩ = some (.int .u64 c) ∧ w'.cell? ⟨w.heap.size + 1, 1, none⟩ = some (.int .u64 d)) (go_keep)
    (first | (go_at_call 43; ((with_reducible refine (k1 _).mono ?_); rintro e w' ⟨rfl, rfl⟩)) | (go_at_call 43; ((with_reducible refine (k2 _).mono ?_); rintro e w' ⟨rfl, rfl⟩)))
  go_wp2
  exact bodyPost_ret (v := .agg #[.int .u64 s, .int .u64 t]) (by simp [results, Tryd.results53, go_sem]) rfl ⟨rfl, ((((Below.refl _ _).alloc (Nat.le_refl _) _).alloc (by simp) _).alloc (by simp; omega) _).drew⟩

theorem psub_q (a b c d : Int) (x y z : F2) (hx : Rep a b x) (hy : Rep c d y) (hz : x - y = z) (w : World) : Calls Tryd.prog 54 #[.agg #[.int .u64 a, .int .u64 b], .agg #[.int .u64 c, .int .u64 d]] w fun e w' => e = .returned (.agg #[.int .u64 (enc z.a), .int .u64 (enc z.b)]) ∧ Below w.heap.size w w' := by
  have k1 := sub_is a c (enc z.a) hx.1 hy.1 (by rw [hx.2.2.1, hy.2.2.1, ← hz]; rfl)
  have k2 := sub_is b d (enc z.b) hx.2.1 hy.2.1 (by rw [hx.2.2.2, hy.2.2.2, ← hz]; rfl)
  generalize enc z.a = s at *
  generalize enc z.b = t at *
  clear hx hy hz
  go_enter Tryd.func54, Tryd.ntmps54
  go_wp2_with fail
  go_region_held3 (fun w' => w'.cell? ⟨w.heap.size, 0, none⟩ = some (.int .u64 a) ∧ w'.cell? ⟨w.heap.size, 1, none⟩ = some (.int .u64 b) ∧ w'.cell? ⟨w.heap.size + 1, 0, none⟩ = some (.int .u64 c) ∧ w'.cell? ⟨w.heap.size + 1, 1, none⟩ = some (.int .u64 d)) (go_keep)
    (first | (go_at_call 44; ((with_reducible refine (k1 _).mono ?_); rintro e w' ⟨rfl, rfl⟩)) | (go_at_call 44; ((with_reducible refine (k2 _).mono ?_); rintro e w' ⟨rfl, rfl⟩)))
  go_wp2
  exact bodyPost_ret (v := .agg #[.int .u64 s, .int .u64 t]) (by simp [results, Tryd.results54, go_sem]) rfl ⟨rfl, ((((Below.refl _ _).alloc (Nat.le_refl _) _).alloc (by simp) _).alloc (by simp; omega) _).drew⟩

theorem pscale_q (a b c : Int) (x z : F2) (hx : Rep a b x) (hc : U c) (hz : scale x (toF c) = z) (w : World) : Calls Tryd.prog 55 #[.agg #[.int .u64 a, .int .u64 b], .int .u64 c] w fun e w' => e = .returned (.agg #[.int .u64 (enc z.a), .int .u64 (enc z.b)]) ∧ Below w.heap.size w w' := by
  have k1 := mul_is a c (enc z.a) hx.1 hc (by rw [hx.2.2.1, ← hz]; rfl)
  have k2 := mul_is b c (enc z.b) hx.2.1 hc (by rw [hx.2.2.2, ← hz]; rfl)
  generalize enc z.a = s at *
  generalize enc z.b = t at *
  clear hx hz
  go_enter Tryd.func55, Tryd.ntmps55
  go_wp2_with fail
  go_region_held3 (fun w' => w'.cell? ⟨w.heap.size, 0, none⟩ = some (.int .u64 a) ∧ w'.cell? ⟨w.heap.size, 1, none⟩ = some (.int .u64 b)) (go_keep)
    (first | (go_at_call 45; ((with_reducible refine (k1 _).mono ?_); rintro e w' ⟨rfl, rfl⟩)) | (go_at_call 45; ((with_reducible refine (k2 _).mono ?_); rintro e w' ⟨rfl, rfl⟩)))
  go_wp2
  exact bodyPost_ret (v := .agg #[.int .u64 s, .int .u64 t]) (by simp [results, Tryd.results55, go_sem]) rfl ⟨rfl, (((Below.refl _ _).alloc (Nat.le_refl _) _).alloc (by simp) _).drew⟩

end Go.Proofs.YtflabonifbhmnaaDoor
