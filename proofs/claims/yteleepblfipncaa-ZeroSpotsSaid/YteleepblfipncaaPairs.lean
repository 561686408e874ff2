/-
  What the calls of package pair come to, as the pairs': contracts for the walk.
-/
import Derived.Test.YteleepblfipncaaFtwo
import Derived.Test.YteleepblfipncaaIs
import Derived.StillTailTactics
import Derived.Deep.RegionHeld3
import Derived.StillTactics
import Derived.Laws.Pointers
import Derived.WalkSpells
namespace Go.Proofs.Yteleepblfipncaa
open Go.RowKit
set_option linter.unusedVariables false

/-- What two numbers are as a pair. -/
def Rep (a b : Int) (x : F2) : Prop := U a ∧ U b ∧ toF a = x.a ∧ toF b = x.b
theorem rep_enc (x : F2) : Rep (enc x.a) (enc x.b) x := ⟨enc_U _, enc_U _, toF_enc _, toF_enc _⟩
theorem rep_raw {a b : Int} (ha : U a) (hb : U b) : Rep a b ⟨toF a, toF b⟩ := ⟨ha, hb, rfl, rfl⟩
theorem rep_zero : Rep 0 0 0 := rep_enc 0
theorem rep_one : Rep 1 0 1 := rep_enc 1

theorem bkeep {W w1 : World} (hb : Below W.heap.size W w1) {p : Addr} {v : Value} (h : W.cell? p = some v) : w1.cell? p = some v :=
  (hb.cell (World.block_lt_of_cell? W _ h)).trans h
theorem bfree {W w1 : World} (hb : Below W.heap.size W w1) {p : Addr} {v : Value} (h : W.cell? p = some v) (hf : W.frozen? p = false) : w1.frozen? p = false :=
  (hb.frozen (World.block_lt_of_cell? W _ h)).trans hf
theorem bcell {W w1 : World} (hb : Below W.heap.size W w1) : (∀ b o, b < W.heap.size → w1.cell? ⟨b, o, none⟩ = W.cell? ⟨b, o, none⟩) ∧ (∀ b o, b < W.heap.size → w1.frozen? ⟨b, o, none⟩ = W.frozen? ⟨b, o, none⟩) :=
  ⟨fun b o h => hb.cell (p := ⟨b, o, none⟩) h, fun b o h => hb.frozen (p := ⟨b, o, none⟩) h⟩
theorem bthen {w W w1 : World} (h : Below w.heap.size w W) (hb : Below W.heap.size W w1) : Below w.heap.size w w1 := h.trans (hb.mono h.size)
theorem wp_gen {P : Program} {c : Code} {Q : Exit → Act → World → Prop} {a : Act} {w : World} (S : World → Prop) (h : S w) (k : ∀ W, S W → c.wp P Q a W) : c.wp P Q a w := k w h

/-- A variable of two cells, unfrozen. -/
def Var (W : World) (g : Nat) (x y : Int) : Prop := W.cell? ⟨g, 0, none⟩ = some (.int .u64 x) ∧ W.cell? ⟨g, 1, none⟩ = some (.int .u64 y) ∧ W.frozen? ⟨g, 0, none⟩ = false ∧ W.frozen? ⟨g, 1, none⟩ = false
theorem Var.keep {W w1 : World} {g : Nat} {x y : Int} (h : Var W g x y) (hb : Below W.heap.size W w1) : Var w1 g x y :=
  ⟨bkeep hb h.1, bkeep hb h.2.1, bfree hb h.1 h.2.2.1, bfree hb h.2.1 h.2.2.2⟩
theorem Var.lt {W : World} {g : Nat} {x y : Int} (h : Var W g x y) : g < W.heap.size := World.block_lt_of_cell? W _ h.1
theorem Var.alloc {W : World} {g : Nat} {x y : Int} (h : Var W g x y) (o : Obj) : Var (W.alloc o) g x y :=
  h.keep ((Below.refl _ _).alloc (Nat.le_refl _) _)
theorem Var.drew {W : World} {g : Nat} {x y : Int} (h : Var W g x y) : Var W.drew g x y := h
theorem Var.new (W : World) (x y : Int) (t : TypeId) : Var (W.alloc (.cells #[.int .u64 x, .int .u64 y] t)) W.heap.size x y := by simp [Var, go_sem]
theorem Var.far {W : World} {g g' : Nat} {x y : Int} (h : Var W g x y) (hg : g' ≠ g) (o : Nat) (v : Value) : Var (W.setCell ⟨g', o, none⟩ v) g x y := by
  obtain ⟨c0, c1, f0, f1⟩ := h
  exact ⟨(World.cell?_setCell_far _ _ _ _ hg).trans c0, (World.cell?_setCell_far _ _ _ _ hg).trans c1, by simp [f0], by simp [f1]⟩
theorem Var.set {W : World} {g : Nat} {x y : Int} (h : Var W g x y) (x' y' : Int) : Var ((W.setCell ⟨g, 0, none⟩ (.int .u64 x')).setCell ⟨g, 1, none⟩ (.int .u64 y')) g x' y' := by
  obtain ⟨c0, c1, f0, f1⟩ := h
  simp [Var, go_sem, c0, c1, f0, f1]
theorem row_one {W : World} {g : Nat} {x : Int} (h0 : W.cell? ⟨g, 0, none⟩ = some (.int .u64 x)) : Row W (.slice (some ⟨g, 0, none⟩) 1 1) [x] := by
  right; right
  refine ⟨g, 0, 1, rfl, by simp, by unfold maxLen; omega, ?_⟩
  intro i hi
  have : i = 0 := by simp at hi; omega
  subst this; exact h0
theorem row_tri {W : World} {g : Nat} {x y z : Int} (h0 : W.cell? ⟨g, 0, none⟩ = some (.int .u64 x)) (h1 : W.cell? ⟨g, 1, none⟩ = some (.int .u64 y)) (h2 : W.cell? ⟨g, 2, none⟩ = some (.int .u64 z)) : Row W (.slice (some ⟨g, 0, none⟩) 3 3) [x, y, z] := by
  right; right
  refine ⟨g, 0, 3, rfl, by simp, by unfold maxLen; omega, ?_⟩
  intro i hi
  have : i = 0 ∨ i = 1 ∨ i = 2 := by simp at hi; omega
  rcases this with rfl | rfl | rfl
  · exact h0
  · exact h1
  · exact h2
theorem sum_one (x : Int) (v : Value) (w : World) (hx : U x) (hr : Row w v [x]) : Calls Try.prog 52 #[v] w fun e w' => e = .returned (.int .u64 (enc (toF x))) ∧ w = w' := by
  have h := sum_any v [x] w hr (by intro n hn; simp at hn; subst hn; exact hx)
  rw [show fsum ([x].map toF) = toF x by simp only [List.map, fsum]; grind] at h
  exact h
theorem prod_tri (x y z : Int) (p : F) (v : Value) (w : World) (hx : U x) (hy : U y) (hz : U z) (hr : Row w v [x, y, z]) (hp : toF x * (toF y * toF z) = p) : Calls Try.prog 54 #[v] w fun e w' => e = .returned (.int .u64 (enc p)) ∧ w = w' := by
  have h := prod_any v [x, y, z] w hr (by intro n hn; simp at hn; rcases hn with rfl | rfl | rfl <;> assumption)
  rw [show fprod ([x, y, z].map toF) = p by rw [← hp]; simp only [List.map, fprod]; grind] at h
  exact h

theorem lift_q (a : Int) (z : F2) (ha : U a) (hz : lift (toF a) = z) (w : World) : Calls Try.prog 31 #[.int .u64 a] w fun e w' => e = .returned (.agg #[.int .u64 (enc z.a), .int .u64 (enc z.b)]) ∧ Below w.heap.size w w' := by
  have k1 := fun W v => sum_one a v W ha
  have e1 : enc (toF a) = enc z.a := by rw [← hz]; rfl
  have e2 : (0 : Int) = enc z.b := by rw [← hz]; rfl
  rw [e1] at k1
  generalize enc z.a = x at *
  generalize enc z.b = y at *
  clear hz e1
  subst e2
  go_enter Try.func31, Try.ntmps31
  go_wp2_with (go_at_call 52; ((with_reducible refine (k1 _ _ (row_one (by simp [go_sem]))).mono ?_); rintro e w' ⟨rfl, rfl⟩))
  exact bodyPost_ret (v := .agg #[.int .u64 x, .int .u64 0]) (by simp [results, Try.results31, go_sem]) rfl ⟨rfl, ((Below.refl _ _).alloc (Nat.le_refl _) _).alloc (by simp) _⟩

theorem padd_q (a b c d : Int) (x y z : F2) (hx : Rep a b x) (hy : Rep c d y) (hz : x + y = z) (w : World) : Calls Try.prog 58 #[.agg #[.int .u64 a, .int .u64 b], .agg #[.int .u64 c, .int .u64 d]] w fun e w' => e = .returned (.agg #[.int .u64 (enc z.a), .int .u64 (enc z.b)]) ∧ Below w.heap.size w w' := by
  have k1 := add_is a c (enc z.a) hx.1 hy.1 (by rw [hx.2.2.1, hy.2.2.1, ← hz]; rfl)
  have k2 := add_is b d (enc z.b) hx.2.1 hy.2.1 (by rw [hx.2.2.2, hy.2.2.2, ← hz]; rfl)
  generalize enc z.a = s at *
  generalize enc z.b = t at *
  clear hx hy hz
  go_enter Try.func58, Try.ntmps58
  go_wp2_with fail
  go_region_held3 (fun w' => w'.cell? ⟨w.heap.size, 0, none⟩ = some (.int .u64 a) ∧ w'.cell? ⟨w.heap.size, 1, none⟩ = some (.int .u64 b) ∧ w'.cell? ⟨w.heap.size + 1, 0, none⟩ = some (.int .u64 c) ∧ w'.cell? ⟨w.heap.size + 1, 1, none⟩ = some (.int .u64 d)) (go_keep)
    (first | (go_at_call 53; ((with_reducible refine (k1 _).mono ?_); rintro e w' ⟨rfl, rfl⟩)) | (go_at_call 53; ((with_reducible refine (k2 _).mono ?_); rintro e w' ⟨rfl, rfl⟩)))
  go_wp2
  exact bodyPost_ret (v := .agg #[.int .u64 s, .int .u64 t]) (by simp [results, Try.results58, go_sem]) rfl ⟨rfl, ((((Below.refl _ _).alloc (Nat.le_refl _) _).alloc (by simp) _).alloc (by simp; omega) _).drew⟩

theorem psub_q (a b c d : Int) (x y z : F2) (hx : Rep a b x) (hy : Rep c d y) (hz : x - y = z) (w : World) : Calls Try.prog 29 #[.agg #[.int .u64 a, .int .u64 b], .agg #[.int .u64 c, .int .u64 d]] w fun e w' => e = .returned (.agg #[.int .u64 (enc z.a), .int .u64 (enc z.b)]) ∧ Below w.heap.size w w' := by
  have k1 := sub_is a c (enc z.a) hx.1 hy.1 (by rw [hx.2.2.1, hy.2.2.1, ← hz]; rfl)
  have k2 := sub_is b d (enc z.b) hx.2.1 hy.2.1 (by rw [hx.2.2.2, hy.2.2.2, ← hz]; rfl)
  generalize enc z.a = s at *
  generalize enc z.b = t at *
  clear hx hy hz
  go_enter Try.func29, Try.ntmps29
  go_wp2_with fail
  go_region_held3 (fun w' => w'.cell? ⟨w.heap.size, 0, none⟩ = some (.int .u64 a) ∧ w'.cell? ⟨w.heap.size, 1, none⟩ = some (.int .u64 b) ∧ w'.cell? ⟨w.heap.size + 1, 0, none⟩ = some (.int .u64 c) ∧ w'.cell? ⟨w.heap.size + 1, 1, none⟩ = some (.int .u64 d)) (go_keep)
    (first | (go_at_call 51; ((with_reducible refine (k1 _).mono ?_); rintro e w' ⟨rfl, rfl⟩)) | (go_at_call 51; ((with_reducible refine (k2 _).mono ?_); rintro e w' ⟨rfl, rfl⟩)))
  go_wp2
  exact bodyPost_ret (v := .agg #[.int .u64 s, .int .u64 t]) (by simp [results, Try.results29, go_sem]) rfl ⟨rfl, ((((Below.refl _ _).alloc (Nat.le_refl _) _).alloc (by simp) _).alloc (by simp; omega) _).drew⟩

theorem pscale_q (a b c : Int) (x z : F2) (hx : Rep a b x) (hc : U c) (hz : scale x (toF c) = z) (w : World) : Calls Try.prog 49 #[.agg #[.int .u64 a, .int .u64 b], .int .u64 c] w fun e w' => e = .returned (.agg #[.int .u64 (enc z.a), .int .u64 (enc z.b)]) ∧ Below w.heap.size w w' := by
  have k1 := mul_is a c (enc z.a) hx.1 hc (by rw [hx.2.2.1, ← hz]; rfl)
  have k2 := mul_is b c (enc z.b) hx.2.1 hc (by rw [hx.2.2.2, ← hz]; rfl)
  generalize enc z.a = s at *
  generalize enc z.b = t at *
  clear hx hz
  go_enter Try.func49, Try.ntmps49
  go_wp2_with fail
  go_region_held3 (fun w' => w'.cell? ⟨w.heap.size, 0, none⟩ = some (.int .u64 a) ∧ w'.cell? ⟨w.heap.size, 1, none⟩ = some (.int .u64 b)) (go_keep)
    (first | (go_at_call 37; ((with_reducible refine (k1 _).mono ?_); rintro e w' ⟨rfl, rfl⟩)) | (go_at_call 37; ((with_reducible refine (k2 _).mono ?_); rintro e w' ⟨rfl, rfl⟩)))
  go_wp2
  exact bodyPost_ret (v := .agg #[.int .u64 s, .int .u64 t]) (by simp [results, Try.results49, go_sem]) rfl ⟨rfl, (((Below.refl _ _).alloc (Nat.le_refl _) _).alloc (by simp) _).drew⟩

theorem pturn_q (a b : Int) (x z : F2) (hx : Rep a b x) (hz : turn x = z) (w : World) : Calls Try.prog 50 #[.agg #[.int .u64 a, .int .u64 b]] w fun e w' => e = .returned (.agg #[.int .u64 (enc z.a), .int .u64 (enc z.b)]) ∧ Below w.heap.size w w' := by
  have k1 := fun W v => sum_one a v W hx.1
  rw [show enc (toF a) = enc z.a by rw [hx.2.2.1, ← hz]; rfl] at k1
  have k2 := neg_is b (enc z.b) hx.2.1 (by rw [hx.2.2.2, ← hz]; rfl)
  generalize enc z.a = s at *
  generalize enc z.b = t at *
  clear hx hz
  go_enter Try.func50, Try.ntmps50
  go_wp2_with fail
  go_region_held3 (fun w' => w'.cell? ⟨w.heap.size, 0, none⟩ = some (.int .u64 a) ∧ w'.cell? ⟨w.heap.size, 1, none⟩ = some (.int .u64 b)) (go_keep)
    (first | (go_at_call 52; ((with_reducible refine (k1 _ _ (row_one (by simp [go_sem]))).mono ?_); rintro e w' ⟨rfl, rfl⟩)) | (go_at_call 61; ((with_reducible refine (k2 _).mono ?_); rintro e w' ⟨rfl, rfl⟩)))
  all_goals go_wp2
  all_goals exact bodyPost_ret (v := .agg #[.int .u64 s, .int .u64 t]) (by simp [results, Try.results50, go_sem]) rfl ⟨rfl, ((((Below.refl _ _).alloc (Nat.le_refl _) _).alloc (by simp) _).alloc (by simp; omega) _).drew⟩

theorem pnorm_q (a b : Int) (x : F2) (z : F) (hx : Rep a b x) (hz : norm x = z) (w : World) : Calls Try.prog 48 #[.agg #[.int .u64 a, .int .u64 b]] w fun e w' => e = .returned (.int .u64 (enc z)) ∧ Below w.heap.size w w' := by
  have k1 := mul_is a a (enc (x.a * x.a)) hx.1 hx.1 (by rw [hx.2.2.1])
  have k2 := fun W v hr => prod_tri 7 b b (7 * (x.b * x.b)) v W (U_lit _ rfl rfl) hx.2.1 hx.2.1 hr (by rw [hx.2.2.2, show toF 7 = 7 by decide +kernel])
  have k3 := sub_is (enc (x.a * x.a)) (enc (7 * (x.b * x.b))) (enc z) (enc_U _) (enc_U _) (by rw [toF_enc, toF_enc, ← hz]; rfl)
  generalize enc z = s at *
  generalize enc (x.a * x.a) = t at *
  generalize enc (7 * (x.b * x.b)) = r at *
  clear hx hz
  go_enter Try.func48, Try.ntmps48
  go_wp2_with fail
  go_region_held3 (fun w' => w'.cell? ⟨w.heap.size, 0, none⟩ = some (.int .u64 a) ∧ w'.cell? ⟨w.heap.size, 1, none⟩ = some (.int .u64 b)) (go_keep)
    (first | (go_at_call 54; ((with_reducible refine (k2 _ _ (row_tri (by simp [go_sem]) (by simp [go_sem]) (by simp [go_sem]))).mono ?_); rintro e w' ⟨rfl, rfl⟩)) | (go_at_call 37; ((with_reducible refine (k1 _).mono ?_); rintro e w' ⟨rfl, rfl⟩)) | (go_at_call 51; ((with_reducible refine (k3 _).mono ?_); rintro e w' ⟨rfl, rfl⟩)))
  all_goals go_wp2
  all_goals go_ret
  all_goals exact ⟨rfl, (((Below.refl _ _).alloc (Nat.le_refl _) _).alloc (by simp) _).drew⟩

theorem pmul_q (a b c d : Int) (x y z : F2) (hx : Rep a b x) (hy : Rep c d y) (hz : x * y = z) (w : World) : Calls Try.prog 32 #[.agg #[.int .u64 a, .int .u64 b], .agg #[.int .u64 c, .int .u64 d]] w fun e w' => e = .returned (.agg #[.int .u64 (enc z.a), .int .u64 (enc z.b)]) ∧ Below w.heap.size w w' := by
  have k1 := mul_is a c (enc (x.a * y.a)) hx.1 hy.1 (by rw [hx.2.2.1, hy.2.2.1])
  have k2 := fun W v hr => prod_tri 7 b d (7 * (x.b * y.b)) v W (U_lit _ rfl rfl) hx.2.1 hy.2.1 hr (by rw [hx.2.2.2, hy.2.2.2, show toF 7 = 7 by decide +kernel])
  have k3 := add_is (enc (x.a * y.a)) (enc (7 * (x.b * y.b))) (enc z.a) (enc_U _) (enc_U _) (by rw [toF_enc, toF_enc, ← hz]; rfl)
  have k4 := mul_is a d (enc (x.a * y.b)) hx.1 hy.2.1 (by rw [hx.2.2.1, hy.2.2.2])
  have k5 := mul_is b c (enc (x.b * y.a)) hx.2.1 hy.1 (by rw [hx.2.2.2, hy.2.2.1])
  have k6 := add_is (enc (x.a * y.b)) (enc (x.b * y.a)) (enc z.b) (enc_U _) (enc_U _) (by rw [toF_enc, toF_enc, ← hz]; rfl)
  generalize enc z.a = s at *
  generalize enc z.b = t at *
  generalize enc (x.a * y.a) = e1 at *
  generalize enc (7 * (x.b * y.b)) = e2 at *
  generalize enc (x.a * y.b) = e3 at *
  generalize enc (x.b * y.a) = e4 at *
  clear hx hy hz
  go_enter Try.func32, Try.ntmps32
  go_wp2_with fail
  go_region_held3 (fun w' => w'.cell? ⟨w.heap.size, 0, none⟩ = some (.int .u64 a) ∧ w'.cell? ⟨w.heap.size, 1, none⟩ = some (.int .u64 b) ∧ w'.cell? ⟨w.heap.size + 1, 0, none⟩ = some (.int .u64 c) ∧ w'.cell? ⟨w.heap.size + 1, 1, none⟩ = some (.int .u64 d)) (go_keep)
    (first | (go_at_call 54; ((with_reducible refine (k2 _ _ (row_tri (by simp [go_sem]) (by simp [go_sem]) (by simp [go_sem]))).mono ?_); rintro e w' ⟨rfl, rfl⟩)) | (go_at_call 37; ((with_reducible first | refine (k1 _).mono ?_ | refine (k4 _).mono ?_ | refine (k5 _).mono ?_); rintro e w' ⟨rfl, rfl⟩)) | (go_at_call 53; ((with_reducible first | refine (k3 _).mono ?_ | refine (k6 _).mono ?_); rintro e w' ⟨rfl, rfl⟩)))
  all_goals go_wp2
  all_goals exact bodyPost_ret (v := .agg #[.int .u64 s, .int .u64 t]) (by simp [results, Try.results32, go_sem]) rfl ⟨rfl, (((((Below.refl _ _).alloc (Nat.le_refl _) _).alloc (by simp) _).alloc (by simp; omega) _).alloc (by simp; omega) _).drew⟩

end Go.Proofs.Yteleepblfipncaa
