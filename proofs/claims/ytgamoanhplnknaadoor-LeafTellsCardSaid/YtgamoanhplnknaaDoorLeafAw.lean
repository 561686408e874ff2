/-
  The awake of layer 9's law.
-/
import Derived.Test.YtgamoanhplnknaaDoorLeafRef
namespace Go.Proofs.YtgamoanhplnknaaDoor
open Go Go.RowKit
set_option linter.unusedVariables false

/-- An opening that lies in a variable. -/
def OpenV (W : World) (g : Nat) (v0 v1 v2 : Value) : Prop := W.cell? ⟨g, 0, none⟩ = some v0 ∧ W.cell? ⟨g, 1, none⟩ = some v1 ∧ W.cell? ⟨g, 2, none⟩ = some v2
theorem OpenV.keep {W W' : World} {g : Nat} {v0 v1 v2 : Value} (h : OpenV W g v0 v1 v2) (hb : Below W.heap.size W W') : OpenV W' g v0 v1 v2 := ⟨bkeep hb h.1, bkeep hb h.2.1, bkeep hb h.2.2⟩
theorem nil_row (w : World) : RowA w none 0 [] := ⟨rfl, by unfold maxLen; omega, fun k hk => by omega⟩
theorem nil_qrow (w : World) : QRowA w none 0 [] := ⟨rfl, by unfold maxLen; omega, fun k hk => by omega⟩
theorem lit5 : sumB ⟨#[0, 5, 0, 0, 0, 0, 0, 0, 0]⟩ = leafB (rowB [5]) := by
  rw [← leafB_is]
  exact congrArg sumB (by decide +kernel)
theorem litab : sumB ⟨#[1, 97, 98]⟩ = nodeB ⟨#[97]⟩ ⟨#[98]⟩ := by
  rw [← nodeB_is]
  exact congrArg sumB (by decide +kernel)
theorem u5 : ∀ x ∈ ([5] : List Int), U x := by intro x hx; simp at hx; subst hx; unfold U; omega
theorem u50 : ∀ x ∈ ([(5, 0)] : List (Int × Int)), U x.1 ∧ U x.2 := by intro x hx; simp at hx; subst hx; unfold U; simp
theorem unil : ∀ x ∈ ([] : List Int), U x := by intro x hx; cases hx
theorem uqnil : ∀ x ∈ ([] : List (Int × Int)), U x.1 ∧ U x.2 := by intro x hx; cases hx

set_option maxRecDepth 100000 in
set_option maxHeartbeats 8000000 in
theorem lawake (G : World → Prop) (hA : AskLeaf G) (w : World) (hG : G w) : Calls Tryd.prog 5 #[] w fun e w' => e = .returned (.bool true) ∧ Below w.heap.size w w' := by
  have HK := Lib.hid (fun (W W' : World) => @AskLeaf.keep G hA W W')
  have k1 : ∀ (W : World), G W → Calls Tryd.prog 6 #[.slice (some ⟨W.heap.size, 0, none⟩) 1 1] (W.alloc (.cells #[.int .u64 5] 34)) fun e w' => e = .returned (.string (leafB (rowB [5]))) ∧ Below W.heap.size W w' := fun (W : World) (hg : G W) => hA.base (some ⟨W.heap.size, 0, none⟩) 1 1 [5] (W.alloc (.cells #[.int .u64 5] 34)) (row_one (by simp [go_sem])).at u5 (by decide) (HK.out _ _ hg ((Below.refl _ _).alloc (Nat.le_refl _) _)) |>.mono fun e w' h => ⟨h.1, bthen ((Below.refl W.heap.size W).alloc (Nat.le_refl _) _) h.2⟩
  have k2 : ∀ (W : World), G W → Calls Tryd.prog 8 #[.slice (some ⟨W.heap.size, 0, none⟩) 1 1] (W.alloc (.cells #[.int .u64 5, .int .u64 0] 39)) fun e w' => e = .returned (.string (leafB (pairB [(5, 0)]))) ∧ Below W.heap.size W w' := fun (W : World) (hg : G W) => hA.pairs (some ⟨W.heap.size, 0, none⟩) 1 1 [(5, 0)] (W.alloc (.cells #[.int .u64 5, .int .u64 0] 39)) (qrow_one (by simp [go_sem]) (by simp [go_sem])).at u50 (by decide) (HK.out _ _ hg ((Below.refl _ _).alloc (Nat.le_refl _) _)) |>.mono fun e w' h => ⟨h.1, bthen ((Below.refl W.heap.size W).alloc (Nat.le_refl _) _) h.2⟩
  have k3 := fun (W : World) (hg : G W) => hA.node ⟨#[97]⟩ ⟨#[98]⟩ W (by decide) hg
  have k4 := fun (g : Nat) (W : World) (hr : RowA W (some ⟨g, 0, none⟩) 1 [5]) (hg : G W) => hA.of (some ⟨g, 0, none⟩) 1 1 [5] none 0 0 [] (.slice none 0 0) W hr u5 (nil_qrow _) uqnil (by decide) (by decide) rfl hg
  have k5 := fun (g : Nat) (W : World) (hr : QRowA W (some ⟨g, 0, none⟩) 1 [(5, 0)]) (hg : G W) => hA.of none 0 0 [] (some ⟨g, 0, none⟩) 1 1 [(5, 0)] (.slice none 0 0) W (nil_row _) unil hr u50 (by decide) (by decide) rfl hg
  have k6 := fun (g : Nat) (W : World) (hr : RowA W (some ⟨g, 0, none⟩) 1 [5]) (hg : G W) => hA.text (some ⟨g, 0, none⟩) 1 1 [5] none 0 0 [] (.slice none 0 0) W hr u5 (nil_qrow _) uqnil (by decide) (by decide) rfl hg
  have k7 := fun (g : Nat) (W : World) (hr : QRowA W (some ⟨g, 0, none⟩) 1 [(5, 0)]) (hg : G W) => hA.text none 0 0 [] (some ⟨g, 0, none⟩) 1 1 [(5, 0)] (.slice none 0 0) W (nil_row _) unil hr u50 (by decide) (by decide) rfl hg
  have r1 := rsum1 _ _ lit5 (by decide)
  have r2 := rsum1 _ _ litab (by decide)
  rw [openB_nil] at k4 k6
  rw [openB_row] at k5 k7
  have hT : ((pairB [(5, 0)]).size : Int) = 16 := by unfold pairB; rw [pairT_size]; rfl
  rw [show rowB [5] = ⟨#[5, 0, 0, 0, 0, 0, 0, 0]⟩ by decide +kernel] at k6
  generalize leafB (rowB [5]) = Z1 at *
  generalize leafB (pairB [(5, 0)]) = Z2 at *
  generalize nodeB ⟨#[97]⟩ ⟨#[98]⟩ = Z3 at *
  generalize pairB [(5, 0)] = T at *
  clear hA
  go_enter Tryd.func5, Tryd.ntmps5
  go_upto_region 2 with fail
  refine wp_gen (fun W => Below w.heap.size w W ∧ W.cell? ⟨w.heap.size, 0, none⟩ = some (.int .u64 5) ∧ OpenV W (w.heap.size + 1) (.slice (some ⟨w.heap.size, 0, none⟩) 1 1) (.slice none 0 0) (.slice none 0 0)) ⟨?_, by simp [go_sem], by simp [go_sem], by simp [go_sem], by simp [go_sem]⟩ ?_
  · exact ((Below.refl _ _).alloc (Nat.le_refl _) _).alloc (by simp) _
  rintro W1 ⟨hB, hc, hX⟩
  obtain ⟨g1, hg1⟩ : ∃ g, w.heap.size = g := ⟨_, rfl⟩
  obtain ⟨g2, hg2⟩ : ∃ g, g1 + 1 = g := ⟨_, rfl⟩
  rw [hg1] at hc hX
  rw [hg2] at hX
  simp only [hg1, hg2]
  have HB := Lib.hid hB; have HR := Lib.hid (row_one hc).at; have HX := Lib.hid hX; have HG := Lib.hid (HK.out _ _ hG hB)
  clear hB hc hX hG hg1 hg2
  go_upto_region 3 with fail
  refine wp_gen (fun W => Below w.heap.size w W ∧ (RowA W (some ⟨g1, 0, none⟩) 1 [5] ∧ QRowA W (some ⟨W1.heap.size, 0, none⟩) 1 [(5, 0)]) ∧ OpenV W g2 (.slice (some ⟨g1, 0, none⟩) 1 1) (.slice none 0 0) (.slice none 0 0) ∧ OpenV W (W1.heap.size + 1) (.slice none 0 0) (.slice (some ⟨W1.heap.size, 0, none⟩) 1 1) (.slice none 0 0) ∧ G W) ?_ ?_
  · have hb := (((Below.refl W1.heap.size W1).alloc (Nat.le_refl _) (.cells #[.int .u64 5, .int .u64 0] 39)).alloc (by simp) (.cells #[.slice none 0 0, .slice (some ⟨W1.heap.size, 0, none⟩) 1 1, .slice none 0 0] 28))
    exact ⟨bthen HB.out hb, ⟨HR.out.keep hb, (qrow_one (by simp [go_sem]) (by simp [go_sem])).at⟩, HX.out.keep hb, ⟨by simp [go_sem], by simp [go_sem], by simp [go_sem]⟩, HK.out _ _ HG.out hb⟩
  generalize W1.heap.size = g3
  generalize g3 + 1 = g4
  clear HB HR HX HG
  rintro W2 ⟨hB, hR, hX, hY, hG⟩
  obtain ⟨x0, x1, x2⟩ := hX
  obtain ⟨y0, y1, y2⟩ := hY
  have HB := Lib.hid hB; have HR := Lib.hid hR; have HG := Lib.hid hG
  clear hB hR hG
  go_wp2_with ((first
    | (go_at_call 6; with_reducible refine (k1 _ HG.out).mono ?_)
    | (go_at_call 8; with_reducible refine (k2 _ HG.out).mono ?_)
    | (go_at_call 10; with_reducible refine (k3 _ HG.out).mono ?_)
    | (go_at_call 12; first | with_reducible refine (k4 _ _ HR.out.1 HG.out).mono ?_ | with_reducible refine (k5 _ _ HR.out.2 HG.out).mono ?_)
    | (go_at_call 14; first | with_reducible refine (k6 _ _ HR.out.1 HG.out).mono ?_ | with_reducible refine (k7 _ _ HR.out.2 HG.out).mono ?_)
    | (go_at_call 16; first | with_reducible refine (r1 _ _).mono ?_ | with_reducible refine (r2 _ _).mono ?_)); rintro e w1 ⟨rfl, hb⟩; replace HB := Lib.hid (bthen HB.out hb); replace HR := Lib.hid (And.intro (HR.out.1.keep hb) (HR.out.2.keep hb)); replace HG := Lib.hid (HK.out _ _ HG.out hb); replace x0 := bkeep hb x0; replace x1 := bkeep hb x1; replace x2 := bkeep hb x2; replace y0 := bkeep hb y0; replace y1 := bkeep hb y1; replace y2 := bkeep hb y2; clear hb)
  go_ret
  exact ⟨rfl, HB.out⟩
end Go.Proofs.YtgamoanhplnknaaDoor
