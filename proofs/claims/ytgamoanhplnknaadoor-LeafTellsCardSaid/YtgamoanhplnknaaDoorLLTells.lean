/-
  The walk of LeafTells: it answers true, where the program's calls do what is asked of them. (Written by gen_lleaf.py.)
-/
import Derived.Test.YtgamoanhplnknaaDoorLeafAw
namespace Go.Proofs.YtgamoanhplnknaaDoor
open Go Go.RowKit
set_option linter.unusedVariables false

def LTellsR (g : Nat) (a1 a2 : Option Addr) (len1 cap1 len2 cap2 : Nat) (s0 s1 Z1 Z2 Z3 Z4 Z5 : ByteArray) (sl : Nat) (v : Value) (W : World) : Prop :=
  match sl with
  | 32 => v = .slice a1 len1 cap1
  | 34 => v = .slice a1 len1 cap1
  | 39 => v = .slice a2 len2 cap2
  | 41 => v = .slice a2 len2 cap2
  | 46 => v = .pointer (some ⟨g, 0, none⟩)
  | 51 => v = .pointer (some ⟨g, 0, none⟩)
  | 48 => v = .pointer (some ⟨g, 1, none⟩)
  | 53 => v = .pointer (some ⟨g, 1, none⟩)
  | 47 => v = .string s0
  | 52 => v = .string s0
  | 49 => v = .string s1
  | 54 => v = .string s1
  | 59 => v = .agg #[.slice a1 len1 cap1, .slice a2 len2 cap2, .slice none 0 0]
  | 61 => v = .agg #[.slice a1 len1 cap1, .slice a2 len2 cap2, .slice none 0 0]
  | 66 => v = .agg #[.slice a1 len1 cap1, .slice a2 len2 cap2, .slice none 0 0]
  | 68 => v = .agg #[.slice a1 len1 cap1, .slice a2 len2 cap2, .slice none 0 0]
  | 33 => v = .string Z1
  | 35 => v = .string Z1
  | 40 => v = .string Z2
  | 42 => v = .string Z2
  | 50 => v = .string Z3
  | 55 => v = .string Z3
  | 60 => v = .string Z4
  | 62 => v = .string Z4
  | 67 => v = .string Z5
  | 69 => v = .string Z5
  | _ => v = .bool true
theorem LTellsR.keep {g : Nat} {a1 a2 : Option Addr} {len1 cap1 len2 cap2 : Nat} {s0 s1 Z1 Z2 Z3 Z4 Z5 : ByteArray} {sl : Nat} {v : Value} {W W' : World} (h : LTellsR g a1 a2 len1 cap1 len2 cap2 s0 s1 Z1 Z2 Z3 Z4 Z5 sl v W) (hb : Below W.heap.size W W') : LTellsR g a1 a2 len1 cap1 len2 cap2 s0 s1 Z1 Z2 Z3 Z4 Z5 sl v W' := h

set_option maxRecDepth 100000 in
set_option maxHeartbeats 8000000 in
theorem ltells_body (G : World → Prop) (hA : AskLeaf G) (a1 : Option Addr) (len1 cap1 : Nat) (z1 : List Int) (a2 : Option Addr) (len2 cap2 : Nat) (qs : List (Int × Int)) (s0 s1 : ByteArray) (w : World) (hG : G w) (h1 : RowA w a1 len1 z1) (hu1 : ∀ x ∈ z1, U x) (h2 : QRowA w a2 len2 qs) (hu2 : ∀ x ∈ qs, U x.1 ∧ U x.2) (hm0 : s0.size ≤ maxLen) (hm1 : s1.size ≤ maxLen) (hm : s0.size + s1.size ≤ maxLen) :
    Calls Tryd.prog 3 #[.slice a1 len1 cap1, .slice a2 len2 cap2, .agg #[.string s0, .string s1]] w fun e w' => e = .returned (.bool true) ∧ Below w.heap.size w w' := by
  unfold maxLen at hm hm0 hm1
  have aw := lawake G hA
  have HK := Lib.hid (fun (W W' : World) => @AskLeaf.keep G hA W W')
  have hba := (Below.refl w.heap.size w).alloc (Nat.le_refl _) (.cells #[.string s0, .string s1] 24)
  have HGa := Lib.hid (HK.out _ _ hG hba)
  by_cases hbig : 50 < len1 ∨ 50 < len2 ∨ 1000 < s0.size + s1.size
  · rcases Decidable.em (50 < len1) with hb | hb
    · have hbI : (50 : Int) < (len1 : Int) := by omega
      go_enter Tryd.func3, Tryd.ntmps3
      go_wp2_with (go_at_call 5; ((with_reducible refine (aw _ HGa.out).mono ?_); rintro e w1 ⟨rfl, hb1⟩))
      go_ret
      exact ⟨rfl, bthen hba hb1⟩
    · have hbI : ¬ (50 : Int) < (len1 : Int) := by omega
      rcases Decidable.em (50 < len2) with hc | hc
      · have hcI : (50 : Int) < (len2 : Int) := by omega
        go_enter Tryd.func3, Tryd.ntmps3
        go_wp2_with (go_at_call 5; ((with_reducible refine (aw _ HGa.out).mono ?_); rintro e w1 ⟨rfl, hb1⟩))
        go_ret
        exact ⟨rfl, bthen hba hb1⟩
      · have hcI : ¬ (50 : Int) < (len2 : Int) := by omega
        have hdI : (1000 : Int) < (s0.size : Int) + (s1.size : Int) := by omega
        go_enter Tryd.func3, Tryd.ntmps3
        go_wp2_with (go_at_call 5; ((with_reducible refine (aw _ HGa.out).mono ?_); rintro e w1 ⟨rfl, hb1⟩))
        go_ret
        exact ⟨rfl, bthen hba hb1⟩

  · have hbI : ¬ (50 : Int) < (len1 : Int) := by omega
    have hcI : ¬ (50 : Int) < (len2 : Int) := by omega
    have hdI : ¬ (1000 : Int) < (s0.size : Int) + (s1.size : Int) := by omega
    have hs01 : s0.size + s1.size ≤ 100000 := by omega
    have k1 := fun W h hg => hA.base a1 len1 cap1 z1 W h hu1 (by omega) hg
    have k2 := fun W h hg => hA.pairs a2 len2 cap2 qs W h hu2 (by omega) hg
    have k3 := fun W hg => hA.node s0 s1 W hs01 hg
    have k4 := fun W h h' hg => hA.of a1 len1 cap1 z1 a2 len2 cap2 qs (.slice none 0 0) W h hu1 h' hu2 (by omega) (by omega) rfl hg
    have k5 := fun W h h' hg => hA.text a1 len1 cap1 z1 a2 len2 cap2 qs (.slice none 0 0) W h hu1 h' hu2 (by omega) (by omega) rfl hg
    have r1 := fun W h => rlbase_is a1 len1 cap1 z1 W h hu1 (by omega)
    have r2 := fun W h => rlpairs_is a2 len2 cap2 qs W h hu2 (by omega)
    have r3 := fun W => rlnode_is s0 s1 W hs01
    have r4 := fun W h h' => rlof_is a1 len1 cap1 z1 a2 len2 cap2 qs (.slice none 0 0) W h hu1 h' hu2 (by omega) (by omega)
    have r5 := fun W h h' => rltext_is a1 len1 cap1 z1 a2 len2 cap2 qs (.slice none 0 0) W h hu1 h' hu2 (by omega) (by omega)
    clear hA hu1 hu2
    generalize leafB (rowB z1) = Z1 at *
    generalize leafB (pairB qs) = Z2 at *
    generalize nodeB s0 s1 = Z3 at *
    generalize leafB (openB z1 qs) = Z4 at *
    generalize openB z1 qs = Z5 at *
    have HB := Lib.hid hba; have H1 := Lib.hid (h1.keep hba); have H2 := Lib.hid (h2.keep hba)
    have hg0 : (w.alloc (.cells #[.string s0, .string s1] 24)).heap.size = w.heap.size + 1 := by simp
    clear h1 h2 hG
    go_enter Tryd.func3, Tryd.ntmps3
    clear hg0
    go_upto_region 4 with fail
    refine wp_gen (fun W => Below w.heap.size w W ∧ (W.cell? ⟨w.heap.size, 0, none⟩ = some (.string s0) ∧ W.cell? ⟨w.heap.size, 1, none⟩ = some (.string s1)) ∧ OpenV W (w.heap.size + 1) (.slice a1 len1 cap1) (.slice a2 len2 cap2) (.slice none 0 0) ∧ (RowA W a1 len1 z1 ∧ QRowA W a2 len2 qs) ∧ G W) ?_ ?_
    · have hb2 := (Below.refl (w.alloc (.cells #[.string s0, .string s1] 24)).heap.size (w.alloc (.cells #[.string s0, .string s1] 24))).alloc (Nat.le_refl _) (.cells #[.slice a1 len1 cap1, .slice a2 len2 cap2, .slice none 0 0] 28)
      exact ⟨bthen HB.out hb2, ⟨by simp [go_sem], by simp [go_sem]⟩, ⟨by simp [go_sem], by simp [go_sem], by simp [go_sem]⟩, ⟨H1.out.keep hb2, H2.out.keep hb2⟩, HK.out _ _ HGa.out hb2⟩
    clear HB H1 H2 HGa hba hbI hcI hdI hbig
    obtain ⟨g, hg⟩ : ∃ g, w.heap.size = g := ⟨_, rfl⟩
    obtain ⟨g', hg'⟩ : ∃ g', g + 1 = g' := ⟨_, rfl⟩
    simp only [hg, hg']
    rintro W ⟨hB, ⟨c0, c1⟩, ⟨d0, d1, d2⟩, ⟨h1, h2⟩, hG⟩
    replace hB : Below w.heap.size w W := by rw [hg]; exact hB
    have HB := Lib.hid hB; have H1 := Lib.hid h1; have H2 := Lib.hid h2; have HG := Lib.hid hG
    clear hB h1 h2 hG hg hg'
    refine wp_loose [(30, []), (31, [30]), (32, [31]), (33, [31, 32]), (34, [31]), (35, [31, 34]), (36, [31, 33, 35]), (37, [31, 36]), (38, [37]), (39, [38]), (40, [38, 39]), (41, [38]), (42, [38, 41]), (43, [38, 40, 42]), (44, [38, 43]), (45, [44]), (46, [45]), (47, [45, 46]), (48, [45]), (49, [45, 48]), (50, [45, 47, 49]), (51, [45]), (52, [45, 51]), (53, [45]), (54, [45, 53]), (55, [45, 52, 54]), (56, [45, 50, 55]), (57, [45, 56]), (58, [57]), (59, [58]), (60, [58, 59]), (61, [58]), (62, [58, 61]), (63, [58, 60, 62]), (64, [58, 63]), (65, [64]), (66, [65]), (67, [65, 66]), (68, [65]), (69, [65, 68]), (70, [65, 67, 69]), (71, [65, 70])]
      (LTellsR g a1 a2 len1 cap1 len2 cap2 s0 s1 Z1 Z2 Z3 Z4 Z5) (fun d => false) (by kernel_rfl) (by kernel_rfl) (fun _ _ _ _ h hb => h.keep hb) ?_ ?_
    · refine opsrun_cons ?_ (opsrun_cons ?_ (opsrun_cons ?_ (opsrun_cons ?_ (opsrun_cons ?_ (opsrun_cons ?_ (opsrun_cons ?_ (opsrun_cons ?_ (opsrun_cons ?_ (opsrun_cons ?_ (opsrun_cons ?_ (opsrun_cons ?_ (opsrun_cons ?_ (opsrun_cons ?_ (opsrun_cons ?_ (opsrun_cons ?_ (opsrun_cons ?_ (opsrun_cons ?_ (opsrun_cons ?_ (opsrun_cons ?_ (opsrun_cons ?_ (opsrun_cons ?_ (opsrun_cons ?_ (opsrun_cons ?_ (opsrun_cons ?_ (opsrun_cons ?_ (opsrun_cons ?_ (opsrun_cons ?_ (opsrun_cons ?_ (opsrun_cons ?_ (opsrun_cons ?_ (opsrun_cons ?_ (opsrun_cons ?_ (opsrun_cons ?_ (opsrun_cons ?_ (opsrun_cons ?_ (opsrun_cons ?_ (opsrun_cons ?_ (opsrun_cons ?_ (opsrun_cons ?_ (opsrun_cons ?_ (opsrun_cons ?_ opsrun_nil)))))))))))))))))))))))))))))))))))))))))
      all_goals
        refine OpRuns.any ?_
        intro Q0 σ W' K hb hn hK
        simp only [fill, List.map, Act.put, List.setIfInBounds_toArray, List.set_cons_zero, List.set_cons_succ] at hK ⊢
      · clear hn
        go_simp
        go_at_call 5
        refine (aw _ (HK.out _ _ HG.out hb)).mono ?_
        rintro e w1 ⟨rfl, hb1⟩
        exact hK _ _ rfl hb1 (fun h => absurd h (by decide))
      · have h30 : σ 30 = _ := hn 30 (by decide)
        clear hn
        simp only [h30] at hK
        go_simp
        exact hK _ _ rfl (Below.refl _ _) (fun h => absurd h (by decide))
      · have h31 : σ 31 = _ := hn 31 (by decide)
        clear hn
        simp only [h31] at hK
        go_simp
        exact hK _ _ rfl (Below.refl _ _) (fun h => absurd h (by decide))
      · have h31 : σ 31 = _ := hn 31 (by decide)
        have h32 : σ 32 = _ := hn 32 (by decide)
        clear hn
        simp only [h31, h32] at hK
        go_simp
        go_at_call 6
        refine (k1 _ (H1.out.keep hb) (HK.out _ _ HG.out hb)).mono ?_
        rintro e w1 ⟨rfl, hb1⟩
        exact hK _ _ rfl hb1 (fun h => absurd h (by decide))
      · have h31 : σ 31 = _ := hn 31 (by decide)
        clear hn
        simp only [h31] at hK
        go_simp
        exact hK _ _ rfl (Below.refl _ _) (fun h => absurd h (by decide))
      · have h31 : σ 31 = _ := hn 31 (by decide)
        have h34 : σ 34 = _ := hn 34 (by decide)
        clear hn
        simp only [h31, h34] at hK
        go_simp
        go_at_call 7
        refine (r1 _ (H1.out.keep hb)).mono ?_
        rintro e w1 ⟨rfl, hb1⟩
        exact hK _ _ rfl hb1 (fun h => absurd h (by decide))
      · have h31 : σ 31 = _ := hn 31 (by decide)
        have h33 : σ 33 = _ := hn 33 (by decide)
        have h35 : σ 35 = _ := hn 35 (by decide)
        clear hn
        simp only [h31, h33, h35] at hK
        go_simp
        exact hK _ _ rfl (Below.refl _ _) (fun h => absurd h (by decide))
      · have h31 : σ 31 = _ := hn 31 (by decide)
        have h36 : σ 36 = _ := hn 36 (by decide)
        clear hn
        simp only [h31, h36] at hK
        go_simp
        exact hK _ _ rfl (Below.refl _ _) (fun h => absurd h (by decide))
      · have h37 : σ 37 = _ := hn 37 (by decide)
        clear hn
        simp only [h37] at hK
        go_simp
        exact hK _ _ rfl (Below.refl _ _) (fun h => absurd h (by decide))
      · have h38 : σ 38 = _ := hn 38 (by decide)
        clear hn
        simp only [h38] at hK
        go_simp
        exact hK _ _ rfl (Below.refl _ _) (fun h => absurd h (by decide))
      · have h38 : σ 38 = _ := hn 38 (by decide)
        have h39 : σ 39 = _ := hn 39 (by decide)
        clear hn
        simp only [h38, h39] at hK
        go_simp
        go_at_call 8
        refine (k2 _ (H2.out.keep hb) (HK.out _ _ HG.out hb)).mono ?_
        rintro e w1 ⟨rfl, hb1⟩
        exact hK _ _ rfl hb1 (fun h => absurd h (by decide))
      · have h38 : σ 38 = _ := hn 38 (by decide)
        clear hn
        simp only [h38] at hK
        go_simp
        exact hK _ _ rfl (Below.refl _ _) (fun h => absurd h (by decide))
      · have h38 : σ 38 = _ := hn 38 (by decide)
        have h41 : σ 41 = _ := hn 41 (by decide)
        clear hn
        simp only [h38, h41] at hK
        go_simp
        go_at_call 9
        refine (r2 _ (H2.out.keep hb)).mono ?_
        rintro e w1 ⟨rfl, hb1⟩
        exact hK _ _ rfl hb1 (fun h => absurd h (by decide))
      · have h38 : σ 38 = _ := hn 38 (by decide)
        have h40 : σ 40 = _ := hn 40 (by decide)
        have h42 : σ 42 = _ := hn 42 (by decide)
        clear hn
        simp only [h38, h40, h42] at hK
        go_simp
        exact hK _ _ rfl (Below.refl _ _) (fun h => absurd h (by decide))
      · have h38 : σ 38 = _ := hn 38 (by decide)
        have h43 : σ 43 = _ := hn 43 (by decide)
        clear hn
        simp only [h38, h43] at hK
        go_simp
        exact hK _ _ rfl (Below.refl _ _) (fun h => absurd h (by decide))
      · have h44 : σ 44 = _ := hn 44 (by decide)
        clear hn
        simp only [h44] at hK
        go_simp
        exact hK _ _ rfl (Below.refl _ _) (fun h => absurd h (by decide))
      · have h45 : σ 45 = _ := hn 45 (by decide)
        clear hn
        simp only [h45] at hK
        go_simp
        exact hK _ _ rfl (Below.refl _ _) (fun h => absurd h (by decide))
      · have h45 : σ 45 = _ := hn 45 (by decide)
        have h46 : σ 46 = _ := hn 46 (by decide)
        clear hn
        simp only [h45, h46] at hK
        have c0' := bkeep hb c0
        clear c0
        go_simp
        exact hK _ _ rfl (Below.refl _ _) (fun h => absurd h (by decide))
      · have h45 : σ 45 = _ := hn 45 (by decide)
        clear hn
        simp only [h45] at hK
        go_simp
        exact hK _ _ rfl (Below.refl _ _) (fun h => absurd h (by decide))
      · have h45 : σ 45 = _ := hn 45 (by decide)
        have h48 : σ 48 = _ := hn 48 (by decide)
        clear hn
        simp only [h45, h48] at hK
        have c1' := bkeep hb c1
        clear c1
        go_simp
        exact hK _ _ rfl (Below.refl _ _) (fun h => absurd h (by decide))
      · have h45 : σ 45 = _ := hn 45 (by decide)
        have h47 : σ 47 = _ := hn 47 (by decide)
        have h49 : σ 49 = _ := hn 49 (by decide)
        clear hn
        simp only [h45, h47, h49] at hK
        go_simp
        go_at_call 10
        refine (k3 _  (HK.out _ _ HG.out hb)).mono ?_
        rintro e w1 ⟨rfl, hb1⟩
        exact hK _ _ rfl hb1 (fun h => absurd h (by decide))
      · have h45 : σ 45 = _ := hn 45 (by decide)
        clear hn
        simp only [h45] at hK
        go_simp
        exact hK _ _ rfl (Below.refl _ _) (fun h => absurd h (by decide))
      · have h45 : σ 45 = _ := hn 45 (by decide)
        have h51 : σ 51 = _ := hn 51 (by decide)
        clear hn
        simp only [h45, h51] at hK
        have c0' := bkeep hb c0
        clear c0
        go_simp
        exact hK _ _ rfl (Below.refl _ _) (fun h => absurd h (by decide))
      · have h45 : σ 45 = _ := hn 45 (by decide)
        clear hn
        simp only [h45] at hK
        go_simp
        exact hK _ _ rfl (Below.refl _ _) (fun h => absurd h (by decide))
      · have h45 : σ 45 = _ := hn 45 (by decide)
        have h53 : σ 53 = _ := hn 53 (by decide)
        clear hn
        simp only [h45, h53] at hK
        have c1' := bkeep hb c1
        clear c1
        go_simp
        exact hK _ _ rfl (Below.refl _ _) (fun h => absurd h (by decide))
      · have h45 : σ 45 = _ := hn 45 (by decide)
        have h52 : σ 52 = _ := hn 52 (by decide)
        have h54 : σ 54 = _ := hn 54 (by decide)
        clear hn
        simp only [h45, h52, h54] at hK
        go_simp
        go_at_call 11
        refine (r3 _ ).mono ?_
        rintro e w1 ⟨rfl, hb1⟩
        exact hK _ _ rfl hb1 (fun h => absurd h (by decide))
      · have h45 : σ 45 = _ := hn 45 (by decide)
        have h50 : σ 50 = _ := hn 50 (by decide)
        have h55 : σ 55 = _ := hn 55 (by decide)
        clear hn
        simp only [h45, h50, h55] at hK
        go_simp
        exact hK _ _ rfl (Below.refl _ _) (fun h => absurd h (by decide))
      · have h45 : σ 45 = _ := hn 45 (by decide)
        have h56 : σ 56 = _ := hn 56 (by decide)
        clear hn
        simp only [h45, h56] at hK
        go_simp
        exact hK _ _ rfl (Below.refl _ _) (fun h => absurd h (by decide))
      · have h57 : σ 57 = _ := hn 57 (by decide)
        clear hn
        simp only [h57] at hK
        go_simp
        exact hK _ _ rfl (Below.refl _ _) (fun h => absurd h (by decide))
      · have h58 : σ 58 = _ := hn 58 (by decide)
        clear hn
        simp only [h58] at hK
        have d0' := bkeep hb d0
        have d1' := bkeep hb d1
        have d2' := bkeep hb d2
        clear d0 d1 d2
        go_simp
        exact hK _ _ rfl (Below.refl _ _) (fun h => absurd h (by decide))
      · have h58 : σ 58 = _ := hn 58 (by decide)
        have h59 : σ 59 = _ := hn 59 (by decide)
        clear hn
        simp only [h58, h59] at hK
        go_simp
        go_at_call 12
        refine (k4 _ (H1.out.keep hb) (H2.out.keep hb) (HK.out _ _ HG.out hb)).mono ?_
        rintro e w1 ⟨rfl, hb1⟩
        exact hK _ _ rfl hb1 (fun h => absurd h (by decide))
      · have h58 : σ 58 = _ := hn 58 (by decide)
        clear hn
        simp only [h58] at hK
        have d0' := bkeep hb d0
        have d1' := bkeep hb d1
        have d2' := bkeep hb d2
        clear d0 d1 d2
        go_simp
        exact hK _ _ rfl (Below.refl _ _) (fun h => absurd h (by decide))
      · have h58 : σ 58 = _ := hn 58 (by decide)
        have h61 : σ 61 = _ := hn 61 (by decide)
        clear hn
        simp only [h58, h61] at hK
        go_simp
        go_at_call 13
        refine (r4 _ (H1.out.keep hb) (H2.out.keep hb)).mono ?_
        rintro e w1 ⟨rfl, hb1⟩
        exact hK _ _ rfl hb1 (fun h => absurd h (by decide))
      · have h58 : σ 58 = _ := hn 58 (by decide)
        have h60 : σ 60 = _ := hn 60 (by decide)
        have h62 : σ 62 = _ := hn 62 (by decide)
        clear hn
        simp only [h58, h60, h62] at hK
        go_simp
        exact hK _ _ rfl (Below.refl _ _) (fun h => absurd h (by decide))
      · have h58 : σ 58 = _ := hn 58 (by decide)
        have h63 : σ 63 = _ := hn 63 (by decide)
        clear hn
        simp only [h58, h63] at hK
        go_simp
        exact hK _ _ rfl (Below.refl _ _) (fun h => absurd h (by decide))
      · have h64 : σ 64 = _ := hn 64 (by decide)
        clear hn
        simp only [h64] at hK
        go_simp
        exact hK _ _ rfl (Below.refl _ _) (fun h => absurd h (by decide))
      · have h65 : σ 65 = _ := hn 65 (by decide)
        clear hn
        simp only [h65] at hK
        have d0' := bkeep hb d0
        have d1' := bkeep hb d1
        have d2' := bkeep hb d2
        clear d0 d1 d2
        go_simp
        exact hK _ _ rfl (Below.refl _ _) (fun h => absurd h (by decide))
      · have h65 : σ 65 = _ := hn 65 (by decide)
        have h66 : σ 66 = _ := hn 66 (by decide)
        clear hn
        simp only [h65, h66] at hK
        go_simp
        go_at_call 14
        refine (k5 _ (H1.out.keep hb) (H2.out.keep hb) (HK.out _ _ HG.out hb)).mono ?_
        rintro e w1 ⟨rfl, hb1⟩
        exact hK _ _ rfl hb1 (fun h => absurd h (by decide))
      · have h65 : σ 65 = _ := hn 65 (by decide)
        clear hn
        simp only [h65] at hK
        have d0' := bkeep hb d0
        have d1' := bkeep hb d1
        have d2' := bkeep hb d2
        clear d0 d1 d2
        go_simp
        exact hK _ _ rfl (Below.refl _ _) (fun h => absurd h (by decide))
      · have h65 : σ 65 = _ := hn 65 (by decide)
        have h68 : σ 68 = _ := hn 68 (by decide)
        clear hn
        simp only [h65, h68] at hK
        go_simp
        go_at_call 15
        refine (r5 _ (H1.out.keep hb) (H2.out.keep hb)).mono ?_
        rintro e w1 ⟨rfl, hb1⟩
        exact hK _ _ rfl hb1 (fun h => absurd h (by decide))
      · have h65 : σ 65 = _ := hn 65 (by decide)
        have h67 : σ 67 = _ := hn 67 (by decide)
        have h69 : σ 69 = _ := hn 69 (by decide)
        clear hn
        simp only [h65, h67, h69] at hK
        go_simp
        exact hK _ _ rfl (Below.refl _ _) (fun h => absurd h (by decide))
      · have h65 : σ 65 = _ := hn 65 (by decide)
        have h70 : σ 70 = _ := hn 70 (by decide)
        clear hn
        simp only [h65, h70] at hK
        go_simp
        exact hK _ _ rfl (Below.refl _ _) (fun h => absurd h (by decide))
    · intro σ W' hb hR' hF
      have h71 : σ 71 = _ := hR' 71 (by decide)
      clear hR' hF
      simp only [fill, List.map, Act.put, List.setIfInBounds_toArray, List.set_cons_zero, List.set_cons_succ, List.length_cons, List.length_nil, List.drop_succ_cons, List.drop_zero, Nat.reduceAdd, h71]
      clear h71
      go_wp2_with fail
      go_ret
      exact ⟨rfl, bthen HB.out hb⟩
end Go.Proofs.YtgamoanhplnknaaDoor
