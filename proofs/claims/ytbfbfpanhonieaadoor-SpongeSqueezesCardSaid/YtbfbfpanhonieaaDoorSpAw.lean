/-
  The awake of layer 12's law. (Written by gen_saw.py.)
-/
import Derived.Test.YtbfbfpanhonieaaDoorSpongeRef
namespace Go.Proofs.YtbfbfpanhonieaaDoor
open Go Go.RowKit Go.Sort Go.BigFrame
set_option linter.unusedVariables false

abbrev litA : ByteArray := ⟨#[97]⟩
abbrev litBC : ByteArray := ⟨#[98, 99]⟩
theorem tx1_sum (s z : ByteArray) (h : sumB s = z) : sumB (cat (tx [s]) 1) = z := by rw [cat_one]; exact h
theorem new_a : sumB (⟨#[2, 97]⟩ : ByteArray) = newB litA := by rw [← newB_is]; exact congrArg sumB (by decide +kernel)
theorem one_str (W : World) (s : ByteArray) (t : TypeId) : StrA (W.alloc (.cells #[.string s] t)) (some ⟨W.heap.size, 0, none⟩) 1 (fun _ => s) := str_lit W _ t 1 _ (by unfold maxLen; omega) fun j hj => by
  have : j = 0 := by omega
  subst this
  rfl
theorem no_str (W : World) (f : Nat → ByteArray) : StrA W none 0 f := ⟨by unfold maxLen; omega, fun k hk => by omega⟩
theorem absL_one (s t : ByteArray) : absL s (fun _ => t) 1 = absB s t := rfl
/-- One text is absorbed, of a slice that is a literal. -/
theorem absorb_one {G : World → Prop} (hA : AskSponge G) (s t : ByteArray) (c : Int) (W : World) (o : TypeId) (hs : s.size ≤ 10000) (ht : t.size ≤ 10000) (hg : G W) :
    Calls Tryd.prog 9 #[spong s c, .slice (some ⟨W.heap.size, 0, none⟩) 1 1] (W.alloc (.cells #[.string t] o)) fun e w' => e = .returned (spong (absB s t) 0) ∧ Below W.heap.size W w' := by
  have hb := (Below.refl W.heap.size W).alloc (Nat.le_refl _) (.cells #[.string t] o)
  exact (hA.absorb s c (some ⟨W.heap.size, 0, none⟩) 1 1 (fun _ => t) _ (one_str W t o) (Nat.le_refl _) (by unfold maxLen; omega) (fun h => by cases h) (by decide) (fun _ _ => ht) hs (hA.keep hg hb)).mono fun e w' h => ⟨h.1, bthen hb h.2⟩
theorem absorb_none {G : World → Prop} (hA : AskSponge G) (s : ByteArray) (c : Int) (W : World) (hs : s.size ≤ 10000) (hg : G W) :
    Calls Tryd.prog 9 #[spong s c, .slice none 0 0] W fun e w' => e = .returned (spong s c) ∧ Below W.heap.size W w' :=
  hA.absorb s c none 0 0 (fun _ => s) _ (no_str W _) (Nat.le_refl _) (by unfold maxLen; omega) (fun h => ⟨rfl, rfl⟩) (by decide) (fun k hk => by omega) hs hg
def SAwR (g1 g2 g4 : Nat) (Z X U' E0 E2 : ByteArray) (sl : Nat) (v : Value) (W : World) : Prop :=
  match sl with
  | 14 => v = .agg #[.string Z, .int .i64 0]
  | 15 => StrL W v 1 [⟨#[2, 97]⟩]
  | 16 => v = .string Z
  | 17 => v = .agg #[.string Z, .int .i64 0]
  | 20 => v = .pointer (some ⟨g2, 1, none⟩)
  | 21 => v = .int .i64 1
  | 25 => v = .pointer (some ⟨g2, 0, none⟩)
  | 26 => v = .string Z
  | 27 => v = .pointer (some ⟨g1, 0, none⟩)
  | 28 => v = .string Z
  | 32 => v = .string X
  | 33 => v = .pointer (some ⟨g1, 0, none⟩)
  | 34 => v = .string Z
  | 35 => v = .string E0
  | 36 => StrL W v 3 [⟨#[3]⟩, Z, E0]
  | 37 => v = .string X
  | 41 => v = .agg #[.string U', .int .i64 0]
  | 42 => v = .pointer (some ⟨g1, 0, none⟩)
  | 43 => v = .string Z
  | 44 => v = .string E2
  | 45 => StrL W v 4 [⟨#[2]⟩, Z, E2, ⟨#[98, 99]⟩]
  | 46 => v = .string U'
  | 47 => v = .agg #[.string U', .int .i64 0]
  | 51 => v = .agg #[.string Z, .int .i64 0]
  | 52 => v = .agg #[.string Z, .int .i64 0]
  | 53 => v = .agg #[.string Z, .int .i64 0]
  | _ => v = .bool true
theorem SAwR.keep {g1 g2 g4 : Nat} {Z X U' E0 E2 : ByteArray} {sl : Nat} {v : Value} {W W' : World} (h : SAwR g1 g2 g4 Z X U' E0 E2 sl v W) (hb : Below W.heap.size W W') : SAwR g1 g2 g4 Z X U' E0 E2 sl v W' := by
  unfold SAwR at *
  split at h
  all_goals first | exact h | (exact StrL.keep h hb)
set_option maxRecDepth 100000 in
set_option maxHeartbeats 8000000 in
theorem spawake (G : World → Prop) (hA : AskSponge G) (w : World) (hG0 : G w) : Calls Tryd.prog 6 #[] w fun e w' => e = .returned (.bool true) ∧ Below w.heap.size w w' := by
  have HK := Lib.hid (fun (W W' : World) => @AskSponge.keep G hA W W')
  have HG0 := Lib.hid hG0
  have hz := newB_size litA
  have k1 := fun W hg => hA.new litA W (by decide) hg
  have k2 := fun W hg => hA.squeeze (newB litA) 0 W (by omega) (by decide) hg
  have k3 := fun W o hg => absorb_one hA (newB litA) litBC 1 W o (by omega) (by decide) hg
  have k4 := fun W hg => absorb_none hA (newB litA) 0 W (by omega) hg
  have e0 := reight_is 0 (by unfold U; omega)
  have e2 := reight_is 2 (by unfold U; omega)
  have hE0 := eightB_size 0
  have hE2 := eightB_size 2
  have hl : ∀ a b c d : ByteArray, a.size ≤ 100 → b.size ≤ 100 → c.size ≤ 100 → d.size ≤ 100 → lens (tx [a, b, c, d]) 4 ≤ 1000000 ∧ lens (tx [a, b, c]) 3 ≤ 1000000 ∧ lens (tx [a]) 1 ≤ 1000000 := by
    intro a b c d h1 h2 h3 h4
    refine ⟨?_, ?_, ?_⟩ <;> simp only [lens, tx, List.getD, List.getElem?_cons_zero, List.getElem?_cons_succ, Option.getD_some] <;> omega
  have m1 := fun v W => rsumL [⟨#[2, 97]⟩] 1 (newB litA) (tx1_sum _ _ new_a) (hl _ litA litA litA (by decide) (by decide) (by decide) (by decide)).2.2 v W
  have m3 := fun v W => rsumL [byte3, newB litA, eightB 0] 3 (sqB (newB litA) 0) (by rw [cat_tx3]; exact sqB_is _ 0) (hl _ _ _ litA (by decide) (by omega) (by omega) (by decide)).2.1 v W
  have m4 := fun v W => rsumL [byte2, newB litA, eightB 2, litBC] 4 (absB (newB litA) litBC) (by rw [cat_tx4]; exact absB_is _ litBC) (hl _ _ _ _ (by decide) (by omega) (by omega) (by decide)).1 v W
  rw [show IntKind.i64.wrap (0 + 1) = 1 by decide +kernel] at k2
  generalize sqB (newB litA) 0 = X at *
  generalize absB (newB litA) litBC = U' at *
  generalize newB litA = Z at *
  generalize eightB 0 = E0 at *
  generalize eightB 2 = E2 at *
  clear hA hl hE0 hE2 hG0
  go_enter Tryd.func6, Tryd.ntmps6
  go_upto_region 2 with (go_at_call 11; (with_reducible refine (k1 _ HG0.out).mono ?_); rintro e w1 ⟨rfl, hb⟩)
  refine wp_gen (fun W => Below w.heap.size w W ∧ Duo W w1.heap.size (.string Z) (.int .i64 0)) ⟨hb.alloc hb.size _, by simp [Duo, go_sem]⟩ ?_
  generalize w1.heap.size = g1
  clear hb
  rintro W1 ⟨hB, hD1⟩
  have HB := Lib.hid hB; have HD1 := Lib.hid hD1
  obtain ⟨a0, a1, _, _⟩ := hD1
  clear hB
  go_upto_region 3 with (go_at_call 7; (with_reducible refine (k2 _ (HK.out _ _ HG0.out HB.out)).mono ?_); rintro e w2 ⟨rfl, hb⟩)
  have hb' := bthen HB.out hb
  have hd := HD1.out.keep hb
  have hl := hd.lt
  refine wp_gen (fun W => Below w.heap.size w W ∧ Duo W g1 (.string Z) (.int .i64 0) ∧ Duo W w2.heap.size (.string Z) (.int .i64 1)) ⟨hb'.alloc hb'.size _, hd.keep ((Below.refl _ _).alloc (Nat.le_refl _) _), by simp [Duo, go_sem]⟩ ?_
  clear HB HD1 hb' hd hl
  generalize w2.heap.size = g2
  clear hb a0 a1
  rintro W2 ⟨hB, hD1, hD2⟩
  have HB := Lib.hid hB; have HD1 := Lib.hid hD1; have HD2 := Lib.hid hD2
  obtain ⟨a0, a1, _, _⟩ := hD1
  obtain ⟨b0, b1, _, _⟩ := hD2
  clear hB
  go_upto_region 4 with (go_at_call 9; (with_reducible refine (k3 _ _ (HK.out _ _ HG0.out HB.out)).mono ?_); rintro e w3 ⟨rfl, hb⟩)
  have hb' := bthen HB.out hb
  have hd1 := HD1.out.keep hb
  have hd2 := HD2.out.keep hb
  have hl1 := hd1.lt
  have hl2 := hd2.lt
  refine wp_gen (fun W => Below w.heap.size w W ∧ Duo W g1 (.string Z) (.int .i64 0) ∧ Duo W g2 (.string Z) (.int .i64 1) ∧ Duo W w3.heap.size (.string U') (.int .i64 0)) ⟨hb'.alloc hb'.size _, hd1.keep ((Below.refl _ _).alloc (Nat.le_refl _) _), hd2.keep ((Below.refl _ _).alloc (Nat.le_refl _) _), by simp [Duo, go_sem]⟩ ?_
  clear HB HD1 HD2 hb' hd1 hd2 hl1 hl2
  generalize w3.heap.size = g4
  clear hb a0 a1 b0 b1
  rintro W3 ⟨hB, ⟨a0, a1, _, _⟩, ⟨b0, b1, _, _⟩, ⟨c0, c1, _, _⟩⟩
  have HB := Lib.hid hB
  clear hB k1 k2 k3
  refine wp_loose [(14, []), (15, []), (16, [15]), (17, [16]), (18, [14, 17]), (19, [18]), (20, [19]), (21, [19, 20]), (22, [19, 21]), (23, [19, 22]), (24, [23]), (25, [24]), (26, [24, 25]), (27, [24]), (28, [24, 27]), (29, [24, 26, 28]), (30, [24, 29]), (31, [30]), (32, [31]), (33, [31]), (34, [31, 33]), (35, [31]), (36, [31, 34, 35]), (37, [31, 36]), (38, [31, 32, 37]), (39, [31, 38]), (40, [39]), (41, [40]), (42, [40]), (43, [40, 42]), (44, [40]), (45, [40, 43, 44]), (46, [40, 45]), (47, [40, 46]), (48, [40, 41, 47]), (49, [40, 48]), (50, [49]), (51, [50]), (52, [50, 51]), (53, [50]), (54, [50, 52, 53]), (55, [50, 54])]
    (SAwR g1 g2 g4 Z X U' E0 E2) (fun d => false) (by kernel_rfl) (by kernel_rfl) (fun _ _ _ _ h hb => h.keep hb) ?_ ?_
  · refine opsrun_cons ?_ (opsrun_cons ?_ (opsrun_cons ?_ (opsrun_cons ?_ (opsrun_cons ?_ (opsrun_cons ?_ (opsrun_cons ?_ (opsrun_cons ?_ (opsrun_cons ?_ (opsrun_cons ?_ (opsrun_cons ?_ (opsrun_cons ?_ (opsrun_cons ?_ (opsrun_cons ?_ (opsrun_cons ?_ (opsrun_cons ?_ (opsrun_cons ?_ (opsrun_cons ?_ (opsrun_cons ?_ (opsrun_cons ?_ (opsrun_cons ?_ (opsrun_cons ?_ (opsrun_cons ?_ (opsrun_cons ?_ (opsrun_cons ?_ (opsrun_cons ?_ (opsrun_cons ?_ (opsrun_cons ?_ (opsrun_cons ?_ (opsrun_cons ?_ (opsrun_cons ?_ (opsrun_cons ?_ (opsrun_cons ?_ (opsrun_cons ?_ (opsrun_cons ?_ (opsrun_cons ?_ (opsrun_cons ?_ (opsrun_cons ?_ (opsrun_cons ?_ (opsrun_cons ?_ (opsrun_cons ?_ (opsrun_cons ?_ opsrun_nil)))))))))))))))))))))))))))))))))))))))))
    all_goals
      refine OpRuns.any ?_
      intro Q0 σ W' K hb hn hK
      simp only [fill, List.map, Act.put, List.setIfInBounds_toArray, List.set_cons_zero, List.set_cons_succ] at hK ⊢
    · clear hn
      have a0' := bkeep hb a0
      have a1' := bkeep hb a1
      clear a0 a1
      go_simp
      exact hK _ _ rfl (Below.refl _ _) (fun h => absurd h (by decide))
    · clear hn
      go_simp
      exact hK _ _ (StrL.new _ [⟨#[2, 97]⟩] 1 _ rfl (by decide)) ((Below.refl _ _).alloc (Nat.le_refl _) _) (fun h => absurd h (by decide))
    · have p15 : StrL W' (σ 15) 1 [⟨#[2, 97]⟩] := hn 15 (by decide)
      clear hn
      obtain ⟨b, e, hs⟩ := p15
      simp only [e] at hK
      go_simp
      go_at_call 13
      refine (m1 _ _ ⟨b, rfl, hs⟩).mono ?_
      rintro e w1 ⟨rfl, hb1⟩
      exact hK _ _ rfl hb1 (fun h => absurd h (by decide))
    · have h16 : σ 16 = _ := hn 16 (by decide)
      clear hn
      simp only [h16] at hK
      go_simp
      exact hK _ _ rfl (Below.refl _ _) (fun h => absurd h (by decide))
    · have h14 : σ 14 = _ := hn 14 (by decide)
      have h17 : σ 17 = _ := hn 17 (by decide)
      clear hn
      simp only [h14, h17] at hK
      go_simp
      exact hK _ _ rfl (Below.refl _ _) (fun h => absurd h (by decide))
    · have h18 : σ 18 = _ := hn 18 (by decide)
      clear hn
      simp only [h18] at hK
      go_simp
      exact hK _ _ rfl (Below.refl _ _) (fun h => absurd h (by decide))
    · have h19 : σ 19 = _ := hn 19 (by decide)
      clear hn
      simp only [h19] at hK
      go_simp
      exact hK _ _ rfl (Below.refl _ _) (fun h => absurd h (by decide))
    · have h19 : σ 19 = _ := hn 19 (by decide)
      have h20 : σ 20 = _ := hn 20 (by decide)
      clear hn
      simp only [h19, h20] at hK
      have b1' := bkeep hb b1
      clear b1
      go_simp
      exact hK _ _ rfl (Below.refl _ _) (fun h => absurd h (by decide))
    · have h19 : σ 19 = _ := hn 19 (by decide)
      have h21 : σ 21 = _ := hn 21 (by decide)
      clear hn
      simp only [h19, h21] at hK
      go_simp
      exact hK _ _ rfl (Below.refl _ _) (fun h => absurd h (by decide))
    · have h19 : σ 19 = _ := hn 19 (by decide)
      have h22 : σ 22 = _ := hn 22 (by decide)
      clear hn
      simp only [h19, h22] at hK
      go_simp
      exact hK _ _ rfl (Below.refl _ _) (fun h => absurd h (by decide))
    · have h23 : σ 23 = _ := hn 23 (by decide)
      clear hn
      simp only [h23] at hK
      go_simp
      exact hK _ _ rfl (Below.refl _ _) (fun h => absurd h (by decide))
    · have h24 : σ 24 = _ := hn 24 (by decide)
      clear hn
      simp only [h24] at hK
      go_simp
      exact hK _ _ rfl (Below.refl _ _) (fun h => absurd h (by decide))
    · have h24 : σ 24 = _ := hn 24 (by decide)
      have h25 : σ 25 = _ := hn 25 (by decide)
      clear hn
      simp only [h24, h25] at hK
      have b0' := bkeep hb b0
      clear b0
      go_simp
      exact hK _ _ rfl (Below.refl _ _) (fun h => absurd h (by decide))
    · have h24 : σ 24 = _ := hn 24 (by decide)
      clear hn
      simp only [h24] at hK
      go_simp
      exact hK _ _ rfl (Below.refl _ _) (fun h => absurd h (by decide))
    · have h24 : σ 24 = _ := hn 24 (by decide)
      have h27 : σ 27 = _ := hn 27 (by decide)
      clear hn
      simp only [h24, h27] at hK
      have a0' := bkeep hb a0
      clear a0
      go_simp
      exact hK _ _ rfl (Below.refl _ _) (fun h => absurd h (by decide))
    · have h24 : σ 24 = _ := hn 24 (by decide)
      have h26 : σ 26 = _ := hn 26 (by decide)
      have h28 : σ 28 = _ := hn 28 (by decide)
      clear hn
      simp only [h24, h26, h28] at hK
      go_simp
      exact hK _ _ rfl (Below.refl _ _) (fun h => absurd h (by decide))
    · have h24 : σ 24 = _ := hn 24 (by decide)
      have h29 : σ 29 = _ := hn 29 (by decide)
      clear hn
      simp only [h24, h29] at hK
      go_simp
      exact hK _ _ rfl (Below.refl _ _) (fun h => absurd h (by decide))
    · have h30 : σ 30 = _ := hn 30 (by decide)
      clear hn
      simp only [h30] at hK
      go_simp
      exact hK _ _ rfl (Below.refl _ _) (fun h => absurd h (by decide))
    · have h31 : σ 31 = _ := hn 31 (by decide)
      clear hn
      simp only [h31] at hK
      go_simp
      exact hK _ _ rfl (Below.refl _ _) (fun h => absurd h (by decide))
    · have h31 : σ 31 = _ := hn 31 (by decide)
      clear hn
      simp only [h31] at hK
      go_simp
      exact hK _ _ rfl (Below.refl _ _) (fun h => absurd h (by decide))
    · have h31 : σ 31 = _ := hn 31 (by decide)
      have h33 : σ 33 = _ := hn 33 (by decide)
      clear hn
      simp only [h31, h33] at hK
      have a0' := bkeep hb a0
      clear a0
      go_simp
      exact hK _ _ rfl (Below.refl _ _) (fun h => absurd h (by decide))
    · have h31 : σ 31 = _ := hn 31 (by decide)
      clear hn
      simp only [h31] at hK
      go_simp
      go_at_call 14
      refine (e0 _).mono ?_
      rintro e w1 ⟨rfl, hb1⟩
      exact hK _ _ rfl hb1 (fun h => absurd h (by decide))
    · have h31 : σ 31 = _ := hn 31 (by decide)
      have h34 : σ 34 = _ := hn 34 (by decide)
      have h35 : σ 35 = _ := hn 35 (by decide)
      clear hn
      simp only [h31, h34, h35] at hK
      go_simp
      exact hK _ _ (StrL.new _ [⟨#[3]⟩, Z, E0] 3 _ rfl (by decide)) ((Below.refl _ _).alloc (Nat.le_refl _) _) (fun h => absurd h (by decide))
    · have h31 : σ 31 = _ := hn 31 (by decide)
      have p36 : StrL W' (σ 36) 3 [⟨#[3]⟩, Z, E0] := hn 36 (by decide)
      clear hn
      simp only [h31] at hK
      obtain ⟨b, e, hs⟩ := p36
      simp only [e] at hK
      go_simp
      go_at_call 13
      refine (m3 _ _ ⟨b, rfl, hs⟩).mono ?_
      rintro e w1 ⟨rfl, hb1⟩
      exact hK _ _ rfl hb1 (fun h => absurd h (by decide))
    · have h31 : σ 31 = _ := hn 31 (by decide)
      have h32 : σ 32 = _ := hn 32 (by decide)
      have h37 : σ 37 = _ := hn 37 (by decide)
      clear hn
      simp only [h31, h32, h37] at hK
      go_simp
      exact hK _ _ rfl (Below.refl _ _) (fun h => absurd h (by decide))
    · have h31 : σ 31 = _ := hn 31 (by decide)
      have h38 : σ 38 = _ := hn 38 (by decide)
      clear hn
      simp only [h31, h38] at hK
      go_simp
      exact hK _ _ rfl (Below.refl _ _) (fun h => absurd h (by decide))
    · have h39 : σ 39 = _ := hn 39 (by decide)
      clear hn
      simp only [h39] at hK
      go_simp
      exact hK _ _ rfl (Below.refl _ _) (fun h => absurd h (by decide))
    · have h40 : σ 40 = _ := hn 40 (by decide)
      clear hn
      simp only [h40] at hK
      have c0' := bkeep hb c0
      have c1' := bkeep hb c1
      clear c0 c1
      go_simp
      exact hK _ _ rfl (Below.refl _ _) (fun h => absurd h (by decide))
    · have h40 : σ 40 = _ := hn 40 (by decide)
      clear hn
      simp only [h40] at hK
      go_simp
      exact hK _ _ rfl (Below.refl _ _) (fun h => absurd h (by decide))
    · have h40 : σ 40 = _ := hn 40 (by decide)
      have h42 : σ 42 = _ := hn 42 (by decide)
      clear hn
      simp only [h40, h42] at hK
      have a0' := bkeep hb a0
      clear a0
      go_simp
      exact hK _ _ rfl (Below.refl _ _) (fun h => absurd h (by decide))
    · have h40 : σ 40 = _ := hn 40 (by decide)
      clear hn
      simp only [h40] at hK
      go_simp
      go_at_call 14
      refine (e2 _).mono ?_
      rintro e w1 ⟨rfl, hb1⟩
      exact hK _ _ rfl hb1 (fun h => absurd h (by decide))
    · have h40 : σ 40 = _ := hn 40 (by decide)
      have h43 : σ 43 = _ := hn 43 (by decide)
      have h44 : σ 44 = _ := hn 44 (by decide)
      clear hn
      simp only [h40, h43, h44] at hK
      go_simp
      exact hK _ _ (StrL.new _ [⟨#[2]⟩, Z, E2, ⟨#[98, 99]⟩] 4 _ rfl (by decide)) ((Below.refl _ _).alloc (Nat.le_refl _) _) (fun h => absurd h (by decide))
    · have h40 : σ 40 = _ := hn 40 (by decide)
      have p45 : StrL W' (σ 45) 4 [⟨#[2]⟩, Z, E2, ⟨#[98, 99]⟩] := hn 45 (by decide)
      clear hn
      simp only [h40] at hK
      obtain ⟨b, e, hs⟩ := p45
      simp only [e] at hK
      go_simp
      go_at_call 13
      refine (m4 _ _ ⟨b, rfl, hs⟩).mono ?_
      rintro e w1 ⟨rfl, hb1⟩
      exact hK _ _ rfl hb1 (fun h => absurd h (by decide))
    · have h40 : σ 40 = _ := hn 40 (by decide)
      have h46 : σ 46 = _ := hn 46 (by decide)
      clear hn
      simp only [h40, h46] at hK
      go_simp
      exact hK _ _ rfl (Below.refl _ _) (fun h => absurd h (by decide))
    · have h40 : σ 40 = _ := hn 40 (by decide)
      have h41 : σ 41 = _ := hn 41 (by decide)
      have h47 : σ 47 = _ := hn 47 (by decide)
      clear hn
      simp only [h40, h41, h47] at hK
      go_simp
      exact hK _ _ rfl (Below.refl _ _) (fun h => absurd h (by decide))
    · have h40 : σ 40 = _ := hn 40 (by decide)
      have h48 : σ 48 = _ := hn 48 (by decide)
      clear hn
      simp only [h40, h48] at hK
      go_simp
      exact hK _ _ rfl (Below.refl _ _) (fun h => absurd h (by decide))
    · have h49 : σ 49 = _ := hn 49 (by decide)
      clear hn
      simp only [h49] at hK
      go_simp
      exact hK _ _ rfl (Below.refl _ _) (fun h => absurd h (by decide))
    · have h50 : σ 50 = _ := hn 50 (by decide)
      clear hn
      simp only [h50] at hK
      have a0' := bkeep hb a0
      have a1' := bkeep hb a1
      clear a0 a1
      go_simp
      exact hK _ _ rfl (Below.refl _ _) (fun h => absurd h (by decide))
    · have h50 : σ 50 = _ := hn 50 (by decide)
      have h51 : σ 51 = _ := hn 51 (by decide)
      clear hn
      simp only [h50, h51] at hK
      go_simp
      go_at_call 9
      refine (k4 _ (HK.out _ _ HG0.out (bthen HB.out hb))).mono ?_
      rintro e w1 ⟨rfl, hb1⟩
      exact hK _ _ rfl hb1 (fun h => absurd h (by decide))
    · have h50 : σ 50 = _ := hn 50 (by decide)
      clear hn
      simp only [h50] at hK
      have a0' := bkeep hb a0
      have a1' := bkeep hb a1
      clear a0 a1
      go_simp
      exact hK _ _ rfl (Below.refl _ _) (fun h => absurd h (by decide))
    · have h50 : σ 50 = _ := hn 50 (by decide)
      have h52 : σ 52 = _ := hn 52 (by decide)
      have h53 : σ 53 = _ := hn 53 (by decide)
      clear hn
      simp only [h50, h52, h53] at hK
      go_simp
      exact hK _ _ rfl (Below.refl _ _) (fun h => absurd h (by decide))
    · have h50 : σ 50 = _ := hn 50 (by decide)
      have h54 : σ 54 = _ := hn 54 (by decide)
      clear hn
      simp only [h50, h54] at hK
      go_simp
      exact hK _ _ rfl (Below.refl _ _) (fun h => absurd h (by decide))
  · intro σ W' hb hR' hF
    have HB' := Lib.hid (bthen HB.out hb)
    have h55 : σ 55 = .bool true := hR' 55 (by decide)
    clear hR' hF hb
    simp only [fill, List.map, Act.put, List.setIfInBounds_toArray, List.set_cons_zero, List.set_cons_succ, List.length_cons, List.length_nil, List.drop_succ_cons, List.drop_zero, Nat.reduceAdd, h55]
    go_wp2_with fail
    go_ret
    exact ⟨rfl, HB'.out⟩
end Go.Proofs.YtbfbfpanhonieaaDoor
