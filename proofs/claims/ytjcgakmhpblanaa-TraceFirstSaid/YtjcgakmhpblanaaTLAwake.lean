/-
  What the statements of layer 19 reckon beside: the example's rows. (Written by gen_tawake.py.)
-/
import Derived.Test.YtjcgakmhpblanaaTLShort
import Derived.Test.YtjcgakmhpblanaaAirSome
import Derived.Test.YtjcgakmhpblanaaGShape
namespace Go.Proofs.Ytjcgakmhpblanaa
open Go Go.RowKit
set_option linter.unusedVariables false

abbrev rowsE : List (List Int) := [[1, 1], [1, 2], [2, 3], [3, 5]]
abbrev rowsF : List (List Int) := [[1, 1], [1, 2], [2, 4], [3, 5]]
def airOne : AirP := ⟨1, 0, [], [], []⟩
theorem airS_make : airS.make [1, 1] = (rowsE, 0) := by decide +kernel
theorem airS_shown : airS.shown rowsE = [1, 5] := by decide +kernel
theorem airS_holds : airS.holds rowsE := by unfold AirP.holds; decide +kernel
theorem airS_k1 : airS.told [1, 5] rowsE = ((0, 0), 0) := by decide +kernel
theorem airS_k2 : airS.told [1, 6] rowsE = ((3, 3), 7) := by decide +kernel
theorem airS_k3 : airS.told [1, 5] rowsF = ((1, 1), 7) := by decide +kernel
theorem airS_k4 : airS.told [] rowsF = ((0, 0), 1) := by decide +kernel
theorem airS_whole : decide (airS.whole [1, 5] rowsF) = true := by decide +kernel
theorem airOne_make : airOne.make [1] = ([], 1) := by decide +kernel
theorem airOne_ok : OkAir airOne := ⟨by decide, by decide, by decide, by decide, by decide⟩
theorem airOne_few : FewAir airOne := ⟨by decide, by decide, by decide⟩
theorem trow_two (W : World) (x y : Int) (t : TypeId) : RowA (W.alloc (.cells #[.int .u64 x, .int .u64 y] t)) (some ⟨W.heap.size, 0, none⟩) 2 [x, y] :=
  ⟨rfl, by unfold maxLen; omega, fun k hk => ⟨W.heap.size, 0, rfl, by
    have : k = 0 ∨ k = 1 := by omega
    rcases this with rfl | rfl <;> simp [go_sem]⟩⟩
theorem trow_nil (W : World) : RowA W none 0 [] := ⟨rfl, by unfold maxLen; omega, fun k hk => absurd hk (Nat.not_lt_zero k)⟩
theorem trow_one (W : World) (x : Int) (t : TypeId) : RowA (W.alloc (.cells #[.int .u64 x] t)) (some ⟨W.heap.size, 0, none⟩) 1 [x] :=
  ⟨rfl, by unfold maxLen; omega, fun k hk => ⟨W.heap.size, 0, rfl, by
    have : k = 0 := by omega
    subst this; simp [go_sem]⟩⟩
theorem tabA_lt {W : World} {B g o n : Nat} {rows : List (List Int)} (h : TabA W B (some ⟨g, o, none⟩) (n + 1) rows) : g < W.heap.size := by
  obtain ⟨g', o', _, e, _, ak, ck, hc, _⟩ := h.2.2 0 (by omega)
  cases e
  exact World.block_lt_of_cell? W _ hc
theorem tab_row {W : World} {B g o n k : Nat} {rows : List (List Int)} {x y : Int} (h : TabA W B (some ⟨g, o, none⟩) n rows) (hk : k < n) (he : rows.getD k [] = [x, y]) : ∃ (b off ck : Nat), W.cell? ⟨g, o + k, none⟩ = some (.slice (some ⟨b, off, none⟩) 2 ck) ∧ W.cell? ⟨b, off, none⟩ = some (.int .u64 x) ∧ W.cell? ⟨b, off + 1, none⟩ = some (.int .u64 y) := by
  obtain ⟨g', o', _, e, _, ak, ck, hc, hr, _⟩ := h.2.2 k hk
  cases e
  rw [he] at hc hr
  obtain ⟨b, off, e0, c0⟩ := hr.2.2 0 (by simp)
  obtain ⟨b', off', e1, c1⟩ := hr.2.2 1 (by simp)
  subst e0
  cases e1
  exact ⟨b, off, ck, hc, c0, c1⟩
set_option maxHeartbeats 4000000 in
theorem tsome_is (w : World) : Calls Try.prog 22 #[] w fun e w' => Below w.heap.size w w' ∧ ∃ gS gB : Nat, e = .returned (.agg #[.int .i64 2, .int .i64 2, .slice (some ⟨gS, 0, none⟩) 2 2, .slice none 0 0, .slice (some ⟨gB, 0, none⟩) 2 2]) ∧ AirA w' airS ⟨some ⟨gS, 0, none⟩, 2, none, 0, some ⟨gB, 0, none⟩, 2⟩ := by
  have k1 := fun W => rprint_is (some ⟨W.heap.size, 0, none⟩) 1 1 opsS0 txtS0 (W.alloc (.cells #[.int .i64 1, .int .u64 1] 66)) (opA_lit W _ opsS0 _ rfl (by decide)) okO_S0 (by decide) txtS0_is
  have k2 := fun W => rprint_is (some ⟨W.heap.size, 0, none⟩) 3 3 opsS1 txtS1 (W.alloc (.cells #[.int .i64 1, .int .u64 0, .int .i64 1, .int .u64 1, .int .i64 4, .int .u64 0] 66)) (opA_lit W _ opsS1 _ rfl (by decide)) okO_S1 (by decide) txtS1_is
  go_enter Try.func22, Try.ntmps22
  go_upto_region 1 with fail
  obtain ⟨g0, hg0⟩ : ∃ g, w.heap.size = g := ⟨_, rfl⟩
  refine wp_gen (fun W => Below w.heap.size w W ∧ Five W g0 (.int .i64 0) (.int .i64 0) (.slice none 0 0) (.slice none 0 0) (.slice none 0 0)) ⟨(Below.refl _ _).alloc (Nat.le_refl _) _, by rw [← hg0]; exact Five.new _ _⟩ ?_
  rintro w1 ⟨hB1, hF1⟩
  simp only [hg0]
  have HB := Lib.hid hB1; have HF := Lib.hid hF1
  have hal := fun (W : World) (o : Obj) => (Below.refl W.heap.size W).alloc (Nat.le_refl _) o
  clear hB1 hF1
  go_upto_region 2 with (go_at_call 39; (with_reducible refine (k1 _).mono ?_); rintro e w2 ⟨rfl, hb⟩; replace HF := Lib.hid (HF.out.keep (bthen (hal _ _) hb)); replace HB := Lib.hid (bthen HB.out (bthen (hal _ _) hb)); clear hb)
  go_upto_region 3 with (go_at_call 39; (with_reducible refine (k2 _).mono ?_); rintro e w3 ⟨rfl, hb⟩; replace HF := Lib.hid (HF.out.keep (bthen (hal _ _) hb)); replace HB := Lib.hid (bthen HB.out (bthen (hal _ _) hb)); clear hb)
  obtain ⟨⟨a0, a1, a2, a3, a4⟩, f0, f1, f2, f3, f4⟩ := HF.out
  have hlt : w.heap.size ≤ g0 := by omega
  have hgg : g0 < w3.heap.size := HF.out.lt
  have hne1 : g0 ≠ w3.heap.size := by omega
  have hne2 : g0 ≠ w3.heap.size + 1 := by omega
  have hne3 : w3.heap.size ≠ g0 := by omega
  have hne4 : w3.heap.size + 1 ≠ g0 := by omega
  have hb3 := HB
  clear HF k1 k2 hal
  go_wp2_with fail
  exact bodyPost_ret (v := .agg #[.int .i64 2, .int .i64 2, .slice (some ⟨w3.heap.size, 0, none⟩) 2 2, .slice none 0 0, .slice (some ⟨w3.heap.size + 1, 0, none⟩) 2 2]) (by simp [results, Try.results22, go_sem, a0, a1, a2, a3, a4, hgg]) rfl ⟨some_below hb3.out hlt _ _ _ _ _ _ _, w3.heap.size, w3.heap.size + 1, rfl, some_air _ _ _ _ (by simp [go_sem])⟩
set_option maxRecDepth 100000 in
set_option maxHeartbeats 8000000 in
theorem tawake (G : World → Prop) (hAk : AskTrace G) (w : World) (hG : G w) : Calls Try.prog 9 #[] w fun e w' => e = .returned (.bool true) ∧ Below w.heap.size w w' := by
  have HK := Lib.hid (fun (W W' : World) => @AskTrace.keep G hAk W W')
  have HG := Lib.hid hG
  clear hG
  have hal := fun (W : World) (o : Obj) => (Below.refl W.heap.size W).alloc (Nat.le_refl _) o
  have km := fun W gS gB pa (h : Below w.heap.size w W) (hA : AirA W airS ⟨some ⟨gS, 0, none⟩, 2, none, 0, some ⟨gB, 0, none⟩, 2⟩) (hp : RowA W pa 2 [1, 1]) => show Calls Try.prog 10 #[.agg #[.int .i64 2, .int .i64 2, .slice (some ⟨gS, 0, none⟩) 2 2, .slice none 0 0, .slice (some ⟨gB, 0, none⟩) 2 2], .slice pa 2 2] W fun e w' => Below W.heap.size W w' ∧ ∃ (gl ol cl : Nat), e = .returned (.tuple #[.slice (some ⟨gl, ol, none⟩) 4 cl, .int .i64 0]) ∧ TabA w' w.heap.size (some ⟨gl, ol, none⟩) 4 rowsE from
    (hAk.make airS ⟨some ⟨gS, 0, none⟩, 2, none, 0, some ⟨gB, 0, none⟩, 2⟩ pa 2 [1, 1] rowsE 0 W hA airS_ok airS_few hp (by unfold UsR U; decide) airS_make (HK.out _ _ HG.out h)).mono fun e w' ⟨hb, al, cl, he, ht, _⟩ => by
      obtain ⟨gl, ol, _, ea, _⟩ := ht.2.2 0 (by decide)
      subst ea
      exact ⟨hb, gl, ol, cl, he, tabA_mono ht h.size⟩
  have HB := Lib.hid (Below.refl w.heap.size w)
  go_enter Try.func9, Try.ntmps9
  go_upto_region 2 with (first
    | (go_at_call 22; (with_reducible refine (tsome_is _).mono ?_); rintro e ws ⟨hb, gS, gB, rfl, ha⟩; have HA := Lib.hid ha; skip; replace HB := Lib.hid (bthen HB.out hb); clear ha hb)
    | (go_at_call 10; (with_reducible refine (km _ gS gB _ (bthen HB.out (hal _ _)) (HA.out.keep (hal _ _)) (trow_two _ _ _ _)).mono ?_); rintro e w2 ⟨hb, gl, ol, cl, rfl, hT⟩; replace HB := Lib.hid (bthen HB.out (bthen (hal _ _) hb)); have HT := Lib.hid hT; clear hb hT HA))
  have ksh := fun W gS gB (h : Below w.heap.size w W) (hA : AirA W airS ⟨some ⟨gS, 0, none⟩, 2, none, 0, some ⟨gB, 0, none⟩, 2⟩) (ht : TabA W w.heap.size (some ⟨gl, ol, none⟩) 4 rowsE) => show Calls Try.prog 14 #[.agg #[.int .i64 2, .int .i64 2, .slice (some ⟨gS, 0, none⟩) 2 2, .slice none 0 0, .slice (some ⟨gB, 0, none⟩) 2 2], .slice (some ⟨gl, ol, none⟩) 4 cl] W fun e w' => Below W.heap.size W w' ∧ ∃ (bp : Option Addr) (pc : Nat), e = .returned (.slice bp 2 pc) ∧ RowA w' bp 2 [1, 5] ∧ ∀ x, bp = some x → x.block ≠ gl from
    (hAk.shown airS ⟨some ⟨gS, 0, none⟩, 2, none, 0, some ⟨gB, 0, none⟩, 2⟩ (some ⟨gl, ol, none⟩) 4 cl rowsE [1, 5] W hA airS_ok airS_few airS_check ht.rows (by unfold UsRows UsR U; decide) airS_holds (by unfold KeptR; decide) airS_shown (HK.out _ _ HG.out h)).mono fun e w' ⟨hb, a, c, he, hr, hx⟩ => ⟨hb, a, c, he, hr, fun x hxx => by have := hx x hxx; have := tabA_lt ht; omega⟩
  have k1 := fun W gS gB pa pc (h : Below w.heap.size w W) (hA : AirA W airS ⟨some ⟨gS, 0, none⟩, 2, none, 0, some ⟨gB, 0, none⟩, 2⟩) (hp : RowA W pa 2 [1, 5]) (ht : TabA W w.heap.size (some ⟨gl, ol, none⟩) 4 rowsE) => show Calls Try.prog 16 #[.agg #[.int .i64 2, .int .i64 2, .slice (some ⟨gS, 0, none⟩) 2 2, .slice none 0 0, .slice (some ⟨gB, 0, none⟩) 2 2], .slice pa 2 pc, .slice (some ⟨gl, ol, none⟩) 4 cl] W fun e w' => e = .returned (.tuple #[.agg #[.int .i64 0, .int .i64 0], .int .i64 0]) ∧ Below W.heap.size W w' from
    hAk.check airS ⟨some ⟨gS, 0, none⟩, 2, none, 0, some ⟨gB, 0, none⟩, 2⟩ pa 2 pc [1, 5] (some ⟨gl, ol, none⟩) 4 cl rowsE (0, 0) 0 W hA airS_ok airS_few hp (by unfold UsR U; decide) ht.rows (by unfold UsRows UsR U; decide) airS_k1 (HK.out _ _ HG.out h)
  have k2 := fun W gS gB pa pc (h : Below w.heap.size w W) (hA : AirA W airS ⟨some ⟨gS, 0, none⟩, 2, none, 0, some ⟨gB, 0, none⟩, 2⟩) (hp : RowA W pa 2 [1, 6]) (ht : TabA W w.heap.size (some ⟨gl, ol, none⟩) 4 rowsE) => show Calls Try.prog 16 #[.agg #[.int .i64 2, .int .i64 2, .slice (some ⟨gS, 0, none⟩) 2 2, .slice none 0 0, .slice (some ⟨gB, 0, none⟩) 2 2], .slice pa 2 pc, .slice (some ⟨gl, ol, none⟩) 4 cl] W fun e w' => e = .returned (.tuple #[.agg #[.int .i64 3, .int .i64 3], .int .i64 7]) ∧ Below W.heap.size W w' from
    hAk.check airS ⟨some ⟨gS, 0, none⟩, 2, none, 0, some ⟨gB, 0, none⟩, 2⟩ pa 2 pc [1, 6] (some ⟨gl, ol, none⟩) 4 cl rowsE (3, 3) 7 W hA airS_ok airS_few hp (by unfold UsR U; decide) ht.rows (by unfold UsRows UsR U; decide) airS_k2 (HK.out _ _ HG.out h)
  have k3 := fun W gS gB pa pc (h : Below w.heap.size w W) (hA : AirA W airS ⟨some ⟨gS, 0, none⟩, 2, none, 0, some ⟨gB, 0, none⟩, 2⟩) (hp : RowA W pa 2 [1, 5]) (ht : TabA W w.heap.size (some ⟨gl, ol, none⟩) 4 rowsF) => show Calls Try.prog 16 #[.agg #[.int .i64 2, .int .i64 2, .slice (some ⟨gS, 0, none⟩) 2 2, .slice none 0 0, .slice (some ⟨gB, 0, none⟩) 2 2], .slice pa 2 pc, .slice (some ⟨gl, ol, none⟩) 4 cl] W fun e w' => e = .returned (.tuple #[.agg #[.int .i64 1, .int .i64 1], .int .i64 7]) ∧ Below W.heap.size W w' from
    hAk.check airS ⟨some ⟨gS, 0, none⟩, 2, none, 0, some ⟨gB, 0, none⟩, 2⟩ pa 2 pc [1, 5] (some ⟨gl, ol, none⟩) 4 cl rowsF (1, 1) 7 W hA airS_ok airS_few hp (by unfold UsR U; decide) ht.rows (by unfold UsRows UsR U; decide) airS_k3 (HK.out _ _ HG.out h)
  have k4 := fun W gS gB pa pc (h : Below w.heap.size w W) (hA : AirA W airS ⟨some ⟨gS, 0, none⟩, 2, none, 0, some ⟨gB, 0, none⟩, 2⟩) (hp : RowA W pa 0 []) (ht : TabA W w.heap.size (some ⟨gl, ol, none⟩) 4 rowsF) => show Calls Try.prog 16 #[.agg #[.int .i64 2, .int .i64 2, .slice (some ⟨gS, 0, none⟩) 2 2, .slice none 0 0, .slice (some ⟨gB, 0, none⟩) 2 2], .slice pa 0 pc, .slice (some ⟨gl, ol, none⟩) 4 cl] W fun e w' => e = .returned (.tuple #[.agg #[.int .i64 0, .int .i64 0], .int .i64 1]) ∧ Below W.heap.size W w' from
    hAk.check airS ⟨some ⟨gS, 0, none⟩, 2, none, 0, some ⟨gB, 0, none⟩, 2⟩ pa 0 pc [] (some ⟨gl, ol, none⟩) 4 cl rowsF (0, 0) 1 W hA airS_ok airS_few hp (by unfold UsR U; decide) ht.rows (by unfold UsRows UsR U; decide) airS_k4 (HK.out _ _ HG.out h)
  have k5 := fun W gS gB pa pc (h : Below w.heap.size w W) (hA : AirA W airS ⟨some ⟨gS, 0, none⟩, 2, none, 0, some ⟨gB, 0, none⟩, 2⟩) (hp : RowA W pa 2 [1, 5]) (ht : TabA W w.heap.size (some ⟨gl, ol, none⟩) 4 rowsF) => show Calls Try.prog 18 #[.agg #[.int .i64 2, .int .i64 2, .slice (some ⟨gS, 0, none⟩) 2 2, .slice none 0 0, .slice (some ⟨gB, 0, none⟩) 2 2], .slice pa 2 pc, .slice (some ⟨gl, ol, none⟩) 4 cl] W fun e w' => e = .returned (.bool true) ∧ Below W.heap.size W w' from
    hAk.whole airS ⟨some ⟨gS, 0, none⟩, 2, none, 0, some ⟨gB, 0, none⟩, 2⟩ pa 2 pc [1, 5] (some ⟨gl, ol, none⟩) 4 cl rowsF true W hA airS_ok airS_few hp (by unfold UsR U; decide) ht.rows (by unfold UsRows UsR U; decide) airS_whole (HK.out _ _ HG.out h)
  have k6 := fun W pa (h : Below w.heap.size w W) (hp : RowA W pa 1 [1]) => show Calls Try.prog 10 #[.agg #[.int .i64 1, .int .i64 0, .slice none 0 0, .slice none 0 0, .slice none 0 0], .slice pa 1 1] W fun e w' => Below W.heap.size W w' ∧ ∃ (al : Option Addr) (c6 : Nat), e = .returned (.tuple #[.slice al 0 c6, .int .i64 1]) from
    (hAk.make airOne ⟨none, 0, none, 0, none, 0⟩ pa 1 [1] [] 1 W ⟨⟨by decide, fun k hk => absurd hk (by simp [airOne])⟩, ⟨by decide, fun k hk => absurd hk (by simp [airOne])⟩, ⟨rfl, by decide, fun k hk => absurd hk (by simp [airOne])⟩, Nat.le_refl _⟩ airOne_ok airOne_few hp (by unfold UsR U; decide) airOne_make (HK.out _ _ HG.out h)).mono fun e w' ⟨hb, al, cl, he, _⟩ => ⟨hb, al, cl, he⟩
  obtain ⟨b3, o3, c3, z0, z1, z2⟩ := tab_row HT.out (k := 3) (by decide) rfl
  go_upto_region 4 with fail
  clear z0 z1 z2 km
  go_upto_region 5 with (first
    | (go_at_call 22; (with_reducible refine (tsome_is _).mono ?_); rintro e ws ⟨hb, gS, gB, rfl, ha⟩; have HA := Lib.hid ha; replace HT := Lib.hid (tabA_keep HT.out hb); replace HB := Lib.hid (bthen HB.out hb); clear ha hb)
    | (go_at_call 14; (with_reducible refine (ksh _ gS gB HB.out HA.out HT.out).mono ?_); rintro e w3 ⟨hb, bp, pc, rfl, hP, hx⟩; replace HB := Lib.hid (bthen HB.out hb); replace HT := Lib.hid (tabA_keep HT.out hb); have HP := Lib.hid hP; have HPX := Lib.hid hx; clear hb hP hx HA))
  clear ksh
  go_upto_region 6 with (first
    | (go_at_call 22; (with_reducible refine (tsome_is _).mono ?_); rintro e ws ⟨hb, gS, gB, rfl, ha⟩; have HA := Lib.hid ha; replace HT := Lib.hid (tabA_keep HT.out hb); replace HP := Lib.hid (HP.out.keep hb); replace HB := Lib.hid (bthen HB.out hb); clear ha hb)
    | (go_at_call 16; (with_reducible refine (k1 _ gS gB _ _ (bthen HB.out (hal _ _)) (HA.out.keep (hal _ _)) (trow_two _ _ _ _) (tabA_keep HT.out (hal _ _))).mono ?_); rintro e w4 ⟨rfl, hb⟩; have hb2 := bthen (hal _ _) hb; replace HT := Lib.hid (tabA_keep HT.out hb2); replace HP := Lib.hid (HP.out.keep hb2); replace HB := Lib.hid (bthen HB.out hb2); clear hb hb2 HA))
  obtain ⟨g4, hg⟩ : ∃ g, w4.heap.size = g := ⟨_, rfl⟩
  refine wp_gen (fun W => Below w.heap.size w W ∧ Duo W g4 (.int .i64 0) (.int .i64 0) ∧ TabA W w.heap.size (some ⟨gl, ol, none⟩) 4 rowsE ∧ RowA W bp 2 [1, 5]) ⟨bthen HB.out (hal _ _), by rw [← hg]; simp [Duo, go_sem], tabA_keep HT.out (hal _ _), HP.out.keep (hal _ _)⟩ ?_
  have hgl_g4 : gl < g4 := by rw [← hg]; exact tabA_lt HT.out
  clear HB HT HP
  rintro w5 ⟨hB, hV, hT, hP⟩
  simp only [hg]
  have HB := Lib.hid hB; have HV := Lib.hid hV; have HT := Lib.hid hT; have HP := Lib.hid hP
  clear hg hB hV hT hP
  clear HV k1
  go_upto_region 7 with (first
    | (go_at_call 22; (with_reducible refine (tsome_is _).mono ?_); rintro e ws ⟨hb, gS, gB, rfl, ha⟩; have HA := Lib.hid ha; replace HT := Lib.hid (tabA_keep HT.out hb); replace HP := Lib.hid (HP.out.keep hb); replace HB := Lib.hid (bthen HB.out hb); clear ha hb)
    | (go_at_call 16; (with_reducible refine (k2 _ gS gB _ _ (bthen HB.out (hal _ _)) (HA.out.keep (hal _ _)) (trow_two _ _ _ _) (tabA_keep HT.out (hal _ _))).mono ?_); rintro e w6 ⟨rfl, hb⟩; have hb2 := bthen (hal _ _) hb; replace HT := Lib.hid (tabA_keep HT.out hb2); replace HP := Lib.hid (HP.out.keep hb2); replace HB := Lib.hid (bthen HB.out hb2); clear hb hb2 HA))
  obtain ⟨gx, hg⟩ : ∃ g, w6.heap.size = g := ⟨_, rfl⟩
  refine wp_gen (fun W => Below w.heap.size w W ∧ Duo W gx (.int .i64 3) (.int .i64 3) ∧ TabA W w.heap.size (some ⟨gl, ol, none⟩) 4 rowsE ∧ RowA W bp 2 [1, 5]) ⟨bthen HB.out (hal _ _), by rw [← hg]; simp [Duo, go_sem], tabA_keep HT.out (hal _ _), HP.out.keep (hal _ _)⟩ ?_
  have hgl_gx : gl < gx := by rw [← hg]; exact tabA_lt HT.out
  clear HB HT HP
  rintro w7 ⟨hB, hV, hT, hP⟩
  simp only [hg]
  have HB := Lib.hid hB; have HV := Lib.hid hV; have HT := Lib.hid hT; have HP := Lib.hid hP
  clear hg hB hV hT hP
  have HX := HV
  clear HV k2
  have hlg : gl < w7.heap.size := tabA_lt HT.out
  have hln : gl ≠ w7.heap.size := by omega
  have hlm : w7.heap.size ≠ gl := by omega
  obtain ⟨g', o', hBl, e2, hf2, ak2, ck2, hc2, -⟩ := HT.out.2.2 2 (by decide)
  cases e2
  have hset : ∀ (t : TypeId) (v : Value), Below w.heap.size w ((w7.setCell ⟨gl, ol + 2, none⟩ v).alloc (.cells #[.int .u64 2, .int .u64 4] t)) := fun t v => bthen (HB.out.setCell hBl _) (hal _ _)
  have htab : ∀ t : TypeId, TabA ((w7.setCell ⟨gl, ol + 2, none⟩ (.slice (some ⟨w7.heap.size, 0, none⟩) 2 2)).alloc (.cells #[.int .u64 2, .int .u64 4] t)) w.heap.size (some ⟨gl, ol, none⟩) 4 rowsF := fun t => by
    have hcomm : ∀ (t : TypeId) (v : Value), (w7.setCell ⟨gl, ol + 2, none⟩ v).alloc (.cells #[.int .u64 2, .int .u64 4] t) = (w7.alloc (.cells #[.int .u64 2, .int .u64 4] t)).setCell ⟨gl, ol + 2, none⟩ v := fun t v => by simp [go_sem, hlg]
    rw [hcomm]
    exact tabA_set (l := [2, 4]) (ci := 2) (tabA_keep HT.out (hal _ _)) (i := 2) (by decide) (trow_two w7 2 4 t) (by decide) (fun x hx => by cases hx; exact hlm)
  go_upto_region 8 with fail
  refine wp_gen (fun W => Below w.heap.size w W ∧ TabA W w.heap.size (some ⟨gl, ol, none⟩) 4 rowsF ∧ RowA W bp 2 [1, 5] ∧ Duo W gx (.int .i64 3) (.int .i64 3)) ⟨hset _ _, htab _, (HP.out.off HPX.out).keep (hal _ _), (HX.out.far (by omega) _ _).keep (hal _ _)⟩ ?_
  clear HB HT HP HX hset htab hlg hln hlm hBl hf2 hc2 HPX
  rintro w8 ⟨hB, hT, hP, hX⟩
  have HB := Lib.hid hB; have HT := Lib.hid hT; have HP := Lib.hid hP; have HX := Lib.hid hX
  clear hB hT hP hX
  go_upto_region 9 with (first
    | (go_at_call 22; (with_reducible refine (tsome_is _).mono ?_); rintro e ws ⟨hb, gS, gB, rfl, ha⟩; have HA := Lib.hid ha; replace HT := Lib.hid (tabA_keep HT.out hb); replace HP := Lib.hid (HP.out.keep hb); replace HX := Lib.hid (HX.out.keep hb); replace HB := Lib.hid (bthen HB.out hb); clear ha hb)
    | (go_at_call 16; (with_reducible refine (k3 _ gS gB _ _ (bthen HB.out (hal _ _)) (HA.out.keep (hal _ _)) (trow_two _ _ _ _) (tabA_keep HT.out (hal _ _))).mono ?_); rintro e w9 ⟨rfl, hb⟩; have hb2 := bthen (hal _ _) hb; replace HT := Lib.hid (tabA_keep HT.out hb2); replace HP := Lib.hid (HP.out.keep hb2); replace HX := Lib.hid (HX.out.keep hb2); replace HB := Lib.hid (bthen HB.out hb2); clear hb hb2 HA))
  obtain ⟨gy, hg⟩ : ∃ g, w9.heap.size = g := ⟨_, rfl⟩
  refine wp_gen (fun W => Below w.heap.size w W ∧ Duo W gy (.int .i64 1) (.int .i64 1) ∧ TabA W w.heap.size (some ⟨gl, ol, none⟩) 4 rowsF ∧ RowA W bp 2 [1, 5] ∧ Duo W gx (.int .i64 3) (.int .i64 3)) ⟨bthen HB.out (hal _ _), by rw [← hg]; simp [Duo, go_sem], tabA_keep HT.out (hal _ _), HP.out.keep (hal _ _), HX.out.keep (hal _ _)⟩ ?_
  have hgl_gy : gl < gy := by rw [← hg]; exact tabA_lt HT.out
  clear HB HT HP HX
  rintro w10 ⟨hB, hV, hT, hP, hX⟩
  simp only [hg]
  have HB := Lib.hid hB; have HV := Lib.hid hV; have HT := Lib.hid hT; have HP := Lib.hid hP; have HX := Lib.hid hX
  clear hg hB hV hT hP hX
  have HY := HV
  clear HV k3
  go_upto_region 10 with (first
    | (go_at_call 22; (with_reducible refine (tsome_is _).mono ?_); rintro e ws ⟨hb, gS, gB, rfl, ha⟩; have HA := Lib.hid ha; replace HT := Lib.hid (tabA_keep HT.out hb); replace HP := Lib.hid (HP.out.keep hb); replace HX := Lib.hid (HX.out.keep hb); replace HY := Lib.hid (HY.out.keep hb); replace HB := Lib.hid (bthen HB.out hb); clear ha hb)
    | (go_at_call 16; (with_reducible refine (k4 _ gS gB none 0 HB.out HA.out (trow_nil _) HT.out).mono ?_); rintro e w11 ⟨rfl, hb⟩; replace HT := Lib.hid (tabA_keep HT.out hb); replace HP := Lib.hid (HP.out.keep hb); replace HX := Lib.hid (HX.out.keep hb); replace HY := Lib.hid (HY.out.keep hb); replace HB := Lib.hid (bthen HB.out hb); clear hb HA))
  obtain ⟨g11, hg⟩ : ∃ g, w11.heap.size = g := ⟨_, rfl⟩
  refine wp_gen (fun W => Below w.heap.size w W ∧ Duo W g11 (.int .i64 0) (.int .i64 0) ∧ TabA W w.heap.size (some ⟨gl, ol, none⟩) 4 rowsF ∧ RowA W bp 2 [1, 5] ∧ Duo W gx (.int .i64 3) (.int .i64 3) ∧ Duo W gy (.int .i64 1) (.int .i64 1)) ⟨bthen HB.out (hal _ _), by rw [← hg]; simp [Duo, go_sem], tabA_keep HT.out (hal _ _), HP.out.keep (hal _ _), HX.out.keep (hal _ _), HY.out.keep (hal _ _)⟩ ?_
  have hgl_g11 : gl < g11 := by rw [← hg]; exact tabA_lt HT.out
  clear HB HT HP HX HY
  rintro w12 ⟨hB, hV, hT, hP, hX, hY⟩
  simp only [hg]
  have HB := Lib.hid hB; have HV := Lib.hid hV; have HT := Lib.hid hT; have HP := Lib.hid hP; have HX := Lib.hid hX; have HY := Lib.hid hY
  clear hg hB hV hT hP hX hY
  clear HV k4
  go_upto_region 11 with (go_at_call 10; (with_reducible refine (k6 _ _ (bthen HB.out (hal _ _)) (trow_one _ _ _)).mono ?_); rintro e w13 ⟨hb, al, c6, rfl⟩; have hb2 := bthen (hal _ _) hb; replace HT := Lib.hid (tabA_keep HT.out hb2); replace HP := Lib.hid (HP.out.keep hb2); replace HX := Lib.hid (HX.out.keep hb2); replace HY := Lib.hid (HY.out.keep hb2); replace HB := Lib.hid (bthen HB.out hb2); clear hb hb2)
  obtain ⟨b3, o3, c3, z0, z1, z2⟩ := tab_row HT.out (k := 3) (by decide) rfl
  obtain ⟨bb, bo, rfl, p0⟩ := HP.out.2.2 0 (by decide)
  obtain ⟨bb', bo', ep, p1⟩ := HP.out.2.2 1 (by decide)
  cases ep
  obtain ⟨x0, x1, _, _⟩ := HX.out
  obtain ⟨y0, y1, _, _⟩ := HY.out
  have p1 : w13.cell? ⟨bb, bo + 1, none⟩ = some (.int .u64 5) := p1
  clear k6 p0
  go_wp2_with (first
    | (go_at_call 22; (with_reducible refine (tsome_is _).mono ?_); rintro e ws ⟨hb, gS, gB, rfl, ha⟩; have HA := Lib.hid ha; replace HT := Lib.hid (tabA_keep HT.out hb); replace HB := Lib.hid (bthen HB.out hb); clear ha hb)
    | (go_at_call 18; (with_reducible refine (k5 _ gS gB _ _ (bthen HB.out (hal _ _)) (HA.out.keep (hal _ _)) (trow_two _ _ _ _) (tabA_keep HT.out (hal _ _))).mono ?_); rintro e w14 ⟨rfl, hb⟩; replace HB := Lib.hid (bthen HB.out (bthen (hal _ _) hb)); clear hb))
  go_ret
  exact ⟨rfl, HB.out⟩
end Go.Proofs.Ytjcgakmhpblanaa
