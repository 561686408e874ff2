/-
  What the statements of layer 18 reckon beside: the example's rules go through. (Written by gen_aawake.py.)
-/
import Derived.Test.YtckipfcjgmiacaaALSome
import Derived.Test.YtckipfcjgmiacaaAirSame
namespace Go.Proofs.Ytckipfcjgmiacaa
open Go Go.RowKit
set_option linter.unusedVariables false

abbrev rowsS : List (List Opn) := [[(2, 0), (1, 1), (5, 0)], [(2, 1), (1, 0), (1, 1), (4, 0), (5, 0)]]
theorem airS_near : airS.near := (AirP.check_ok airS_check).1
theorem airSC_air (W : World) (t : TypeId) (gS sz : Nat) (b : Option Addr) (c : Nat) (hs : W.heap.size = sz) (h : AirA W airS ⟨some ⟨gS, 0, none⟩, 2, none, 0, b, c⟩) : AirA (W.alloc (.cells #[.int .i64 0, .int .i64 4] t)) airSC ⟨some ⟨gS, 0, none⟩, 2, none, 0, some ⟨sz, 0, none⟩, 1⟩ := by
  subst hs
  have hb := (Below.refl W.heap.size W).alloc (Nat.le_refl _) (.cells #[.int .i64 0, .int .i64 4] t)
  refine ⟨h.1.keep hb, h.2.1.keep hb, ⟨rfl, by decide, fun k hk => ⟨W.heap.size, 0, rfl, ?_⟩⟩, Nat.le_refl _⟩
  have hk : k < 1 := hk
  obtain rfl : k = 0 := by omega
  simp [go_sem, airSC]
theorem airSD_air (W : World) (gS : Nat) (b : Option Addr) (c : Nat) (h : AirA W airS ⟨some ⟨gS, 0, none⟩, 2, none, 0, b, c⟩) : AirA W airSD ⟨some ⟨gS, 0, none⟩, 2, none, 0, b, c⟩ := by
  refine ⟨⟨by decide, fun k hk => ?_⟩, h.2.1, h.2.2⟩
  have hk : k < 1 := hk
  obtain rfl : k = 0 := by omega
  exact h.1.2 0 (by decide)
theorem strA_lt {W : World} {g n : Nat} {f : Nat → ByteArray} (h : StrA W (some ⟨g, 0, none⟩) n f) (hn : 0 < n) : g < W.heap.size := by
  obtain ⟨b, o, e, c⟩ := h.2 0 hn
  cases e
  exact World.block_lt_of_cell? W _ c
theorem boundA_lt {W : World} {g n : Nat} {zs : List (Int × Int)} (h : BoundA W (some ⟨g, 0, none⟩) n zs) (hn : 0 < n) : g < W.heap.size := by
  obtain ⟨b, o, e, c, _⟩ := h.2.2 0 hn
  cases e
  exact World.block_lt_of_cell? W _ c
set_option maxRecDepth 100000 in
set_option maxHeartbeats 8000000 in
theorem aawake (G : World → Prop) (hAk : AskAir G) (w : World) (hG : G w) : Calls Try.prog 9 #[] w fun e w' => e = .returned (.bool true) ∧ Below w.heap.size w w' := by
  have HK := Lib.hid (fun (W W' : World) => @AskAir.keep G hAk W W')
  have HG := Lib.hid hG
  clear hG
  obtain ⟨T, hT⟩ : ∃ T, airS.print = T := ⟨_, rfl⟩
  have hT1 : T.size ≤ 100000 := by rw [← hT]; exact print_size airS_check
  have hT2 : parseA T = (airS, 0) := by rw [← hT]; exact parse_of_print airS_check
  go_enter Try.func9, Try.ntmps9
  go_upto_region 2 with (go_at_call 28; (with_reducible refine (some_is _).mono ?_); rintro e w1 ⟨hb, gS, gB, rfl, ha⟩; have HA := Lib.hid ha; have HB := Lib.hid hb; clear ha hb)
  obtain ⟨gA, hgA⟩ : ∃ g, w1.heap.size = g := ⟨_, rfl⟩
  have hal := fun (W : World) (o : Obj) => (Below.refl W.heap.size W).alloc (Nat.le_refl _) o
  refine wp_gen (fun W => Below w.heap.size w W ∧ Five W gA (.int .i64 2) (.int .i64 2) (.slice (some ⟨gS, 0, none⟩) 2 2) (.slice none 0 0) (.slice (some ⟨gB, 0, none⟩) 2 2) ∧ AirA W airS ⟨some ⟨gS, 0, none⟩, 2, none, 0, some ⟨gB, 0, none⟩, 2⟩) ⟨bthen HB.out (hal _ _), by rw [← hgA]; exact Five.new _ _, HA.out.keep (hal _ _)⟩ ?_
  have hlA : w.heap.size ≤ gA := by rw [← hgA]; exact HB.out.size
  have hlS : gS < gA := by rw [← hgA]; exact strA_lt HA.out.1 (by decide)
  have hlB : gB < gA := by rw [← hgA]; exact boundA_lt HA.out.2.2.1 (by decide)
  clear HB HA
  rintro w2 ⟨hB, hF, hA⟩
  simp only [hgA]
  clear hgA
  have HB := Lib.hid hB; have HA := Lib.hid hA
  clear hB hA
  have HX := Lib.hid hF
  obtain ⟨⟨x0, x1, x2, x3, x4⟩, _⟩ := hF
  have kr := fun W (h : Below w.heap.size w W) (ha : AirA W airS ⟨some ⟨gS, 0, none⟩, 2, none, 0, some ⟨gB, 0, none⟩, 2⟩) => show Calls Try.prog 11 #[.agg #[.int .i64 2, .int .i64 2, .slice (some ⟨gS, 0, none⟩) 2 2, .slice none 0 0, .slice (some ⟨gB, 0, none⟩) 2 2]] W fun e w' => Below W.heap.size W w' ∧ ∃ (a : Option Addr) (n : Nat), e = .returned (.tuple #[.slice a 2 n, .int .i64 0]) ∧ OpsA w' a 2 rowsS from
    (hAk.rules airS _ rowsS 0 W ha airS_ok airS_few airS_all (HK.out _ _ HG.out h)).mono fun e w' ⟨hb, a, n, he, ho, _⟩ => ⟨hb, a, n, he, ho⟩
  have kp := fun W (h : Below w.heap.size w W) (ha : AirA W airS ⟨some ⟨gS, 0, none⟩, 2, none, 0, some ⟨gB, 0, none⟩, 2⟩) => show Calls Try.prog 24 #[.agg #[.int .i64 2, .int .i64 2, .slice (some ⟨gS, 0, none⟩) 2 2, .slice none 0 0, .slice (some ⟨gB, 0, none⟩) 2 2]] W fun e w' => e = .returned (.string T) ∧ Below W.heap.size W w' from by
    have h0 := hAk.print airS _ W ha airS_ok airS_few airS_check (HK.out _ _ HG.out h)
    rw [hT] at h0
    exact h0
  have kq := fun W (h : Below w.heap.size w W) => show Calls Try.prog 21 #[.string T] W fun e w' => Below W.heap.size W w' ∧ ∃ (sa : Option Addr) (sc : Nat) (ra : Option Addr) (rc : Nat) (ba : Option Addr) (bc : Nat), e = .returned (.tuple #[.agg #[.int .i64 2, .int .i64 2, .slice sa 2 sc, .slice ra 0 rc, .slice ba 2 bc], .int .i64 0]) ∧ AirA w' airS ⟨sa, sc, ra, rc, ba, bc⟩ from
    (hAk.parse T airS 0 W hT1 hT2 (HK.out _ _ HG.out h)).mono fun e w' ⟨hb, p, he, ho⟩ => ⟨hb, p.sa, p.sc, p.ra, p.rc, p.ba, p.bc, he, ho⟩
  have kx := fun W (h : Below w.heap.size w W) => show Calls Try.prog 21 #[.string ⟨#[120]⟩] W fun e w' => Below W.heap.size W w' ∧ ∃ (sa : Option Addr) (sc : Nat) (ra : Option Addr) (rc : Nat) (ba : Option Addr) (bc : Nat), e = .returned (.tuple #[.agg #[.int .i64 0, .int .i64 0, .slice sa 0 sc, .slice ra 0 rc, .slice ba 0 bc], .int .i64 2]) from
    (hAk.parse ⟨#[120]⟩ airZ 2 W (by decide) parse_x (HK.out _ _ HG.out h)).mono fun e w' ⟨hb, p, he, ho⟩ => ⟨hb, p.sa, p.sc, p.ra, p.rc, p.ba, p.bc, he⟩
  go_upto_region 3 with (go_at_call 11; (with_reducible refine (kr _ HB.out HA.out).mono ?_); rintro E w3 ⟨hb, a1, n1, rfl, ho⟩; have HO := Lib.hid ho; clear ho; replace x0 := bkeep hb x0; replace x1 := bkeep hb x1; replace x2 := bkeep hb x2; replace x3 := bkeep hb x3; replace x4 := bkeep hb x4; replace HA := Lib.hid (HA.out.keep hb); replace HX := Lib.hid (HX.out.keep hb); replace HB := Lib.hid (bthen HB.out hb); clear hb)
  go_upto_region 4 with (first | (go_at_call 24; (with_reducible refine (kp _ HB.out HA.out).mono ?_); rintro E w4 ⟨rfl, hb⟩; replace HO := Lib.hid (HO.out.keep hb); replace x0 := bkeep hb x0; replace x1 := bkeep hb x1; replace x2 := bkeep hb x2; replace x3 := bkeep hb x3; replace x4 := bkeep hb x4; replace HA := Lib.hid (HA.out.keep hb); replace HX := Lib.hid (HX.out.keep hb); replace HB := Lib.hid (bthen HB.out hb); clear hb) | (go_at_call 21; (with_reducible refine (kq _ HB.out).mono ?_); rintro E w5 ⟨hb, sa, sc, ra, rc, ba, bc, rfl, hy⟩; have HY := Lib.hid hy; clear hy; replace HO := Lib.hid (HO.out.keep hb); replace x0 := bkeep hb x0; replace x1 := bkeep hb x1; replace x2 := bkeep hb x2; replace x3 := bkeep hb x3; replace x4 := bkeep hb x4; replace HA := Lib.hid (HA.out.keep hb); replace HX := Lib.hid (HX.out.keep hb); replace HB := Lib.hid (bthen HB.out hb); clear hb))
  obtain ⟨gP, hgP⟩ : ∃ g, w5.heap.size = g := ⟨_, rfl⟩
  refine wp_gen (fun W => Below w.heap.size w W ∧ Five W gA (.int .i64 2) (.int .i64 2) (.slice (some ⟨gS, 0, none⟩) 2 2) (.slice none 0 0) (.slice (some ⟨gB, 0, none⟩) 2 2) ∧ AirA W airS ⟨some ⟨gS, 0, none⟩, 2, none, 0, some ⟨gB, 0, none⟩, 2⟩ ∧ Five W gP (.int .i64 2) (.int .i64 2) (.slice sa 2 sc) (.slice ra 0 rc) (.slice ba 2 bc) ∧ AirA W airS ⟨sa, sc, ra, rc, ba, bc⟩ ∧ OpsA W a1 2 rowsS) ⟨bthen HB.out (hal _ _), HX.out.keep (hal _ _), HA.out.keep (hal _ _), by rw [← hgP]; exact Five.new _ _, HY.out.keep (hal _ _), HO.out.keep (hal _ _)⟩ ?_
  clear HB HX HA HY HO x0 x1 x2 x3 x4 kr kp kq
  rintro w6 ⟨hB, hX, hA, hY, hAY, hO⟩
  simp only [hgP]
  clear hgP
  have HB6 := Lib.hid hB; have HX := Lib.hid hX; have HA := Lib.hid hA; have HY := Lib.hid hY; have HAY := Lib.hid hAY; have HO := Lib.hid hO
  clear hB hA hY hAY hO
  obtain ⟨⟨x0, x1, x2, x3, x4⟩, _⟩ := hX
  go_upto_region 5 with fail
  obtain ⟨gC, hgC⟩ : ∃ g, w6.heap.size = g := ⟨_, rfl⟩
  refine wp_gen (fun W => Below w6.heap.size w6 W ∧ Five W gC (.int .i64 2) (.int .i64 2) (.slice (some ⟨gS, 0, none⟩) 2 2) (.slice none 0 0) (.slice (some ⟨gB, 0, none⟩) 2 2)) ⟨hal _ _, by rw [← hgC]; exact Five.new _ _⟩ ?_
  clear x0 x1 x2 x3 x4
  rintro w7 ⟨hB7, hZ⟩
  simp only [hgC]
  have HB7 := Lib.hid hB7
  have hzl : gC < w7.heap.size := hZ.lt
  have hzn : gC ≠ w7.heap.size := by omega
  have hzm : w7.heap.size ≠ gC := by omega
  clear hB7
  have HZ := Lib.hid hZ
  obtain ⟨⟨z0, z1, z2, z3, z4⟩, f0, f1, f2, f3, f4⟩ := hZ
  go_upto_region 6 with fail
  obtain ⟨gL, hgL⟩ : ∃ g, w7.heap.size = g := ⟨_, rfl⟩
  have hset : ∀ v, Below w6.heap.size w6 (w7.setCell ⟨gC, 4, none⟩ v) := fun v => HB7.out.setCell (by show w6.heap.size ≤ gC; rw [hgC]; exact Nat.le_refl _) v
  have e7 : ∀ v, (w7.setCell ⟨gC, 4, none⟩ v).heap.size = gL := fun v => by simp [go_sem, hgL]
  refine wp_gen (fun W => Below w6.heap.size w6 W ∧ Five W gC (.int .i64 2) (.int .i64 2) (.slice (some ⟨gS, 0, none⟩) 2 2) (.slice none 0 0) (.slice (some ⟨gL, 0, none⟩) 1 1) ∧ AirA W airSC ⟨some ⟨gS, 0, none⟩, 2, none, 0, some ⟨gL, 0, none⟩, 1⟩) ⟨bthen (hset _) (hal _ _), by rw [← hgL]; exact (HZ.out.set4 _).keep (hal _ _), airSC_air _ _ _ _ _ _ (e7 _) (HA.out.keep (hset _))⟩ ?_
  clear HZ HB7 hset e7 z0 z1 z2 z3 z4 f0 f1 f2 f3 f4 hzl hzn hzm
  rintro w8 ⟨hB8, hZ, hAZ⟩
  simp only [hgL]
  clear hgL
  have HB8 := Lib.hid hB8; have HZ := Lib.hid hZ; have HAZ := Lib.hid hAZ
  obtain ⟨⟨x0, x1, x2, x3, x4⟩, _⟩ := HX.out.keep hB8
  clear hB8 hZ hAZ
  go_upto_region 7 with fail
  obtain ⟨gD, hgD⟩ : ∃ g, w8.heap.size = g := ⟨_, rfl⟩
  refine wp_gen (fun W => Below w8.heap.size w8 W ∧ Five W gD (.int .i64 2) (.int .i64 2) (.slice (some ⟨gS, 0, none⟩) 2 2) (.slice none 0 0) (.slice (some ⟨gB, 0, none⟩) 2 2)) ⟨hal _ _, by rw [← hgD]; exact Five.new _ _⟩ ?_
  clear x0 x1 x2 x3 x4
  rintro w9 ⟨hB9, hU⟩
  simp only [hgD]
  have HB9 := Lib.hid hB9; have HU := Lib.hid hU
  clear hB9
  obtain ⟨⟨u0, u1, u2, u3, u4⟩, f0, f1, f2, f3, f4⟩ := hU
  go_upto_region 8 with fail
  have hset : ∀ v, Below w8.heap.size w8 (w9.setCell ⟨gD, 2, none⟩ v) := fun v => HB9.out.setCell (by show w8.heap.size ≤ gD; rw [hgD]; exact Nat.le_refl _) v
  refine wp_gen (fun W => Below w8.heap.size w8 W ∧ Five W gD (.int .i64 2) (.int .i64 2) (.slice (some ⟨gS, 0, none⟩) 1 2) (.slice none 0 0) (.slice (some ⟨gB, 0, none⟩) 2 2)) ⟨hset _, HU.out.set2 _⟩ ?_
  clear HU HB9 hset u0 u1 u2 u3 u4 f0 f1 f2 f3 f4
  rintro w10 ⟨hB10, hU⟩
  have HB10 := Lib.hid hB10; have HU := Lib.hid hU
  clear hB10 hU
  have HC := Lib.hid (bthen (bthen HB6.out HB8.out) HB10.out)
  go_upto_region 9 with (go_at_call 21; (with_reducible refine (kx _ HC.out).mono ?_); rintro E w11 ⟨hb, sa', sc', ra', rc', ba', bc', rfl⟩)
  have hb11 := bthen hb (hal w11 (.cells #[.int .i64 0, .int .i64 0, .slice sa' 0 sc', .slice ra' 0 rc', .slice ba' 0 bc'] 25))
  refine wp_gen (fun W => Below w10.heap.size w10 W) hb11 ?_
  clear hb hb11 kx HC
  rintro w12 hB12
  have HB := Lib.hid (bthen (bthen (bthen HB6.out HB8.out) HB10.out) hB12)
  have h6 : Below w6.heap.size w6 w12 := bthen (bthen HB8.out HB10.out) hB12
  have h8 : Below w8.heap.size w8 w12 := bthen HB10.out hB12
  obtain ⟨⟨x0, x1, x2, x3, x4⟩, _⟩ := HX.out.keep h6
  obtain ⟨⟨y0, y1, y2, y3, y4⟩, _⟩ := HY.out.keep h6
  obtain ⟨⟨z0, z1, z2, z3, z4⟩, _⟩ := HZ.out.keep h8
  obtain ⟨⟨u0, u1, u2, u3, u4⟩, _⟩ := HU.out.keep hB12
  obtain ⟨b, o, rfl, ak, ck, r0, ho, _⟩ := (HO.out.keep h6).2.2 0 (by decide)
  obtain ⟨b2, o2, rfl, r1, r2⟩ := ho.2.2 0 (by decide)
  have r0 : w12.cell? ⟨b, o, none⟩ = some (.slice (some ⟨b2, o2, none⟩) 3 ck) := r0
  have r1 : w12.cell? ⟨b2, o2, none⟩ = some (.int .i64 2) := by simpa using r1
  have r2 : w12.cell? ⟨b2, o2 + 1, none⟩ = some (.int .u64 0) := by simpa using r2
  have HA := Lib.hid (HA.out.keep h6); have HAY := Lib.hid (HAY.out.keep h6); have HAZ := Lib.hid (HAZ.out.keep h8); have HAU := Lib.hid (airSD_air _ _ _ _ HA.out)
  have hGw := HK.out _ _ HG.out HB.out
  have HG2 := Lib.hid hGw
  clear ho hGw h6 h8 hB12 HB6 HB8 HB10 HX HY HZ HU HO
  have c1 := fun W (h : Below w12.heap.size w12 W) => show Calls Try.prog 10 #[.agg #[.int .i64 2, .int .i64 2, .slice (some ⟨gS, 0, none⟩) 2 2, .slice none 0 0, .slice (some ⟨gB, 0, none⟩) 2 2]] W fun e w' => e = .returned (.int .i64 0) ∧ Below W.heap.size W w' from by
    have h0 := hAk.check airS _ 0 W (HA.out.keep h) airS_ok airS_few airS_check (HK.out _ _ HG2.out h)
    exact h0
  have c2 := fun W (h : Below w12.heap.size w12 W) => show Calls Try.prog 10 #[.agg #[.int .i64 2, .int .i64 2, .slice (some ⟨gS, 0, none⟩) 2 2, .slice none 0 0, .slice (some ⟨gL, 0, none⟩) 1 1]] W fun e w' => e = .returned (.int .i64 1) ∧ Below W.heap.size W w' from by
    have h0 := hAk.check airSC _ 1 W (HAZ.out.keep h) airSC_ok airSC_few airSC_check (HK.out _ _ HG2.out h)
    exact h0
  have c3 := fun W (h : Below w12.heap.size w12 W) => show Calls Try.prog 10 #[.agg #[.int .i64 2, .int .i64 2, .slice (some ⟨gS, 0, none⟩) 1 2, .slice none 0 0, .slice (some ⟨gB, 0, none⟩) 2 2]] W fun e w' => e = .returned (.int .i64 1) ∧ Below W.heap.size W w' from by
    have h0 := hAk.check airSD _ 1 W (HAU.out.keep h) airSD_ok airSD_few airSD_check (HK.out _ _ HG2.out h)
    exact h0
  have c4 := fun W (h : Below w12.heap.size w12 W) => show Calls Try.prog 15 #[.agg #[.int .i64 2, .int .i64 2, .slice (some ⟨gS, 0, none⟩) 2 2, .slice none 0 0, .slice (some ⟨gB, 0, none⟩) 2 2]] W fun e w' => e = .returned (.int .i64 4) ∧ Below W.heap.size W w' from by
    have h0 := hAk.size airS _ W (HA.out.keep h) airS_ok airS_near (HK.out _ _ HG2.out h)
    rw [airS_size] at h0
    exact h0
  have c5 := fun W (h : Below w12.heap.size w12 W) => show Calls Try.prog 17 #[.agg #[.int .i64 2, .int .i64 2, .slice (some ⟨gS, 0, none⟩) 2 2, .slice none 0 0, .slice (some ⟨gB, 0, none⟩) 2 2]] W fun e w' => e = .returned (.int .i64 1) ∧ Below W.heap.size W w' from by
    have h0 := hAk.degree airS _ W (HA.out.keep h) airS_ok airS_few airS_check (HK.out _ _ HG2.out h)
    rw [airS_degree] at h0
    exact h0
  have c6 := fun W (h : Below w12.heap.size w12 W) => show Calls Try.prog 19 #[.agg #[.int .i64 2, .int .i64 2, .slice (some ⟨gS, 0, none⟩) 2 2, .slice none 0 0, .slice (some ⟨gB, 0, none⟩) 2 2]] W fun e w' => e = .returned (.int .i64 1) ∧ Below W.heap.size W w' from by
    have h0 := hAk.parts airS _ W (HA.out.keep h) airS_ok airS_few airS_check (HK.out _ _ HG2.out h)
    rw [airS_parts] at h0
    exact h0
  have c7 := fun W (h : Below w12.heap.size w12 W) => show Calls Try.prog 23 #[.agg #[.int .i64 2, .int .i64 2, .slice (some ⟨gS, 0, none⟩) 2 2, .slice none 0 0, .slice (some ⟨gB, 0, none⟩) 2 2], .agg #[.int .i64 2, .int .i64 2, .slice sa 2 sc, .slice ra 0 rc, .slice ba 2 bc]] W fun e w' => e = .returned (.bool true) ∧ Below W.heap.size W w' from by
    have h0 := rasame_is airS _ _ W airS_few (HA.out.keep h) (HAY.out.keep h)
    exact h0
  have HB2 := Lib.hid (Below.refl w12.heap.size w12)
  go_wp2_with (first
      | (go_at_call 10; (with_reducible refine (c1 _ HB2.out).mono ?_); rintro e w13 ⟨rfl, hb⟩; replace x0 := bkeep hb x0; replace x1 := bkeep hb x1; replace x2 := bkeep hb x2; replace x3 := bkeep hb x3; replace x4 := bkeep hb x4; replace y0 := bkeep hb y0; replace y1 := bkeep hb y1; replace y2 := bkeep hb y2; replace y3 := bkeep hb y3; replace y4 := bkeep hb y4; replace z0 := bkeep hb z0; replace z1 := bkeep hb z1; replace z2 := bkeep hb z2; replace z3 := bkeep hb z3; replace z4 := bkeep hb z4; replace u0 := bkeep hb u0; replace u1 := bkeep hb u1; replace u2 := bkeep hb u2; replace u3 := bkeep hb u3; replace u4 := bkeep hb u4; replace r0 := bkeep hb r0; replace r1 := bkeep hb r1; replace r2 := bkeep hb r2; replace HB2 := Lib.hid (bthen HB2.out hb); clear hb)
      | (go_at_call 10; (with_reducible refine (c2 _ HB2.out).mono ?_); rintro e w13 ⟨rfl, hb⟩; replace x0 := bkeep hb x0; replace x1 := bkeep hb x1; replace x2 := bkeep hb x2; replace x3 := bkeep hb x3; replace x4 := bkeep hb x4; replace y0 := bkeep hb y0; replace y1 := bkeep hb y1; replace y2 := bkeep hb y2; replace y3 := bkeep hb y3; replace y4 := bkeep hb y4; replace z0 := bkeep hb z0; replace z1 := bkeep hb z1; replace z2 := bkeep hb z2; replace z3 := bkeep hb z3; replace z4 := bkeep hb z4; replace u0 := bkeep hb u0; replace u1 := bkeep hb u1; replace u2 := bkeep hb u2; replace u3 := bkeep hb u3; replace u4 := bkeep hb u4; replace r0 := bkeep hb r0; replace r1 := bkeep hb r1; replace r2 := bkeep hb r2; replace HB2 := Lib.hid (bthen HB2.out hb); clear hb)
      | (go_at_call 10; (with_reducible refine (c3 _ HB2.out).mono ?_); rintro e w13 ⟨rfl, hb⟩; replace x0 := bkeep hb x0; replace x1 := bkeep hb x1; replace x2 := bkeep hb x2; replace x3 := bkeep hb x3; replace x4 := bkeep hb x4; replace y0 := bkeep hb y0; replace y1 := bkeep hb y1; replace y2 := bkeep hb y2; replace y3 := bkeep hb y3; replace y4 := bkeep hb y4; replace z0 := bkeep hb z0; replace z1 := bkeep hb z1; replace z2 := bkeep hb z2; replace z3 := bkeep hb z3; replace z4 := bkeep hb z4; replace u0 := bkeep hb u0; replace u1 := bkeep hb u1; replace u2 := bkeep hb u2; replace u3 := bkeep hb u3; replace u4 := bkeep hb u4; replace r0 := bkeep hb r0; replace r1 := bkeep hb r1; replace r2 := bkeep hb r2; replace HB2 := Lib.hid (bthen HB2.out hb); clear hb)
      | (go_at_call 15; (with_reducible refine (c4 _ HB2.out).mono ?_); rintro e w13 ⟨rfl, hb⟩; replace x0 := bkeep hb x0; replace x1 := bkeep hb x1; replace x2 := bkeep hb x2; replace x3 := bkeep hb x3; replace x4 := bkeep hb x4; replace y0 := bkeep hb y0; replace y1 := bkeep hb y1; replace y2 := bkeep hb y2; replace y3 := bkeep hb y3; replace y4 := bkeep hb y4; replace z0 := bkeep hb z0; replace z1 := bkeep hb z1; replace z2 := bkeep hb z2; replace z3 := bkeep hb z3; replace z4 := bkeep hb z4; replace u0 := bkeep hb u0; replace u1 := bkeep hb u1; replace u2 := bkeep hb u2; replace u3 := bkeep hb u3; replace u4 := bkeep hb u4; replace r0 := bkeep hb r0; replace r1 := bkeep hb r1; replace r2 := bkeep hb r2; replace HB2 := Lib.hid (bthen HB2.out hb); clear hb)
      | (go_at_call 17; (with_reducible refine (c5 _ HB2.out).mono ?_); rintro e w13 ⟨rfl, hb⟩; replace x0 := bkeep hb x0; replace x1 := bkeep hb x1; replace x2 := bkeep hb x2; replace x3 := bkeep hb x3; replace x4 := bkeep hb x4; replace y0 := bkeep hb y0; replace y1 := bkeep hb y1; replace y2 := bkeep hb y2; replace y3 := bkeep hb y3; replace y4 := bkeep hb y4; replace z0 := bkeep hb z0; replace z1 := bkeep hb z1; replace z2 := bkeep hb z2; replace z3 := bkeep hb z3; replace z4 := bkeep hb z4; replace u0 := bkeep hb u0; replace u1 := bkeep hb u1; replace u2 := bkeep hb u2; replace u3 := bkeep hb u3; replace u4 := bkeep hb u4; replace r0 := bkeep hb r0; replace r1 := bkeep hb r1; replace r2 := bkeep hb r2; replace HB2 := Lib.hid (bthen HB2.out hb); clear hb)
      | (go_at_call 19; (with_reducible refine (c6 _ HB2.out).mono ?_); rintro e w13 ⟨rfl, hb⟩; replace x0 := bkeep hb x0; replace x1 := bkeep hb x1; replace x2 := bkeep hb x2; replace x3 := bkeep hb x3; replace x4 := bkeep hb x4; replace y0 := bkeep hb y0; replace y1 := bkeep hb y1; replace y2 := bkeep hb y2; replace y3 := bkeep hb y3; replace y4 := bkeep hb y4; replace z0 := bkeep hb z0; replace z1 := bkeep hb z1; replace z2 := bkeep hb z2; replace z3 := bkeep hb z3; replace z4 := bkeep hb z4; replace u0 := bkeep hb u0; replace u1 := bkeep hb u1; replace u2 := bkeep hb u2; replace u3 := bkeep hb u3; replace u4 := bkeep hb u4; replace r0 := bkeep hb r0; replace r1 := bkeep hb r1; replace r2 := bkeep hb r2; replace HB2 := Lib.hid (bthen HB2.out hb); clear hb)
      | (go_at_call 23; (with_reducible refine (c7 _ HB2.out).mono ?_); rintro e w13 ⟨rfl, hb⟩; replace x0 := bkeep hb x0; replace x1 := bkeep hb x1; replace x2 := bkeep hb x2; replace x3 := bkeep hb x3; replace x4 := bkeep hb x4; replace y0 := bkeep hb y0; replace y1 := bkeep hb y1; replace y2 := bkeep hb y2; replace y3 := bkeep hb y3; replace y4 := bkeep hb y4; replace z0 := bkeep hb z0; replace z1 := bkeep hb z1; replace z2 := bkeep hb z2; replace z3 := bkeep hb z3; replace z4 := bkeep hb z4; replace u0 := bkeep hb u0; replace u1 := bkeep hb u1; replace u2 := bkeep hb u2; replace u3 := bkeep hb u3; replace u4 := bkeep hb u4; replace r0 := bkeep hb r0; replace r1 := bkeep hb r1; replace r2 := bkeep hb r2; replace HB2 := Lib.hid (bthen HB2.out hb); clear hb))
  go_ret
  exact ⟨rfl, bthen HB.out HB2.out⟩
end Go.Proofs.Ytckipfcjgmiacaa
