/-
  The walk of DrawTells: it answers true, where the program's calls do what is asked of them. (Written by gen_dlaws.py.)
-/
import Derived.Test.YtgnnliablgbgkaaDoorDrawRef3
import Derived.Test.YtgnnliablgbgkaaDoorDrawRef4
import Derived.Test.YtgnnliablgbgkaaDoorVars
import Derived.Test.YtgnnliablgbgkaaDoorGNum
import Derived.Test.YtgnnliablgbgkaaDoorSame
namespace Go.Proofs.YtgnnliablgbgkaaDoor
open Go Go.RowKit Go.Sort Go.BigFrame
set_option linter.unusedVariables false

def TellsRel (w : World) (a1 a2 : Option Addr) (L : List Int) (i : Value) (W : World) : Prop := ∃ k : Nat, k ≤ L.length ∧ i = .int .i64 k ∧ Below w.heap.size w W ∧ IRowA W a1 L.length L ∧ IRowA W a2 L.length L
set_option maxRecDepth 100000 in
set_option maxHeartbeats 8000000 in
theorem dtells_body (G : World → Prop) (hA : AskDraw G) (aw : ∀ W, G W → Calls Tryd.prog 7 #[] W fun e w' => e = .returned (.bool true) ∧ Below W.heap.size W w') (s : ByteArray) (c n k : Int) (w : World) (hG0 : G w) (hs : s.size ≤ maxLen) (hc : -9223372036854775808 ≤ c ∧ c ≤ 9223372036854775807) (hn : -9223372036854775808 ≤ n ∧ n ≤ 9223372036854775807) :
    Calls Tryd.prog 3 #[.agg #[.string s, .int .i64 c], .int .i64 n, .int .i64 k] w fun e w' => e = .returned (.bool true) ∧ Below w.heap.size w w' := by
  have HK := Lib.hid (fun (W W' : World) => @AskDraw.keep G hA W W')
  have HG0 := Lib.hid hG0
  have hAh := Lib.hid hA
  unfold maxLen at hs
  clear hA hG0
  go_enter Tryd.func3, Tryd.ntmps3
  go_upto_region 1 with fail
  refine wp_gen (fun W => Below w.heap.size w W ∧ Duo W w.heap.size (.string s) (.int .i64 c)) ⟨(Below.refl _ _).alloc (Nat.le_refl _) _, by simp [Duo, go_sem]⟩ ?_
  obtain ⟨g3, hg⟩ : ∃ g, w.heap.size = g := ⟨_, rfl⟩
  rintro W1 ⟨hB, hS⟩
  rw [hg] at hS
  simp only [hg]
  have HB := Lib.hid hB; have HS := Lib.hid hS; have HV : Hid (Vars W1 []) := Lib.hid trivial
  obtain ⟨x0, x1, _, _⟩ := hS
  have hgl : w.heap.size ≤ g3 := by omega
  clear hB hg
  by_cases b0 : (200 : Int) < (s.size : Int)
  · go_wp2_with (go_at_call 7; (with_reducible refine (aw _ (HK.out _ _ HG0.out HB.out)).mono ?_); rintro e w1 ⟨rfl, hb⟩; replace HB := Lib.hid (bthen HB.out hb); clear hb)
    go_ret
    exact ⟨rfl, HB.out⟩
  by_cases b1 : (50 : Int) < n
  · go_wp2_with (go_at_call 7; (with_reducible refine (aw _ (HK.out _ _ HG0.out HB.out)).mono ?_); rintro e w1 ⟨rfl, hb⟩; replace HB := Lib.hid (bthen HB.out hb); clear hb)
    go_ret
    exact ⟨rfl, HB.out⟩
  by_cases b2 : k < 0
  · go_wp2_with (go_at_call 7; (with_reducible refine (aw _ (HK.out _ _ HG0.out HB.out)).mono ?_); rintro e w1 ⟨rfl, hb⟩; replace HB := Lib.hid (bthen HB.out hb); clear hb)
    go_ret
    exact ⟨rfl, HB.out⟩
  by_cases b3 : (40 : Int) < k
  · go_wp2_with (go_at_call 7; (with_reducible refine (aw _ (HK.out _ _ HG0.out HB.out)).mono ?_); rintro e w1 ⟨rfl, hb⟩; replace HB := Lib.hid (bthen HB.out hb); clear hb)
    go_ret
    exact ⟨rfl, HB.out⟩
  obtain ⟨K, rfl⟩ := Int.eq_ofNat_of_zero_le (show 0 ≤ k by omega)
  obtain ⟨r, x, y, ok, hp⟩ := drawn_eta (pairD (sqB s) 16 c)
  have k1 := fun W hg => hAh.out.pair s c r x y ok W (by omega) hc hp hg
  have k2 := fun W => rpair_is s c r x y ok W (by omega) hc hp
  obtain ⟨R, L, hL⟩ : ∃ R L, placesD s c K n.toNat = (R, L) := ⟨_, _, rfl⟩
  have k3 := fun W hg => hAh.out.places s c n R K L W (by omega) hc (by omega) (by omega) hL hg
  have k4 := fun W => rplaces_is s c n R K L W (by omega) hc (by omega) (by omega) hL
  have hLl : L.length ≤ 100 := by
    have := placesD_len s c K n.toNat
    rw [hL] at this
    have : L.length = n.toNat := this
    omega
  obtain ⟨q, hq⟩ : ∃ q, min n 20 = q := ⟨_, rfl⟩
  obtain ⟨R2, l, ok2, hl⟩ : ∃ R2 l ok2, pairsD (pairD (sqB s) 16) c q.toNat = (R2, l, ok2) := ⟨_, _, _, rfl⟩
  have k5 := fun W hg => hAh.out.pairs s c q R2 l ok2 W (by omega) hc (by omega) hl hg
  have k6 := fun W => rpairsD_is s c q R2 l ok2 W (by omega) hc (by omega) hl
  unfold PlacesPost at k3 k4
  unfold PairsPost at k5 k6
  clear hp hL hl x0 x1
  obtain ⟨x0, x1, _, _⟩ := HS.out
  go_upto_region 4 with (go_at_call 8; (with_reducible refine (k1 _ (HK.out _ _ HG0.out HB.out)).mono ?_); rintro e w1 ⟨rfl, hb⟩)
  have hb' := bthen HB.out hb
  have hs := HS.out.keep hb; have hv := Vars.keep hb HV.out
  have hb2 := ((Below.refl w1.heap.size w1).alloc (Nat.le_refl _) (.cells #[.string s, .int .i64 r] 23)).alloc (by simp) (.cells #[.int .u64 x, .int .u64 y] 27)
  refine wp_gen (fun W => Below w.heap.size w W ∧ Duo W g3 (.string s) (.int .i64 c) ∧ Vars W [(w1.heap.size, .string s, .int .i64 r), (w1.heap.size + 1, .int .u64 x, .int .u64 y)]) ⟨bthen hb' hb2, hs.keep hb2, ⟨by simp [Duo, go_sem], by simp [Duo, go_sem], Vars.keep hb2 hv⟩⟩ ?_
  obtain ⟨g7, hg7⟩ : ∃ g, w1.heap.size = g := ⟨_, rfl⟩
  obtain ⟨g8, hg8⟩ : ∃ h, g7 + 1 = h := ⟨_, rfl⟩
  rintro W2 ⟨hB, hS, hV⟩
  simp only [hg7] at hV ⊢
  simp only [hg8] at hV ⊢
  clear HB HS HV x0 x1 hb hb' hs hv hb2 hg7 hg8
  have HB := Lib.hid hB; have HS := Lib.hid hS; have HV := Lib.hid hV
  clear hB hS hV
  obtain ⟨x0, x1, _, _⟩ := HS.out
  go_upto_region 5 with (go_at_call 9; (with_reducible refine (k2 _).mono ?_); rintro e w1 ⟨rfl, hb⟩)
  have hb' := bthen HB.out hb
  have hs := HS.out.keep hb; have hv := Vars.keep hb HV.out
  have hb2 := ((Below.refl w1.heap.size w1).alloc (Nat.le_refl _) (.cells #[.string s, .int .i64 r] 23)).alloc (by simp) (.cells #[.int .u64 x, .int .u64 y] 27)
  refine wp_gen (fun W => Below w.heap.size w W ∧ Duo W g3 (.string s) (.int .i64 c) ∧ Vars W [(w1.heap.size, .string s, .int .i64 r), (w1.heap.size + 1, .int .u64 x, .int .u64 y), (g7, .string s, .int .i64 r), (g8, .int .u64 x, .int .u64 y)]) ⟨bthen hb' hb2, hs.keep hb2, ⟨by simp [Duo, go_sem], by simp [Duo, go_sem], Vars.keep hb2 hv⟩⟩ ?_
  obtain ⟨g10, hg10⟩ : ∃ g, w1.heap.size = g := ⟨_, rfl⟩
  obtain ⟨g11, hg11⟩ : ∃ h, g10 + 1 = h := ⟨_, rfl⟩
  rintro W2 ⟨hB, hS, hV⟩
  simp only [hg10] at hV ⊢
  simp only [hg11] at hV ⊢
  clear HB HS HV x0 x1 hb hb' hs hv hb2 hg10 hg11
  have HB := Lib.hid hB; have HS := Lib.hid hS; have HV := Lib.hid hV
  clear hB hS hV
  obtain ⟨x0, x1, _, _⟩ := HS.out
  go_upto_region 6 with (go_at_call 10; (with_reducible refine (k3 _ (HK.out _ _ HG0.out HB.out)).mono ?_); rintro e w1 ⟨hb, a1, c1, rfl, nH1⟩)
  have hb' := bthen HB.out hb
  have hs := HS.out.keep hb; have hv := Vars.keep hb HV.out
  have hb2 := (Below.refl w1.heap.size w1).alloc (Nat.le_refl _) (.cells #[.string s, .int .i64 R] 23)
  refine wp_gen (fun W => Below w.heap.size w W ∧ Duo W g3 (.string s) (.int .i64 c) ∧ Vars W [(w1.heap.size, .string s, .int .i64 R), (g10, .string s, .int .i64 r), (g11, .int .u64 x, .int .u64 y), (g7, .string s, .int .i64 r), (g8, .int .u64 x, .int .u64 y)] ∧ IRowA W a1 L.length L) ⟨bthen hb' hb2, hs.keep hb2, ⟨by simp [Duo, go_sem], Vars.keep hb2 hv⟩, nH1.keep hb2⟩ ?_
  obtain ⟨g13, hg13⟩ : ∃ g, w1.heap.size = g := ⟨_, rfl⟩
  rintro W2 ⟨hB, hS, hV, iH1⟩
  simp only [hg13] at hV ⊢
  clear HB HS HV x0 x1 hb hb' hs hv hb2 hg13 nH1
  have HB := Lib.hid hB; have HS := Lib.hid hS; have HV := Lib.hid hV; have H1 := Lib.hid iH1
  clear hB hS hV iH1
  obtain ⟨x0, x1, _, _⟩ := HS.out
  go_upto_region 7 with (go_at_call 11; (with_reducible refine (k4 _).mono ?_); rintro e w1 ⟨hb, a2, c2, rfl, nH2⟩)
  have hb' := bthen HB.out hb
  have hs := HS.out.keep hb; have hv := Vars.keep hb HV.out
  have eH1 := H1.out.keep hb
  have hb2 := (Below.refl w1.heap.size w1).alloc (Nat.le_refl _) (.cells #[.string s, .int .i64 R] 23)
  refine wp_gen (fun W => Below w.heap.size w W ∧ Duo W g3 (.string s) (.int .i64 c) ∧ Vars W [(w1.heap.size, .string s, .int .i64 R), (g13, .string s, .int .i64 R), (g10, .string s, .int .i64 r), (g11, .int .u64 x, .int .u64 y), (g7, .string s, .int .i64 r), (g8, .int .u64 x, .int .u64 y)] ∧ IRowA W a1 L.length L ∧ IRowA W a2 L.length L) ⟨bthen hb' hb2, hs.keep hb2, ⟨by simp [Duo, go_sem], Vars.keep hb2 hv⟩, eH1.keep hb2, nH2.keep hb2⟩ ?_
  obtain ⟨g15, hg15⟩ : ∃ g, w1.heap.size = g := ⟨_, rfl⟩
  rintro W2 ⟨hB, hS, hV, iH1, iH2⟩
  simp only [hg15] at hV ⊢
  clear HB HS HV x0 x1 hb hb' hs hv hb2 hg15 H1 eH1 nH2
  have HB := Lib.hid hB; have HS := Lib.hid hS; have HV := Lib.hid hV; have H1 := Lib.hid iH1; have H2 := Lib.hid iH2
  clear hB hS hV iH1 iH2
  obtain ⟨x0, x1, _, _⟩ := HS.out
  go_upto_region 8 with (go_at_call 12; (with_reducible refine (k5 _ (HK.out _ _ HG0.out HB.out)).mono ?_); rintro e w1 ⟨hb, a3, c3, rfl, nH3⟩)
  have hb' := bthen HB.out hb
  have hs := HS.out.keep hb; have hv := Vars.keep hb HV.out
  have eH1 := H1.out.keep hb
  have eH2 := H2.out.keep hb
  have hb2 := (Below.refl w1.heap.size w1).alloc (Nat.le_refl _) (.cells #[.string s, .int .i64 R2] 23)
  refine wp_gen (fun W => Below w.heap.size w W ∧ Duo W g3 (.string s) (.int .i64 c) ∧ Vars W [(w1.heap.size, .string s, .int .i64 R2), (g15, .string s, .int .i64 R), (g13, .string s, .int .i64 R), (g10, .string s, .int .i64 r), (g11, .int .u64 x, .int .u64 y), (g7, .string s, .int .i64 r), (g8, .int .u64 x, .int .u64 y)] ∧ IRowA W a1 L.length L ∧ IRowA W a2 L.length L ∧ QRowA W a3 l.length l) ⟨bthen hb' hb2, hs.keep hb2, ⟨by simp [Duo, go_sem], Vars.keep hb2 hv⟩, eH1.keep hb2, eH2.keep hb2, nH3.keep hb2⟩ ?_
  obtain ⟨g17, hg17⟩ : ∃ g, w1.heap.size = g := ⟨_, rfl⟩
  rintro W2 ⟨hB, hS, hV, iH1, iH2, iH3⟩
  simp only [hg17] at hV ⊢
  clear HB HS HV x0 x1 hb hb' hs hv hb2 hg17 H1 H2 eH1 eH2 nH3
  have HB := Lib.hid hB; have HS := Lib.hid hS; have HV := Lib.hid hV; have H1 := Lib.hid iH1; have H2 := Lib.hid iH2; have H3 := Lib.hid iH3
  clear hB hS hV iH1 iH2 iH3
  obtain ⟨x0, x1, _, _⟩ := HS.out
  go_upto_region 9 with (go_at_call 13; (with_reducible refine (k6 _).mono ?_); rintro e w1 ⟨hb, a4, c4, rfl, nH4⟩)
  have hb' := bthen HB.out hb
  have hs := HS.out.keep hb; have hv := Vars.keep hb HV.out
  have eH1 := H1.out.keep hb
  have eH2 := H2.out.keep hb
  have eH3 := H3.out.keep hb
  have hb2 := (Below.refl w1.heap.size w1).alloc (Nat.le_refl _) (.cells #[.string s, .int .i64 R2] 23)
  refine wp_gen (fun W => Below w.heap.size w W ∧ Duo W g3 (.string s) (.int .i64 c) ∧ Vars W [(w1.heap.size, .string s, .int .i64 R2), (g17, .string s, .int .i64 R2), (g15, .string s, .int .i64 R), (g13, .string s, .int .i64 R), (g10, .string s, .int .i64 r), (g11, .int .u64 x, .int .u64 y), (g7, .string s, .int .i64 r), (g8, .int .u64 x, .int .u64 y)] ∧ IRowA W a1 L.length L ∧ IRowA W a2 L.length L ∧ QRowA W a3 l.length l ∧ QRowA W a4 l.length l) ⟨bthen hb' hb2, hs.keep hb2, ⟨by simp [Duo, go_sem], Vars.keep hb2 hv⟩, eH1.keep hb2, eH2.keep hb2, eH3.keep hb2, nH4.keep hb2⟩ ?_
  obtain ⟨g20, hg20⟩ : ∃ g, w1.heap.size = g := ⟨_, rfl⟩
  rintro W2 ⟨hB, hS, hV, iH1, iH2, iH3, iH4⟩
  simp only [hg20] at hV ⊢
  clear HB HS HV x0 x1 hb hb' hs hv hb2 hg20 H1 H2 H3 eH1 eH2 eH3 nH4
  have HB := Lib.hid hB; have HS := Lib.hid hS; have HV := Lib.hid hV; have H1 := Lib.hid iH1; have H2 := Lib.hid iH2; have H3 := Lib.hid iH3; have H4 := Lib.hid iH4
  clear hB hS hV iH1 iH2 iH3 iH4
  obtain ⟨⟨a0', a1', _, _⟩, ⟨b0, b1, _, _⟩, ⟨d0, d1, _, _⟩, ⟨e0, e1, _, _⟩, ⟨f0, f1, _, _⟩, ⟨g0, g1', _, _⟩, ⟨i0, i1, _, _⟩, ⟨j0, j1, _, _⟩, _⟩ := HV.out
  have ks := fun W hb => ref_below (sameq_is a3 a4 l.length l.length c3 c4 l l W (H3.out.keep hb) (H4.out.keep hb) rfl)
  clear HV HS k1 k2 k3 k4 k5 k6
  go_upto_region 12 with (go_at_call 14; (with_reducible refine (ks _ (Below.refl _ _)).mono ?_); rintro e w1 ⟨rfl, hb⟩)
  replace HB := Lib.hid (bthen HB.out hb); replace H1 := Lib.hid (H1.out.keep hb); replace H2 := Lib.hid (H2.out.keep hb)
  clear hb ks H3 H4 a0' a1' b0 b1 d0 d1 e0 e1 f0 f1 g0 g1' i0 i1 j0 j1
  have hB := HB.out; have h1 := H1.out; have h2 := H2.out
  clear HB H1 H2
  go_loopw [23] (TellsRel w a1 a2 L) (fun i _ => L.length - (intOf i).toNat)
  case atStart => exact ⟨0, Nat.zero_le _, rfl, hB, h1, h2⟩
  case round =>
    clear hB h1 h2
    obtain ⟨j, hj, rfl, hB, h1, h2⟩ := hrel
    by_cases hlt : j < L.length
    · have hlt' : (j : Int) < (L.length : Int) := by omega
      have hj0 : (0 : Int) ≤ (j : Int) := by omega
      obtain ⟨bp, op, rfl, u0⟩ := h1.2.2 j hlt
      obtain ⟨bq, oq, rfl, v0⟩ := h2.2.2 j hlt
      have HB := Lib.hid hB; have H1 := Lib.hid h1; have H2 := Lib.hid h2
      clear hB h1 h2
      generalize L.getD j 0 = z at *
      go_upto_region 14 with fail
      go_region
      go_wp2_with fail
      go_roundw
      case rel => exact ⟨j + 1, by omega, by go_num, HB.out.drew, H1.out, H2.out⟩
      case measure => simp [intOf]; omega
    · obtain rfl : j = L.length := by omega
      have HB := Lib.hid hB
      clear hB h1 h2
      go_wp2_with (go_at_call 7; (with_reducible refine (aw _ (HK.out _ _ HG0.out HB.out)).mono ?_); rintro e w1 ⟨rfl, hb⟩; replace HB := Lib.hid (bthen HB.out hb); clear hb)
      go_ret
      exact ⟨rfl, HB.out⟩
end Go.Proofs.YtgnnliablgbgkaaDoor
