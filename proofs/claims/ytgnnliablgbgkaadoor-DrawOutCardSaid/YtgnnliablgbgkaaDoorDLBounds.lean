/-
  The walk of DrawBounds: it answers true, where the program's calls do what is asked of them. (Written by gen_dlaws.py.)
-/
import Derived.Test.YtgnnliablgbgkaaDoorDrawRef3
import Derived.Test.YtgnnliablgbgkaaDoorDrawRef4
import Derived.Test.YtgnnliablgbgkaaDoorVars
import Derived.Test.YtgnnliablgbgkaaDoorGNum
import Derived.Test.YtgnnliablgbgkaaDoorSame
namespace Go.Proofs.YtgnnliablgbgkaaDoor
open Go Go.RowKit Go.Sort Go.BigFrame
set_option linter.unusedVariables false

theorem remq (n q : Int) (h : 0 ≤ n) (hq : 0 < q) : ∃ r : Nat, (r : Int) < q ∧ n.tmod q = (r : Int) ∧ n % q = (r : Int) := by
  have h1 := Int.emod_nonneg n (show q ≠ 0 by omega)
  have h2 := Int.emod_lt_of_pos n hq
  have h3 := Int.tmod_eq_emod_of_nonneg (b := q) h
  generalize n % q = z at *
  exact ⟨z.toNat, by omega, by rw [h3]; omega, by omega⟩
theorem pow_19 {K : Nat} (hK : K ≤ 19) : ∃ M2 : Int, ((2 ^ K : Nat) : Int) = M2 ∧ wrap64 (2 ^ K) = M2 ∧ IntKind.i64.wrap (2 ^ K) = M2 ∧ 0 < M2 := by
  have : ∀ k, k ≤ 19 → wrap64 (2 ^ k) = ((2 ^ k : Nat) : Int) ∧ IntKind.i64.wrap (2 ^ k) = ((2 ^ k : Nat) : Int) := by decide +kernel
  have h := this K hK
  have hMp : (0 : Int) < ((2 ^ K : Nat) : Int) := by have := Nat.pow_pos (n := K) (show 0 < 2 by decide); omega
  exact ⟨_, rfl, h.1, h.2, hMp⟩
theorem places_range (s : ByteArray) (c : Int) (K n : Nat) (M2 : Int) (hM : ((2 ^ K : Nat) : Int) = M2) (hp : 0 < M2) : ∀ j, j < n → 0 ≤ (placesD s c K n).2.getD j 0 ∧ (placesD s c K n).2.getD j 0 < M2 := by
  intro j hj
  rw [placesD_at s c K n j hj, hM]
  exact ⟨Int.emod_nonneg _ (by omega), Int.emod_lt_of_pos _ hp⟩
def BoundRel (w : World) (g3 : Nat) (s : ByteArray) (c : Int) (a1 : Option Addr) (L : List Int) (i : Value) (W : World) : Prop := ∃ k : Nat, k ≤ L.length ∧ i = .int .i64 k ∧ Below w.heap.size w W ∧ Duo W g3 (.string s) (.int .i64 c) ∧ IRowA W a1 L.length L
def ManyRel (w : World) (B g3 g11 : Nat) (s : ByteArray) (c : Int) (p : Int → Drawn) (N : Nat) (v i : Value) (W : World) : Prop :=
  ∃ (k : Nat) (ck : Int) (l : List (Int × Int)) (a : Option Addr) (cap : Nat), k ≤ N ∧ v = .slice a l.length cap ∧ i = .int .i64 k ∧ (-9223372036854775808 ≤ ck ∧ ck ≤ 9223372036854775807) ∧ Below w.heap.size w W ∧ B ≤ W.heap.size ∧ Duo W g3 (.string s) (.int .i64 c) ∧ Duo W g11 (.string s) (.int .i64 ck) ∧ W.ownsRow B 27 2 v l.length (flat l) ∧ pairsD p c k = (ck, l, true)
set_option maxRecDepth 100000 in
set_option maxHeartbeats 8000000 in
theorem dbounds_body (G : World → Prop) (hA : AskDraw G) (aw : ∀ W, G W → Calls Tryd.prog 7 #[] W fun e w' => e = .returned (.bool true) ∧ Below W.heap.size W w') (s : ByteArray) (c n k0 : Int) (w : World) (hG0 : G w) (hs : s.size ≤ maxLen) (hc : -9223372036854775808 ≤ c ∧ c ≤ 9223372036854775807) (hn : 0 ≤ n ∧ n < 256) (hk0 : 0 ≤ k0 ∧ k0 < 256) :
    Calls Tryd.prog 5 #[.agg #[.string s, .int .i64 c], .int .u8 n, .int .u8 k0] w fun e w' => e = .returned (.bool true) ∧ Below w.heap.size w w' := by
  have HK := Lib.hid (fun (W W' : World) => @AskDraw.keep G hA W W')
  have HG0 := Lib.hid hG0
  have hAh := Lib.hid hA
  unfold maxLen at hs
  clear hA hG0
  obtain ⟨i0, hi, hz0, hz1, hz2⟩ := info_parts infoPd
  obtain ⟨K, hK, e1, e1'⟩ := remq k0 20 hk0.1 (by decide)
  obtain ⟨N, hN, e2, e2'⟩ := remq n 40 hn.1 (by decide)
  obtain ⟨T, hT, e3, e3'⟩ := remq n 10 hn.1 (by decide)
  have hK' : K ≤ 19 := by omega
  have hN' : N ≤ 39 := by omega
  have hT' : T ≤ 9 := by omega
  have HPOW := Lib.hid (pow_19 hK')
  clear hn hk0 hK hN hT
  go_enter Tryd.func5, Tryd.ntmps5
  go_upto_region 1 with fail
  refine wp_gen (fun W => Below w.heap.size w W ∧ Duo W w.heap.size (.string s) (.int .i64 c)) ⟨(Below.refl _ _).alloc (Nat.le_refl _) _, by simp [Duo, go_sem]⟩ ?_
  obtain ⟨g3, hg⟩ : ∃ g, w.heap.size = g := ⟨_, rfl⟩
  rintro W1 ⟨hB, hS⟩
  rw [hg] at hS
  simp only [hg]
  have HB := Lib.hid hB; have HS := Lib.hid hS; have HV : Hid (Vars W1 []) := Lib.hid trivial
  obtain ⟨x0, x1, _, _⟩ := hS
  have hgl : w.heap.size ≤ g3 := by omega
  clear hB hg
  by_cases b0 : (200 : Int) < (s.size : Int)
  · go_wp2_with (go_at_call 7; (with_reducible refine (aw _ (HK.out _ _ HG0.out HB.out)).mono ?_); rintro e w1 ⟨rfl, hb⟩; replace HB := Lib.hid (bthen HB.out hb); clear hb)
    go_ret
    exact ⟨rfl, HB.out⟩
  by_cases b1 : (1152921504606846976 : Int) < c
  · go_wp2_with (go_at_call 7; (with_reducible refine (aw _ (HK.out _ _ HG0.out HB.out)).mono ?_); rintro e w1 ⟨rfl, hb⟩; replace HB := Lib.hid (bthen HB.out hb); clear hb)
    go_ret
    exact ⟨rfl, HB.out⟩
  obtain ⟨R1, L, hL⟩ : ∃ R L, placesD s c K (N : Int).toNat = (R, L) := ⟨_, _, rfl⟩
  have k1 := fun W hg => hAh.out.places s c (N : Int) R1 K L W (by omega) hc (by omega) (by omega) hL hg
  unfold PlacesPost at k1
  have hl : L.length = N := by
    have := placesD_len s c K (N : Int).toNat
    rw [hL] at this
    have : L.length = (N : Int).toNat := this
    omega
  obtain ⟨M2, hM2, hp1, hp2, hMp⟩ := HPOW.out
  have HC : Hid (∀ j, j < N → 0 ≤ L.getD j 0 ∧ L.getD j 0 < M2) := Lib.hid fun j hj => by
    have := places_range s c K (N : Int).toNat M2 hM2 hMp j (by omega)
    rw [hL] at this
    exact this
  have hlI : (L.length : Int) = (N : Int) := by omega
  have HL := Lib.hid hl
  clear hL hl HPOW hM2
  obtain ⟨x0, x1, _, _⟩ := HS.out
  go_upto_region 5 with (go_at_call 10; (with_reducible refine (k1 _ (HK.out _ _ HG0.out HB.out)).mono ?_); rintro e w1 ⟨hb, a1, c1, rfl, nH1⟩)
  have hb' := bthen HB.out hb
  have hs := HS.out.keep hb; have hv := Vars.keep hb HV.out
  have hb2 := (Below.refl w1.heap.size w1).alloc (Nat.le_refl _) (.cells #[.string s, .int .i64 R1] 23)
  refine wp_gen (fun W => Below w.heap.size w W ∧ Duo W g3 (.string s) (.int .i64 c) ∧ Vars W [(w1.heap.size, .string s, .int .i64 R1)] ∧ IRowA W a1 L.length L) ⟨bthen hb' hb2, hs.keep hb2, ⟨by simp [Duo, go_sem], Vars.keep hb2 hv⟩, nH1.keep hb2⟩ ?_
  obtain ⟨g8, hg8⟩ : ∃ g, w1.heap.size = g := ⟨_, rfl⟩
  rintro W2 ⟨hB, hS, hV, iH1⟩
  simp only [hg8] at hV ⊢
  clear HB HS HV x0 x1 hb hb' hs hv hb2 hg8 nH1
  have HB := Lib.hid hB; have HS := Lib.hid hS; have HV := Lib.hid hV; have H1 := Lib.hid iH1
  clear hB hS hV iH1
  clear HV
  go_upto_region 8 with fail
  clear k1
  have hB := HB.out; have hS := HS.out; have h1 := H1.out
  clear HB HS H1
  go_loopw [10] (BoundRel w g3 s c a1 L) (fun i _ => L.length - (intOf i).toNat)
  case atStart => exact ⟨0, Nat.zero_le _, rfl, hB, hS, h1⟩
  case round =>
    clear hB hS h1
    obtain ⟨j, hj, rfl, hB, hS, h1⟩ := hrel
    have hl := HL.out
    by_cases hlt : j < N
    · have hlt' : (j : Int) < (N : Int) := by omega
      have hlt1 : (j : Int) < (L.length : Int) := by omega
      have hj0 : (0 : Int) ≤ (j : Int) := by omega
      obtain ⟨bp, op, rfl, u0⟩ := h1.2.2 j (by omega)
      obtain ⟨hz0', hz1'⟩ := HC.out j hlt
      have HJ : Hid (j + 1 ≤ L.length ∧ L.length - (j + 1) < L.length - j) := Lib.hid ⟨by omega, by omega⟩
      have HB := Lib.hid hB; have H1 := Lib.hid h1; have HS := Lib.hid hS
      clear hB h1 hS hl
      generalize L.getD j 0 = z at *
      have hz0n : ¬ z < 0 := by omega
      have hz1n : ¬ M2 ≤ z := by omega
      go_wp2_with fail
      go_roundw
      case rel => exact ⟨j + 1, HJ.out.1, by go_num, HB.out, HS.out, H1.out⟩
      case measure => have h5 := HJ.out.2; clear hz0n hz1n hz0' hz1' hp1 hp2 hMp; simp [intOf]; omega
    · have hlt' : ¬ (j : Int) < (N : Int) := by omega
      have HB := Lib.hid hB; have HS := Lib.hid hS
      obtain ⟨x0, x1, _, _⟩ := hS
      clear hB h1 hl HC HL hp1 hp2 hMp e1 e1' e2 e2'
      go_upto_region 15 with fail
      clear hlI
      have hls := HS.out.lt
      refine wp_gen (fun W => (Below w.heap.size w W ∧ wr.heap.size + 1 ≤ W.heap.size) ∧ Duo W g3 (.string s) (.int .i64 c) ∧ Duo W wr.heap.size (.string s) (.int .i64 c)) ⟨⟨HB.out.alloc HB.out.size _, by simp⟩, HS.out.keep ((Below.refl _ _).alloc (Nat.le_refl _) _), by simp [Duo, go_sem]⟩ ?_
      obtain ⟨g11, hg11⟩ : ∃ g, wr.heap.size = g := ⟨_, rfl⟩
      have hwl := HB.out.size
      obtain ⟨B, hBB⟩ : ∃ B, g11 + 1 = B := ⟨_, rfl⟩
      rintro W4 ⟨⟨hB, hBs⟩, hS, hS11⟩
      rw [hg11] at hBs hS11 hls hwl
      rw [hBB] at hBs
      simp only [hg11]
      have n113 : g11 ≠ g3 := by omega
      have l11 : w.heap.size ≤ g11 := hwl
      have lB11 : g11 < B := by omega
      have lB3 : g3 < B := by omega
      have lB : w.heap.size ≤ B := by omega
      clear HB HS x0 x1 hg11 hBB hls hwl
      go_loopw [12, 13] (ManyRel w B g3 g11 s c (pairD (sqB s) 16) T) (fun _ i _ => T - (intOf i).toNat)
      case atStart => exact ⟨0, c, [], none, 0, Nat.zero_le _, rfl, rfl, hc, hB, hBs, hS, hS11, World.ownsRow_nil _ _ _ _, rfl⟩
      case round =>
        clear hB hBs hS hS11
        obtain ⟨k, ck, l, a, cap, hk, rfl, rfl, hck, hB, hBs, hS, hS11, hown, hres⟩ := hrel
        by_cases hlt2 : k < T
        · have hlt2' : (k : Int) < (T : Int) := by omega
          obtain ⟨r, x, y, ok, hp⟩ := drawn_eta (pairD (sqB s) 16 ck)
          have q1 := fun W hg => hAh.out.pair s ck r x y ok W (by omega) hck hp hg
          have hrb := pairD_bd (sqB s) 16 ck hck
          have hft := pairD_fit (sqB s) 16 ck
          have hno := pairD_no (sqB s) 16 ck
          rw [hp] at hrb hft hno
          have hrb : -9223372036854775808 ≤ r ∧ r ≤ 9223372036854775807 := hrb
          have hft : (0 ≤ x ∧ x < 18446744069414584321) ∧ (0 ≤ y ∧ y < 18446744069414584321) := hft
          have HNO : Hid (ok = false → x = 0 ∧ y = 0) := Lib.hid fun h => by have := hno h; cases this; exact ⟨rfl, rfl⟩
          have hll : l.length ≤ 1000 := by
            have := pairsD_len (pairD (sqB s) 16) c k (by rw [hres])
            rw [hres] at this
            have : l.length = k := this
            omega
          have HP := Lib.hid hp; have HRES := Lib.hid hres
          have HB := Lib.hid hB; have HS := Lib.hid hS; have HS11 := Lib.hid hS11; have HO := Lib.hid hown
          obtain ⟨x0, x1, _, _⟩ := hS11
          clear hB hS hown hp hres hno
          go_upto_region 18 with (go_at_call 8; (with_reducible refine (q1 _ (HK.out _ _ HG0.out HB.out)).mono ?_); rintro e w1 ⟨rfl, hb⟩)
          have hb' := bthen HB.out hb
          have hd3 := HS.out.keep hb; have hd11 := HS11.out.keep hb; have ho := own_keep HO.out hb
          have hl11 := hd11.lt
          have hsz := hb.size
          have hb2 := ((Below.refl w1.heap.size w1).alloc (Nat.le_refl _) (.cells #[.string s, .int .i64 r] 23)).alloc (by simp) (.cells #[.int .u64 x, .int .u64 y] 27)
          refine wp_gen (fun W => (Below w.heap.size w W ∧ B ≤ W.heap.size) ∧ (Duo W g3 (.string s) (.int .i64 c) ∧ Duo W g11 (.string s) (.int .i64 ck) ∧ W.ownsRow B 27 2 (.slice a l.length cap) l.length (flat l)) ∧ Duo W w1.heap.size (.string s) (.int .i64 r) ∧ Duo W (w1.heap.size + 1) (.int .u64 x) (.int .u64 y)) ⟨⟨bthen hb' hb2, by have := hb2.size; omega⟩, ⟨hd3.keep hb2, hd11.keep hb2, own_keep ho hb2⟩, by simp [Duo, go_sem], by simp [Duo, go_sem]⟩ ?_
          obtain ⟨g14, hg14⟩ : ∃ g, w1.heap.size = g := ⟨_, rfl⟩
          obtain ⟨g15, hg15⟩ : ∃ h, g14 + 1 = h := ⟨_, rfl⟩
          rintro W5 ⟨⟨hB, hBs2⟩, ⟨hS, hS11, hown⟩, hD14, hD15⟩
          have hol : ∀ k, (Value.slice a l.length cap).ownBlock = some k → k < w1.heap.size := fun k hk => (ho.lt k hk).2
          simp only [hg14] at hD14 hD15 hol ⊢
          simp only [hg15] at hD15 ⊢
          have n14 : g14 ≠ g11 := by omega
          have n15 : g15 ≠ g11 := by omega
          have HOL : Hid (∀ k, (Value.slice a l.length cap).ownBlock = some k → k ≠ g14 ∧ k ≠ g15) := Lib.hid fun k hk => by have := hol k hk; omega
          clear hol
          clear HB HS HS11 HO x0 x1 hb hb' hd3 hd11 ho hl11 q1 hb2 hg14 hg15 hsz hBs
          have HB := Lib.hid hB; have HS := Lib.hid hS; have HS11 := Lib.hid hS11; have HO := Lib.hid hown
          obtain ⟨x0, x1, x2, x3⟩ := hS11
          have H14 := Lib.hid hD14; have H15 := Lib.hid hD15
          obtain ⟨y0, y1, _, _⟩ := hD14
          obtain ⟨z0, z1, _, _⟩ := hD15
          clear hB hS
          cases ok with
          | false =>
            obtain ⟨rfl, rfl⟩ := HNO.out rfl
            clear HNO HP HRES hown HO hft
            go_wp2_with (go_at_call 7; (with_reducible refine (aw _ (HK.out _ _ HG0.out HB.out)).mono ?_); rintro e w1 ⟨rfl, hb⟩; replace HB := Lib.hid (bthen HB.out hb); replace z0 := bkeep hb z0; replace z1 := bkeep hb z1; clear hb)
            go_ret
            exact ⟨rfl, HB.out⟩
          | true =>
            have hr1 : (decide (x < 18446744069414584321) && decide (y < 18446744069414584321)) = true := by simp [hft.1.2, hft.2.2]
            have HY := Lib.hid (pairsD_yes HRES.out HP.out)
            have HFL := Lib.hid (show flat (l ++ [(x, y)]) = flat l ++ [.int .u64 x, .int .u64 y] by rw [flat_append]; rfl)
            have q2 := fun W => rright_q x y W
            rw [hr1] at q2
            clear HNO HP HRES hft hr1 HO
            go_upto_region 20 with (go_at_call 18; (with_reducible refine (q2 _).mono ?_); rintro e w2 ⟨rfl, hb⟩)
            replace HB := Lib.hid (bthen HB.out hb); replace HS := Lib.hid (HS.out.keep hb); replace HS11 := Lib.hid (HS11.out.keep hb); replace H14 := Lib.hid (H14.out.keep hb); replace H15 := Lib.hid (H15.out.keep hb)
            have lt14 := H14.out.lt; have lt15 := H15.out.lt; have lt11 := HS11.out.lt
            have ne14 : g14 ≠ w2.heap.size := by omega
            have ne15 : g15 ≠ w2.heap.size := by omega
            have ne11 : g11 ≠ w2.heap.size := by omega
            replace x2 := bfree hb x0 x2; replace x3 := bfree hb x1 x3; replace x0 := bkeep hb x0; replace x1 := bkeep hb x1; replace y0 := bkeep hb y0; replace y1 := bkeep hb y1; replace z0 := bkeep hb z0; replace z1 := bkeep hb z1
            replace hown := own_keep hown hb
            have hBs3 : B ≤ w2.heap.size := by have := hb.size; omega
            clear hb q2 hBs2
            have HNE := Lib.hid (own_ne hown lB11); have HNE3 := Lib.hid (own_ne hown lB3)
            have hownd : w2.drew.ownsRow B 27 2 (.slice a l.length cap) l.length (flat l) := hown.drew
            have hbd : Below w2.heap.size w2 w2.drew := (Below.refl _ _).drew
            have HD : Hid (∀ o w3, (w2.drew.alloc o).grownBy w3 (Value.slice a l.length cap).ownBlock → Duo w3 g11 (.string s) (.int .i64 ck) ∧ Duo w3 g3 (.string s) (.int .i64 c) ∧ Below w.heap.size w w3 ∧ B ≤ w3.heap.size ∧ Duo w3 g14 (.string s) (.int .i64 r) ∧ Duo w3 g15 (.int .u64 x) (.int .u64 y)) := Lib.hid fun o w3 hg => by
              have hba : Below w2.drew.heap.size w2.drew (w2.drew.alloc o) := (Below.refl _ _).alloc (Nat.le_refl _) o
              have hbw : Below w.heap.size w (w2.drew.alloc o) := bthen (bthen HB.out hbd) hba
              refine ⟨((HS11.out.keep hbd).keep hba).grown hg HNE.out, ((HS.out.keep hbd).keep hba).grown hg HNE3.out, own_row_below (hownd.alloc o) hbw hg lB hbw.size, ?_, ((H14.out.keep hbd).keep hba).grown hg (fun k hk => (HOL.out k hk).1), ((H15.out.keep hbd).keep hba).grown hg (fun k hk => (HOL.out k hk).2)⟩
              have h1 := hba.size; have h2 := hbd.size; have h3 := hg.size
              omega
            clear hbd
            generalize hfx : flat l = fl at *
            clear hfx
            go_region_law (refine wp_append_own_at (.tmp 101) (.tmp 103) 33 (by rfl) B 27 i0 (.agg #[.int .u64 0, .int .u64 0]) 2 16 Tryd.underlying33 hi hz0 hz1 hz2 rfl (by decide) (.slice a l.length cap) _ _ (by rfl) (hownd.alloc _) ⟨w2.heap.size, 0, none⟩ 1 1 [.int .u64 x, .int .u64 y] (by rfl) rfl (two_src (by simp [go_sem]) (by simp [go_sem])) (by intro u hu; simp at hu; rcases hu with rfl | rfl <;> rfl) (by unfold maxLen; omega) (by omega) (by simp [go_sem]; omega) ?_; intro v' w3 hown' hgrow _; obtain ⟨d11, d3, hB3, hBs4, ⟨r0, r1, _, _⟩, ⟨t0, t1, _, _⟩⟩ := HD.out _ _ hgrow; have HD11 := Lib.hid d11; have HD3 := Lib.hid d3; have HB3 := Lib.hid hB3; have HO3 := Lib.hid hown'; have HBS := Lib.hid hBs4; obtain ⟨p0, p1, p2, p3⟩ := d11; clear d3 hB3 hBs4 hgrow hown')
            all_goals
              clear p0 p1 p2 p3 r0 r1 t0 t1 HD hown hownd x0 x1 x2 x3 y0 y1 z0 z1 HNE HNE3 HOL ne14 ne15 ne11
              go_wp2_with fail
              go_roundw
              case rel =>
                obtain ⟨a', cap', rfl⟩ := own_form HO3.out
                refine ⟨k + 1, r, l ++ [(x, y)], a', cap', by omega, by simp, by go_num, hrb, (HB3.out.setCell l11 _).setCell l11 _, by have := HBS.out; simp [World.setCell]; omega, (HD3.out.far n113 _ _).far n113 _ _, HD11.out.set _ _, ?_, HY.out⟩
                rw [HFL.out]
                have := own_set (o := 1) (x := .int .i64 r) (own_set (o := 0) (x := .string s) HO3.out lB11) lB11
                simpa using this
              case measure => simp [intOf]; omega
        · have hkT : k = T := by omega
          have k5 := fun W hg => hAh.out.pairs s c (T : Int) ck l true W (by omega) hc (by omega) (by rw [show (T : Int).toNat = k by omega]; exact hres) hg
          unfold PairsPost at k5
          have hlt2' : ¬ (k : Int) < (T : Int) := by omega
          have HB := Lib.hid hB; have HS := Lib.hid hS; have HS11 := Lib.hid hS11; have HO := Lib.hid hown
          have HQ := Lib.hid (own_qrow hown)
          have HA : Hid (∀ (a' : Option Addr) (c' : Nat), Value.slice a l.length cap = .slice a' l.length c' → a' = a) := Lib.hid fun a' c' h => by cases h; rfl
          obtain ⟨x0, x1, _, _⟩ := hS
          clear hB hS11 hown hres hkT
          go_upto_region 22 with (go_at_call 12; (with_reducible refine (k5 _ (HK.out _ _ HG0.out HB.out)).mono ?_); rintro e w1 ⟨hb, a5, c5, rfl, hq⟩)
          have hb2 := (Below.refl w1.heap.size w1).alloc (Nat.le_refl _) (.cells #[.string s, .int .i64 ck] 23)
          have hq2 : QRowA w1 a l.length l := by
            obtain ⟨a', c', h1, h2⟩ := HQ.out
            obtain rfl := HA.out _ _ h1
            exact h2.keep hb
          refine wp_gen (fun W => Below w.heap.size w W ∧ Duo W g11 (.string s) (.int .i64 ck) ∧ Duo W w1.heap.size (.string s) (.int .i64 ck) ∧ QRowA W a5 l.length l ∧ QRowA W a l.length l) ⟨bthen (bthen HB.out hb) hb2, (HS11.out.keep hb).keep hb2, by simp [Duo, go_sem], hq.keep hb2, hq2.keep hb2⟩ ?_
          generalize w1.heap.size = g17
          clear HB HS HS11 HO HQ HA x0 x1 hb hb2 hq hq2 k5
          rintro W6 ⟨hB, ⟨x0, x1, _, _⟩, ⟨y0, y1, _, _⟩, hq, hq2⟩
          have HB := Lib.hid hB; have H5 := Lib.hid hq; have H6 := Lib.hid hq2
          clear hB hq hq2
          go_wp2_with (first
            | (go_at_call 7; (with_reducible refine (aw _ (HK.out _ _ HG0.out HB.out)).mono ?_); rintro e w1 ⟨rfl, hb⟩; replace HB := Lib.hid (bthen HB.out hb); replace H5 := Lib.hid (H5.out.keep hb); replace H6 := Lib.hid (H6.out.keep hb); replace x0 := bkeep hb x0; replace x1 := bkeep hb x1; replace y0 := bkeep hb y0; replace y1 := bkeep hb y1; clear hb)
            | (go_at_call 14; (with_reducible refine (ref_below (sameq_is a5 a l.length l.length c5 cap l l _ H5.out H6.out rfl)).mono ?_); rintro e w1 ⟨rfl, hb⟩; replace HB := Lib.hid (bthen HB.out hb); clear hb))
          go_ret
          exact ⟨rfl, HB.out⟩
end Go.Proofs.YtgnnliablgbgkaaDoor
