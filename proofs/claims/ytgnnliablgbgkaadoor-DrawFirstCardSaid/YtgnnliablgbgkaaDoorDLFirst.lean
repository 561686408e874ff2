/-
  The walk of DrawFirst: it answers true, where the program's calls do what is asked of them. (Written by gen_dlaws.py.)
-/
import Derived.Test.YtgnnliablgbgkaaDoorDrawRef3
import Derived.Test.YtgnnliablgbgkaaDoorDrawRef4
import Derived.Test.YtgnnliablgbgkaaDoorVars
import Derived.Test.YtgnnliablgbgkaaDoorGNum
import Derived.Test.YtgnnliablgbgkaaDoorSame
namespace Go.Proofs.YtgnnliablgbgkaaDoor
open Go Go.RowKit Go.Sort Go.BigFrame
set_option linter.unusedVariables false

def DFiR (g3 : Nat) (a b d : Int) (N M K : Nat) (sl : Nat) (v : Value) (W : World) : Prop :=
  match sl with
  | 23 => v = .pointer (some ⟨g3, 0, none⟩)
  | 24 => v = .int .u8 a
  | 25 => v = .int .u8 (N : Int)
  | 26 => v = .int .i64 (IntKind.i64.wrap (N : Int))
  | 27 => v = .pointer (some ⟨g3, 1, none⟩)
  | 28 => v = .int .u8 b
  | 29 => v = .int .u8 (M : Int)
  | 30 => v = .int .i64 (IntKind.i64.wrap (M : Int))
  | 31 => v = .pointer (some ⟨g3, 2, none⟩)
  | 32 => v = .int .u8 d
  | 33 => v = .int .u8 (K : Int)
  | 34 => v = .int .i64 (IntKind.i64.wrap (K : Int))
  | 5 => v = .int .i64 (IntKind.i64.wrap (N : Int))
  | 6 => v = .int .i64 (IntKind.i64.wrap (M : Int))
  | 7 => v = .int .i64 (IntKind.i64.wrap (K : Int))
  | _ => v = .bool true
theorem DFiR.keep {g3 : Nat} {a b d : Int} {N M K : Nat} {sl : Nat} {v : Value} {W W' : World} (h : DFiR g3 a b d N M K sl v W) (hb : Below W.heap.size W W') : DFiR g3 a b d N M K sl v W' := by
  unfold DFiR at *
  split at h
  all_goals first | exact h
def FirstRel (w : World) (a1 a2 : Option Addr) (L1 L2 : List Int) (i : Value) (W : World) : Prop := ∃ k : Nat, k ≤ L2.length ∧ i = .int .i64 k ∧ Below w.heap.size w W ∧ IRowA W a1 L1.length L1 ∧ IRowA W a2 L2.length L2
theorem rem30 (n : Int) (h : 0 ≤ n ∧ n < 256) : ∃ r : Nat, r ≤ 29 ∧ n.tmod 30 = (r : Int) ∧ n % 30 = (r : Int) := by
  refine ⟨(n % 30).toNat, by omega, ?_, by omega⟩
  rw [Int.tmod_eq_emod_of_nonneg h.1]
  omega
theorem rem20d (n : Int) (h : 0 ≤ n ∧ n < 256) : ∃ r : Nat, r ≤ 19 ∧ n.tmod 20 = (r : Int) ∧ n % 20 = (r : Int) := by
  refine ⟨(n % 20).toNat, by omega, ?_, by omega⟩
  rw [Int.tmod_eq_emod_of_nonneg h.1]
  omega
theorem i64_lit (n : Nat) (h : n ≤ 1000) : IntKind.i64.wrap (n : Int) = n := IntWalk.i64_in _ (by omega)
theorem first_cut (v : Int) (K : Nat) : (v % (2 ^ (K + 3) : Nat)) % (2 ^ K : Nat) = v % (2 ^ K : Nat) := Int.emod_emod_of_dvd _ ⟨8, by rw [Nat.pow_add]; push_cast; rfl⟩
theorem wrap_2pow {k : Nat} (hk : k ≤ 19) : wrap64 (2 ^ k) = ((2 ^ k : Nat) : Int) ∧ IntKind.i64.wrap (2 ^ k) = ((2 ^ k : Nat) : Int) := by
  have : ∀ k, k ≤ 19 → wrap64 (2 ^ k) = ((2 ^ k : Nat) : Int) ∧ IntKind.i64.wrap (2 ^ k) = ((2 ^ k : Nat) : Int) := by decide +kernel
  exact this k hk
theorem pow_facts {K : Nat} (hK : K ≤ 19) : ∃ M2 : Int, ((2 ^ K : Nat) : Int) = M2 ∧ (wrap64 (2 ^ K) = M2 ∧ IntKind.i64.wrap (2 ^ K) = M2) ∧ ¬ M2 = 0 := by
  have h := wrap_2pow hK
  have hMp : (0 : Int) < ((2 ^ K : Nat) : Int) := by have := Nat.pow_pos (n := K) (show 0 < 2 by decide); omega
  exact ⟨_, rfl, h, by omega⟩
set_option maxRecDepth 100000 in
set_option maxHeartbeats 8000000 in
theorem dfirst_body (G : World → Prop) (hA : AskDraw G) (aw : ∀ W, G W → Calls Tryd.prog 7 #[] W fun e w' => e = .returned (.bool true) ∧ Below W.heap.size W w') (s : ByteArray) (c a b d : Int) (w : World) (hG0 : G w) (hs : s.size ≤ maxLen) (hc : -9223372036854775808 ≤ c ∧ c ≤ 9223372036854775807) (ha : 0 ≤ a ∧ a < 256) (hb : 0 ≤ b ∧ b < 256) (hd : 0 ≤ d ∧ d < 256) :
    Calls Tryd.prog 6 #[.agg #[.string s, .int .i64 c], .agg #[.int .u8 a, .int .u8 b, .int .u8 d]] w fun e w' => e = .returned (.bool true) ∧ Below w.heap.size w w' := by
  have HK := Lib.hid (fun (W W' : World) => @AskDraw.keep G hA W W')
  have HG0 := Lib.hid hG0
  have hAh := Lib.hid hA
  unfold maxLen at hs
  clear hA hG0
  obtain ⟨N, hN, e1, e1'⟩ := rem30 a ha
  obtain ⟨M, hM, e2, e2'⟩ := rem30 b hb
  obtain ⟨K, hK, e3, e3'⟩ := rem20d d hd
  have HWN : Hid (IntKind.i64.wrap (N : Int) = N ∧ IntKind.i64.wrap (M : Int) = M ∧ IntKind.i64.wrap (K : Int) = K) := Lib.hid ⟨i64_lit N (by omega), i64_lit M (by omega), i64_lit K (by omega)⟩
  have HPOW := Lib.hid (pow_facts hK)
  clear ha hb hd
  go_enter Tryd.func6, Tryd.ntmps6
  go_upto_region 1 with fail
  refine wp_gen (fun W => Below w.heap.size w W ∧ Duo W w.heap.size (.string s) (.int .i64 c) ∧ W.cell? ⟨w.heap.size + 1, 0, none⟩ = some (.int .u8 a) ∧ W.cell? ⟨w.heap.size + 1, 1, none⟩ = some (.int .u8 b) ∧ W.cell? ⟨w.heap.size + 1, 2, none⟩ = some (.int .u8 d)) ⟨((Below.refl _ _).alloc (Nat.le_refl _) _).alloc (by simp) _, by simp [Duo, go_sem], by simp [go_sem], by simp [go_sem], by simp [go_sem]⟩ ?_
  obtain ⟨g2, hg⟩ : ∃ g, w.heap.size = g := ⟨_, rfl⟩
  obtain ⟨g3, hg3⟩ : ∃ h, g2 + 1 = h := ⟨_, rfl⟩
  rintro W1 ⟨hB, hS, t0, t1, t2⟩
  simp only [hg] at hS t0 t1 t2 ⊢
  simp only [hg3] at t0 t1 t2 ⊢
  have HB := Lib.hid hB; have HS := Lib.hid hS; have HV : Hid (Vars W1 []) := Lib.hid trivial
  obtain ⟨x0, x1, _, _⟩ := hS
  have hgl : w.heap.size ≤ g2 := by omega
  clear hB hg hg3
  by_cases b0 : (200 : Int) < (s.size : Int)
  · go_wp2_with (go_at_call 7; (with_reducible refine (aw _ (HK.out _ _ HG0.out HB.out)).mono ?_); rintro e w1 ⟨rfl, hb⟩; replace HB := Lib.hid (bthen HB.out hb); clear hb)
    go_ret
    exact ⟨rfl, HB.out⟩
  by_cases b1 : (1152921504606846976 : Int) < c
  · go_wp2_with (go_at_call 7; (with_reducible refine (aw _ (HK.out _ _ HG0.out HB.out)).mono ?_); rintro e w1 ⟨rfl, hb⟩; replace HB := Lib.hid (bthen HB.out hb); clear hb)
    go_ret
    exact ⟨rfl, HB.out⟩
  obtain ⟨R1, L1, hL1⟩ : ∃ R L, placesD s c (K + 3) ((N : Int) + M).toNat = (R, L) := ⟨_, _, rfl⟩
  obtain ⟨R2, L2, hL2⟩ : ∃ R L, placesD s c K (N : Int).toNat = (R, L) := ⟨_, _, rfl⟩
  have k1 := fun W hg => hAh.out.places s c ((N : Int) + M) R1 (K + 3) L1 W (by omega) hc (by omega) (by omega) hL1 hg
  have k2 := fun W hg => hAh.out.places s c (N : Int) R2 K L2 W (by omega) hc (by omega) (by omega) hL2 hg
  rw [show ((K + 3 : Nat) : Int) = (K : Int) + 3 by omega] at k1
  unfold PlacesPost at k1 k2
  have hl1 : L1.length = N + M := by
    have := placesD_len s c (K + 3) ((N : Int) + M).toNat
    rw [hL1] at this
    have : L1.length = ((N : Int) + M).toNat := this
    omega
  have hl2 : L2.length = N := by
    have := placesD_len s c K (N : Int).toNat
    rw [hL2] at this
    have : L2.length = (N : Int).toNat := this
    omega
  have HC : Hid (∀ j, j < N → (0 ≤ L1.getD j 0 ∧ (L1.getD j 0).tmod ((2 ^ K : Nat) : Int) = L2.getD j 0)) := Lib.hid fun j hj => by
    have h1 := placesD_at s c (K + 3) ((N : Int) + M).toNat j (by omega)
    have h2 := placesD_at s c K (N : Int).toNat j (by omega)
    rw [hL1] at h1
    rw [hL2] at h2
    have h1 : L1.getD j 0 = _ := h1
    have h2 : L2.getD j 0 = _ := h2
    rw [h1, h2, placesD_count s c (K + 3) K j]
    generalize numB (sqB s (placesD s c K j).1) 0 = v
    have hp : (0 : Int) < ((2 ^ (K + 3) : Nat) : Int) := by have := Nat.pow_pos (n := K + 3) (show 0 < 2 by decide); omega
    have h0 := Int.emod_nonneg v (show ((2 ^ (K + 3) : Nat) : Int) ≠ 0 by omega)
    exact ⟨h0, by rw [Int.tmod_eq_emod_of_nonneg h0]; exact first_cut v K⟩
  have hw1 : wrap64 ((N : Int) + M) = (N : Int) + M := IntWalk.wrap64_in _ (by omega)
  have hw2 : wrap64 ((K : Int) + 3) = (K : Int) + 3 := IntWalk.wrap64_in _ (by omega)
  have hl1I : (L1.length : Int) = (N : Int) + M := by omega
  have hl2I : (L2.length : Int) = (N : Int) := by omega
  have HL := Lib.hid (And.intro hl1 hl2)
  clear hL1 hL2 hl1 hl2
  go_upto_region 3 with fail
  refine wp_loose [(23, []), (24, [23]), (25, [24]), (26, [25]), (27, []), (28, [27]), (29, [28]), (30, [29]), (31, []), (32, [31]), (33, [32]), (34, [33]), (5, [26]), (6, [30]), (7, [34])]
    (DFiR g3 a b d N M K) (fun d => false) (by kernel_rfl) (by kernel_rfl) (fun _ _ _ _ h hb => h.keep hb) ?_ ?_
  · refine opsrun_cons ?_ (opsrun_cons ?_ (opsrun_cons ?_ (opsrun_cons ?_ (opsrun_cons ?_ (opsrun_cons ?_ (opsrun_cons ?_ (opsrun_cons ?_ (opsrun_cons ?_ (opsrun_cons ?_ (opsrun_cons ?_ (opsrun_cons ?_ (opsrun_cons ?_ (opsrun_cons ?_ (opsrun_cons ?_ opsrun_nil))))))))))))))
    all_goals
      refine OpRuns.any ?_
      intro Q0 σ W' K hb hn hK
      simp only [fill, List.map, Act.put, List.setIfInBounds_toArray, List.set_cons_zero, List.set_cons_succ] at hK ⊢
    · clear hn
      go_simp
      exact hK _ _ rfl (Below.refl _ _) (fun h => absurd h (by decide))
    · have h23 : σ 23 = _ := hn 23 (by decide)
      clear hn
      simp only [h23] at hK
      have t0' := bkeep hb t0
      clear t0
      go_simp
      exact hK _ _ rfl (Below.refl _ _) (fun h => absurd h (by decide))
    · have h24 : σ 24 = _ := hn 24 (by decide)
      clear hn
      simp only [h24] at hK
      go_simp
      exact hK _ _ rfl (Below.refl _ _) (fun h => absurd h (by decide))
    · have h25 : σ 25 = _ := hn 25 (by decide)
      clear hn
      simp only [h25] at hK
      go_simp
      exact hK _ _ rfl (Below.refl _ _) (fun h => absurd h (by decide))
    · clear hn
      go_simp
      exact hK _ _ rfl (Below.refl _ _) (fun h => absurd h (by decide))
    · have h27 : σ 27 = _ := hn 27 (by decide)
      clear hn
      simp only [h27] at hK
      have t1' := bkeep hb t1
      clear t1
      go_simp
      exact hK _ _ rfl (Below.refl _ _) (fun h => absurd h (by decide))
    · have h28 : σ 28 = _ := hn 28 (by decide)
      clear hn
      simp only [h28] at hK
      go_simp
      exact hK _ _ rfl (Below.refl _ _) (fun h => absurd h (by decide))
    · have h29 : σ 29 = _ := hn 29 (by decide)
      clear hn
      simp only [h29] at hK
      go_simp
      exact hK _ _ rfl (Below.refl _ _) (fun h => absurd h (by decide))
    · clear hn
      go_simp
      exact hK _ _ rfl (Below.refl _ _) (fun h => absurd h (by decide))
    · have h31 : σ 31 = _ := hn 31 (by decide)
      clear hn
      simp only [h31] at hK
      have t2' := bkeep hb t2
      clear t2
      go_simp
      exact hK _ _ rfl (Below.refl _ _) (fun h => absurd h (by decide))
    · have h32 : σ 32 = _ := hn 32 (by decide)
      clear hn
      simp only [h32] at hK
      go_simp
      exact hK _ _ rfl (Below.refl _ _) (fun h => absurd h (by decide))
    · have h33 : σ 33 = _ := hn 33 (by decide)
      clear hn
      simp only [h33] at hK
      go_simp
      exact hK _ _ rfl (Below.refl _ _) (fun h => absurd h (by decide))
    · have h26 : σ 26 = _ := hn 26 (by decide)
      clear hn
      simp only [h26] at hK
      go_simp
      exact hK _ _ rfl (Below.refl _ _) (fun h => absurd h (by decide))
    · have h30 : σ 30 = _ := hn 30 (by decide)
      clear hn
      simp only [h30] at hK
      go_simp
      exact hK _ _ rfl (Below.refl _ _) (fun h => absurd h (by decide))
    · have h34 : σ 34 = _ := hn 34 (by decide)
      clear hn
      simp only [h34] at hK
      go_simp
      exact hK _ _ rfl (Below.refl _ _) (fun h => absurd h (by decide))
  · intro σ W3 hb hR' hF
    have h26 : σ 5 = .int .i64 (IntKind.i64.wrap (N : Int)) := hR' 5 (by decide)
    have h30 : σ 6 = .int .i64 (IntKind.i64.wrap (M : Int)) := hR' 6 (by decide)
    have h34 : σ 7 = .int .i64 (IntKind.i64.wrap (K : Int)) := hR' 7 (by decide)
    rw [HWN.out.1] at h26
    rw [HWN.out.2.1] at h30
    rw [HWN.out.2.2] at h34
    replace HB := Lib.hid (bthen HB.out hb); replace HS := Lib.hid (HS.out.keep hb)
    have HV : Hid (Vars W3 []) := Lib.hid trivial
    clear hR' hF hb x0 x1 t0 t1 t2 e1 e1' e2 e2' e3 e3'
    simp only [fill, List.map, Act.put, List.setIfInBounds_toArray, List.set_cons_zero, List.set_cons_succ, List.length_cons, List.length_nil, List.drop_succ_cons, List.drop_zero, Nat.reduceAdd, h26, h30, h34]
    clear h26 h30 h34
    obtain ⟨x0, x1, _, _⟩ := HS.out
    go_upto_region 5 with (go_at_call 10; (with_reducible refine (k1 _ (HK.out _ _ HG0.out HB.out)).mono ?_); rintro e w1 ⟨hb, a1, c1, rfl, nH1⟩)
    have hb' := bthen HB.out hb
    have hs := HS.out.keep hb; have hv := Vars.keep hb HV.out
    have hb2 := (Below.refl w1.heap.size w1).alloc (Nat.le_refl _) (.cells #[.string s, .int .i64 R1] 23)
    refine wp_gen (fun W => Below w.heap.size w W ∧ Duo W g2 (.string s) (.int .i64 c) ∧ Vars W [(w1.heap.size, .string s, .int .i64 R1)] ∧ IRowA W a1 L1.length L1) ⟨bthen hb' hb2, hs.keep hb2, ⟨by simp [Duo, go_sem], Vars.keep hb2 hv⟩, nH1.keep hb2⟩ ?_
    obtain ⟨g8, hg8⟩ : ∃ g, w1.heap.size = g := ⟨_, rfl⟩
    rintro W2 ⟨hB, hS, hV, iH1⟩
    simp only [hg8] at hV ⊢
    clear HB HS HV x0 x1 hb hb' hs hv hb2 hg8 nH1
    have HB := Lib.hid hB; have HS := Lib.hid hS; have HV := Lib.hid hV; have H1 := Lib.hid iH1
    clear hB hS hV iH1
    obtain ⟨x0, x1, _, _⟩ := HS.out
    go_upto_region 6 with (go_at_call 10; (with_reducible refine (k2 _ (HK.out _ _ HG0.out HB.out)).mono ?_); rintro e w1 ⟨hb, a2, c2, rfl, nH2⟩)
    have hb' := bthen HB.out hb
    have hs := HS.out.keep hb; have hv := Vars.keep hb HV.out
    have eH1 := H1.out.keep hb
    have hb2 := (Below.refl w1.heap.size w1).alloc (Nat.le_refl _) (.cells #[.string s, .int .i64 R2] 23)
    refine wp_gen (fun W => Below w.heap.size w W ∧ Duo W g2 (.string s) (.int .i64 c) ∧ Vars W [(w1.heap.size, .string s, .int .i64 R2), (g8, .string s, .int .i64 R1)] ∧ IRowA W a1 L1.length L1 ∧ IRowA W a2 L2.length L2) ⟨bthen hb' hb2, hs.keep hb2, ⟨by simp [Duo, go_sem], Vars.keep hb2 hv⟩, eH1.keep hb2, nH2.keep hb2⟩ ?_
    obtain ⟨g10, hg10⟩ : ∃ g, w1.heap.size = g := ⟨_, rfl⟩
    rintro W2 ⟨hB, hS, hV, iH1, iH2⟩
    simp only [hg10] at hV ⊢
    clear HB HS HV x0 x1 hb hb' hs hv hb2 hg10 H1 eH1 nH2
    have HB := Lib.hid hB; have HS := Lib.hid hS; have HV := Lib.hid hV; have H1 := Lib.hid iH1; have H2 := Lib.hid iH2
    clear hB hS hV iH1 iH2
    clear HV HS k1 k2
    go_upto_region 9 with fail
    have hB := HB.out; have h1 := H1.out; have h2 := H2.out
    clear HB H1 H2
    obtain ⟨M2, hM2, ⟨hp1, hp2⟩, hMne⟩ := HPOW.out
    rw [hM2] at HC
    clear hM2 hl1I hl2I hw1 hw2
    go_loopw [12] (FirstRel w a1 a2 L1 L2) (fun i _ => L2.length - (intOf i).toNat)
    case atStart => exact ⟨0, Nat.zero_le _, rfl, hB, h1, h2⟩
    case round =>
      clear hB h1 h2
      obtain ⟨j, hj, rfl, hB, h1, h2⟩ := hrel
      obtain ⟨hl1, hl2⟩ := HL.out
      by_cases hlt : j < N
      · have hlt' : (j : Int) < (N : Int) := by omega
        have hj0 : (0 : Int) ≤ (j : Int) := by omega
        have hlt1 : (j : Int) < (L1.length : Int) := by omega
        have hlt2 : (j : Int) < (L2.length : Int) := by omega
        obtain ⟨bp, op, rfl, u0⟩ := h1.2.2 j (by omega)
        obtain ⟨bq, oq, rfl, v0⟩ := h2.2.2 j (by omega)
        have HJ : Hid (j + 1 ≤ L2.length) := Lib.hid (by omega)
        obtain ⟨hz0, hzr⟩ := HC.out j hlt
        have HB := Lib.hid hB; have H1 := Lib.hid h1; have H2 := Lib.hid h2
        clear hB h1 h2 hl1 hl2
        generalize L1.getD j 0 = z at *
        generalize L2.getD j 0 = z' at *
        go_upto_region 11 with fail
        go_region
        go_wp2_with fail
        go_roundw
        case rel => exact ⟨j + 1, HJ.out, by go_num, HB.out.drew, H1.out, H2.out⟩
        case measure => have h5 := HJ.out; clear hzr hz0 hp1 hp2 hMne u0 v0; simp [intOf]; omega
      · have hlt' : ¬ (j : Int) < (N : Int) := by omega
        have HB := Lib.hid hB
        clear hB h1 h2 hl1 hl2
        go_wp2_with (go_at_call 7; (with_reducible refine (aw _ (HK.out _ _ HG0.out HB.out)).mono ?_); rintro e w1 ⟨rfl, hb⟩; replace HB := Lib.hid (bthen HB.out hb); clear hb)
        go_ret
        exact ⟨rfl, HB.out⟩
end Go.Proofs.YtgnnliablgbgkaaDoor
