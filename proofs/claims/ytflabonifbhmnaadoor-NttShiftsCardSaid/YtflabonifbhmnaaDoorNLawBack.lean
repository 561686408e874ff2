/-
  The walk of NttBack: it answers true, where the program's calls do what is asked of them.
-/
import Derived.Test.YtflabonifbhmnaaDoorNAwake
namespace Go.Proofs.YtflabonifbhmnaaDoor
open Go.RowKit Go.Sort Go.BigFrame
set_option linter.unusedVariables false

theorem padL_U (zs : List Int) (n : Nat) : ∀ m ∈ padL zs n, U m := by
  intro m hm
  simp only [padL, List.mem_map] at hm
  obtain ⟨z, _, rfl⟩ := hm
  exact enc_U _
theorem forth_pad (zs : List Int) (s : F) (k : Nat) (h : zs.length ≤ 2 ^ k) : forthL (padL zs (2 ^ k)) s k = forthL zs s k := by
  show ((List.range (2 ^ k)).map fun i => enc (ev (padL zs (2 ^ k)).length (co (padL zs (2 ^ k))) (pt s k i))) = _
  refine map_range fun i hi => ?_
  rw [padL_len, ev_congr (d := co zs) (fun j hj => co_padL zs _ j hj), ev_more _ h (fun j hj => co_out zs j hj)]
theorem pad_in (zs : List Int) (n i : Nat) (hi : i < n) (h : i < zs.length) : (padL zs n).getD i 0 = enc (toF (zs.getD i 0)) := padL_at zs n i hi
theorem pad_out (zs : List Int) (n i : Nat) (hi : i < n) (h : zs.length ≤ i) : (padL zs n).getD i 0 = 0 := by rw [padL_at zs n i hi, co_out zs i h]; rfl

set_option maxHeartbeats 8000000 in
theorem nback_tail (aw : ∀ W, Tab W → Calls Tryd.prog 9 #[] W fun e w' => e = .returned (.bool true) ∧ Below W.heap.size W w') (hF : AskForth) (hBk : AskBack) (zs : List Int) (zi : Int) (hz : U zi) (h0 : toF zi ≠ 0) (k : Nat) (hk : k ≤ 10) (hl : zs.length ≤ 2 ^ k) (hu : ∀ n ∈ zs, U n) :
    (∀ a cap W, Row W (.slice a zs.length cap) zs → Tab W → Calls Tryd.prog 10 #[.slice a zs.length cap, .int .u64 zi, .int .i64 k] W (NewOk W (2 ^ k) (forthL zs (toF zi) k))) ∧
    (∀ a cap W, Row W (.slice a (2 ^ k) cap) (forthL zs (toF zi) k) → Tab W → Calls Tryd.prog 12 #[.slice a (2 ^ k) cap, .int .u64 zi] W (NewOk W (2 ^ k) (padL zs (2 ^ k)))) ∧
    (∀ a cap W, Row W (.slice a (2 ^ k) cap) (padL zs (2 ^ k)) → Tab W → Calls Tryd.prog 10 #[.slice a (2 ^ k) cap, .int .u64 zi, .int .i64 k] W (NewOk W (2 ^ k) (forthL zs (toF zi) k))) := by
  refine ⟨fun a cap W h t => hF.yes a _ cap zs zi k W hz (by omega) h hu hl t, fun a cap W h t => ?_, fun a cap W h t => ?_⟩
  · have := hBk.yes a _ cap (forthL zs (toF zi) k) zi k W hz h0 (by omega) h (forthL_U _ _ _) (forthL_len _ _ _) t
    rwa [back_forth zs (toF zi) h0 k (by omega) hl] at this
  · have := hF.yes a _ cap (padL zs (2 ^ k)) zi k W hz (by omega) h (padL_U _ _) (by rw [padL_len]; omega) t
    rwa [forth_pad zs (toF zi) k hl] at this

set_option maxHeartbeats 8000000 in
theorem nback_body (hF : AskForth) (hBk : AskBack) (hP : AskPoints) (a : Option Addr) (len cap : Nat) (zs : List Int) (zi more : Int) (hz : U zi) (hmore : 0 ≤ more ∧ more ≤ 255) (w : World) (ht : Tab w) (hr : Row w (.slice a len cap) zs) (hu : ∀ n ∈ zs, U n) :
    Calls Tryd.prog 5 #[.slice a len cap, .int .u64 zi, .int .u8 more] w fun e w' => e = .returned (.bool true) ∧ Below w.heap.size w w' := by
  have hlm := hr.at.2.1
  obtain rfl := hr.at.1
  unfold maxLen at hlm
  have aw := fun W t => nawake_any hF hBk hP W t
  have hB := Below.refl w.heap.size w
  have r1 := rem_toF zi hz
  have r2 := mod_toF zi hz
  have z0 := hz.1
  by_cases hc : zs.length ≤ 130
  · by_cases h0 : toF zi = 0
    · rw [h0, enc_zero] at r1 r2
      clear hr hu hF hBk hP h0 hz
      go_enter Tryd.func5, Tryd.ntmps5
      go_wp2_with (go_at_call 9; ((with_reducible refine (aw _ ht).mono ?_); rintro e w1 ⟨rfl, hb⟩))
      go_ret
      exact ⟨rfl, hb⟩
    · have hne : (enc (toF zi) == 0) = false := by
        have : ¬ enc (toF zi) = 0 := fun hh => h0 (enc_inj.mp (hh.trans enc_zero.symm))
        simpa using this
      have T := Lib.hid (nback_tail aw hF hBk zs zi hz h0)
      have HU := Lib.hid hu
      have HR := Lib.hid hr
      obtain ⟨m0, m1⟩ := hmore
      obtain ⟨d, hd⟩ : ∃ d : Nat, more % 3 = d := ⟨(more % 3).toNat, by omega⟩
      have hd3 : d < 3 := by omega
      clear hF hBk hP hz hu hr h0
      generalize enc (toF zi) = es at *
      go_enter Tryd.func5, Tryd.ntmps5
      go_upto_region 4 with fail
      clear r1 r2 hne
      go_loop [7] (fun i => ∃ j : Nat, j ≤ 8 ∧ i = .int .i64 j) (fun i => 8 - (intOf i).toNat)
      case atStart => exact ⟨0, by omega, rfl⟩
      case round =>
        obtain ⟨j, hj, rfl⟩ := hrel
        have e1 := wrap64_pow j (by omega)
        by_cases hlt : 2 ^ j < zs.length
        · have hj8 : j < 8 := by
            refine Nat.lt_of_not_le fun hh => ?_
            have : 2 ^ 8 ≤ 2 ^ j := Nat.pow_le_pow_right (by decide) hh
            omega
          have hlt' : ((2 ^ j : Nat) : Int) < (zs.length : Int) := by omega
          clear hlt
          generalize ((2 ^ j : Nat) : Int) = P at *
          go_wp2
          go_round
          case rel => exact ⟨j + 1, by omega, by go_num⟩
          case measure => simp [intOf]; omega
        · have hlt' : ¬ ((2 ^ j : Nat) : Int) < (zs.length : Int) := by omega
          have hl2 : zs.length ≤ 2 ^ (j + d) := Nat.le_trans (Nat.le_of_not_lt hlt) (Nat.pow_le_pow_right (by decide) (by omega))
          obtain ⟨t1, t2, t3⟩ := T.out (j + d) (by omega) hl2 HU.out
          have e2 := wrap64_pow (j + d) (by omega)
          have P10 : 2 ^ (j + d) ≤ 2 ^ 10 := Nat.pow_le_pow_right (by decide) (by omega)
          have HI := Lib.hid (pad_in zs (2 ^ (j + d)))
          have HO := Lib.hid (pad_out zs (2 ^ (j + d)))
          clear hlt
          rw [show (((j + d : Nat) : Int)) = (j : Int) + (d : Int) by omega] at t1 t3
          unfold NewOk at t1 t2 t3
          generalize forthL zs (toF zi) (j + d) = xs at *
          generalize padL zs (2 ^ (j + d)) = ys at *
          obtain ⟨n, hn⟩ : ∃ n, 2 ^ (j + d) = n := ⟨_, rfl⟩
          have HN := Lib.hid hn
          rw [hn] at t1 t2 t3 e2 P10 hl2
          clear hn
          generalize ((2 ^ j : Nat) : Int) = P at *
          have hdd : (d : Int) < 3 := by omega
          have hjj : (j : Int) ≤ 8 := by omega
          go_upto_region 8 with ((go_at_call 10; ((with_reducible refine (t1 _ _ _ HR.out ht).mono ?_); rintro e w1 ⟨a1, c1, rfl, hb, h1⟩; replace ht := ht.keep hb; replace hB := bthen hB hb; clear hb)))
          go_upto_region 9 with ((go_at_call 12; ((with_reducible refine (t2 _ _ _ h1 ht).mono ?_); rintro e w2 ⟨a2, c2, rfl, hb, h2⟩; replace h1 := h1.below hb; replace ht := ht.keep hb; replace hB := bthen hB hb; clear hb)))
          go_upto_region 10 with ((go_at_call 10; ((with_reducible refine (t3 _ _ _ h2 ht).mono ?_); rintro e w3 ⟨a3, c3, rfl, hb, h3⟩; replace h1 := h1.below hb; replace h2 := h2.below hb; replace ht := ht.keep hb; replace hB := bthen hB hb; clear hb)))
          have H2 := Lib.hid h2.at
          have HR3 := Lib.hid (HR.out.below hB)
          clear h2 t1 t2 t3
          go_upto_region 13 with fail
          go_loop [14, 15] (fun i x => ∃ m : Nat, m ≤ n ∧ i = .int .i64 m) (fun i _ => n - (intOf i).toNat)
          case atStart => exact ⟨0, Nat.zero_le _, rfl⟩
          case round =>
            obtain ⟨m, hm, rfl⟩ := hrel
            by_cases hlt : m < n
            · obtain ⟨b, off, rfl, g0⟩ := H2.out.2.2 m hlt
              by_cases hin : m < zs.length
              · obtain ⟨b2, off2, rfl, g1⟩ := HR3.out.at.2.2 m hin
                have gU := U_getD HU.out m hin
                rw [HI.out m (by rw [HN.out]; exact hlt) hin] at g0
                have r1 := rem_toF (zs.getD m 0) gU
                have r2 := mod_toF (zs.getD m 0) gU
                have z0 := gU.1
                clear gU
                generalize zs.getD m 0 = z at *
                generalize enc (toF z) = y at *
                go_wp2
                go_round
                case rel => exact ⟨m + 1, by omega, by go_num⟩
                case measure => simp [intOf]; omega
              · rw [HO.out m (by rw [HN.out]; exact hlt) (by omega)] at g0
                go_wp2
                go_round
                case rel => exact ⟨m + 1, by omega, by go_num⟩
                case measure => simp [intOf]; omega
            · go_wp2_with (first
                | (go_at_call 9; ((with_reducible refine (aw _ ht).mono ?_); rintro e w5 ⟨rfl, hb⟩; replace h1 := h1.below hb; replace h3 := h3.below hb; replace hB := bthen hB hb; clear hb))
                | (go_at_call 14; ((with_reducible refine (same_is a1 a3 n n c1 c3 xs xs _ h1.at h3.at rfl).mono ?_); rintro e w6 ⟨rfl, nq, rfl⟩)))
              go_ret
              exact ⟨rfl, below_drewN hB _⟩
  · have c2 : 130 < (zs.length : Int) := by omega
    clear hr hu hF hBk hP hc
    go_enter Tryd.func5, Tryd.ntmps5
    go_wp2_with (go_at_call 9; ((with_reducible refine (aw _ ht).mono ?_); rintro e w1 ⟨rfl, hb⟩))
    go_ret
    exact ⟨rfl, hb⟩
end Go.Proofs.YtflabonifbhmnaaDoor
