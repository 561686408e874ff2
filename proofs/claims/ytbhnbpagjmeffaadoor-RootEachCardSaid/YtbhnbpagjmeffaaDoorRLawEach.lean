/-
  The walk of RootEach: it answers true.
-/
import Derived.Test.YtbhnbpagjmeffaaDoorRAwake
import Derived.Deep.QuietTactic
import Derived.BigQuiet
namespace Go.Proofs.YtbhnbpagjmeffaaDoor
open Go.RowKit Go.Sort Go.BigFrame
set_option linter.unusedVariables false

/-- Is one of the first k numbers 0? -/
def az (zs : List Int) : Nat → Bool
  | 0 => false
  | k + 1 => az zs k || (enc (toF (zs.getD k 0)) == 0)
theorem az_no {zs : List Int} (h : Nil0 zs) : ∀ k, k ≤ zs.length → az zs k = false
  | 0, _ => rfl
  | k + 1, hk => by
    have : (enc (toF (zs.getD k 0)) == 0) = false := by
      have : ¬ enc (toF (zs.getD k 0)) = 0 := fun hh => h k hk (enc_inj.mp (hh.trans enc_zero.symm))
      simpa using this
    unfold az; rw [az_no h k (by omega), this]; rfl
theorem az_yes {zs : List Int} (h : ¬ Nil0 zs) : az zs zs.length = true := by
  simp only [Nil0, Classical.not_forall] at h
  obtain ⟨j, hj, hz⟩ := h
  have hz0 : toF (zs.getD j 0) = 0 := Classical.byContradiction hz
  have : ∀ k, j < k → az zs k = true := by
    intro k
    induction k with
    | zero => intro h; omega
    | succ k ih =>
      intro h1
      by_cases e : j = k
      · subst e; unfold az; rw [hz0, enc_zero]; simp
      · unfold az; rw [ih (by omega)]; rfl
  exact this _ hj

set_option maxHeartbeats 4000000 in
theorem reach_body (a : Option Addr) (len cap : Nat) (zs : List Int) (w : World) (ht : Tab w) (hr : Row w (.slice a len cap) zs) (hu : ∀ n ∈ zs, U n) :
    Calls Tryd.prog 7 #[.slice a len cap] w fun e w' => e = .returned (.bool true) ∧ Below w.heap.size w w' := by
  obtain ⟨rfl, hlm, hcell⟩ := hr.at
  unfold maxLen at hlm
  by_cases hc : zs.length ≤ 100
  · have HC := Lib.hid hcell
    have HU := Lib.hid (U_getD hu)
    have hrat := Lib.hid hr.at
    have hu' := Lib.hid hu
    clear hcell hu hr
    go_enter Tryd.func7, Tryd.ntmps7
    go_wp2_with fail
    go_loop [3, 4] (fun z i => ∃ k : Nat, k ≤ zs.length ∧ i = .int .i64 k ∧ z = .bool (az zs k)) (fun _ i => zs.length - (intOf i).toNat)
    case atStart => exact ⟨0, Nat.zero_le _, rfl, rfl⟩
    case round =>
      obtain ⟨k, hk, rfl, rfl⟩ := hrel
      by_cases hlt : k < zs.length
      · obtain ⟨b, off, rfl, g0⟩ := HC.out k hlt
        have gU := HU.out k hlt
        have HZ : Hid (az zs (k + 1) = (az zs k || (enc (toF (zs.getD k 0)) == 0))) := Lib.hid rfl
        have r1 := rem_toF (zs.getD k 0) gU
        have r2 := mod_toF (zs.getD k 0) gU
        have gU0 := gU.1
        clear gU
        generalize zs.getD k 0 = z at *
        generalize enc (toF z) = e at *
        obtain ⟨p, hp⟩ : ∃ p, az zs k = p := ⟨_, rfl⟩
        have HZ2 : Hid (az zs (k + 1) = (p || (e == 0))) := Lib.hid (by rw [← hp]; exact HZ.out)
        rw [hp]
        clear HZ hp
        obtain ⟨q, hq⟩ : ∃ q, (e == 0) = q := ⟨_, rfl⟩
        have HQ := Lib.hid hq
        cases p
        all_goals
          go_wp2
          go_round
          case rel => exact ⟨k + 1, by omega, by go_num, by rw [HZ2.out, HQ.out]; rfl⟩
          case measure => simp [intOf]; omega
      · obtain rfl : k = zs.length := by omega
        clear hlt
        by_cases h0 : Nil0 zs
        · rw [az_no h0 _ (Nat.le_refl _)]
          have k1 := rinvert_yes a zs.length cap zs w hrat.out hu'.out (by omega) h0
          have HN := Lib.hid h0
          clear h0
          go_upto_region 9 with ((go_at_call 16; ((with_reducible refine k1.mono ?_); rintro e w1 ⟨g, rfl, hb, hrow⟩)))
          have hm := hrow.at
          replace ht := ht.keep hb
          refine wp_gen (fun W => Below w.heap.size w W ∧ Tab W ∧ RowA W a zs.length zs ∧ RowA W (some ⟨g, 0, none⟩) zs.length (invs zs)) ⟨hb, ht, hrat.out.keep hb, hm⟩ ?_
          clear hb hm ht hrow k1
          rintro W ⟨hB, ht, h1, h2⟩
          have H1 := Lib.hid h1; have H2 := Lib.hid h2
          clear h1 h2
          go_wp2_with fail
          go_loopw [7] (fun i W' => ∃ k : Nat, k ≤ zs.length ∧ i = .int .i64 k ∧ Below W.heap.size W W') (fun i _ => zs.length - (intOf i).toNat)
          case atStart => exact ⟨0, Nat.zero_le _, rfl, Below.refl _ _⟩
          case round =>
            obtain ⟨k, hk, rfl, hW⟩ := hrel
            by_cases hlt : k < zs.length
            · obtain ⟨b, off, rfl, g0⟩ := (H1.out.keep hW).2.2 k hlt
              obtain ⟨b2, off2, e2, g1⟩ := (H2.out.keep hW).2.2 k hlt
              cases e2
              rw [invs_at zs k hlt, Nat.zero_add] at g1
              have HW := Lib.hid hW
              clear hW
              have gU := HU.out k hlt
              have m1 := fun W => refmul_any (zs.getD k 0) (enc (finv (toF (zs.getD k 0)))) gU (enc_U _) W
              rw [toF_enc, mul_finv _ (HN.out k hlt), enc_one] at m1
              generalize enc (finv (toF (zs.getD k 0))) = y at *
              generalize zs.getD k 0 = z at *
              have hlt' : (k : Int) < (zs.length : Int) := by omega
              clear gU
              go_upto_region 14 with fail
              go_quiet ((go_at_call 22; exact Calls.quiet_of (m1 _)))
              go_wp2
              go_roundw
              case rel => exact ⟨k + 1, by omega, by go_num, below_drewN HW.out _⟩
              case measure => simp [intOf]; omega
            · replace ht := ht.keep hW
              replace hB := bthen hB hW
              go_wp2_with (go_at_call 9; ((with_reducible refine (rawake_any _ ht).mono ?_); rintro e w1 ⟨rfl, hb⟩; replace hB := bthen hB hb))
              go_ret
              exact ⟨rfl, hB⟩
        · rw [az_yes h0]
          have k1 := rinvert_no a zs.length cap zs w hrat.out hu'.out (by omega) h0
          clear h0
          go_upto_region 9 with ((go_at_call 16; ((with_reducible refine k1.mono ?_); rintro e w1 ⟨rfl, hb⟩)))
          replace ht := ht.keep hb
          go_wp2_with fail
          go_loop [7] (fun i => i = .int .i64 0) (fun i => 0)
          case atStart => rfl
          case round =>
            subst hrel
            go_wp2_with (go_at_call 9; ((with_reducible refine (rawake_any _ ht).mono ?_); rintro e w2 ⟨rfl, hb2⟩; replace hb := bthen hb hb2))
            go_ret
            exact ⟨rfl, hb⟩
  · have c2 : 100 < (zs.length : Int) := by omega
    clear hcell hr hu
    go_enter Tryd.func7, Tryd.ntmps7
    go_wp2_with (go_at_call 9; ((with_reducible refine (rawake_any _ ht).mono ?_); rintro e w1 ⟨rfl, hb⟩))
    go_ret
    exact ⟨rfl, hb⟩

theorem reach_walk (a : Option Addr) (len cap : Nat) (z0 : List Int) (w : World)
    (h : (a = none ∧ len = 0 ∧ cap = 0 ∧ z0 = []) ∨ ∃ x, a = some x ∧ len ≤ cap ∧ cap ≤ maxLen ∧ z0.length = cap ∧ (∀ i, i < z0.length → w.cell? (x.add i) = some (.int .u64 (z0.getD i 0))) ∧ ∀ n ∈ z0, (Lit.int .u64 n).wf = true) (ht : Tab w) :
    Calls Tryd.prog 7 #[.slice a len cap] w fun e w' => e = .returned (.bool true) ∧ Below w.heap.size w w' := by
  obtain ⟨hr, hlen, hwf⟩ := Row.came h
  exact reach_body a len cap _ w ht hr (fun n hn => U_wf (hwf n hn))
end Go.Proofs.YtbhnbpagjmeffaaDoor
