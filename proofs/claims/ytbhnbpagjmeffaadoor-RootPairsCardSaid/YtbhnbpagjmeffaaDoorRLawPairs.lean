/-
  The walk of RootPairs: it answers true.
-/
import Derived.Test.YtbhnbpagjmeffaaDoorRAwake
import Derived.Test.YtbhnbpagjmeffaaDoorOpenPairs
import Derived.Lib.QuietBelow
import Derived.BigQuiet
namespace Go.Proofs.YtbhnbpagjmeffaaDoor
open Go.RowKit Go.Sort Go.BigFrame
set_option linter.unusedVariables false

/-- Is one of the first k pairs 0? -/
def azq (zs : List (Int × Int)) : Nat → Bool
  | 0 => false
  | k + 1 => azq zs k || decide (toQ (zs.getD k (0, 0)) = 0)
theorem azq_no {zs : List (Int × Int)} (h : Nil0Q zs) : ∀ k, k ≤ zs.length → azq zs k = false
  | 0, _ => rfl
  | k + 1, hk => by
    unfold azq; rw [azq_no h k (by omega), decide_eq_false (h k hk)]; rfl
theorem azq_yes {zs : List (Int × Int)} (h : ¬ Nil0Q zs) : azq zs zs.length = true := by
  simp only [Nil0Q, Classical.not_forall] at h
  obtain ⟨j, hj, hz⟩ := h
  have hz0 : toQ (zs.getD j (0, 0)) = 0 := Classical.byContradiction hz
  have : ∀ k, j < k → azq zs k = true := by
    intro k
    induction k with
    | zero => intro h; omega
    | succ k ih =>
      intro h1
      by_cases e : j = k
      · subst e; unfold azq; rw [decide_eq_true hz0]; simp
      · unfold azq; rw [ih (by omega)]; rfl
  exact this _ hj
theorem radd_zero (z z' : Int) (x : F2) (hz : U z ∧ U z') (hx : toQ (z, z') = x) (w : World) : Calls Tryd.prog 24 #[.agg #[.int .u64 z, .int .u64 z'], .agg #[.int .u64 0, .int .u64 0]] w fun e w' => e = .returned (.agg #[.int .u64 (enc x.a), .int .u64 (enc x.b)]) ∧ Below w.heap.size w w' :=
  radd_q z z' 0 0 (toQ (z, z')) 0 x (rep_raw hz.1 hz.2) rep_zero (by rw [F2.add_zero]; exact hx) w

set_option maxRecDepth 100000 in
set_option maxHeartbeats 4000000 in
theorem rpairs_body (a : Option Addr) (len cap : Nat) (zs : List (Int × Int)) (w : World) (ht : Tab w) (hr : QRow w (.slice a len cap) zs) (hu : ∀ n ∈ zs, U n.1 ∧ U n.2) :
    Calls Tryd.prog 8 #[.slice a len cap] w fun e w' => e = .returned (.bool true) ∧ Below w.heap.size w w' := by
  obtain ⟨rfl, hlm, hcell⟩ := hr.at
  unfold maxLen at hlm
  by_cases hc : zs.length ≤ 60
  · have HU := Lib.hid (UU_getD hu)
    have hrat := Lib.hid hr.at
    have hu' := Lib.hid hu
    clear hcell hu hr
    go_enter Tryd.func8, Tryd.ntmps8
    go_wp2_with fail
    go_loopw [3, 4] (fun z i W' => ∃ k : Nat, k ≤ zs.length ∧ i = .int .i64 k ∧ z = .bool (azq zs k) ∧ Below w.heap.size w W') (fun _ i _ => zs.length - (intOf i).toNat)
    case atStart => exact ⟨0, Nat.zero_le _, rfl, rfl, Below.refl _ _⟩
    case round =>
      obtain ⟨k, hk, rfl, rfl, hW⟩ := hrel
      by_cases hlt : k < zs.length
      · obtain ⟨b, off, rfl, g0, g1⟩ := (hrat.out.keep hW).2.2 k hlt
        have gU := HU.out k hlt
        obtain ⟨p, hp⟩ : ∃ p, azq zs k = p := ⟨_, rfl⟩
        obtain ⟨x, hx⟩ : ∃ x, toQ (zs.getD k (0, 0)) = x := ⟨_, rfl⟩
        have HZ2 : Hid (azq zs (k + 1) = (p || decide (x = 0))) := Lib.hid (by rw [← hp, ← hx]; rfl)
        have m1 := radd_zero (zs.getD k (0, 0)).1 (zs.getD k (0, 0)).2 x gU hx
        rw [hp]
        clear hp hx gU
        generalize (zs.getD k (0, 0)).1 = z at *
        generalize (zs.getD k (0, 0)).2 = z' at *
        cases p
        · by_cases hx0 : x = 0
          · have HZ3 : Hid (azq zs (k + 1) = true) := Lib.hid (by rw [HZ2.out, decide_eq_true hx0]; rfl)
            rw [hx0, show enc (0 : F2).a = 0 from rfl, show enc (0 : F2).b = 0 from rfl] at m1
            clear HZ2 hx0
            go_wp2_with ((go_at_call 24; ((with_reducible refine (m1 _).mono ?_); rintro e w1 ⟨rfl, hb⟩; replace hW := bthen hW hb; clear hb g0 g1)))
            go_roundw
            case rel => exact ⟨k + 1, by omega, by go_num, by rw [HZ3.out], hW⟩
            case measure => simp [intOf]; omega
          · have HZ3 : Hid (azq zs (k + 1) = false) := Lib.hid (by rw [HZ2.out, decide_eq_false hx0]; rfl)
            have hne : enc x.a ≠ 0 ∨ enc x.b ≠ 0 := by
              refine Classical.byContradiction fun hn => hx0 ?_
              simp only [not_or, Classical.not_not] at hn
              exact F2.eq (enc_inj.mp (hn.1.trans enc_zero.symm)) (enc_inj.mp (hn.2.trans enc_zero.symm))
            clear HZ2 hx0
            generalize enc x.a = p1 at *
            generalize enc x.b = p2 at *
            by_cases q1 : p1 = 0
            · have b2 : (p2 == 0) = false := by simp; omega
              subst q1
              clear hne
              go_wp2_with ((go_at_call 24; ((with_reducible refine (m1 _).mono ?_); rintro e w1 ⟨rfl, hb⟩; replace hW := bthen hW hb; clear hb g0 g1)))
              go_roundw
              case rel => exact ⟨k + 1, by omega, by go_num, by rw [HZ3.out], hW⟩
              case measure => simp [intOf]; omega
            · have b1 : (p1 == 0) = false := by simp; omega
              clear hne q1
              go_wp2_with ((go_at_call 24; ((with_reducible refine (m1 _).mono ?_); rintro e w1 ⟨rfl, hb⟩; replace hW := bthen hW hb; clear hb g0 g1)))
              go_roundw
              case rel => exact ⟨k + 1, by omega, by go_num, by rw [HZ3.out], hW⟩
              case measure => simp [intOf]; omega
        · have HZ3 : Hid (azq zs (k + 1) = true) := Lib.hid (by rw [HZ2.out]; rfl)
          clear HZ2
          go_wp2
          go_roundw
          case rel => exact ⟨k + 1, by omega, by go_num, by rw [HZ3.out], hW⟩
          case measure => simp [intOf]; omega
      · obtain rfl : k = zs.length := by omega
        clear hlt
        replace ht := ht.keep hW
        have hra := hrat.out.keep hW
        by_cases h0 : Nil0Q zs
        · rw [azq_no h0 _ (Nat.le_refl _)]
          have k1 := rinvertq_yes a zs.length cap zs wr hra hu'.out (by omega) h0
          have HN := Lib.hid h0
          clear h0
          go_upto_region 9 with ((go_at_call 18; ((with_reducible refine k1.mono ?_); rintro e w1 ⟨g, rfl, hb, hrow⟩)))
          have hm := hrow.at
          replace ht := ht.keep hb
          refine wp_gen (fun W => Below w.heap.size w W ∧ Tab W ∧ QRowA W a zs.length zs ∧ QRowA W (some ⟨g, 0, none⟩) zs.length (invsq zs)) ⟨bthen hW hb, ht, hra.keep hb, hm⟩ ?_
          clear hb hm ht hrow k1 hW hra
          rintro W ⟨hB, ht, h1, h2⟩
          have H1 := Lib.hid h1; have H2 := Lib.hid h2
          clear h1 h2
          go_wp2_with fail
          go_loopw [7] (fun i W' => ∃ k : Nat, k ≤ zs.length ∧ i = .int .i64 k ∧ Below W.heap.size W W') (fun i _ => zs.length - (intOf i).toNat)
          case atStart => exact ⟨0, Nat.zero_le _, rfl, Below.refl _ _⟩
          case round =>
            obtain ⟨k, hk, rfl, hW⟩ := hrel
            by_cases hlt : k < zs.length
            · obtain ⟨b, off, rfl, g0, g1⟩ := (H1.out.keep hW).2.2 k hlt
              obtain ⟨b2, off2, e2, g2, g3⟩ := (H2.out.keep hW).2.2 k hlt
              cases e2
              rw [invsq_at zs k hlt, Nat.zero_add] at g2 g3
              simp only [encP] at g2 g3
              have HW := Lib.hid hW
              clear hW
              have gU := HU.out k hlt
              have m1 := rmul_q (zs.getD k (0, 0)).1 (zs.getD k (0, 0)).2 (enc (qinv (toQ (zs.getD k (0, 0)))).a) (enc (qinv (toQ (zs.getD k (0, 0)))).b) (toQ (zs.getD k (0, 0))) _ 1 (rep_raw gU.1 gU.2) (rep_enc _) (mul_qinv _ (HN.out k hlt))
              rw [show enc (1 : F2).a = 1 from rfl, show enc (1 : F2).b = 0 from rfl] at m1
              generalize enc (qinv (toQ (zs.getD k (0, 0)))).a = y at *
              generalize enc (qinv (toQ (zs.getD k (0, 0)))).b = y' at *
              generalize (zs.getD k (0, 0)).1 = z at *
              generalize (zs.getD k (0, 0)).2 = z' at *
              have hlt' : (k : Int) < (zs.length : Int) := by omega
              clear gU
              go_upto_region 14 with fail
              replace g0 := fun q : Regrown => cell_regrown g0 q.d q.os
              replace g1 := fun q : Regrown => cell_regrown g1 q.d q.os
              replace g2 := fun q : Regrown => cell_regrown g2 q.d q.os
              replace g3 := fun q : Regrown => cell_regrown g3 q.d q.os
              refine wp_region_quiet_below (by kernel_rfl) (by kernel_rfl) ?_
              repeat (first | go_big_quiet_step ((go_at_call 25; (with_reducible exact Calls.regrown_of (m1 _)))) | quiet_step (fail))
              refine wpQuiet_nil ?_
              rintro _ ⟨pq, rfl⟩
              have HW2 := Lib.hid (bthen HW.out (below_regrown _ pq.d pq.os))
              clear g0 g1 g2 g3 m1
              go_wp2
              go_roundw
              case rel => exact ⟨k + 1, by omega, by go_num, HW2.out⟩
              case measure => simp [intOf]; omega
            · replace ht := ht.keep hW
              replace hB := bthen hB hW
              go_wp2_with (go_at_call 9; ((with_reducible refine (rawake_any _ ht).mono ?_); rintro e w1 ⟨rfl, hb⟩; replace hB := bthen hB hb))
              go_ret
              exact ⟨rfl, hB⟩
        · rw [azq_yes h0]
          have k1 := rinvertq_no a zs.length cap zs wr hra hu'.out (by omega) h0
          clear h0
          go_upto_region 9 with ((go_at_call 18; ((with_reducible refine k1.mono ?_); rintro e w1 ⟨rfl, hb⟩)))
          replace ht := ht.keep hb
          replace hW := bthen hW hb
          go_wp2_with fail
          go_loop [7] (fun i => i = .int .i64 0) (fun i => 0)
          case atStart => rfl
          case round =>
            subst hrel
            go_wp2_with (go_at_call 9; ((with_reducible refine (rawake_any _ ht).mono ?_); rintro e w2 ⟨rfl, hb2⟩; replace hW := bthen hW hb2))
            go_ret
            exact ⟨rfl, hW⟩
  · have c2 : 60 < (zs.length : Int) := by omega
    clear hcell hr hu
    go_enter Tryd.func8, Tryd.ntmps8
    go_wp2_with (go_at_call 9; ((with_reducible refine (rawake_any _ ht).mono ?_); rintro e w1 ⟨rfl, hb⟩))
    go_ret
    exact ⟨rfl, hb⟩

theorem rpairs_walk (a : Option Addr) (len cap : Nat) (zs : List (Int × Int)) (w : World) (hp : IsPairs w a len cap zs) (ht : Tab w) :
    Calls Tryd.prog 8 #[.slice a len cap] w fun e w' => e = .returned (.bool true) ∧ Below w.heap.size w w' := by
  obtain ⟨hq, hzl, hv⟩ := hp.row
  exact rpairs_body a len cap zs w ht hq hv
end Go.Proofs.YtbhnbpagjmeffaaDoor
