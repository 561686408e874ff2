/-
  The walk of ClashLeads: it answers true, where the program's calls do what is asked of them. (Written by gen_cleads.py.)
-/
import Derived.Test.YtfnmlegikcogoaaDoorClashLem
import Derived.Test.YtfnmlegikcogoaaDoorClashRef
import Derived.Test.YtfnmlegikcogoaaDoorGNum
namespace Go.Proofs.YtfnmlegikcogoaaDoor
open Go Go.RowKit Go.Sort Go.BigFrame
set_option linter.unusedVariables false

theorem rsumS1 (t z : ByteArray) (hz : sumB t = z) (hl : t.size ≤ 1000000) (g : Nat) (W : World) (h : W.cell? ⟨g, 0, none⟩ = some (.string t)) : Calls Tryd.prog 19 #[.slice (some ⟨g, 0, none⟩) 1 1] W fun e w' => e = .returned (.string z) ∧ Below W.heap.size W w' := by
  have k := rsum_is (some ⟨g, 0, none⟩) 1 1 (fun _ => t) W ⟨by unfold maxLen; omega, fun k hk => ⟨g, 0, rfl, by
    have e : k = 0 := by omega
    subst e
    exact h⟩⟩ (by simp [lens]; exact hl)
  rw [cat_one] at k
  simp only [hz] at k
  exact k
theorem trail_nat (s : ByteArray) (m : Nat) (g : Nat → ByteArray) (j : Nat) : trailT s (m : Int) g (j + 1) = if m / 2 ^ j % 2 = 0 then byte1 ++ sumB (trailT s (m : Int) g j) ++ g j else byte1 ++ g j ++ sumB (trailT s (m : Int) g j) := by
  have e : (hv (m : Int) j).tmod 2 = 0 ↔ m / 2 ^ j % 2 = 0 := by
    rw [hv_nat]
    generalize m / 2 ^ j = q
    rw [Int.tmod_eq_emod_of_nonneg (by omega)]
    omega
  rw [trailT]
  by_cases h : m / 2 ^ j % 2 = 0
  · rw [if_pos h, if_pos (e.2 h)]
  · rw [if_neg h, if_neg (fun c => h (e.1 c))]
theorem i64_small (j : Nat) (h : j < 1000) : IntKind.i64.wrap ((j : Int) + 1) = (j : Int) + 1 := IntWalk.i64_in _ (by omega)
theorem w64_small (j : Nat) (h : j < 1000) : wrap64 ((j : Int) + 1) = (j : Int) + 1 := IntWalk.wrap64_in _ (by omega)
theorem i64_nat (j : Nat) (h : j ≤ 9223372036854775807) : IntKind.i64.wrap (j : Int) = (j : Int) := IntWalk.i64_in _ (by omega)
theorem toNat_next (j : Nat) : ((j : Int) + 1).toNat = j + 1 := by omega
theorem next_nonneg (j : Nat) : 0 ≤ (j : Int) + 1 := by omega
theorem odd_of {q : Nat} (h : ¬ q % 2 = 0) : q % 2 = 1 := by omega
theorem meas_next {n j : Nat} (h : j < n) : n - (intOf (.int .i64 ((j : Int) + 1))).toNat < n - (intOf (.int .i64 (j : Int))).toNat := by simp [intOf]; omega
theorem tdiv_two (q : Nat) : (q : Int).tdiv 2 = ((q / 2 : Nat) : Int) := by rw [Int.tdiv_eq_ediv_of_nonneg (by omega)]; omega
theorem tmod_two (q : Nat) : (q : Int).tmod 2 = ((q % 2 : Nat) : Int) := by rw [Int.tmod_eq_emod_of_nonneg (by omega)]; omega
def CLRel (w1 : World) (m n : Nat) (at_ k : Value) (W : World) : Prop := ∃ j : Nat, j ≤ n ∧ k = .int .i64 j ∧ at_ = .int .i64 ((m / 2 ^ j : Nat) : Int) ∧ Below w1.heap.size w1 W
def CLdR (a b p : Option Addr) (g0 len cap lenb capb n c gr fr L cr m : Nat) (t s0 Z : ByteArray) (sl : Nat) (v : Value) (W : World) : Prop :=
  match sl with
  | 72 => v = .slice (some ⟨gr, fr, none⟩) L cr
  | 73 => v = .slice (some ⟨gr, fr, none⟩) L cr
  | 74 => v = .int .i64 L
  | 75 => v = .int .i64 (n : Int)
  | 76 => v = .pointer (some ⟨gr, fr + n, none⟩)
  | 77 => v = .string t
  | 78 => ∃ g : Nat, v = .slice (some ⟨g, 0, none⟩) 1 1 ∧ W.cell? ⟨g, 0, none⟩ = some (.string t)
  | 79 => v = .string Z
  | 80 => v = .agg #[.slice a len cap, .slice b lenb capb, .slice p n c]
  | 81 => v = .string s0
  | 82 => v = .int .i64 (m : Int)
  | 83 => v = .pointer (some ⟨g0, 2, none⟩)
  | 84 => v = .slice p n c
  | 85 => v = .string Z
  | _ => v = .bool true
theorem CLdR.keep {a b p : Option Addr} {g0 len cap lenb capb n c gr fr L cr m : Nat} {t s0 Z : ByteArray} {sl : Nat} {v : Value} {W W' : World} (h : CLdR a b p g0 len cap lenb capb n c gr fr L cr m t s0 Z sl v W) (hb : Below W.heap.size W W') : CLdR a b p g0 len cap lenb capb n c gr fr L cr m t s0 Z sl v W' := by
  unfold CLdR at *
  split at h
  all_goals first | exact h | (obtain ⟨g, h1, h2⟩ := h; exact ⟨g, h1, bkeep hb h2⟩)
set_option maxRecDepth 100000 in
set_option maxHeartbeats 8000000 in
theorem cleads_body (G : World → Prop) (hA : AskClash G) (aw : ∀ W, G W → Calls Tryd.prog 9 #[] W fun e w' => e = .returned (.bool true) ∧ Below W.heap.size W w') (i : Int) (a : Option Addr) (len cap : Nat) (zs : List Int) (b : Option Addr) (lenb capb : Nat) (qs : List (Int × Int)) (p : Option Addr) (n c : Nat) (g : Nat → ByteArray) (w : World) (hG0 : G w)
    (hr : RowA w a len zs) (hu : ∀ n ∈ zs, U n) (hq : QRowA w b lenb qs) (hvq : ∀ n ∈ qs, U n.1 ∧ U n.2) (hS : StrS w p n c g) (hi : -9223372036854775808 ≤ i ∧ i ≤ 9223372036854775807) :
    Calls Tryd.prog 7 #[.int .i64 i, .agg #[.slice a len cap, .slice b lenb capb, .slice p n c]] w fun e w' => e = .returned (.bool true) ∧ Below w.heap.size w w' := by
  have HK := Lib.hid (fun (W W' : World) => @AskClash.keep G hA W W')
  have HG0 := Lib.hid hG0
  have kS := fun (W : World) (hb : Below w.heap.size w W) => cshort_is a len cap b lenb capb p n c g (shortB len lenb n g) W hr.2.1 hq.2.1 (hS.1.keep hb) rfl
  have HA := Lib.hid hA; have HR := Lib.hid hr; have HQ := Lib.hid hq; have HS := Lib.hid hS
  clear hA hr hq hS hG0
  go_enter Tryd.func7, Tryd.ntmps7
  go_upto_region 1 with fail
  refine wp_gen (fun W => Below w.heap.size w W ∧ OpenV W w.heap.size (.slice a len cap) (.slice b lenb capb) (.slice p n c)) ⟨(Below.refl _ _).alloc (Nat.le_refl _) _, Open_alloc _ _ _ _ _⟩ ?_
  obtain ⟨g0, hg0⟩ : ∃ g, w.heap.size = g := ⟨_, rfl⟩
  rintro W1 ⟨hB, hX⟩
  rw [hg0] at hX
  simp only [hg0]
  have HB := Lib.hid hB
  have HX := Lib.hid hX
  obtain ⟨x0, x1, x2⟩ := hX
  have kS1 := kS W1 hB
  clear hB hg0 kS
  cases c4 : shortB len lenb n g with
  | false =>
    rw [c4] at kS1
    go_wp2_with (first
      | (go_at_call 8; (with_reducible refine kS1.mono ?_); rintro e w1 ⟨rfl, hb1⟩)
      | (go_at_call 9; (with_reducible refine (aw _ (HK.out _ _ HG0.out (bthen HB.out hb1))).mono ?_); rintro e w2 ⟨rfl, hb⟩))
    go_ret
    exact ⟨rfl, bthen HB.out (bthen hb1 hb)⟩
  | true =>
  rw [c4] at kS1
  obtain ⟨s1, s2, s3, s4⟩ := of_decide_eq_true c4
  by_cases hi0 : i < 0
  · go_wp2_with (first
      | (go_at_call 8; (with_reducible refine kS1.mono ?_); rintro e w1 ⟨rfl, hb1⟩)
      | (go_at_call 9; (with_reducible refine (aw _ (HK.out _ _ HG0.out (bthen HB.out hb1))).mono ?_); rintro e w2 ⟨rfl, hb⟩))
    go_ret
    exact ⟨rfl, bthen HB.out (bthen hb1 hb)⟩
  obtain ⟨m, rfl⟩ := Int.eq_ofNat_of_zero_le (show 0 ≤ i by omega)
  have HM := Lib.hid (show m ≤ 9223372036854775807 by have := hi.2; omega)
  have k1 := fun (W : World) (hb : Below w.heap.size w W) (hg : G W) => HA.out.trail (m : Int) a len cap zs b lenb capb qs p n c g W (HR.out.keep hb) hu (HQ.out.keep hb) hvq (by omega) (by omega) (HS.out.keep hb) (by omega) s4 hi hg
  have ko := fun (W : World) (hb : Below w.heap.size w W) => rlof_is a len cap zs b lenb capb qs (.slice p n c) W (HR.out.keep hb) hu (HQ.out.keep hb) hvq (by omega) (by omega)
  have sz := leafB_size (openB zs qs)
  have kc := fun (W : World) (hb : Below w.heap.size w W) => rclimb_is (leafB (openB zs qs)) m p n c g W (HS.out.1.keep hb) (by omega) s4 (by omega) HM.out
  have hts := openB_size zs qs (by rw [HR.out.1]; omega) (by rw [HQ.out.1]; omega)
  rw [← trail_climb] at kc
  generalize openB zs qs = s at *
  generalize leafB s = s0 at *
  have HSZ : Hid (∀ k, k ≤ n → (trailT s (m : Int) g k).size ≤ 200001) := Lib.hid fun k hk => by
    cases k with
    | zero => rw [trailT, ByteArray.size_append]; show 1 + _ ≤ _; omega
    | succ k =>
      have h1 := s4 k (by omega)
      have h2 := sumB_size (trailT s (m : Int) g k)
      rw [trailT]
      split <;> rw [ByteArray.size_append, ByteArray.size_append] <;> (show 1 + _ + _ ≤ _) <;> omega
  have HG := Lib.hid s4
  clear c4 s4 sz hts hi hi0
  go_upto_region 4 with (first
    | (go_at_call 8; (with_reducible refine kS1.mono ?_); rintro e w1 ⟨rfl, hb⟩; replace HB := Lib.hid (bthen HB.out hb); replace x0 := bkeep hb x0; replace x1 := bkeep hb x1; replace x2 := bkeep hb x2; clear hb)
    | (go_at_call 11; (with_reducible refine (k1 _ HB.out (HK.out _ _ HG0.out HB.out)).mono ?_); rintro e w2 ⟨hb, r, cr, rfl, hT⟩; replace HB := Lib.hid (bthen HB.out hb); replace x0 := bkeep hb x0; replace x1 := bkeep hb x1; replace x2 := bkeep hb x2; clear hb))
  obtain ⟨L, hL⟩ : ∃ L, n + 1 = L := ⟨_, rfl⟩
  rw [hL] at hT ⊢
  have HT := Lib.hid hT
  have HX2 := Lib.hid (show OpenV w2 g0 (.slice a len cap) (.slice b lenb capb) (.slice p n c) from ⟨x0, x1, x2⟩)
  have hLn : (n : Int) + 1 = (L : Int) := by omega
  have hw1 : IntKind.i64.wrap ((n : Int) + 1) = (L : Int) := by rw [IntWalk.i64_in _ (by omega)]; omega
  have hw2 : wrap64 ((n : Int) + 1) = (L : Int) := by rw [IntWalk.wrap64_in _ (by omega)]; omega
  clear hT HX kS1 k1
  go_upto_region 8 with fail
  clear hw1 hw2 hLn x0 x1 x2
  go_loopw [6, 7] (CLRel w2 m n) (fun _ k _ => n - (intOf k).toNat)
  case atStart => exact ⟨0, Nat.zero_le _, rfl, by simp, Below.refl _ _⟩
  case round =>
    obtain ⟨j, hj, rfl, rfl, hB⟩ := hrel
    obtain ⟨x0, x1, x2⟩ := HX2.out.keep hB
    by_cases hlt : j < n
    · obtain ⟨gr, fr, rfl, t0⟩ := HT.out.1.2 j (by omega)
      obtain ⟨gr', fr', e, t1⟩ := HT.out.1.2 (j + 1) (by omega)
      cases e
      obtain ⟨bp, op, rfl, c0⟩ := HS.out.1.2 j hlt
      replace t0 := bkeep hB t0; replace t1 := bkeep hB t1; replace c0 := bkeep (bthen HB.out hB) c0
      have kz := fun W => rsum1 (trailT s (m : Int) g j) _ rfl (by have := HSZ.out j (by omega); omega) W 9
      have hN := trail_nat s m g j
      have hq1 := sumB_size (trailT s (m : Int) g j)
      have hq2 := HG.out j hlt
      have HH := Lib.hid (half_pow m j)
      have hq3 : m / 2 ^ j ≤ 9223372036854775807 := Nat.le_trans (Nat.div_le_self _ _) HM.out
      rw [hN] at t1
      clear hN
      generalize trailT s (m : Int) g j = t at *
      generalize sumB t = σ at *
      generalize g j = y at *
      generalize m / 2 ^ j = q at *
      have hl1 : (j : Int) + 1 < (L : Int) := by omega
      have hl2 : (j : Int) < (L : Int) := by omega
      have hl3 : (j : Int) < (n : Int) := by omega
      have hw1 := i64_small j (Nat.lt_of_lt_of_le hlt (Nat.le_trans s3 (by decide)))
      have hw2 := w64_small j (Nat.lt_of_lt_of_le hlt (Nat.le_trans s3 (by decide)))
      have ht1 := toNat_next j
      have hp1 := next_nonneg j
      have hd0 : (q : Int).tdiv 2 = ((q / 2 : Nat) : Int) := tdiv_two q
      have hd2 : IntKind.i64.wrap ((q / 2 : Nat) : Int) = ((q / 2 : Nat) : Int) := i64_nat _ (Nat.le_trans (Nat.div_le_self _ _) hq3)
      by_cases hp : q % 2 = 0
      · rw [if_pos hp] at t1
        have hm0 : (q : Int).tmod 2 = 0 := by rw [tmod_two, hp]; rfl
        go_wp2_with (go_at_call 19; (with_reducible refine (kz _).mono ?_); rintro e w3 ⟨rfl, hb⟩; replace hB := bthen hB hb; replace t1 := bkeep hb t1; replace c0 := bkeep hb c0; replace x2 := bkeep hb x2; replace x0 := bkeep hb x0; replace x1 := bkeep hb x1)
        clear hd0 hd2 hm0 hq3 hw1 hw2 ht1
        go_roundw
        case rel => exact ⟨j + 1, hlt, by go_num, by rw [HH.out]; go_num, hB⟩
        case measure => exact meas_next hlt
      · rw [if_neg hp] at t1
        have hm0 : (q : Int).tmod 2 = 1 := by rw [tmod_two, odd_of hp]; rfl
        go_wp2_with (go_at_call 19; (with_reducible refine (kz _).mono ?_); rintro e w3 ⟨rfl, hb⟩; replace hB := bthen hB hb; replace t1 := bkeep hb t1; replace c0 := bkeep hb c0; replace x2 := bkeep hb x2; replace x0 := bkeep hb x0; replace x1 := bkeep hb x1)
        clear hd0 hd2 hm0 hq3 hw1 hw2 ht1
        go_roundw
        case rel => exact ⟨j + 1, hlt, by go_num, by rw [HH.out]; go_num, hB⟩
        case measure => exact meas_next hlt
    · obtain rfl : j = n := by omega
      obtain ⟨gr, fr, rfl, tn⟩ := HT.out.1.2 j (by omega)
      replace tn := bkeep hB tn
      replace HB := Lib.hid (bthen HB.out hB)
      have hw3 : IntKind.i64.wrap ((L : Int) - 1) = (j : Int) := by rw [IntWalk.i64_in _ (by omega)]; omega
      have hw4 : wrap64 ((L : Int) - 1) = (j : Int) := by rw [IntWalk.wrap64_in _ (by omega)]; omega
      have hl1 : ¬ (j : Int) + 1 < (L : Int) := by omega
      have hl2 : (j : Int) < (L : Int) := by omega
      have hts := HSZ.out j (Nat.le_refl _)
      obtain ⟨Z, hZ⟩ : ∃ Z, sumB (trailT s (m : Int) g j) = Z := ⟨_, rfl⟩
      rw [hZ] at kc
      have HZ : Hid (sumB (trailT s (m : Int) g j) = Z ∧ (trailT s (m : Int) g j).size ≤ 1000000) := Lib.hid ⟨hZ, by omega⟩
      clear hZ hts hB
      generalize trailT s (m : Int) g j = t at *
      go_upto_region 17 with fail
      obtain ⟨n, hnj⟩ : ∃ n, j = n := ⟨_, rfl⟩
      subst hnj
      refine wp_loose [(70, []), (71, [70]), (72, [71]), (73, [71]), (74, [71, 73]), (75, [71, 74]), (76, [71, 72, 75]), (77, [71, 76]), (78, [71, 77]), (79, [71, 78]), (80, [71]), (81, [71, 80]), (82, [71]), (83, [71]), (84, [71, 83]), (85, [71, 81, 82, 84]), (86, [71, 79, 85]), (87, [71, 86])]
        (CLdR a b p g0 len cap lenb capb j c gr fr L cr m t s0 Z) (fun d => false) (by kernel_rfl) (by kernel_rfl) (fun _ _ _ _ h hb => h.keep hb) ?_ ?_
      · refine opsrun_cons ?_ (opsrun_cons ?_ (opsrun_cons ?_ (opsrun_cons ?_ (opsrun_cons ?_ (opsrun_cons ?_ (opsrun_cons ?_ (opsrun_cons ?_ (opsrun_cons ?_ (opsrun_cons ?_ (opsrun_cons ?_ (opsrun_cons ?_ (opsrun_cons ?_ (opsrun_cons ?_ (opsrun_cons ?_ (opsrun_cons ?_ (opsrun_cons ?_ (opsrun_cons ?_ opsrun_nil)))))))))))))))))
        all_goals
          refine OpRuns.any ?_
          intro Q0 σ W' K hb hn hK
          simp only [fill, List.map, Act.put, List.setIfInBounds_toArray, List.set_cons_zero, List.set_cons_succ] at hK ⊢
        · clear hn
          go_simp
          go_at_call 9
          refine (aw _ (HK.out _ _ HG0.out (bthen HB.out hb))).mono ?_
          rintro e w1 ⟨rfl, hb1⟩
          exact hK _ _ rfl hb1 (fun h => absurd h (by decide))
        · have h70 : σ 70 = _ := hn 70 (by decide)
          clear hn
          simp only [h70] at hK
          go_simp
          exact hK _ _ rfl (Below.refl _ _) (fun h => absurd h (by decide))
        · have h71 : σ 71 = _ := hn 71 (by decide)
          clear hn
          simp only [h71] at hK
          go_simp
          exact hK _ _ rfl (Below.refl _ _) (fun h => absurd h (by decide))
        · have h71 : σ 71 = _ := hn 71 (by decide)
          clear hn
          simp only [h71] at hK
          go_simp
          exact hK _ _ rfl (Below.refl _ _) (fun h => absurd h (by decide))
        · have h71 : σ 71 = _ := hn 71 (by decide)
          have h73 : σ 73 = _ := hn 73 (by decide)
          clear hn
          simp only [h71, h73] at hK
          go_simp
          exact hK _ _ rfl (Below.refl _ _) (fun h => absurd h (by decide))
        · have h71 : σ 71 = _ := hn 71 (by decide)
          have h74 : σ 74 = _ := hn 74 (by decide)
          clear hn
          simp only [h71, h74] at hK
          go_simp
          exact hK _ _ rfl (Below.refl _ _) (fun h => absurd h (by decide))
        · have h71 : σ 71 = _ := hn 71 (by decide)
          have h72 : σ 72 = _ := hn 72 (by decide)
          have h75 : σ 75 = _ := hn 75 (by decide)
          clear hn
          simp only [h71, h72, h75] at hK
          go_simp
          exact hK _ _ rfl (Below.refl _ _) (fun h => absurd h (by decide))
        · have h71 : σ 71 = _ := hn 71 (by decide)
          have h76 : σ 76 = _ := hn 76 (by decide)
          clear hn
          simp only [h71, h76] at hK
          have tn' := bkeep hb tn
          clear tn
          go_simp
          exact hK _ _ rfl (Below.refl _ _) (fun h => absurd h (by decide))
        · have h71 : σ 71 = _ := hn 71 (by decide)
          have h77 : σ 77 = _ := hn 77 (by decide)
          clear hn
          simp only [h71, h77] at hK
          go_simp
          exact hK _ _ ⟨W'.heap.size, rfl, by simp [go_sem]⟩ ((Below.refl _ _).alloc (Nat.le_refl _) _) (fun h => absurd h (by decide))
        · have h71 : σ 71 = _ := hn 71 (by decide)
          have p78 : ∃ g : Nat, (σ 78) = .slice (some ⟨g, 0, none⟩) 1 1 ∧ W'.cell? ⟨g, 0, none⟩ = some (.string t) := hn 78 (by decide)
          clear hn
          simp only [h71] at hK
          obtain ⟨g, e78, c78⟩ := p78
          simp only [e78] at hK
          go_simp
          go_at_call 19
          refine (rsumS1 t Z HZ.out.1 HZ.out.2 g _ c78).mono ?_
          rintro e w1 ⟨rfl, hb1⟩
          exact hK _ _ rfl hb1 (fun h => absurd h (by decide))
        · have h71 : σ 71 = _ := hn 71 (by decide)
          clear hn
          simp only [h71] at hK
          have x0' := bkeep hb x0
          have x1' := bkeep hb x1
          have x2' := bkeep hb x2
          clear x0 x1 x2
          go_simp
          exact hK _ _ rfl (Below.refl _ _) (fun h => absurd h (by decide))
        · have h71 : σ 71 = _ := hn 71 (by decide)
          have h80 : σ 80 = _ := hn 80 (by decide)
          clear hn
          simp only [h71, h80] at hK
          go_simp
          go_at_call 21
          refine (ko _ (bthen HB.out hb)).mono ?_
          rintro e w1 ⟨rfl, hb1⟩
          exact hK _ _ rfl hb1 (fun h => absurd h (by decide))
        · have h71 : σ 71 = _ := hn 71 (by decide)
          clear hn
          simp only [h71] at hK
          go_simp
          exact hK _ _ rfl (Below.refl _ _) (fun h => absurd h (by decide))
        · have h71 : σ 71 = _ := hn 71 (by decide)
          clear hn
          simp only [h71] at hK
          go_simp
          exact hK _ _ rfl (Below.refl _ _) (fun h => absurd h (by decide))
        · have h71 : σ 71 = _ := hn 71 (by decide)
          have h83 : σ 83 = _ := hn 83 (by decide)
          clear hn
          simp only [h71, h83] at hK
          have x2' := bkeep hb x2
          clear x2
          go_simp
          exact hK _ _ rfl (Below.refl _ _) (fun h => absurd h (by decide))
        · have h71 : σ 71 = _ := hn 71 (by decide)
          have h81 : σ 81 = _ := hn 81 (by decide)
          have h82 : σ 82 = _ := hn 82 (by decide)
          have h84 : σ 84 = _ := hn 84 (by decide)
          clear hn
          simp only [h71, h81, h82, h84] at hK
          go_simp
          go_at_call 20
          refine (kc _ (bthen HB.out hb)).mono ?_
          rintro e w1 ⟨rfl, hb1⟩
          exact hK _ _ rfl hb1 (fun h => absurd h (by decide))
        · have h71 : σ 71 = _ := hn 71 (by decide)
          have h79 : σ 79 = _ := hn 79 (by decide)
          have h85 : σ 85 = _ := hn 85 (by decide)
          clear hn
          simp only [h71, h79, h85] at hK
          go_simp
          exact hK _ _ rfl (Below.refl _ _) (fun h => absurd h (by decide))
        · have h71 : σ 71 = _ := hn 71 (by decide)
          have h86 : σ 86 = _ := hn 86 (by decide)
          clear hn
          simp only [h71, h86] at hK
          go_simp
          exact hK _ _ rfl (Below.refl _ _) (fun h => absurd h (by decide))
      · intro σ W' hb hR' hF
        have HB' := Lib.hid (bthen HB.out hb)
        have h87 : σ 87 = .bool true := hR' 87 (by decide)
        clear hR' hF hb
        simp only [fill, List.map, Act.put, List.setIfInBounds_toArray, List.set_cons_zero, List.set_cons_succ, List.length_cons, List.length_nil, List.drop_succ_cons, List.drop_zero, Nat.reduceAdd, h87]
        go_wp2_with fail
        go_ret
        exact ⟨rfl, HB'.out⟩
end Go.Proofs.YtfnmlegikcogoaaDoor
