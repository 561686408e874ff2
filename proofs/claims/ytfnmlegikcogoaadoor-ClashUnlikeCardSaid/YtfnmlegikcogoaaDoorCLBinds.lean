/-
  The walk of ClashBinds: it answers true, where the program's calls do what is asked of them. (Written by gen_cextl.py.)
-/
import Derived.Test.YtfnmlegikcogoaaDoorClashLem
import Derived.Test.YtfnmlegikcogoaaDoorClashRefE
import Derived.Laws.Cover1
namespace Go.Proofs.YtfnmlegikcogoaaDoor
open Go Go.RowKit Go.Sort Go.BigFrame
set_option linter.unusedVariables false

theorem leads_all {root : ByteArray} {depth i : Int} {s : ByteArray} {g : Nat → ByteArray} {n : Nat} (h : leadsB root depth i s g n = true) : 0 ≤ i ∧ (n : Int) = depth ∧ (∀ k, k < n → (g k).size = 32) ∧ climbB s i.toNat g n = root := by
  have := of_decide_eq_true h
  exact ⟨this.2.2.1, this.2.2.2.2.1, this.2.2.2.2.2.1, this.2.2.2.2.2.2⟩
set_option maxRecDepth 100000 in
set_option maxHeartbeats 8000000 in
theorem cbinds_body (G : World → Prop) (hA : AskClash G) (aw : ∀ W, G W → Calls Tryd.prog 9 #[] W fun e w' => e = .returned (.bool true) ∧ Below W.heap.size W w') (root : ByteArray) (depth i : Int) (a : Option Addr) (len cap : Nat) (zs : List Int) (b : Option Addr) (lenb capb : Nat) (qs : List (Int × Int)) (p : Option Addr) (n c : Nat) (g : Nat → ByteArray)
    (a2 : Option Addr) (len2 cap2 : Nat) (zs2 : List Int) (b2 : Option Addr) (lenb2 capb2 : Nat) (qs2 : List (Int × Int)) (p2 : Option Addr) (n2 c2 : Nat) (g2 : Nat → ByteArray) (w : World) (hG0 : G w) (hrs : root.size ≤ maxLen)
    (hr : RowA w a len zs) (hu : ∀ n ∈ zs, U n) (hq : QRowA w b lenb qs) (hv : ∀ n ∈ qs, U n.1 ∧ U n.2) (hS : StrS w p n c g) (hr2 : RowA w a2 len2 zs2) (hu2 : ∀ n ∈ zs2, U n) (hq2 : QRowA w b2 lenb2 qs2) (hv2 : ∀ n ∈ qs2, U n.1 ∧ U n.2) (hS2 : StrS w p2 n2 c2 g2)
    (hd : -9223372036854775808 ≤ depth ∧ depth ≤ 9223372036854775807) (hi : -9223372036854775808 ≤ i ∧ i ≤ 9223372036854775807) :
    Calls Tryd.prog 6 #[.string root, .agg #[.int .i64 depth, .int .i64 i], .agg #[.slice a len cap, .slice b lenb capb, .slice p n c, .slice a2 len2 cap2, .slice b2 lenb2 capb2, .slice p2 n2 c2]] w fun e w' => e = .returned (.bool true) ∧ Below w.heap.size w w' := by
  have HK := Lib.hid (fun (W W' : World) => @AskClash.keep G hA W W')
  have HG0 := Lib.hid hG0
  have hl1 := hr.2.1; have hl2 := hq.2.1; have hl3 := hr2.2.1; have hl4 := hq2.2.1
  have kS := fun (W : World) (hb : Below w.heap.size w W) => cshort_is a len cap b lenb capb p n c g (shortB len lenb n g) W hr.2.1 hq.2.1 (hS.1.keep hb) rfl
  have kT := fun (W : World) (hb : Below w.heap.size w W) => cshort_is a2 len2 cap2 b2 lenb2 capb2 p2 n2 c2 g2 (shortB len2 lenb2 n2 g2) W hr2.2.1 hq2.2.1 (hS2.1.keep hb) rfl
  have HA := Lib.hid hA; have HR := Lib.hid hr; have HQ := Lib.hid hq; have HS := Lib.hid hS; have HR2 := Lib.hid hr2; have HQ2 := Lib.hid hq2; have HS2 := Lib.hid hS2
  unfold maxLen at hrs hl1 hl2 hl3 hl4
  clear hA hr hq hS hr2 hq2 hS2 hG0
  go_enter Tryd.func6, Tryd.ntmps6
  go_upto_region 1 with fail
  refine wp_gen (fun W => Below w.heap.size w W ∧ (W.cell? ⟨w.heap.size, 0, none⟩ = some (.int .i64 depth) ∧ W.cell? ⟨w.heap.size, 1, none⟩ = some (.int .i64 i)) ∧ OpenV W (w.heap.size + 1) (.slice a len cap) (.slice b lenb capb) (.slice p n c) ∧ W.cell? ⟨w.heap.size + 1, 3, none⟩ = some (.slice a2 len2 cap2) ∧ W.cell? ⟨w.heap.size + 1, 4, none⟩ = some (.slice b2 lenb2 capb2) ∧ W.cell? ⟨w.heap.size + 1, 5, none⟩ = some (.slice p2 n2 c2)) ⟨?_, ⟨by simp [go_sem], by simp [go_sem]⟩, ⟨by simp [go_sem], by simp [go_sem], by simp [go_sem]⟩, by simp [go_sem], by simp [go_sem], by simp [go_sem]⟩ ?_
  · exact ((Below.refl _ _).alloc (Nat.le_refl _) _).alloc (by simp) _
  obtain ⟨g0, hg0⟩ : ∃ g, w.heap.size = g := ⟨_, rfl⟩
  obtain ⟨g1, hg1⟩ : ∃ g, g0 + 1 = g := ⟨_, rfl⟩
  rintro W1 ⟨hB, hT, hX, hY⟩
  rw [hg0] at hT hX hY
  rw [hg1] at hX hY
  simp only [hg0, hg1]
  obtain ⟨t0, t1⟩ := hT
  obtain ⟨x0, x1, x2⟩ := hX
  obtain ⟨y0, y1, y2⟩ := hY
  have HB := Lib.hid hB
  clear hB hg0 hg1
  by_cases c1 : (100 : Int) < (root.size : Int)
  · go_wp2_with (first
      | (go_at_call 8; (first | with_reducible refine (kS _ HB.out).mono ?_ | with_reducible refine (kT _ HB.out).mono ?_); rintro e w1 ⟨rfl, hb⟩; replace HB := Lib.hid (bthen HB.out hb); replace t0 := bkeep hb t0; replace t1 := bkeep hb t1; replace x0 := bkeep hb x0; replace x1 := bkeep hb x1; replace x2 := bkeep hb x2; replace y0 := bkeep hb y0; replace y1 := bkeep hb y1; replace y2 := bkeep hb y2; clear hb)
      | (go_at_call 9; (with_reducible refine (aw _ (HK.out _ _ HG0.out HB.out)).mono ?_); rintro e w2 ⟨rfl, hb2⟩))
    go_ret
    exact ⟨rfl, bthen HB.out hb2⟩
  cases c4 : shortB len lenb n g with
  | false =>
    simp only [c4] at kS
    go_wp2_with (first
      | (go_at_call 8; (first | with_reducible refine (kS _ HB.out).mono ?_ | with_reducible refine (kT _ HB.out).mono ?_); rintro e w1 ⟨rfl, hb⟩; replace HB := Lib.hid (bthen HB.out hb); replace t0 := bkeep hb t0; replace t1 := bkeep hb t1; replace x0 := bkeep hb x0; replace x1 := bkeep hb x1; replace x2 := bkeep hb x2; replace y0 := bkeep hb y0; replace y1 := bkeep hb y1; replace y2 := bkeep hb y2; clear hb)
      | (go_at_call 9; (with_reducible refine (aw _ (HK.out _ _ HG0.out HB.out)).mono ?_); rintro e w2 ⟨rfl, hb2⟩))
    go_ret
    exact ⟨rfl, bthen HB.out hb2⟩
  | true =>
  simp only [c4] at kS
  cases c5 : shortB len2 lenb2 n2 g2 with
  | false =>
    simp only [c5] at kT
    go_wp2_with (first
      | (go_at_call 8; (first | with_reducible refine (kS _ HB.out).mono ?_ | with_reducible refine (kT _ HB.out).mono ?_); rintro e w1 ⟨rfl, hb⟩; replace HB := Lib.hid (bthen HB.out hb); replace t0 := bkeep hb t0; replace t1 := bkeep hb t1; replace x0 := bkeep hb x0; replace x1 := bkeep hb x1; replace x2 := bkeep hb x2; replace y0 := bkeep hb y0; replace y1 := bkeep hb y1; replace y2 := bkeep hb y2; clear hb)
      | (go_at_call 9; (with_reducible refine (aw _ (HK.out _ _ HG0.out HB.out)).mono ?_); rintro e w2 ⟨rfl, hb2⟩))
    go_ret
    exact ⟨rfl, bthen HB.out hb2⟩
  | true =>
  simp only [c5] at kT
  obtain ⟨s1, s2, s3, s4⟩ := of_decide_eq_true c4
  obtain ⟨r1, r2, r3, r4⟩ := of_decide_eq_true c5
  obtain ⟨x, y, ok, hE⟩ : ∃ x y ok, extractB root depth i (openB zs qs) g n (openB zs2 qs2) g2 n2 = (x, y, ok) := ⟨_, _, _, rfl⟩
  have k1 := fun (W : World) (hb : Below w.heap.size w W) (hg : G W) => HA.out.extract root depth i a len cap zs b lenb capb qs p n c g a2 len2 cap2 zs2 b2 lenb2 capb2 qs2 p2 n2 c2 g2 x y ok W (HR.out.keep hb) hu (HQ.out.keep hb) hv (by omega) (by omega) (HS.out.keep hb) (by omega) s4 (HR2.out.keep hb) hu2 (HQ2.out.keep hb) hv2 (by omega) (by omega) (HS2.out.keep hb) (by omega) r4 hd hi hE hg
  have kl1 := fun (W : World) (hb : Below w.heap.size w W) => rleads_is root depth i a len cap zs b lenb capb qs p n c g W (HR.out.keep hb) hu (HQ.out.keep hb) hv (by omega) (by omega) (HS.out.1.keep hb) s4 hd hi
  have kl2 := fun (W : World) (hb : Below w.heap.size w W) => rleads_is root depth i a2 len2 cap2 zs2 b2 lenb2 capb2 qs2 p2 n2 c2 g2 W (HR2.out.keep hb) hu2 (HQ2.out.keep hb) hv2 (by omega) (by omega) (HS2.out.1.keep hb) r4 hd hi
  have kt1 := fun (W : World) (hb : Below w.heap.size w W) => rltext_is a len cap zs b lenb capb qs (.slice p n c) W (HR.out.keep hb) hu (HQ.out.keep hb) hv (by omega) (by omega)
  have kt2 := fun (W : World) (hb : Below w.heap.size w W) => rltext_is a2 len2 cap2 zs2 b2 lenb2 capb2 qs2 (.slice p2 n2 c2) W (HR2.out.keep hb) hu2 (HQ2.out.keep hb) hv2 (by omega) (by omega)
  have z1 := openB_size zs qs (by rw [HR.out.1]; omega) (by rw [HQ.out.1]; omega)
  have z2 := openB_size zs2 qs2 (by rw [HR2.out.1]; omega) (by rw [HQ2.out.1]; omega)
  generalize openB zs qs = S at *
  generalize openB zs2 qs2 = T at *
  have HL1 := Lib.hid (fun (h : leadsB root depth i (leafB S) g n = true) => leads_all h)
  have HL2 := Lib.hid (fun (h : leadsB root depth i (leafB T) g2 n2 = true) => leads_all h)
  unfold extractB at hE
  have HL3 := Lib.hid hE
  have HS4 := Lib.hid s4; have HR4 := Lib.hid r4
  clear hE c4 c5 s4 r4
  cases l1 : leadsB root depth i (leafB S) g n with
  | false =>
    obtain ⟨e1, e2, e3⟩ : x = ⟨#[]⟩ ∧ y = ⟨#[]⟩ ∧ ok = false := by
      have := HL3.out
      rw [if_neg (fun h => by rw [l1] at h; cases h.1)] at this
      simp only [Prod.mk.injEq] at this
      exact ⟨this.1.symm, this.2.1.symm, this.2.2.symm⟩
    subst e1; subst e2; subst e3
    simp only [l1] at kl1
    clear HL1 HL2 HL3 l1 z1 z2
    go_upto_region 5 with ((first
      | (go_at_call 8; first | with_reducible refine (kS _ HB.out).mono ?_ | with_reducible refine (kT _ HB.out).mono ?_)
      | (go_at_call 15; with_reducible refine (k1 _ HB.out (HK.out _ _ HG0.out HB.out)).mono ?_)
      | (go_at_call 17; first | with_reducible refine (kl1 _ HB.out).mono ?_ | with_reducible refine (kl2 _ HB.out).mono ?_)
      | (go_at_call 9; with_reducible refine (aw _ (HK.out _ _ HG0.out HB.out)).mono ?_)); rintro e w1 ⟨rfl, hb⟩; replace HB := Lib.hid (bthen HB.out hb); replace t0 := bkeep hb t0; replace t1 := bkeep hb t1; replace x0 := bkeep hb x0; replace x1 := bkeep hb x1; replace x2 := bkeep hb x2; replace y0 := bkeep hb y0; replace y1 := bkeep hb y1; replace y2 := bkeep hb y2; clear hb)
    obtain ⟨z0, z1, z2, z3, z4, z5⟩ : _ ∧ _ ∧ _ ∧ _ ∧ _ ∧ _ := ⟨x0, x1, x2, y0, y1, y2⟩
    replace x0 := fun q : Regrown => cell_regrown z0 q.d q.os
    replace x1 := fun q : Regrown => cell_regrown z1 q.d q.os
    replace x2 := fun q : Regrown => cell_regrown z2 q.d q.os
    replace y0 := fun q : Regrown => cell_regrown z3 q.d q.os
    replace y1 := fun q : Regrown => cell_regrown z4 q.d q.os
    replace y2 := fun q : Regrown => cell_regrown z5 q.d q.os
    clear z0 z1 z2 z3 z4 z5
    refine wp_region_quiet_below (by kernel_rfl) (by kernel_rfl) ?_
    repeat (first | go_big_quiet_step (first
      | (go_at_call 18; first | with_reducible exact Calls.regrown_of (kt1 _ (bthen HB.out (below_regrown _ _ _))) | with_reducible exact Calls.regrown_of (kt2 _ (bthen HB.out (below_regrown _ _ _))))) | quiet_step (fail))
    refine wpQuiet_nil ?_
    rintro _ ⟨pq, rfl⟩
    replace HB := Lib.hid (bthen HB.out (below_regrown _ pq.d pq.os))
    clear x0 x1 x2 y0 y1 y2 t0 t1
    go_wp2_with (go_at_call 9; (with_reducible refine (aw _ (HK.out _ _ HG0.out HB.out)).mono ?_); rintro e w1 ⟨rfl, hb⟩; replace HB := Lib.hid (bthen HB.out hb); clear hb)
    go_ret
    exact ⟨rfl, HB.out⟩
  | true =>
  cases l2 : leadsB root depth i (leafB T) g2 n2 with
  | false =>
    obtain ⟨e1, e2, e3⟩ : x = ⟨#[]⟩ ∧ y = ⟨#[]⟩ ∧ ok = false := by
      have := HL3.out
      rw [if_neg (fun h => by rw [l2] at h; cases h.2.1)] at this
      simp only [Prod.mk.injEq] at this
      exact ⟨this.1.symm, this.2.1.symm, this.2.2.symm⟩
    subst e1; subst e2; subst e3
    simp only [l1] at kl1
    simp only [l2] at kl2
    clear HL1 HL2 HL3 l1 l2 z1 z2
    go_upto_region 5 with ((first
      | (go_at_call 8; first | with_reducible refine (kS _ HB.out).mono ?_ | with_reducible refine (kT _ HB.out).mono ?_)
      | (go_at_call 15; with_reducible refine (k1 _ HB.out (HK.out _ _ HG0.out HB.out)).mono ?_)
      | (go_at_call 17; first | with_reducible refine (kl1 _ HB.out).mono ?_ | with_reducible refine (kl2 _ HB.out).mono ?_)
      | (go_at_call 9; with_reducible refine (aw _ (HK.out _ _ HG0.out HB.out)).mono ?_)); rintro e w1 ⟨rfl, hb⟩; replace HB := Lib.hid (bthen HB.out hb); replace t0 := bkeep hb t0; replace t1 := bkeep hb t1; replace x0 := bkeep hb x0; replace x1 := bkeep hb x1; replace x2 := bkeep hb x2; replace y0 := bkeep hb y0; replace y1 := bkeep hb y1; replace y2 := bkeep hb y2; clear hb)
    obtain ⟨z0, z1, z2, z3, z4, z5⟩ : _ ∧ _ ∧ _ ∧ _ ∧ _ ∧ _ := ⟨x0, x1, x2, y0, y1, y2⟩
    replace x0 := fun q : Regrown => cell_regrown z0 q.d q.os
    replace x1 := fun q : Regrown => cell_regrown z1 q.d q.os
    replace x2 := fun q : Regrown => cell_regrown z2 q.d q.os
    replace y0 := fun q : Regrown => cell_regrown z3 q.d q.os
    replace y1 := fun q : Regrown => cell_regrown z4 q.d q.os
    replace y2 := fun q : Regrown => cell_regrown z5 q.d q.os
    clear z0 z1 z2 z3 z4 z5
    refine wp_region_quiet_below (by kernel_rfl) (by kernel_rfl) ?_
    repeat (first | go_big_quiet_step (first
      | (go_at_call 18; first | with_reducible exact Calls.regrown_of (kt1 _ (bthen HB.out (below_regrown _ _ _))) | with_reducible exact Calls.regrown_of (kt2 _ (bthen HB.out (below_regrown _ _ _))))) | quiet_step (fail))
    refine wpQuiet_nil ?_
    rintro _ ⟨pq, rfl⟩
    replace HB := Lib.hid (bthen HB.out (below_regrown _ pq.d pq.os))
    clear x0 x1 x2 y0 y1 y2 t0 t1
    go_wp2_with (go_at_call 9; (with_reducible refine (aw _ (HK.out _ _ HG0.out HB.out)).mono ?_); rintro e w1 ⟨rfl, hb⟩; replace HB := Lib.hid (bthen HB.out hb); clear hb)
    go_ret
    exact ⟨rfl, HB.out⟩
  | true =>
  simp only [l1] at kl1
  simp only [l2] at kl2
  by_cases hST : S = T
  · subst hST
    obtain ⟨e1, e2, e3⟩ : x = ⟨#[]⟩ ∧ y = ⟨#[]⟩ ∧ ok = false := by
      have := HL3.out
      rw [if_neg (fun h => h.2.2 rfl)] at this
      simp only [Prod.mk.injEq] at this
      exact ⟨this.1.symm, this.2.1.symm, this.2.2.symm⟩
    subst e1; subst e2; subst e3
    clear HL1 HL2 HL3 l1 l2 z1 z2
    go_upto_region 5 with ((first
      | (go_at_call 8; first | with_reducible refine (kS _ HB.out).mono ?_ | with_reducible refine (kT _ HB.out).mono ?_)
      | (go_at_call 15; with_reducible refine (k1 _ HB.out (HK.out _ _ HG0.out HB.out)).mono ?_)
      | (go_at_call 17; first | with_reducible refine (kl1 _ HB.out).mono ?_ | with_reducible refine (kl2 _ HB.out).mono ?_)
      | (go_at_call 9; with_reducible refine (aw _ (HK.out _ _ HG0.out HB.out)).mono ?_)); rintro e w1 ⟨rfl, hb⟩; replace HB := Lib.hid (bthen HB.out hb); replace t0 := bkeep hb t0; replace t1 := bkeep hb t1; replace x0 := bkeep hb x0; replace x1 := bkeep hb x1; replace x2 := bkeep hb x2; replace y0 := bkeep hb y0; replace y1 := bkeep hb y1; replace y2 := bkeep hb y2; clear hb)
    obtain ⟨z0, z1, z2, z3, z4, z5⟩ : _ ∧ _ ∧ _ ∧ _ ∧ _ ∧ _ := ⟨x0, x1, x2, y0, y1, y2⟩
    replace x0 := fun q : Regrown => cell_regrown z0 q.d q.os
    replace x1 := fun q : Regrown => cell_regrown z1 q.d q.os
    replace x2 := fun q : Regrown => cell_regrown z2 q.d q.os
    replace y0 := fun q : Regrown => cell_regrown z3 q.d q.os
    replace y1 := fun q : Regrown => cell_regrown z4 q.d q.os
    replace y2 := fun q : Regrown => cell_regrown z5 q.d q.os
    clear z0 z1 z2 z3 z4 z5
    refine wp_region_quiet_below (by kernel_rfl) (by kernel_rfl) ?_
    repeat (first | go_big_quiet_step (first
      | (go_at_call 18; first | with_reducible exact Calls.regrown_of (kt1 _ (bthen HB.out (below_regrown _ _ _))) | with_reducible exact Calls.regrown_of (kt2 _ (bthen HB.out (below_regrown _ _ _))))) | quiet_step (fail))
    refine wpQuiet_nil ?_
    rintro _ ⟨pq, rfl⟩
    replace HB := Lib.hid (bthen HB.out (below_regrown _ pq.d pq.os))
    clear x0 x1 x2 y0 y1 y2 t0 t1
    go_wp2_with (go_at_call 9; (with_reducible refine (aw _ (HK.out _ _ HG0.out HB.out)).mono ?_); rintro e w1 ⟨rfl, hb⟩; replace HB := Lib.hid (bthen HB.out hb); clear hb)
    go_ret
    exact ⟨rfl, HB.out⟩
  have hfacts : ok = true ∧ x ≠ y ∧ sumB x = sumB y ∧ max x.size y.size ≤ max 65 (max (1 + S.size) (1 + T.size)) := by
    obtain ⟨h1, h2, h3, h4⟩ := HL1.out l1
    obtain ⟨_, q2, q3, q4⟩ := HL2.out l2
    obtain rfl : n = n2 := by omega
    have hE := HL3.out
    rw [if_pos ⟨l1, l2, hST⟩] at hE
    obtain ⟨m, rfl⟩ := Int.eq_ofNat_of_zero_le h1
    have e1 := trail_climb S m g n
    have e2 := trail_climb T m g2 n
    rw [Int.toNat_natCast] at h4 q4
    obtain ⟨x', y', hxy, f1, f2, f3⟩ := clash_binds (s := S) (t := T) (i := (m : Int)) h3 q3 (by rw [e1, e2, h4, q4]) hST
    rw [hxy] at hE
    simp only [Prod.mk.injEq] at hE
    obtain ⟨rfl, rfl, rfl⟩ := hE
    exact ⟨rfl, f1, f2, f3⟩
  obtain ⟨e3, f1, f2, f3⟩ := hfacts
  subst e3
  have hx : x.size ≤ 200001 := by omega
  have hy : y.size ≤ 200001 := by omega
  have ks1 := rsum1 x _ rfl (by omega)
  have ks2 := rsum1 y (sumB x) f2.symm (by omega)
  have hb1 := beq_of (decide_eq_false hST)
  have hb2 := beq_of (decide_eq_false f1)
  have HF3 := Lib.hid f3
  clear HL1 HL2 HL3 l1 l2 f1 f2 f3 hST
  generalize sumB x = σ at *
  go_upto_region 5 with ((first
    | (go_at_call 8; first | with_reducible refine (kS _ HB.out).mono ?_ | with_reducible refine (kT _ HB.out).mono ?_)
    | (go_at_call 15; with_reducible refine (k1 _ HB.out (HK.out _ _ HG0.out HB.out)).mono ?_)
    | (go_at_call 17; first | with_reducible refine (kl1 _ HB.out).mono ?_ | with_reducible refine (kl2 _ HB.out).mono ?_)
    | (go_at_call 9; with_reducible refine (aw _ (HK.out _ _ HG0.out HB.out)).mono ?_)); rintro e w1 ⟨rfl, hb⟩; replace HB := Lib.hid (bthen HB.out hb); replace t0 := bkeep hb t0; replace t1 := bkeep hb t1; replace x0 := bkeep hb x0; replace x1 := bkeep hb x1; replace x2 := bkeep hb x2; replace y0 := bkeep hb y0; replace y1 := bkeep hb y1; replace y2 := bkeep hb y2; clear hb)
  obtain ⟨z0, z1, z2, z3, z4, z5⟩ : _ ∧ _ ∧ _ ∧ _ ∧ _ ∧ _ := ⟨x0, x1, x2, y0, y1, y2⟩
  replace x0 := fun q : Regrown => cell_regrown z0 q.d q.os
  replace x1 := fun q : Regrown => cell_regrown z1 q.d q.os
  replace x2 := fun q : Regrown => cell_regrown z2 q.d q.os
  replace y0 := fun q : Regrown => cell_regrown z3 q.d q.os
  replace y1 := fun q : Regrown => cell_regrown z4 q.d q.os
  replace y2 := fun q : Regrown => cell_regrown z5 q.d q.os
  clear z0 z1 z2 z3 z4 z5
  refine wp_region_quiet_below (by kernel_rfl) (by kernel_rfl) ?_
  repeat (first | go_big_quiet_step (first
    | (go_at_call 18; first | with_reducible exact Calls.regrown_of (kt1 _ (bthen HB.out (below_regrown _ _ _))) | with_reducible exact Calls.regrown_of (kt2 _ (bthen HB.out (below_regrown _ _ _))))) | quiet_step (fail))
  refine wpQuiet_nil ?_
  rintro _ ⟨pq, rfl⟩
  replace HB := Lib.hid (bthen HB.out (below_regrown _ pq.d pq.os))
  clear x0 x1 x2 y0 y1 y2 t0 t1
  go_wp2_with ((first
    | (go_at_call 19; first | with_reducible refine (ks1 _ _).mono ?_ | with_reducible refine (ks2 _ _).mono ?_)
    | (go_at_call 9; with_reducible refine (aw _ (HK.out _ _ HG0.out HB.out)).mono ?_)); rintro e w1 ⟨rfl, hb⟩; replace HB := Lib.hid (bthen HB.out hb); clear hb)
  all_goals
    go_ret
    refine ⟨congrArg (fun b => Ending.returned (Value.bool b)) (decide_eq_true ?_), HB.out⟩
    have hm := HF3.out
    clear HF3 HB HA HR HQ HS HR2 HQ2 HS2 HK HG0
    (repeat' (split at *)) <;> omega
end Go.Proofs.YtfnmlegikcogoaaDoor
