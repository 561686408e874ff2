/-
  The program's Pairs of layer 17. (Written by gen_vprog.py.)
-/
import Derived.Test.YtlgfnlkblehlbaaVPro
import Derived.Test.YtlgfnlkblehlbaaEvalRefQ
import Derived.BigRegion
import Derived.Deep.RegionLaw
namespace Go.Proofs.Ytlgfnlkblehlbaa
open Go Go.RowKit
set_option linter.unusedVariables false

set_option maxHeartbeats 2000000 in
theorem vqput_is (B g : Nat) (v : Value) (x : Int × Int) (st : List (Int × Int)) (W : World) (hS : VarRow B 29 2 W g v (st).length (stkV stP (st))) (hl : st.length ≤ 1000) :
    Calls Try.prog 56 #[.pointer (some ⟨g, 0, none⟩), .agg #[.int .u64 x.1, .int .u64 x.2]] W fun e w' => e = .returned (.tuple #[]) ∧ ∃ v', VarRow B 29 2 w' g v' (x :: st).length (stkV stP (x :: st)) ∧ Went g W w' v v' := by
  obtain ⟨i0, hi, hz0, hz1, hz2⟩ := info_parts infoQe
  obtain ⟨x0, x1⟩ := x
  have HB0 := Lib.hid (fun (o : Obj) => (Below.refl W.heap.size W).alloc (Nat.le_refl _) o)
  have HS0 := Lib.hid hS
  clear hS
  go_enter Try.func56, Try.ntmps56
  go_upto_region 1 with fail
  refine wp_gen (fun W1 => Below W.heap.size W W1 ∧ W1.cell? ⟨W.heap.size, 0, none⟩ = some (.int .u64 x0) ∧ W1.cell? ⟨W.heap.size, 1, none⟩ = some (.int .u64 x1) ∧ W.heap.size < W1.heap.size) ⟨HB0.out _, by simp [go_sem], by simp [go_sem], by simp [go_sem]⟩ ?_
  obtain ⟨gx, hgx⟩ : ∃ g, W.heap.size = g := ⟨_, rfl⟩
  rintro W1 ⟨hB, d0, d1, hsz⟩
  simp only [hgx] at d0 d1 hsz ⊢
  have HSa := HS0.out.keep hB
  have HWa := Went.below (g := g) v hB
  have hgl := HS0.out.lt
  have c0 := HSa.c
  have f0 := HSa.f
  have hne1 : ¬ g = W1.heap.size := by omega
  have hne2 : ¬ W1.heap.size = g := by omega
  have hne3 : ¬ gx = W1.heap.size := by omega
  have hgl1 : g < W1.heap.size := by omega
  have HS := Lib.hid (HSa.keep ((Below.refl W1.heap.size W1).drew.alloc (Nat.le_refl _) (.cells #[.int .u64 x0, .int .u64 x1] 29)))
  have HW := Lib.hid (HWa.trans (Went.below (g := g) v ((Below.refl W1.heap.size W1).drew.alloc (Nat.le_refl _) (.cells #[.int .u64 x0, .int .u64 x1] 29))))
  have HD : Hid (∀ (v' : Value) (w2 : World), w2.ownsRow B 29 2 v' (st.length + 1) (stkV stP st ++ [.int .u64 x0, .int .u64 x1]) → (W1.drew.alloc (.cells #[.int .u64 x0, .int .u64 x1] 29)).grownBy w2 v.ownBlock → (v'.ownBlock = v.ownBlock ∨ v'.ownBlock = some (W1.drew.alloc (.cells #[.int .u64 x0, .int .u64 x1] 29)).heap.size) →
      VarRow B 29 2 (w2.setCell ⟨g, 0, none⟩ v') g v' ((x0, x1) :: st).length (stkV stP ((x0, x1) :: st)) ∧ Went g W (w2.setCell ⟨g, 0, none⟩ v') v v' ∧ w2.cell? ⟨g, 0, none⟩ = some v ∧ w2.frozen? ⟨g, 0, none⟩ = false) := Lib.hid fun v' w2 hown hgrow hat => by
    have hlt := HS.out.lt
    have hne : some g ≠ v.ownBlock := fun e => HS.out.ne e.symm
    exact ⟨HS.out.put hgrow (by rw [stkV_cons]; exact hown) hat, HW.out.trans (Went.put HS.out hgrow hat), (World.cell?_of_block (a := ⟨g, 0, none⟩) (hgrow.block g hlt hne)).trans HS.out.c, (World.frozen?_of_block (a := ⟨g, 0, none⟩) (hgrow.block g hlt hne)).trans HS.out.f⟩
  have hown0 := HS.out.own
  have hsz0 := HS.out.size
  obtain ⟨FL, hFL⟩ : ∃ fl, stkV stP st = fl := ⟨_, rfl⟩
  rw [hFL] at HD hown0
  clear hB HSa HWa HS0 HB0 hgx hgl HS HW
  go_region_law (refine wp_append_own_at (.tmp 7) (.tmp 9) 75 (by rfl) B 29 i0 (.agg #[.int .u64 0, .int .u64 0]) 2 16 Try.underlying75 hi hz0 hz1 hz2 rfl (by decide) v st.length FL (by rfl) hown0 ⟨W1.heap.size, 0, none⟩ 1 1 [.int .u64 x0, .int .u64 x1] (by rfl) rfl (two_src (by simp [go_sem]) (by simp [go_sem])) (by intro u hu; simp at hu; rcases hu with rfl | rfl <;> rfl) (by unfold maxLen; omega) (by omega) hsz0 ?_; intro v' w2 hown hgrow hat; obtain ⟨r1, r2, k0, k1⟩ := HD.out v' w2 hown hgrow hat; obtain ⟨a', cap', rfl⟩ := own_form hown; have R := Lib.hid r1; have G := Lib.hid r2; clear r1 r2 hown hgrow hat c0 f0)
  all_goals go_wp2
  all_goals go_end0
  all_goals exact ⟨rfl, _, R.out, G.out⟩
theorem vqcut_is {B g b cap M : Nat} {x : Int × Int} {st : List (Int × Int)} {W : World} (hM : st.length + 1 = M) (h : VarRow B 29 2 W g (.slice (some ⟨b, 0, none⟩) M cap) M (stkV stP (x :: st))) :
    VarRow B 29 2 (W.setCell ⟨g, 0, none⟩ (.slice (some ⟨b, 0, none⟩) st.length cap)) g (.slice (some ⟨b, 0, none⟩) st.length cap) st.length (stkV stP st) ∧ Went g W (W.setCell ⟨g, 0, none⟩ (.slice (some ⟨b, 0, none⟩) st.length cap)) (.slice (some ⟨b, 0, none⟩) M cap) (.slice (some ⟨b, 0, none⟩) st.length cap) := by
  subst hM
  have hcut := own_cut (m := st.length) (xs := stkV stP st) (ys := stP x) (by have := h.own; rw [stkV_cons] at this; exact this) (by simp) (stkV_len stP_len st)
  exact ⟨h.put (W' := W) (World.grownBy.refl W _) hcut (.inl rfl), Went.put (W' := W) h (World.grownBy.refl W _) (.inl rfl)⟩
set_option maxHeartbeats 2000000 in
theorem vqtake_is (B g : Nat) (v : Value) (x : Int × Int) (st : List (Int × Int)) (W : World) (hS : VarRow B 29 2 W g v (x :: st).length (stkV stP (x :: st))) (hl : st.length ≤ 1000) :
    Calls Try.prog 59 #[.pointer (some ⟨g, 0, none⟩)] W fun e w' => e = .returned (.agg #[.int .u64 x.1, .int .u64 x.2]) ∧ ∃ v', VarRow B 29 2 w' g v' (st).length (stkV stP (st)) ∧ Went g W w' v v' := by
  obtain ⟨b, cap, rfl, hc1, hc2, hcell⟩ := stk_one stP_len hS.own
  have hcut := own_cut (m := st.length) (xs := stkV stP st) (ys := stP x) (by have := hS.own; rw [stkV_cons] at this; exact this) (by simp) (stkV_len stP_len st)
  obtain ⟨M, hM⟩ : ∃ M, st.length + 1 = M := ⟨_, rfl⟩
  have hw1 : IntKind.i64.wrap ((M : Int) - 1) = (st.length : Int) := by rw [IntWalk.i64_in _ (by omega)]; omega
  have hw2 : wrap64 ((M : Int) - 1) = (st.length : Int) := by rw [IntWalk.wrap64_in _ (by omega)]; omega
  have h0 : (0 : Int) ≤ (st.length : Int) := by omega
  have hlt : (st.length : Int) < (M : Int) := by omega
  have hle : (st.length : Int) ≤ (M : Int) := by omega
  have hcc : st.length ≤ cap := by omega
  obtain ⟨x0, x1⟩ := x
  have hx0 := hcell 0 (by decide); have hx1 := hcell 1 (by decide)
  simp only [Nat.add_zero] at hx0 hx1
  replace hx0 : W.cell? ⟨b, st.length * 2, none⟩ = some (.int .u64 x0) := hx0
  replace hx1 : W.cell? ⟨b, st.length * 2 + 1, none⟩ = some (.int .u64 x1) := hx1
  have hbl := World.block_lt_of_cell? W _ hx0
  dsimp only at hbl
  rw [List.length_cons, hM] at hS
  rw [hM] at hc1 ⊢
  have HS := Lib.hid hS; have HCUT := Lib.hid hcut
  have hgl := hS.lt
  have hbg : ¬ b = g := fun e => hS.ne (by rw [e]; rfl)
  have hgb : ¬ g = b := fun e => hbg e.symm
  have HMM := Lib.hid hM
  clear hS hcut hcell hM
  go_enter Try.func59, Try.ntmps59
  go_upto_region 2 with fail
  refine wp_gen (fun W1 => Below W.heap.size W W1 ∧ Var W1 W.heap.size 0 0 ∧ Var W1 (W.heap.size + 1) 0 0) ⟨((Below.refl _ _).alloc (Nat.le_refl _) _).alloc (by simp) _, (Var.new _ _ _ _).alloc _, by simpa using Var.new (W.alloc (.cells #[.int .u64 0, .int .u64 0] 29)) 0 0 29⟩ ?_
  obtain ⟨g2, hg2⟩ : ∃ g, W.heap.size = g := ⟨_, rfl⟩
  obtain ⟨g3, hg3⟩ : ∃ h, g2 + 1 = h := ⟨_, rfl⟩
  rintro W1 ⟨hB, hV2, hV3⟩
  simp only [hg2, hg3] at hV2 hV3 ⊢
  have HS1 := Lib.hid (HS.out.keep hB)
  have HW1 := Lib.hid (Went.below (g := g) (.slice (some ⟨b, 0, none⟩) M cap) hB)
  have HCUT1 := Lib.hid (own_keep HCUT.out hB)
  replace hx0 := bkeep hB hx0; replace hx1 := bkeep hB hx1
  have c0 := HS1.out.c; have f0 := HS1.out.f
  have n1 : ¬ g = g2 := by omega
  have n2 : ¬ g2 = g := by omega
  have n3 : ¬ g = g3 := by omega
  have n4 : ¬ g3 = g := by omega
  have n5 : ¬ g2 = g3 := by omega
  have n6 : ¬ g3 = g2 := by omega
  have n7 : ¬ b = g2 := by omega
  have n8 : ¬ g2 = b := by omega
  have n9 : ¬ b = g3 := by omega
  have n10 : ¬ g3 = b := by omega
  have HN := Lib.hid (And.intro (show W.heap.size ≤ g2 by omega) (show W.heap.size ≤ g3 by omega))
  have HNB : Hid (∀ p n, p ≠ b → (Value.slice (some ⟨b, 0, none⟩) n cap).ownBlock ≠ some p) := Lib.hid fun p n h e => h (by simpa [Value.ownBlock] using e.symm)
  obtain ⟨v0, v1, e0, e1⟩ := hV2
  obtain ⟨u0, u1, d0, d1⟩ := hV3
  clear hB HS HCUT hg2 hg3 hbl hgl
  go_upto_region 4 with fail
  go_region
  all_goals go_wp2
  all_goals refine bodyPost_ret (v := .agg #[.int .u64 x0, .int .u64 x1]) (by simp [results, Try.results59, go_sem, v0, v1]) rfl ⟨rfl, .slice (some ⟨b, 0, none⟩) st.length cap, ?_, ?_⟩
  · exact ((((vqcut_is HMM.out ((HS1.out.far n4 (HNB.out g3 M n10) 0 _).far n4 (HNB.out g3 M n10) 1 _)).1.far n2 (HNB.out g2 _ n8) 0 _).far n2 (HNB.out g2 _ n8) 1 _).drew)
  · exact (((((HW1.out.setNew HN.out.2 _).setNew HN.out.2 _).trans (vqcut_is HMM.out ((HS1.out.far n4 (HNB.out g3 M n10) 0 _).far n4 (HNB.out g3 M n10) 1 _)).2).setNew HN.out.1 _).setNew HN.out.1 _).drew
set_option maxHeartbeats 2000000 in
theorem vqjoin4_is (w1 : World) (g : Nat) (v : Value) (x y z : Int × Int) (r : List (Int × Int)) (W : World) (hB : Below w1.heap.size w1 W) (hS : VarRow w1.heap.size 29 2 W g v (y :: x :: r).length (stkV stP (y :: x :: r))) (hl : r.length + 2 ≤ 1000)
    (kf : ∀ W, Calls Try.prog 32 #[.agg #[.int .u64 x.1, .int .u64 x.2], .agg #[.int .u64 y.1, .int .u64 y.2]] W fun e w' => e = .returned (.agg #[.int .u64 z.1, .int .u64 z.2]) ∧ Below W.heap.size W w') :
    Calls Try.prog 58 #[.pointer (some ⟨g, 0, none⟩), .func (.func 32) #[] #[]] W fun e w' => e = .returned (.tuple #[]) ∧ Below w1.heap.size w1 w' ∧ ∃ v', VarRow w1.heap.size 29 2 w' g v' (z :: r).length (stkV stP (z :: r)) := by
  have HS := Lib.hid hS; have HB := Lib.hid hB; have HL := Lib.hid hl
  clear hS hB
  have HBIG := Lib.hid (show w1.heap.size ≤ W.heap.size from HS.out.size)
  go_enter Try.func58, Try.ntmps58
  go_upto_region 1 with (go_at_call 59; (with_reducible refine (vqtake_is w1.heap.size g _ y (x :: r) _ HS.out (by simp; omega)).mono ?_); rintro e w2 ⟨rfl, v2, hS2, hW2⟩)
  have HB2 := Lib.hid (hW2.bel HS.out HB.out); have HS2 := Lib.hid hS2
  have hl2 := fun k hk => (hS2.own.lt k hk).2
  have hg2 := hS2.lt
  clear hS2 hW2
  refine wp_gen (fun W2 => Below w2.heap.size w2 W2 ∧ Var W2 w2.heap.size y.1 y.2) ⟨(Below.refl _ _).alloc (Nat.le_refl _) _, Var.new _ _ _ _⟩ ?_
  obtain ⟨ga, hga⟩ : ∃ g, w2.heap.size = g := ⟨_, rfl⟩
  rintro W2 ⟨hb, hV⟩
  rw [hga] at hV hl2 hg2
  simp only [hga]
  have HBa := Lib.hid (bthen HB2.out hb); have HSa := Lib.hid (HS2.out.keep hb); have HVa := Lib.hid hV
  have HNa : Hid (ga ≠ g ∧ v2.ownBlock ≠ some ga) := Lib.hid ⟨by omega, fun e => by have := hl2 ga e; omega⟩
  clear hb hV hga hl2 hg2 HB2 HS2
  go_upto_region 2 with (go_at_call 59; (with_reducible refine (vqtake_is w1.heap.size g _ x r _ HSa.out (by omega)).mono ?_); rintro e w3 ⟨rfl, v3, hS3, hW3⟩)
  have HB3 := Lib.hid (hW3.bel HSa.out HBa.out); have HS3 := Lib.hid hS3
  have hV3 := HVa.out.went hW3 HNa.out.1 HNa.out.2
  have hlt3 := hV3.lt
  clear hS3 hW3
  refine wp_gen (fun W3 => Below w3.heap.size w3 W3 ∧ Var W3 w3.heap.size x.1 x.2) ⟨(Below.refl _ _).alloc (Nat.le_refl _) _, Var.new _ _ _ _⟩ ?_
  obtain ⟨gb, hgb⟩ : ∃ g, w3.heap.size = g := ⟨_, rfl⟩
  rintro W3 ⟨hb, hV⟩
  rw [hgb] at hV
  simp only [hgb]
  obtain ⟨a0, a1, _, _⟩ := hV3.keep hb
  obtain ⟨b0, b1, _, _⟩ := hV
  have HBb := Lib.hid (bthen HB3.out hb); have HSb := Lib.hid (HS3.out.keep hb)
  clear hb hgb hlt3 hV3 HB3 HS3 HVa HBa HSa
  go_wp2_with (first
    | (go_at_call 32; (with_reducible refine (kf _).mono ?_); rintro e w4 ⟨rfl, hb⟩; have HB4 := Lib.hid (bthen HBb.out hb); have HS4 := Lib.hid (HSb.out.keep hb); clear hb)
    | (go_at_call 56; (with_reducible refine (vqput_is w1.heap.size g _ z r _ HS4.out (by omega)).mono ?_); rintro e w5 ⟨rfl, v5, hS5, hW5⟩; have HB5 := Lib.hid (hW5.bel HS4.out HB4.out); have HS5 := Lib.hid hS5; clear hS5 hW5))
  go_end0
  exact ⟨rfl, HB5.out, _, HS5.out⟩
set_option maxHeartbeats 2000000 in
theorem vqjoin5_is (w1 : World) (g : Nat) (v : Value) (x y z : Int × Int) (r : List (Int × Int)) (W : World) (hB : Below w1.heap.size w1 W) (hS : VarRow w1.heap.size 29 2 W g v (y :: x :: r).length (stkV stP (y :: x :: r))) (hl : r.length + 2 ≤ 1000)
    (kf : ∀ W, Calls Try.prog 33 #[.agg #[.int .u64 x.1, .int .u64 x.2], .agg #[.int .u64 y.1, .int .u64 y.2]] W fun e w' => e = .returned (.agg #[.int .u64 z.1, .int .u64 z.2]) ∧ Below W.heap.size W w') :
    Calls Try.prog 58 #[.pointer (some ⟨g, 0, none⟩), .func (.func 33) #[] #[]] W fun e w' => e = .returned (.tuple #[]) ∧ Below w1.heap.size w1 w' ∧ ∃ v', VarRow w1.heap.size 29 2 w' g v' (z :: r).length (stkV stP (z :: r)) := by
  have HS := Lib.hid hS; have HB := Lib.hid hB; have HL := Lib.hid hl
  clear hS hB
  have HBIG := Lib.hid (show w1.heap.size ≤ W.heap.size from HS.out.size)
  go_enter Try.func58, Try.ntmps58
  go_upto_region 1 with (go_at_call 59; (with_reducible refine (vqtake_is w1.heap.size g _ y (x :: r) _ HS.out (by simp; omega)).mono ?_); rintro e w2 ⟨rfl, v2, hS2, hW2⟩)
  have HB2 := Lib.hid (hW2.bel HS.out HB.out); have HS2 := Lib.hid hS2
  have hl2 := fun k hk => (hS2.own.lt k hk).2
  have hg2 := hS2.lt
  clear hS2 hW2
  refine wp_gen (fun W2 => Below w2.heap.size w2 W2 ∧ Var W2 w2.heap.size y.1 y.2) ⟨(Below.refl _ _).alloc (Nat.le_refl _) _, Var.new _ _ _ _⟩ ?_
  obtain ⟨ga, hga⟩ : ∃ g, w2.heap.size = g := ⟨_, rfl⟩
  rintro W2 ⟨hb, hV⟩
  rw [hga] at hV hl2 hg2
  simp only [hga]
  have HBa := Lib.hid (bthen HB2.out hb); have HSa := Lib.hid (HS2.out.keep hb); have HVa := Lib.hid hV
  have HNa : Hid (ga ≠ g ∧ v2.ownBlock ≠ some ga) := Lib.hid ⟨by omega, fun e => by have := hl2 ga e; omega⟩
  clear hb hV hga hl2 hg2 HB2 HS2
  go_upto_region 2 with (go_at_call 59; (with_reducible refine (vqtake_is w1.heap.size g _ x r _ HSa.out (by omega)).mono ?_); rintro e w3 ⟨rfl, v3, hS3, hW3⟩)
  have HB3 := Lib.hid (hW3.bel HSa.out HBa.out); have HS3 := Lib.hid hS3
  have hV3 := HVa.out.went hW3 HNa.out.1 HNa.out.2
  have hlt3 := hV3.lt
  clear hS3 hW3
  refine wp_gen (fun W3 => Below w3.heap.size w3 W3 ∧ Var W3 w3.heap.size x.1 x.2) ⟨(Below.refl _ _).alloc (Nat.le_refl _) _, Var.new _ _ _ _⟩ ?_
  obtain ⟨gb, hgb⟩ : ∃ g, w3.heap.size = g := ⟨_, rfl⟩
  rintro W3 ⟨hb, hV⟩
  rw [hgb] at hV
  simp only [hgb]
  obtain ⟨a0, a1, _, _⟩ := hV3.keep hb
  obtain ⟨b0, b1, _, _⟩ := hV
  have HBb := Lib.hid (bthen HB3.out hb); have HSb := Lib.hid (HS3.out.keep hb)
  clear hb hgb hlt3 hV3 HB3 HS3 HVa HBa HSa
  go_wp2_with (first
    | (go_at_call 33; (with_reducible refine (kf _).mono ?_); rintro e w4 ⟨rfl, hb⟩; have HB4 := Lib.hid (bthen HBb.out hb); have HS4 := Lib.hid (HSb.out.keep hb); clear hb)
    | (go_at_call 56; (with_reducible refine (vqput_is w1.heap.size g _ z r _ HS4.out (by omega)).mono ?_); rintro e w5 ⟨rfl, v5, hS5, hW5⟩; have HB5 := Lib.hid (hW5.bel HS4.out HB4.out); have HS5 := Lib.hid hS5; clear hS5 hW5))
  go_end0
  exact ⟨rfl, HB5.out, _, HS5.out⟩
set_option maxHeartbeats 2000000 in
theorem vqjoin6_is (w1 : World) (g : Nat) (v : Value) (x y z : Int × Int) (r : List (Int × Int)) (W : World) (hB : Below w1.heap.size w1 W) (hS : VarRow w1.heap.size 29 2 W g v (y :: x :: r).length (stkV stP (y :: x :: r))) (hl : r.length + 2 ≤ 1000)
    (kf : ∀ W, Calls Try.prog 34 #[.agg #[.int .u64 x.1, .int .u64 x.2], .agg #[.int .u64 y.1, .int .u64 y.2]] W fun e w' => e = .returned (.agg #[.int .u64 z.1, .int .u64 z.2]) ∧ Below W.heap.size W w') :
    Calls Try.prog 58 #[.pointer (some ⟨g, 0, none⟩), .func (.func 34) #[] #[]] W fun e w' => e = .returned (.tuple #[]) ∧ Below w1.heap.size w1 w' ∧ ∃ v', VarRow w1.heap.size 29 2 w' g v' (z :: r).length (stkV stP (z :: r)) := by
  have HS := Lib.hid hS; have HB := Lib.hid hB; have HL := Lib.hid hl
  clear hS hB
  have HBIG := Lib.hid (show w1.heap.size ≤ W.heap.size from HS.out.size)
  go_enter Try.func58, Try.ntmps58
  go_upto_region 1 with (go_at_call 59; (with_reducible refine (vqtake_is w1.heap.size g _ y (x :: r) _ HS.out (by simp; omega)).mono ?_); rintro e w2 ⟨rfl, v2, hS2, hW2⟩)
  have HB2 := Lib.hid (hW2.bel HS.out HB.out); have HS2 := Lib.hid hS2
  have hl2 := fun k hk => (hS2.own.lt k hk).2
  have hg2 := hS2.lt
  clear hS2 hW2
  refine wp_gen (fun W2 => Below w2.heap.size w2 W2 ∧ Var W2 w2.heap.size y.1 y.2) ⟨(Below.refl _ _).alloc (Nat.le_refl _) _, Var.new _ _ _ _⟩ ?_
  obtain ⟨ga, hga⟩ : ∃ g, w2.heap.size = g := ⟨_, rfl⟩
  rintro W2 ⟨hb, hV⟩
  rw [hga] at hV hl2 hg2
  simp only [hga]
  have HBa := Lib.hid (bthen HB2.out hb); have HSa := Lib.hid (HS2.out.keep hb); have HVa := Lib.hid hV
  have HNa : Hid (ga ≠ g ∧ v2.ownBlock ≠ some ga) := Lib.hid ⟨by omega, fun e => by have := hl2 ga e; omega⟩
  clear hb hV hga hl2 hg2 HB2 HS2
  go_upto_region 2 with (go_at_call 59; (with_reducible refine (vqtake_is w1.heap.size g _ x r _ HSa.out (by omega)).mono ?_); rintro e w3 ⟨rfl, v3, hS3, hW3⟩)
  have HB3 := Lib.hid (hW3.bel HSa.out HBa.out); have HS3 := Lib.hid hS3
  have hV3 := HVa.out.went hW3 HNa.out.1 HNa.out.2
  have hlt3 := hV3.lt
  clear hS3 hW3
  refine wp_gen (fun W3 => Below w3.heap.size w3 W3 ∧ Var W3 w3.heap.size x.1 x.2) ⟨(Below.refl _ _).alloc (Nat.le_refl _) _, Var.new _ _ _ _⟩ ?_
  obtain ⟨gb, hgb⟩ : ∃ g, w3.heap.size = g := ⟨_, rfl⟩
  rintro W3 ⟨hb, hV⟩
  rw [hgb] at hV
  simp only [hgb]
  obtain ⟨a0, a1, _, _⟩ := hV3.keep hb
  obtain ⟨b0, b1, _, _⟩ := hV
  have HBb := Lib.hid (bthen HB3.out hb); have HSb := Lib.hid (HS3.out.keep hb)
  clear hb hgb hlt3 hV3 HB3 HS3 HVa HBa HSa
  go_wp2_with (first
    | (go_at_call 34; (with_reducible refine (kf _).mono ?_); rintro e w4 ⟨rfl, hb⟩; have HB4 := Lib.hid (bthen HBb.out hb); have HS4 := Lib.hid (HSb.out.keep hb); clear hb)
    | (go_at_call 56; (with_reducible refine (vqput_is w1.heap.size g _ z r _ HS4.out (by omega)).mono ?_); rintro e w5 ⟨rfl, v5, hS5, hW5⟩; have HB5 := Lib.hid (hW5.bel HS4.out HB4.out); have HS5 := Lib.hid hS5; clear hS5 hW5))
  go_end0
  exact ⟨rfl, HB5.out, _, HS5.out⟩
set_option maxHeartbeats 2000000 in
theorem vqcolumn_is (b : Option Addr) (len cap : Nat) (cs : List (Int × Int)) (m : Nat) (x : Int × Int) (w : World) (hc : QRowA w b len cs) (hm : m < len) (hx : cs.getD m (0, 0) = x) :
    Calls Try.prog 57 #[.slice b len cap, .int .u64 (m : Int)] w fun e w' => e = .returned (.agg #[.int .u64 x.1, .int .u64 x.2]) ∧ Below w.heap.size w w' := by
  have hmax := hc.2.1
  unfold maxLen at hmax
  obtain ⟨bz, oz, rfl, c0, c1⟩ := hc.2.2 m hm
  rw [hx] at c0 c1
  obtain ⟨x0, x1⟩ := x
  dsimp only at c0 c1
  have hw : IntKind.u64.wrap (len : Int) = (len : Int) := by rw [IntKind.wrap_u64]; omega
  have hm' : (m : Int) < (len : Int) := by omega
  have hm0 : (0 : Int) ≤ (m : Int) := by omega
  have hmn : ¬ (len : Int) ≤ (m : Int) := by omega
  have hml : (m : Int) < 18446744073709551616 := by omega
  clear hx hc
  go_enter Try.func57, Try.ntmps57
  go_upto_region 1 with fail
  refine wp_gen (fun W => Below w.heap.size w W ∧ Var W w.heap.size 0 0) ⟨(Below.refl _ _).alloc (Nat.le_refl _) _, Var.new _ _ _ _⟩ ?_
  obtain ⟨g, hg⟩ : ∃ g, w.heap.size = g := ⟨_, rfl⟩
  rintro W1 ⟨hB, v0, v1, f0, f1⟩
  have HG := Lib.hid (show w.heap.size ≤ g by omega)
  simp only [hg] at v0 v1 f0 f1 ⊢
  replace c0 := bkeep hB c0; replace c1 := bkeep hB c1
  have HB := Lib.hid hB
  clear hB hg
  go_wp2_with fail
  exact bodyPost_ret (v := .agg #[.int .u64 x0, .int .u64 x1]) (by simp [results, Try.results57, go_sem, v0, v1]) rfl ⟨rfl, (HB.out.setCell HG.out _).setCell HG.out _⟩
theorem vqop4 (x y : Int × Int) (hx : U x.1 ∧ U x.2) (hy : U y.1 ∧ U y.2) : ∃ z : Int × Int, toQ z = toQ x + toQ y ∧ (U z.1 ∧ U z.2) ∧ ∀ W, Calls Try.prog 32 #[.agg #[.int .u64 x.1, .int .u64 x.2], .agg #[.int .u64 y.1, .int .u64 y.2]] W fun e w' => e = .returned (.agg #[.int .u64 z.1, .int .u64 z.2]) ∧ Below W.heap.size W w' :=
  ⟨(enc (toQ x + toQ y).a, enc (toQ x + toQ y).b), F2.eq (toF_enc _) (toF_enc _), ⟨enc_U _, enc_U _⟩, fun W => padd_q x.1 x.2 y.1 y.2 (toQ x) (toQ y) _ (rep_raw hx.1 hx.2) (rep_raw hy.1 hy.2) rfl W⟩
theorem vqop5 (x y : Int × Int) (hx : U x.1 ∧ U x.2) (hy : U y.1 ∧ U y.2) : ∃ z : Int × Int, toQ z = toQ x - toQ y ∧ (U z.1 ∧ U z.2) ∧ ∀ W, Calls Try.prog 33 #[.agg #[.int .u64 x.1, .int .u64 x.2], .agg #[.int .u64 y.1, .int .u64 y.2]] W fun e w' => e = .returned (.agg #[.int .u64 z.1, .int .u64 z.2]) ∧ Below W.heap.size W w' :=
  ⟨(enc (toQ x - toQ y).a, enc (toQ x - toQ y).b), F2.eq (toF_enc _) (toF_enc _), ⟨enc_U _, enc_U _⟩, fun W => psub_q x.1 x.2 y.1 y.2 (toQ x) (toQ y) _ (rep_raw hx.1 hx.2) (rep_raw hy.1 hy.2) rfl W⟩
theorem vqop6 (x y : Int × Int) (hx : U x.1 ∧ U x.2) (hy : U y.1 ∧ U y.2) : ∃ z : Int × Int, toQ z = toQ x * toQ y ∧ (U z.1 ∧ U z.2) ∧ ∀ W, Calls Try.prog 34 #[.agg #[.int .u64 x.1, .int .u64 x.2], .agg #[.int .u64 y.1, .int .u64 y.2]] W fun e w' => e = .returned (.agg #[.int .u64 z.1, .int .u64 z.2]) ∧ Below W.heap.size W w' :=
  ⟨(enc (toQ x * toQ y).a, enc (toQ x * toQ y).b), F2.eq (toF_enc _) (toF_enc _), ⟨enc_U _, enc_U _⟩, fun W => pmul_q x.1 x.2 y.1 y.2 (toQ x) (toQ y) _ (rep_raw hx.1 hx.2) (rep_raw hy.1 hy.2) rfl W⟩
/-- While the operations are run. -/
def LeftRelQ (w1 : World) (g : Nat) (zs : List Opn) (cols : Int) (cur next : Nat → F2) (RES : F2) (i : Value) (W : World) : Prop :=
  ∃ (k : Nat) (v : Value) (rs : List (Int × Int)) (st : List Nat), k ≤ zs.length ∧ i = .int .i64 k ∧ Below w1.heap.size w1 W ∧ VarRow w1.heap.size 29 2 W g v rs.length (stkV stP rs) ∧ (∀ n ∈ rs, U n.1 ∧ U n.2) ∧ rs.length = st.length ∧ st.length ≤ k ∧ Ran cols true (zs.drop k) st ∧ evL pairA cur next (zs.drop k) (rs.map toQ) = [RES]
theorem vqmake (W : World) : (Instr.makeSlice 75 (.int .i64 0) (.int .i64 16)).run Try.prog W = .ok (.slice (some ⟨W.heap.size, 0, none⟩) 0 16) (W.alloc (.cells (madeCells #[.int .u64 0, .int .u64 0] (16 * 2)) 29)) := by
  obtain ⟨i0, hi, hz0, hz1, hz2⟩ := info_parts infoQe
  have h := run_make (P := Try.prog) W 75 29 i0 (.agg #[.int .u64 0, .int .u64 0]) Try.underlying75 hi hz0 .i64 .i64 0 16 (by omega) (by omega) (by rw [hz2]; omega) (by omega)
  rw [hz1] at h
  exact h
theorem vqown (W : World) : (W.alloc (.cells (madeCells #[.int .u64 0, .int .u64 0] (16 * 2)) 29)).ownsRow W.heap.size 29 2 (.slice (some ⟨W.heap.size, 0, none⟩) 0 16) 0 [] :=
  World.ownsRow_made W _ 16 (Nat.le_refl _) (by unfold maxLen; omega) (by have := size_madeCells #[.int .u64 0, .int .u64 0] (16 * 2); simpa using this)

set_option maxRecDepth 100000 in
set_option maxHeartbeats 8000000 in
theorem vqleft_is (a : Option Addr) (cap : Nat) (zs : List Opn) (b : Option Addr) (lenb capb : Nat) (cs : List (Int × Int)) (c : Option Addr) (lenc capc : Nat) (ds : List (Int × Int)) (cols : Int) (w : World) (hO : OpA w a zs.length zs) (hu : ∀ o ∈ zs, OkO o) (hz : EvOk zs cols)
    (hc : QRowA w b lenb cs) (hcu : ∀ n ∈ cs, U n.1 ∧ U n.2) (hlb : cols ≤ lenb) (hd : QRowA w c lenc ds) (hdu : ∀ n ∈ ds, U n.1 ∧ U n.2) (hlc : cols ≤ lenc) :
    Calls Try.prog 36 #[.agg #[.func (.func 31) #[] #[], .func (.func 32) #[] #[], .func (.func 33) #[] #[], .func (.func 34) #[] #[]], .slice a zs.length cap, .slice b lenb capb, .slice c lenc capc] w fun E w' => ∃ r : Int × Int, E = .returned (.agg #[.int .u64 r.1, .int .u64 r.2]) ∧ (U r.1 ∧ U r.2) ∧ toQ r = evB pairA (rowQ cs) (rowQ ds) zs ∧ Below w.heap.size w w' := by
  obtain ⟨hrun, hl300⟩ := hz
  have hmax := hO.2.1
  unfold maxLen at hmax
  have hp0 : ∀ o ∈ zs, 0 ≤ o.2 := fun o ho => (hu o ho).2.1
  obtain ⟨cur, hcur⟩ : ∃ f, rowQ cs = f := ⟨_, rfl⟩
  obtain ⟨next, hnext⟩ : ∃ f, rowQ ds = f := ⟨_, rfl⟩
  have hone := ran_one pairA cur next hp0 hrun
  rw [hcur, hnext]
  obtain ⟨RES, hRES⟩ : ∃ r, evB pairA cur next zs = r := ⟨_, rfl⟩
  rw [hRES] at hone ⊢
  have hO0 := Lib.hid hO; have HC0 := Lib.hid hc; have HD0 := Lib.hid hd
  have HUC := Lib.hid hcu; have HUD := Lib.hid hdu; have HU := Lib.hid hu
  have HCUR := Lib.hid hcur; have HNEXT := Lib.hid hnext
  have HRUN := Lib.hid (show Ran cols true zs [] from hrun)
  have HONE := Lib.hid hone
  clear hO hu hc hcu hd hdu hcur hnext hRES hone hrun hp0
  have hmk := fun W => vqmake W
  have hsf := fun (a : Addr) (n : Nat) (w : World) => run_store Try.prog w a (.func (.func n) #[] #[]) .plain rfl
  go_enter Try.func36, Try.ntmps36
  go_upto_region 1 with fail
  refine wp_gen (fun W => Below w.heap.size w W ∧ W.cell? ⟨w.heap.size, 0, none⟩ = some (.func (.func 31) #[] #[]) ∧ W.cell? ⟨w.heap.size, 1, none⟩ = some (.func (.func 32) #[] #[]) ∧ W.cell? ⟨w.heap.size, 2, none⟩ = some (.func (.func 33) #[] #[]) ∧ W.cell? ⟨w.heap.size, 3, none⟩ = some (.func (.func 34) #[] #[]) ∧ Var W (w.heap.size + 1) 0 0) ⟨((Below.refl _ _).alloc (Nat.le_refl _) _).alloc (by simp) _, by simp [go_sem], by simp [go_sem], by simp [go_sem], by simp [go_sem], by simpa using Var.new (w.alloc (.cells #[.func (.func 31) #[] #[], .func (.func 32) #[] #[], .func (.func 33) #[] #[], .func (.func 34) #[] #[]] 56)) 0 0 29⟩ ?_
  obtain ⟨gF, hgF⟩ : ∃ g, w.heap.size = g := ⟨_, rfl⟩
  rintro w1 ⟨hB1, q0, q1, q2, q3, hV0⟩
  simp only [hgF] at q0 q1 q2 q3 ⊢
  obtain ⟨g8, hg8⟩ : ∃ g, gF + 1 = g := ⟨_, rfl⟩
  rw [hgF, hg8] at hV0
  simp only [hg8]
  have HV0 := Lib.hid hV0
  have HG8 : Hid (w.heap.size ≤ g8) := Lib.hid (by omega)
  clear hV0 hg8
  have HF : Hid (w1.cell? ⟨gF, 0, none⟩ = some (.func (.func 31) #[] #[]) ∧ w1.cell? ⟨gF, 1, none⟩ = some (.func (.func 32) #[] #[]) ∧ w1.cell? ⟨gF, 2, none⟩ = some (.func (.func 33) #[] #[]) ∧ w1.cell? ⟨gF, 3, none⟩ = some (.func (.func 34) #[] #[])) := Lib.hid ⟨q0, q1, q2, q3⟩
  have HB1 := Lib.hid hB1
  have HC := Lib.hid (hO0.out.keep hB1).2.2; have HCB := Lib.hid (HC0.out.keep hB1); have HCD := Lib.hid (HD0.out.keep hB1)
  clear q0 q1 q2 q3 hB1 hO0 HC0 HD0 hgF
  go_upto_region 3 with fail
  refine wp_gen (fun W => Below w1.heap.size w1 W ∧ VarRow w1.heap.size 29 2 W (w1.heap.size + 1) (.slice (some ⟨w1.heap.size, 0, none⟩) 0 16) 0 []) ⟨((Below.refl _ _).alloc (Nat.le_refl _) _).alloc (by simp) _, by
    have h := VarRow.first (B := w1.heap.size) (W := w1.alloc (.cells (madeCells #[.int .u64 0, .int .u64 0] (16 * 2)) 29)) (by simp) (vqown w1) 75
    simpa using h⟩ ?_
  obtain ⟨g, hg⟩ : ∃ g, w1.heap.size + 1 = g := ⟨_, rfl⟩
  rintro W2 ⟨hB2, hS2⟩
  simp only [hg] at hS2 ⊢
  clear hg hmk hsf
  go_loopw [15] (LeftRelQ w1 g zs cols cur next RES) (fun i _ => zs.length - (intOf i).toNat)
  case atStart => exact ⟨0, _, [], [], Nat.zero_le _, rfl, hB2, hS2, by simp, rfl, Nat.zero_le _, by rw [List.drop_zero]; exact HRUN.out, by rw [List.drop_zero]; exact HONE.out⟩
  case round =>
    clear HRUN HONE hB2 hS2
    obtain ⟨k, v, rs, st, hk, rfl, hB, hS, hru, hlen, hst, hrun, hres⟩ := hrel
    by_cases hlt : k < zs.length
    · have hlt' : (k : Int) < (zs.length : Int) := by omega
      have hk0 : (0 : Int) ≤ (k : Int) := by omega
      rw [drop_at hlt] at hrun hres
      have hok : OkO (zs.getD k (0, 0)) := by
        have e : zs.getD k (0, 0) = zs[k] := by simp [List.getD, hlt]
        rw [e]
        exact HU.out _ (List.getElem_mem hlt)
      obtain ⟨bz, offz, rfl, u0, u1⟩ := HC.out k hlt
      replace u0 := bkeep hB u0; replace u1 := bkeep hB u1
      obtain ⟨rest, hrest⟩ : ∃ r, zs.drop (k + 1) = r := ⟨_, rfl⟩
      rw [hrest] at hrun hres
      have HREST := Lib.hid hrest
      clear hrest
      generalize zs.getD k (0, 0) = o at *
      obtain ⟨kd, nn⟩ := o
      dsimp only at u0 u1
      obtain ⟨st', hps, hst0, hrun', hright⟩ := ran_step hrun
      have hst' : st'.length ≤ k + 1 := by omega
      have hk6 := right_kind hright
      dsimp only at hk6
      have HR := Lib.hid (show Ran cols true (zs.drop (k + 1)) st' by rw [HREST.out]; exact hrun')
      have hn0 : 0 ≤ nn := hok.2.1
      have hnU : U nn := hok.2
      have HL16 := Lib.hid hst'
      have HRES := Lib.hid hres; have HB := Lib.hid hB; have HS := Lib.hid hS; have HRU := Lib.hid hru
      have hl300' : rs.length ≤ 300 := by omega
      obtain ⟨mm, rfl⟩ : ∃ m : Nat, nn = (m : Int) := ⟨nn.toNat, by omega⟩
      clear hrun hrun' hst0 hok hres hright hB hS hru
      go_upto_region 5 with fail
      refine wp_gen (fun W => Below w1.heap.size w1 W ∧ VarRow w1.heap.size 29 2 W g v rs.length (stkV stP rs) ∧ W.cell? ⟨wr.heap.size, 0, none⟩ = some (.int .i64 kd) ∧ W.cell? ⟨wr.heap.size, 1, none⟩ = some (.int .u64 (mm : Int))) ⟨HB.out.alloc HS.out.size _, HS.out.keep ((Below.refl _ _).alloc (Nat.le_refl _) _), by simp [go_sem], by simp [go_sem]⟩ ?_
      obtain ⟨go, hgo⟩ : ∃ g, wr.heap.size = g := ⟨_, rfl⟩
      rintro W3 ⟨hB3, hS3, d0, d1⟩
      simp only [hgo] at d0 d1 ⊢
      clear HB HS u0 u1 hgo
      have HB := Lib.hid hB3; have HS := Lib.hid hS3
      have f0 := bkeep hB3 HF.out.1; have f1 := bkeep hB3 HF.out.2.1; have f2 := bkeep hB3 HF.out.2.2.1; have f3 := bkeep hB3 HF.out.2.2.2
      clear hB3 hS3
      by_cases hk1 : kd = 1
      · subst hk1
        obtain ⟨hcol, e⟩ := push_col_inv1 hps
        subst e
        have hml : mm < lenb := by omega
        have hxU : U (cs.getD mm (0, 0)).1 ∧ U (cs.getD mm (0, 0)).2 := by
          have e : cs.getD mm (0, 0) = cs[mm]'(by rw [HCB.out.1]; exact hml) := by simp [List.getD, show mm < cs.length by rw [HCB.out.1]; exact hml]
          rw [e]
          exact HUC.out _ (List.getElem_mem _)
        obtain ⟨x, hx⟩ : ∃ x, cs.getD mm (0, 0) = x := ⟨_, rfl⟩
        rw [hx] at hxU
        have hxv : cur mm = toQ x := by rw [← HCUR.out, ← hx]; rfl
        have HV : Hid (evL pairA cur next (zs.drop (k + 1)) ((x :: rs).map toQ) = [RES]) := Lib.hid (by
          have := HRES.out
          rw [evL, ev1_cur pairA cur next rfl, show ((mm : Int)).toNat = mm from rfl, hxv] at this
          rw [HREST.out]
          exact this)
        have HLEN : Hid ((x :: rs).length = (1 :: st).length) := Lib.hid (by rw [List.length_cons, List.length_cons, hlen])
        have HUX : Hid (∀ n ∈ x :: rs, U n.1 ∧ U n.2) := Lib.hid (by intro n hn; rcases List.mem_cons.1 hn with rfl | hn <;> first | exact hxU | exact HRU.out n hn)
        have kc := fun W hb => vqcolumn_is b lenb capb cs mm x W (HCB.out.keep hb) hml hx
        clear hxU hxv hx hps hlen hst HRES
        go_wp2_with (first
          | (go_at_call 57; (with_reducible refine (kc _ HB.out).mono ?_); rintro e w4 ⟨rfl, hb⟩; have HB4 := Lib.hid (bthen HB.out hb); have HS4 := Lib.hid (HS.out.keep hb); clear hb)
          | (go_at_call 56; (with_reducible refine (vqput_is w1.heap.size g _ x rs _ HS4.out (by omega)).mono ?_); rintro e w5 ⟨rfl, v5, hS5, hW5⟩; have HB5 := Lib.hid (hW5.bel HS4.out HB4.out); have HS5 := Lib.hid hS5; clear hS5 hW5))
        go_roundw
        case rel => exact ⟨k + 1, _, x :: rs, _, by omega, by go_num, HB5.out, HS5.out, HUX.out, HLEN.out, HL16.out, HR.out, HV.out⟩
        case measure => simp [intOf]; omega
      by_cases hk2 : kd = 2
      · subst hk2
        obtain ⟨hcol, e⟩ := push_col_inv2 hps
        subst e
        have hml : mm < lenc := by omega
        have hxU : U (ds.getD mm (0, 0)).1 ∧ U (ds.getD mm (0, 0)).2 := by
          have e : ds.getD mm (0, 0) = ds[mm]'(by rw [HCD.out.1]; exact hml) := by simp [List.getD, show mm < ds.length by rw [HCD.out.1]; exact hml]
          rw [e]
          exact HUD.out _ (List.getElem_mem _)
        obtain ⟨x, hx⟩ : ∃ x, ds.getD mm (0, 0) = x := ⟨_, rfl⟩
        rw [hx] at hxU
        have hxv : next mm = toQ x := by rw [← HNEXT.out, ← hx]; rfl
        have HV : Hid (evL pairA cur next (zs.drop (k + 1)) ((x :: rs).map toQ) = [RES]) := Lib.hid (by
          have := HRES.out
          rw [evL, ev1_next pairA cur next rfl, show ((mm : Int)).toNat = mm from rfl, hxv] at this
          rw [HREST.out]
          exact this)
        have HLEN : Hid ((x :: rs).length = (1 :: st).length) := Lib.hid (by rw [List.length_cons, List.length_cons, hlen])
        have HUX : Hid (∀ n ∈ x :: rs, U n.1 ∧ U n.2) := Lib.hid (by intro n hn; rcases List.mem_cons.1 hn with rfl | hn <;> first | exact hxU | exact HRU.out n hn)
        have kc := fun W hb => vqcolumn_is c lenc capc ds mm x W (HCD.out.keep hb) hml hx
        clear hxU hxv hx hps hlen hst HRES
        go_wp2_with (first
          | (go_at_call 57; (with_reducible refine (kc _ HB.out).mono ?_); rintro e w4 ⟨rfl, hb⟩; have HB4 := Lib.hid (bthen HB.out hb); have HS4 := Lib.hid (HS.out.keep hb); clear hb)
          | (go_at_call 56; (with_reducible refine (vqput_is w1.heap.size g _ x rs _ HS4.out (by omega)).mono ?_); rintro e w5 ⟨rfl, v5, hS5, hW5⟩; have HB5 := Lib.hid (hW5.bel HS4.out HB4.out); have HS5 := Lib.hid hS5; clear hS5 hW5))
        go_roundw
        case rel => exact ⟨k + 1, _, x :: rs, _, by omega, by go_num, HB5.out, HS5.out, HUX.out, HLEN.out, HL16.out, HR.out, HV.out⟩
        case measure => simp [intOf]; omega
      by_cases hk3 : kd = 3
      · subst hk3
        obtain rfl := push_const_inv hps
        obtain ⟨x, hxe⟩ : ∃ x : Int × Int, (enc (lift (toF (mm : Int))).a, enc (lift (toF (mm : Int))).b) = x := ⟨_, rfl⟩
        have hx : toQ x = pairA.cst (mm : Int) := by rw [← hxe]; exact F2.eq (toF_enc _) (toF_enc _)
        have hxU : U x.1 ∧ U x.2 := by rw [← hxe]; exact ⟨enc_U _, enc_U _⟩
        have kl : ∀ W, Calls Try.prog 31 #[.int .u64 (mm : Int)] W fun e w' => e = .returned (.agg #[.int .u64 x.1, .int .u64 x.2]) ∧ Below W.heap.size W w' := fun W => by
          rw [← hxe]
          exact lift_q (mm : Int) _ hnU rfl W
        clear hxe
        have HV : Hid (evL pairA cur next (zs.drop (k + 1)) ((x :: rs).map toQ) = [RES]) := Lib.hid (by
          have := HRES.out
          rw [evL, ev1_cst pairA cur next rfl] at this
          rw [HREST.out]
          rw [show (x :: rs).map toQ = pairA.cst (mm : Int) :: rs.map toQ by rw [List.map_cons, hx]]
          exact this)
        have HLEN : Hid ((x :: rs).length = (0 :: st).length) := Lib.hid (by rw [List.length_cons, List.length_cons, hlen])
        have HUX : Hid (∀ n ∈ x :: rs, U n.1 ∧ U n.2) := Lib.hid (by intro n hn; rcases List.mem_cons.1 hn with rfl | hn <;> first | exact hxU | exact HRU.out n hn)
        clear hxU hx hps hlen hst HRES
        go_wp2_with (first
          | (go_at_call 31; (with_reducible refine (kl _).mono ?_); rintro e w4 ⟨rfl, hb⟩; have HB4 := Lib.hid (bthen HB.out hb); have HS4 := Lib.hid (HS.out.keep hb); clear hb)
          | (go_at_call 56; (with_reducible refine (vqput_is w1.heap.size g _ x rs _ HS4.out (by omega)).mono ?_); rintro e w5 ⟨rfl, v5, hS5, hW5⟩; have HB5 := Lib.hid (hW5.bel HS4.out HB4.out); have HS5 := Lib.hid hS5; clear hS5 hW5))
        go_roundw
        case rel => exact ⟨k + 1, _, x :: rs, _, by omega, by go_num, HB5.out, HS5.out, HUX.out, HLEN.out, HL16.out, HR.out, HV.out⟩
        case measure => simp [intOf]; omega
      obtain ⟨da, db, ss, rfl, rfl⟩ := push_two_inv hps hk1 hk2 hk3
      obtain ⟨y, x, r, rfl⟩ : ∃ y x r, rs = y :: x :: r := by
        match rs, hlen with
        | y :: x :: r, _ => exact ⟨y, x, r, rfl⟩
        | [_], h => cases h
        | [], h => cases h
      have hxU := HRU.out x (by simp)
      have hyU := HRU.out y (by simp)
      have hl2 : r.length + 2 ≤ 1000 := by simp at hl300'; omega
      have hrl : r.length = ss.length := by simpa using hlen
      have HLEN : Hid (∀ z : Int × Int, (z :: r).length = (max da db :: ss).length ∧ (z :: r).length = ((da + db) :: ss).length) := Lib.hid fun z => by simp [hrl]
      have hkd : kd = 4 ∨ kd = 5 ∨ kd = 6 := by omega
      clear hrl
      rcases hkd with rfl | rfl | rfl
      · obtain ⟨z, hz, hzU, kf⟩ := vqop4 x y hxU hyU
        have HV : Hid (evL pairA cur next (zs.drop (k + 1)) ((z :: r).map toQ) = [RES]) := Lib.hid (by
          have := HRES.out
          rw [List.map_cons, List.map_cons, evL, ev1_two pairA cur next (by simp) (by simp)] at this
          rw [HREST.out, List.map_cons, hz]
          exact this)
        have HUX : Hid (∀ n ∈ z :: r, U n.1 ∧ U n.2) := Lib.hid (by intro n hn; rcases List.mem_cons.1 hn with rfl | hn <;> first | exact hzU | exact HRU.out n (List.mem_cons_of_mem _ (List.mem_cons_of_mem _ hn)))
        clear hxU hyU hz hzU hps hlen hst HRES
        go_wp2_with (go_at_call 58; (with_reducible refine (vqjoin4_is w1 g _ x y z r _ HB.out HS.out (by omega) kf).mono ?_); rintro e w5 ⟨rfl, hb5, v5, hS5⟩; have HB5 := Lib.hid hb5; have HS5 := Lib.hid hS5; clear hb5 hS5)
        go_roundw
        case rel => exact ⟨k + 1, _, z :: r, _, by omega, by go_num, HB5.out, HS5.out, HUX.out, (HLEN.out z).1, HL16.out, HR.out, HV.out⟩
        case measure => simp [intOf]; omega
      · obtain ⟨z, hz, hzU, kf⟩ := vqop5 x y hxU hyU
        have HV : Hid (evL pairA cur next (zs.drop (k + 1)) ((z :: r).map toQ) = [RES]) := Lib.hid (by
          have := HRES.out
          rw [List.map_cons, List.map_cons, evL, ev1_two pairA cur next (by simp) (by simp)] at this
          rw [HREST.out, List.map_cons, hz]
          exact this)
        have HUX : Hid (∀ n ∈ z :: r, U n.1 ∧ U n.2) := Lib.hid (by intro n hn; rcases List.mem_cons.1 hn with rfl | hn <;> first | exact hzU | exact HRU.out n (List.mem_cons_of_mem _ (List.mem_cons_of_mem _ hn)))
        clear hxU hyU hz hzU hps hlen hst HRES
        go_wp2_with (go_at_call 58; (with_reducible refine (vqjoin5_is w1 g _ x y z r _ HB.out HS.out (by omega) kf).mono ?_); rintro e w5 ⟨rfl, hb5, v5, hS5⟩; have HB5 := Lib.hid hb5; have HS5 := Lib.hid hS5; clear hb5 hS5)
        go_roundw
        case rel => exact ⟨k + 1, _, z :: r, _, by omega, by go_num, HB5.out, HS5.out, HUX.out, (HLEN.out z).1, HL16.out, HR.out, HV.out⟩
        case measure => simp [intOf]; omega
      · obtain ⟨z, hz, hzU, kf⟩ := vqop6 x y hxU hyU
        have HV : Hid (evL pairA cur next (zs.drop (k + 1)) ((z :: r).map toQ) = [RES]) := Lib.hid (by
          have := HRES.out
          rw [List.map_cons, List.map_cons, evL, ev1_two pairA cur next (by simp) (by simp)] at this
          rw [HREST.out, List.map_cons, hz]
          exact this)
        have HUX : Hid (∀ n ∈ z :: r, U n.1 ∧ U n.2) := Lib.hid (by intro n hn; rcases List.mem_cons.1 hn with rfl | hn <;> first | exact hzU | exact HRU.out n (List.mem_cons_of_mem _ (List.mem_cons_of_mem _ hn)))
        clear hxU hyU hz hzU hps hlen hst HRES
        go_wp2_with (go_at_call 58; (with_reducible refine (vqjoin6_is w1 g _ x y z r _ HB.out HS.out (by omega) kf).mono ?_); rintro e w5 ⟨rfl, hb5, v5, hS5⟩; have HB5 := Lib.hid hb5; have HS5 := Lib.hid hS5; clear hb5 hS5)
        go_roundw
        case rel => exact ⟨k + 1, _, z :: r, _, by omega, by go_num, HB5.out, HS5.out, HUX.out, (HLEN.out z).2, HL16.out, HR.out, HV.out⟩
        case measure => simp [intOf]; omega
    · obtain rfl : k = zs.length := by omega
      rw [List.drop_length] at hres
      have hres : rs.map toQ = [RES] := hres
      obtain ⟨r, rfl, hr⟩ : ∃ r, rs = [r] ∧ toQ r = RES := by
        match rs, hres with
        | [r], h => exact ⟨r, rfl, by simpa using h⟩
      have hrU := hru r (by simp)
      have HS := Lib.hid hS; have HB := Lib.hid hB; have HR := Lib.hid hr; have HUR := Lib.hid hrU
      clear hres hS hB hru hlen hst hrun hr hrU
      go_wp2_with (go_at_call 59; (with_reducible refine (vqtake_is w1.heap.size g _ r [] _ HS.out (by simp)).mono ?_); rintro e w2 ⟨rfl, v2, hS2, hW2⟩; have HB2 := Lib.hid (hW2.bel HS.out HB.out); clear hS2 hW2; obtain ⟨v0, v1, e0, e1⟩ := HV0.out.keep HB2.out)
      exact bodyPost_ret (v := .agg #[.int .u64 r.1, .int .u64 r.2]) (by simp [results, Try.results36, go_sem, v0, v1]) rfl ⟨r, rfl, HUR.out, HR.out, ((HB1.out.trans (HB2.out.mono HB1.out.size)).setCell HG8.out _).setCell HG8.out _⟩
end Go.Proofs.Ytlgfnlkblehlbaa
