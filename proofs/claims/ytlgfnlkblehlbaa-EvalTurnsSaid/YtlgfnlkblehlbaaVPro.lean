/-
  The program's At of layer 17. (Written by gen_vprog.py.)
-/
import Derived.Test.YtlgfnlkblehlbaaWent
import Derived.Test.YtlgfnlkblehlbaaEvalRef
namespace Go.Proofs.Ytlgfnlkblehlbaa
open Go Go.RowKit
set_option linter.unusedVariables false

set_option maxHeartbeats 2000000 in
theorem vnput_is (B g : Nat) (v : Value) (x : Int) (st : List (Int)) (W : World) (hS : VarRow B 27 1 W g v (st).length (stkV (stI .u64) (st))) (hl : st.length ≤ 1000) :
    Calls Try.prog 51 #[.pointer (some ⟨g, 0, none⟩), .int .u64 x] W fun e w' => e = .returned (.tuple #[]) ∧ ∃ v', VarRow B 27 1 w' g v' (x :: st).length (stkV (stI .u64) (x :: st)) ∧ Went g W w' v v' := by
  obtain ⟨i0, hi, hz0, hz1, hz2⟩ := info_parts infoN
  have c0 := hS.c
  have f0 := hS.f
  have HS := Lib.hid (hS.keep ((Below.refl _ _).alloc (Nat.le_refl _) (.cells #[.int .u64 x] 27)))
  have HW := Lib.hid (Went.below (g := g) v ((Below.refl W.heap.size W).alloc (Nat.le_refl _) (.cells #[.int .u64 x] 27)))
  clear hS
  go_enter Try.func51, Try.ntmps51
  go_wp2_with (at_builtin; refine wpList_append_own_at rfl _ _ 70 rfl B 27 i0 (.int .u64 0) 1 8 Try.underlying70 hi hz0 hz1 hz2 rfl (by decide) v st.length (stkV (stI .u64) st) rfl HS.out.own ⟨W.heap.size, 0, none⟩ 1 1 [.int .u64 x] rfl rfl (one_src (by simp [go_sem])) (by intro u hu; simp at hu; subst hu; rfl) (by unfold maxLen; omega) (by omega) HS.out.size ?_)
  intro v' w1 hown hgrow hat
  have hat : v'.ownBlock = v.ownBlock ∨ v'.ownBlock = some (W.alloc (.cells #[.int .u64 x] 27)).heap.size := by simpa using hat
  have hown' : w1.ownsRow B 27 1 v' (x :: st).length (stkV (stI .u64) (x :: st)) := by rw [stkV_cons]; exact hown
  have R := Lib.hid (HS.out.put hgrow hown' hat)
  have G := Lib.hid (HW.out.trans (Went.put HS.out hgrow hat))
  have hlt := HS.out.lt
  have hne : some g ≠ v.ownBlock := fun e => HS.out.ne e.symm
  replace c0 := (World.cell?_of_block (a := ⟨g, 0, none⟩) (hgrow.block g hlt hne)).trans HS.out.c
  replace f0 := (World.frozen?_of_block (a := ⟨g, 0, none⟩) (hgrow.block g hlt hne)).trans HS.out.f
  obtain ⟨a', cap', rfl⟩ := own_form hown
  clear hown hown' hgrow hat HS HW hne hlt
  go_wp2
  go_end0
  exact ⟨rfl, _, R.out, G.out⟩
set_option maxHeartbeats 2000000 in
theorem vntake_is (B g : Nat) (v : Value) (x : Int) (st : List (Int)) (W : World) (hS : VarRow B 27 1 W g v (x :: st).length (stkV (stI .u64) (x :: st))) (hl : st.length ≤ 1000) :
    Calls Try.prog 54 #[.pointer (some ⟨g, 0, none⟩)] W fun e w' => e = .returned (.int .u64 x) ∧ ∃ v', VarRow B 27 1 w' g v' (st).length (stkV (stI .u64) (st)) ∧ Went g W w' v v' := by
  obtain ⟨b, cap, rfl, hc1, hc2, hcell⟩ := stk_one (stI_len .u64) hS.own
  have hcut := own_cut (m := st.length) (xs := stkV (stI .u64) st) (ys := (stI .u64) x) (by have := hS.own; rw [stkV_cons] at this; exact this) (by simp) (stkV_len (stI_len .u64) st)
  obtain ⟨M, hM⟩ : ∃ M, st.length + 1 = M := ⟨_, rfl⟩
  have hw1 : IntKind.i64.wrap ((M : Int) - 1) = (st.length : Int) := by rw [IntWalk.i64_in _ (by omega)]; omega
  have hw2 : wrap64 ((M : Int) - 1) = (st.length : Int) := by rw [IntWalk.wrap64_in _ (by omega)]; omega
  have h0 : (0 : Int) ≤ (st.length : Int) := by omega
  have hlt : (st.length : Int) < (M : Int) := by omega
  have hle : (st.length : Int) ≤ (M : Int) := by omega
  have hcc : st.length ≤ cap := by omega
  have hx := hcell 0 (by decide)
  simp only [Nat.mul_one, Nat.add_zero] at hx
  replace hx : W.cell? ⟨b, st.length, none⟩ = some (.int .u64 x) := hx
  rw [List.length_cons, hM] at hS
  rw [hM] at hc1 ⊢
  have c0 := hS.c
  have f0 := hS.f
  have hbg : ¬ b = g := fun e => hS.ne (by rw [e]; rfl)
  have R := Lib.hid (hS.put (W' := W.drew) (v' := .slice (some ⟨b, 0, none⟩) st.length cap) (n' := st.length) (grown_of_below (Below.refl _ _).drew) hcut.drew (.inl rfl))
  have G := Lib.hid (Went.put (W' := W.drew) hS (v' := .slice (some ⟨b, 0, none⟩) st.length cap) (grown_of_below (Below.refl _ _).drew) (.inl rfl))
  clear hS hcut hcell hM
  go_enter Try.func54, Try.ntmps54
  go_upto_region 4 with fail
  go_region
  all_goals go_wp2
  all_goals go_ret
  all_goals exact ⟨rfl, _, R.out, G.out⟩
set_option maxHeartbeats 2000000 in
theorem vnjoin4_is (w1 : World) (g : Nat) (v : Value) (x y z : Int) (r : List (Int)) (W : World) (hB : Below w1.heap.size w1 W) (hS : VarRow w1.heap.size 27 1 W g v (y :: x :: r).length (stkV (stI .u64) (y :: x :: r))) (hl : r.length + 2 ≤ 1000)
    (kf : ∀ W, Calls Try.prog 26 #[.int .u64 x, .int .u64 y] W fun e w' => e = .returned (.int .u64 z) ∧ Below W.heap.size W w') :
    Calls Try.prog 53 #[.pointer (some ⟨g, 0, none⟩), .func (.func 26) #[] #[]] W fun e w' => e = .returned (.tuple #[]) ∧ Below w1.heap.size w1 w' ∧ ∃ v', VarRow w1.heap.size 27 1 w' g v' (z :: r).length (stkV (stI .u64) (z :: r)) := by
  have HS := Lib.hid hS; have HB := Lib.hid hB; have HL := Lib.hid hl
  clear hS hB
  go_enter Try.func53, Try.ntmps53
  go_upto_region 1 with (go_at_call 54; (with_reducible refine (vntake_is w1.heap.size g _ y (x :: r) _ HS.out (by simp; omega)).mono ?_); rintro e w2 ⟨rfl, v2, hS2, hW2⟩)
  have HB2 := Lib.hid (hW2.bel HS.out HB.out); have HS2 := Lib.hid hS2
  clear hS2 hW2
  go_upto_region 2 with (go_at_call 54; (with_reducible refine (vntake_is w1.heap.size g _ x r _ HS2.out (by omega)).mono ?_); rintro e w3 ⟨rfl, v3, hS3, hW3⟩)
  have HB3 := Lib.hid (hW3.bel HS2.out HB2.out); have HS3 := Lib.hid hS3
  clear hS3 hW3
  go_wp2_with (first
    | (go_at_call 26; (with_reducible refine (kf _).mono ?_); rintro e w4 ⟨rfl, hb⟩; have HB4 := Lib.hid (bthen HB3.out hb); have HS4 := Lib.hid (HS3.out.keep hb); clear hb)
    | (go_at_call 51; (with_reducible refine (vnput_is w1.heap.size g _ z r _ HS4.out (by omega)).mono ?_); rintro e w5 ⟨rfl, v5, hS5, hW5⟩; have HB5 := Lib.hid (hW5.bel HS4.out HB4.out); have HS5 := Lib.hid hS5; clear hS5 hW5))
  go_end0
  exact ⟨rfl, HB5.out, _, HS5.out⟩
set_option maxHeartbeats 2000000 in
theorem vnjoin5_is (w1 : World) (g : Nat) (v : Value) (x y z : Int) (r : List (Int)) (W : World) (hB : Below w1.heap.size w1 W) (hS : VarRow w1.heap.size 27 1 W g v (y :: x :: r).length (stkV (stI .u64) (y :: x :: r))) (hl : r.length + 2 ≤ 1000)
    (kf : ∀ W, Calls Try.prog 27 #[.int .u64 x, .int .u64 y] W fun e w' => e = .returned (.int .u64 z) ∧ Below W.heap.size W w') :
    Calls Try.prog 53 #[.pointer (some ⟨g, 0, none⟩), .func (.func 27) #[] #[]] W fun e w' => e = .returned (.tuple #[]) ∧ Below w1.heap.size w1 w' ∧ ∃ v', VarRow w1.heap.size 27 1 w' g v' (z :: r).length (stkV (stI .u64) (z :: r)) := by
  have HS := Lib.hid hS; have HB := Lib.hid hB; have HL := Lib.hid hl
  clear hS hB
  go_enter Try.func53, Try.ntmps53
  go_upto_region 1 with (go_at_call 54; (with_reducible refine (vntake_is w1.heap.size g _ y (x :: r) _ HS.out (by simp; omega)).mono ?_); rintro e w2 ⟨rfl, v2, hS2, hW2⟩)
  have HB2 := Lib.hid (hW2.bel HS.out HB.out); have HS2 := Lib.hid hS2
  clear hS2 hW2
  go_upto_region 2 with (go_at_call 54; (with_reducible refine (vntake_is w1.heap.size g _ x r _ HS2.out (by omega)).mono ?_); rintro e w3 ⟨rfl, v3, hS3, hW3⟩)
  have HB3 := Lib.hid (hW3.bel HS2.out HB2.out); have HS3 := Lib.hid hS3
  clear hS3 hW3
  go_wp2_with (first
    | (go_at_call 27; (with_reducible refine (kf _).mono ?_); rintro e w4 ⟨rfl, hb⟩; have HB4 := Lib.hid (bthen HB3.out hb); have HS4 := Lib.hid (HS3.out.keep hb); clear hb)
    | (go_at_call 51; (with_reducible refine (vnput_is w1.heap.size g _ z r _ HS4.out (by omega)).mono ?_); rintro e w5 ⟨rfl, v5, hS5, hW5⟩; have HB5 := Lib.hid (hW5.bel HS4.out HB4.out); have HS5 := Lib.hid hS5; clear hS5 hW5))
  go_end0
  exact ⟨rfl, HB5.out, _, HS5.out⟩
set_option maxHeartbeats 2000000 in
theorem vnjoin6_is (w1 : World) (g : Nat) (v : Value) (x y z : Int) (r : List (Int)) (W : World) (hB : Below w1.heap.size w1 W) (hS : VarRow w1.heap.size 27 1 W g v (y :: x :: r).length (stkV (stI .u64) (y :: x :: r))) (hl : r.length + 2 ≤ 1000)
    (kf : ∀ W, Calls Try.prog 28 #[.int .u64 x, .int .u64 y] W fun e w' => e = .returned (.int .u64 z) ∧ Below W.heap.size W w') :
    Calls Try.prog 53 #[.pointer (some ⟨g, 0, none⟩), .func (.func 28) #[] #[]] W fun e w' => e = .returned (.tuple #[]) ∧ Below w1.heap.size w1 w' ∧ ∃ v', VarRow w1.heap.size 27 1 w' g v' (z :: r).length (stkV (stI .u64) (z :: r)) := by
  have HS := Lib.hid hS; have HB := Lib.hid hB; have HL := Lib.hid hl
  clear hS hB
  go_enter Try.func53, Try.ntmps53
  go_upto_region 1 with (go_at_call 54; (with_reducible refine (vntake_is w1.heap.size g _ y (x :: r) _ HS.out (by simp; omega)).mono ?_); rintro e w2 ⟨rfl, v2, hS2, hW2⟩)
  have HB2 := Lib.hid (hW2.bel HS.out HB.out); have HS2 := Lib.hid hS2
  clear hS2 hW2
  go_upto_region 2 with (go_at_call 54; (with_reducible refine (vntake_is w1.heap.size g _ x r _ HS2.out (by omega)).mono ?_); rintro e w3 ⟨rfl, v3, hS3, hW3⟩)
  have HB3 := Lib.hid (hW3.bel HS2.out HB2.out); have HS3 := Lib.hid hS3
  clear hS3 hW3
  go_wp2_with (first
    | (go_at_call 28; (with_reducible refine (kf _).mono ?_); rintro e w4 ⟨rfl, hb⟩; have HB4 := Lib.hid (bthen HB3.out hb); have HS4 := Lib.hid (HS3.out.keep hb); clear hb)
    | (go_at_call 51; (with_reducible refine (vnput_is w1.heap.size g _ z r _ HS4.out (by omega)).mono ?_); rintro e w5 ⟨rfl, v5, hS5, hW5⟩; have HB5 := Lib.hid (hW5.bel HS4.out HB4.out); have HS5 := Lib.hid hS5; clear hS5 hW5))
  go_end0
  exact ⟨rfl, HB5.out, _, HS5.out⟩
set_option maxHeartbeats 2000000 in
theorem vncolumn_is (b : Option Addr) (len cap : Nat) (cs : List (Int)) (m : Nat) (x : Int) (w : World) (hc : RowA w b len cs) (hm : m < len) (hx : cs.getD m 0 = x) :
    Calls Try.prog 52 #[.slice b len cap, .int .u64 (m : Int)] w fun e w' => e = .returned (.int .u64 x) ∧ Below w.heap.size w w' := by
  have hmax := hc.2.1
  unfold maxLen at hmax
  obtain ⟨bz, oz, rfl, c0⟩ := hc.2.2 m hm
  rw [hx] at c0
  have hw : IntKind.u64.wrap (len : Int) = (len : Int) := by rw [IntKind.wrap_u64]; omega
  have hm' : (m : Int) < (len : Int) := by omega
  have hm0 : (0 : Int) ≤ (m : Int) := by omega
  have hmn : ¬ (len : Int) ≤ (m : Int) := by omega
  have hml : (m : Int) < 18446744073709551616 := by omega
  clear hx hc
  go_enter Try.func52, Try.ntmps52
  go_wp2_with fail
  go_ret
  exact ⟨rfl, Below.refl _ _⟩
theorem vnop4 (x y : Int) (hx : U x) (hy : U y) : ∃ z, toF z = toF x + toF y ∧ U z ∧ ∀ W, Calls Try.prog 26 #[.int .u64 x, .int .u64 y] W fun e w' => e = .returned (.int .u64 z) ∧ Below W.heap.size W w' :=
  ⟨enc (toF x + toF y), toF_enc _, enc_U _, fun W => (add_is x y _ hx hy rfl W).mono fun _ _ q => ⟨q.1, q.2 ▸ Below.refl _ _⟩⟩
theorem vnop5 (x y : Int) (hx : U x) (hy : U y) : ∃ z, toF z = toF x - toF y ∧ U z ∧ ∀ W, Calls Try.prog 27 #[.int .u64 x, .int .u64 y] W fun e w' => e = .returned (.int .u64 z) ∧ Below W.heap.size W w' :=
  ⟨enc (toF x - toF y), toF_enc _, enc_U _, fun W => (sub_is x y _ hx hy rfl W).mono fun _ _ q => ⟨q.1, q.2 ▸ Below.refl _ _⟩⟩
theorem vnop6 (x y : Int) (hx : U x) (hy : U y) : ∃ z, toF z = toF x * toF y ∧ U z ∧ ∀ W, Calls Try.prog 28 #[.int .u64 x, .int .u64 y] W fun e w' => e = .returned (.int .u64 z) ∧ Below W.heap.size W w' :=
  ⟨enc (toF x * toF y), toF_enc _, enc_U _, fun W => (mul_is x y _ hx hy rfl W).mono fun _ _ q => ⟨q.1, q.2 ▸ Below.refl _ _⟩⟩
/-- While the operations are run. -/
def LeftRelN (w1 : World) (g : Nat) (zs : List Opn) (cols : Int) (cur next : Nat → F) (RES : F) (i : Value) (W : World) : Prop :=
  ∃ (k : Nat) (v : Value) (rs : List (Int)) (st : List Nat), k ≤ zs.length ∧ i = .int .i64 k ∧ Below w1.heap.size w1 W ∧ VarRow w1.heap.size 27 1 W g v rs.length (stkV (stI .u64) rs) ∧ (∀ n ∈ rs, U n) ∧ rs.length = st.length ∧ st.length ≤ k ∧ Ran cols true (zs.drop k) st ∧ evL numA cur next (zs.drop k) (rs.map toF) = [RES]
theorem vnmake (W : World) : (Instr.makeSlice 70 (.int .i64 0) (.int .i64 16)).run Try.prog W = .ok (.slice (some ⟨W.heap.size, 0, none⟩) 0 16) (W.alloc (.cells (madeCells #[.int .u64 0] 16) 27)) := by
  obtain ⟨i0, hi, hz0, hz1, hz2⟩ := info_parts infoN
  have h := run_make (P := Try.prog) W 70 27 i0 (.int .u64 0) Try.underlying70 hi hz0 .i64 .i64 0 16 (by omega) (by omega) (by rw [hz2]; omega) (by omega)
  rw [hz1] at h
  exact h
theorem vnown (W : World) : (W.alloc (.cells (madeCells #[.int .u64 0] 16) 27)).ownsRow W.heap.size 27 1 (.slice (some ⟨W.heap.size, 0, none⟩) 0 16) 0 [] :=
  World.ownsRow_made W _ 16 (Nat.le_refl _) (by unfold maxLen; omega) (by have := size_madeCells #[.int .u64 0] 16; simpa using this)
theorem vnlift_is (n : Int) (W : World) : Calls Try.prog 25 #[.int .u64 n] W fun e w' => e = .returned (.int .u64 n) ∧ Below W.heap.size W w' := by
  go_enter Try.func25, Try.ntmps25
  go_wp2
  go_ret
  exact ⟨rfl, Below.refl _ _⟩
set_option maxRecDepth 100000 in
set_option maxHeartbeats 8000000 in
theorem vnleft_is (a : Option Addr) (cap : Nat) (zs : List Opn) (b : Option Addr) (lenb capb : Nat) (cs : List (Int)) (c : Option Addr) (lenc capc : Nat) (ds : List (Int)) (cols : Int) (w : World) (hO : OpA w a zs.length zs) (hu : ∀ o ∈ zs, OkO o) (hz : EvOk zs cols)
    (hc : RowA w b lenb cs) (hcu : ∀ n ∈ cs, U n) (hlb : cols ≤ lenb) (hd : RowA w c lenc ds) (hdu : ∀ n ∈ ds, U n) (hlc : cols ≤ lenc) :
    Calls Try.prog 30 #[.agg #[.func (.func 25) #[] #[], .func (.func 26) #[] #[], .func (.func 27) #[] #[], .func (.func 28) #[] #[]], .slice a zs.length cap, .slice b lenb capb, .slice c lenc capc] w fun E w' => ∃ r : Int, E = .returned (.int .u64 r) ∧ (U r) ∧ toF r = evB numA (rowF cs) (rowF ds) zs ∧ Below w.heap.size w w' := by
  obtain ⟨hrun, hl300⟩ := hz
  have hmax := hO.2.1
  unfold maxLen at hmax
  have hp0 : ∀ o ∈ zs, 0 ≤ o.2 := fun o ho => (hu o ho).2.1
  obtain ⟨cur, hcur⟩ : ∃ f, rowF cs = f := ⟨_, rfl⟩
  obtain ⟨next, hnext⟩ : ∃ f, rowF ds = f := ⟨_, rfl⟩
  have hone := ran_one numA cur next hp0 hrun
  rw [hcur, hnext]
  obtain ⟨RES, hRES⟩ : ∃ r, evB numA cur next zs = r := ⟨_, rfl⟩
  rw [hRES] at hone ⊢
  have hO0 := Lib.hid hO; have HC0 := Lib.hid hc; have HD0 := Lib.hid hd
  have HUC := Lib.hid hcu; have HUD := Lib.hid hdu; have HU := Lib.hid hu
  have HCUR := Lib.hid hcur; have HNEXT := Lib.hid hnext
  have HRUN := Lib.hid (show Ran cols true zs [] from hrun)
  have HONE := Lib.hid hone
  clear hO hu hc hcu hd hdu hcur hnext hRES hone hrun hp0
  have hmk := fun W => vnmake W
  have hsf := fun (a : Addr) (n : Nat) (w : World) => run_store Try.prog w a (.func (.func n) #[] #[]) .plain rfl
  go_enter Try.func30, Try.ntmps30
  go_upto_region 1 with fail
  refine wp_gen (fun W => Below w.heap.size w W ∧ W.cell? ⟨w.heap.size, 0, none⟩ = some (.func (.func 25) #[] #[]) ∧ W.cell? ⟨w.heap.size, 1, none⟩ = some (.func (.func 26) #[] #[]) ∧ W.cell? ⟨w.heap.size, 2, none⟩ = some (.func (.func 27) #[] #[]) ∧ W.cell? ⟨w.heap.size, 3, none⟩ = some (.func (.func 28) #[] #[])) ⟨(Below.refl _ _).alloc (Nat.le_refl _) _, by simp [go_sem], by simp [go_sem], by simp [go_sem], by simp [go_sem]⟩ ?_
  obtain ⟨gF, hgF⟩ : ∃ g, w.heap.size = g := ⟨_, rfl⟩
  rintro w1 ⟨hB1, q0, q1, q2, q3⟩
  simp only [hgF] at q0 q1 q2 q3 ⊢
  have HF : Hid (w1.cell? ⟨gF, 0, none⟩ = some (.func (.func 25) #[] #[]) ∧ w1.cell? ⟨gF, 1, none⟩ = some (.func (.func 26) #[] #[]) ∧ w1.cell? ⟨gF, 2, none⟩ = some (.func (.func 27) #[] #[]) ∧ w1.cell? ⟨gF, 3, none⟩ = some (.func (.func 28) #[] #[])) := Lib.hid ⟨q0, q1, q2, q3⟩
  have HB1 := Lib.hid hB1
  have HC := Lib.hid (hO0.out.keep hB1).2.2; have HCB := Lib.hid (HC0.out.keep hB1); have HCD := Lib.hid (HD0.out.keep hB1)
  clear q0 q1 q2 q3 hB1 hO0 HC0 HD0 hgF
  go_upto_region 3 with fail
  refine wp_gen (fun W => Below w1.heap.size w1 W ∧ VarRow w1.heap.size 27 1 W (w1.heap.size + 1) (.slice (some ⟨w1.heap.size, 0, none⟩) 0 16) 0 []) ⟨((Below.refl _ _).alloc (Nat.le_refl _) _).alloc (by simp) _, by
    have h := VarRow.first (B := w1.heap.size) (W := w1.alloc (.cells (madeCells #[.int .u64 0] 16) 27)) (by simp) (vnown w1) 70
    simpa using h⟩ ?_
  obtain ⟨g, hg⟩ : ∃ g, w1.heap.size + 1 = g := ⟨_, rfl⟩
  rintro W2 ⟨hB2, hS2⟩
  simp only [hg] at hS2 ⊢
  clear hg hmk hsf
  go_loopw [15] (LeftRelN w1 g zs cols cur next RES) (fun i _ => zs.length - (intOf i).toNat)
  case atStart => exact ⟨0, _, [], [], Nat.zero_le _, rfl, hB2, hS2, by simp, rfl, Nat.zero_le _, by rw [List.drop_zero]; exact HRUN.out, by rw [List.drop_zero]; exact HONE.out⟩
  case round =>
    clear HRUN HONE hB2 hS2
    obtain ⟨k, v, rs, st, hk, rfl, hB, hS, hru, hlen, hst, hrun, hres⟩ := hrel
    by_cases hlt : k < zs.length
    · have hlt' : (k : Int) < (zs.length : Int) := by omega
      have hk0 : (0 : Int) ≤ (k : Int) := by omega
      rw [drop_at hlt] at hrun hres
      have hok : OkO (zs.getD k (0, 0)) := by
        have e : zs.getD k (0, 0) = zs[k] := by simp [List.getD, hlt]
        rw [e]
        exact HU.out _ (List.getElem_mem hlt)
      obtain ⟨bz, offz, rfl, u0, u1⟩ := HC.out k hlt
      replace u0 := bkeep hB u0; replace u1 := bkeep hB u1
      obtain ⟨rest, hrest⟩ : ∃ r, zs.drop (k + 1) = r := ⟨_, rfl⟩
      rw [hrest] at hrun hres
      have HREST := Lib.hid hrest
      clear hrest
      generalize zs.getD k (0, 0) = o at *
      obtain ⟨kd, nn⟩ := o
      dsimp only at u0 u1
      obtain ⟨st', hps, hst0, hrun', hright⟩ := ran_step hrun
      have hst' : st'.length ≤ k + 1 := by omega
      have hk6 := right_kind hright
      dsimp only at hk6
      have HR := Lib.hid (show Ran cols true (zs.drop (k + 1)) st' by rw [HREST.out]; exact hrun')
      have hn0 : 0 ≤ nn := hok.2.1
      have hnU : U nn := hok.2
      have HL16 := Lib.hid hst'
      have HRES := Lib.hid hres; have HB := Lib.hid hB; have HS := Lib.hid hS; have HRU := Lib.hid hru
      have hl300' : rs.length ≤ 300 := by omega
      obtain ⟨mm, rfl⟩ : ∃ m : Nat, nn = (m : Int) := ⟨nn.toNat, by omega⟩
      clear hrun hrun' hst0 hok hres hright hB hS hru
      go_upto_region 5 with fail
      refine wp_gen (fun W => Below w1.heap.size w1 W ∧ VarRow w1.heap.size 27 1 W g v rs.length (stkV (stI .u64) rs) ∧ W.cell? ⟨wr.heap.size, 0, none⟩ = some (.int .i64 kd) ∧ W.cell? ⟨wr.heap.size, 1, none⟩ = some (.int .u64 (mm : Int))) ⟨HB.out.alloc HS.out.size _, HS.out.keep ((Below.refl _ _).alloc (Nat.le_refl _) _), by simp [go_sem], by simp [go_sem]⟩ ?_
      obtain ⟨go, hgo⟩ : ∃ g, wr.heap.size = g := ⟨_, rfl⟩
      rintro W3 ⟨hB3, hS3, d0, d1⟩
      simp only [hgo] at d0 d1 ⊢
      clear HB HS u0 u1 hgo
      have HB := Lib.hid hB3; have HS := Lib.hid hS3
      have f0 := bkeep hB3 HF.out.1; have f1 := bkeep hB3 HF.out.2.1; have f2 := bkeep hB3 HF.out.2.2.1; have f3 := bkeep hB3 HF.out.2.2.2
      clear hB3 hS3
      by_cases hk1 : kd = 1
      · subst hk1
        obtain ⟨hcol, e⟩ := push_col_inv1 hps
        subst e
        have hml : mm < lenb := by omega
        have hxU : U (cs.getD mm 0) := by
          have e : cs.getD mm 0 = cs[mm]'(by rw [HCB.out.1]; exact hml) := by simp [List.getD, show mm < cs.length by rw [HCB.out.1]; exact hml]
          rw [e]
          exact HUC.out _ (List.getElem_mem _)
        obtain ⟨x, hx⟩ : ∃ x, cs.getD mm 0 = x := ⟨_, rfl⟩
        rw [hx] at hxU
        have hxv : cur mm = toF x := by rw [← HCUR.out, ← hx]; rfl
        have HV : Hid (evL numA cur next (zs.drop (k + 1)) ((x :: rs).map toF) = [RES]) := Lib.hid (by
          have := HRES.out
          rw [evL, ev1_cur numA cur next rfl, show ((mm : Int)).toNat = mm from rfl, hxv] at this
          rw [HREST.out]
          exact this)
        have HLEN : Hid ((x :: rs).length = (1 :: st).length) := Lib.hid (by rw [List.length_cons, List.length_cons, hlen])
        have HUX : Hid (∀ n ∈ x :: rs, U n) := Lib.hid (by intro n hn; rcases List.mem_cons.1 hn with rfl | hn <;> first | exact hxU | exact HRU.out n hn)
        have kc := fun W hb => vncolumn_is b lenb capb cs mm x W (HCB.out.keep hb) hml hx
        clear hxU hxv hx hps hlen hst HRES
        go_wp2_with (first
          | (go_at_call 52; (with_reducible refine (kc _ HB.out).mono ?_); rintro e w4 ⟨rfl, hb⟩; have HB4 := Lib.hid (bthen HB.out hb); have HS4 := Lib.hid (HS.out.keep hb); clear hb)
          | (go_at_call 51; (with_reducible refine (vnput_is w1.heap.size g _ x rs _ HS4.out (by omega)).mono ?_); rintro e w5 ⟨rfl, v5, hS5, hW5⟩; have HB5 := Lib.hid (hW5.bel HS4.out HB4.out); have HS5 := Lib.hid hS5; clear hS5 hW5))
        go_roundw
        case rel => exact ⟨k + 1, _, x :: rs, _, by omega, by go_num, HB5.out, HS5.out, HUX.out, HLEN.out, HL16.out, HR.out, HV.out⟩
        case measure => simp [intOf]; omega
      by_cases hk2 : kd = 2
      · subst hk2
        obtain ⟨hcol, e⟩ := push_col_inv2 hps
        subst e
        have hml : mm < lenc := by omega
        have hxU : U (ds.getD mm 0) := by
          have e : ds.getD mm 0 = ds[mm]'(by rw [HCD.out.1]; exact hml) := by simp [List.getD, show mm < ds.length by rw [HCD.out.1]; exact hml]
          rw [e]
          exact HUD.out _ (List.getElem_mem _)
        obtain ⟨x, hx⟩ : ∃ x, ds.getD mm 0 = x := ⟨_, rfl⟩
        rw [hx] at hxU
        have hxv : next mm = toF x := by rw [← HNEXT.out, ← hx]; rfl
        have HV : Hid (evL numA cur next (zs.drop (k + 1)) ((x :: rs).map toF) = [RES]) := Lib.hid (by
          have := HRES.out
          rw [evL, ev1_next numA cur next rfl, show ((mm : Int)).toNat = mm from rfl, hxv] at this
          rw [HREST.out]
          exact this)
        have HLEN : Hid ((x :: rs).length = (1 :: st).length) := Lib.hid (by rw [List.length_cons, List.length_cons, hlen])
        have HUX : Hid (∀ n ∈ x :: rs, U n) := Lib.hid (by intro n hn; rcases List.mem_cons.1 hn with rfl | hn <;> first | exact hxU | exact HRU.out n hn)
        have kc := fun W hb => vncolumn_is c lenc capc ds mm x W (HCD.out.keep hb) hml hx
        clear hxU hxv hx hps hlen hst HRES
        go_wp2_with (first
          | (go_at_call 52; (with_reducible refine (kc _ HB.out).mono ?_); rintro e w4 ⟨rfl, hb⟩; have HB4 := Lib.hid (bthen HB.out hb); have HS4 := Lib.hid (HS.out.keep hb); clear hb)
          | (go_at_call 51; (with_reducible refine (vnput_is w1.heap.size g _ x rs _ HS4.out (by omega)).mono ?_); rintro e w5 ⟨rfl, v5, hS5, hW5⟩; have HB5 := Lib.hid (hW5.bel HS4.out HB4.out); have HS5 := Lib.hid hS5; clear hS5 hW5))
        go_roundw
        case rel => exact ⟨k + 1, _, x :: rs, _, by omega, by go_num, HB5.out, HS5.out, HUX.out, HLEN.out, HL16.out, HR.out, HV.out⟩
        case measure => simp [intOf]; omega
      by_cases hk3 : kd = 3
      · subst hk3
        obtain rfl := push_const_inv hps
        obtain ⟨x, hxe⟩ : ∃ x, (mm : Int) = x := ⟨_, rfl⟩
        have hx : toF x = numA.cst (mm : Int) := by rw [← hxe]; rfl
        have hxU : U x := hxe ▸ hnU
        have kl := fun W => vnlift_is (mm : Int) W
        rw [hxe] at kl
        simp only [hxe] at d1
        clear hxe
        have HV : Hid (evL numA cur next (zs.drop (k + 1)) ((x :: rs).map toF) = [RES]) := Lib.hid (by
          have := HRES.out
          rw [evL, ev1_cst numA cur next rfl] at this
          rw [HREST.out]
          rw [show (x :: rs).map toF = numA.cst (mm : Int) :: rs.map toF by rw [List.map_cons, hx]]
          exact this)
        have HLEN : Hid ((x :: rs).length = (0 :: st).length) := Lib.hid (by rw [List.length_cons, List.length_cons, hlen])
        have HUX : Hid (∀ n ∈ x :: rs, U n) := Lib.hid (by intro n hn; rcases List.mem_cons.1 hn with rfl | hn <;> first | exact hxU | exact HRU.out n hn)
        clear hxU hx hps hlen hst HRES
        go_wp2_with (first
          | (go_at_call 25; (with_reducible refine (kl _).mono ?_); rintro e w4 ⟨rfl, hb⟩; have HB4 := Lib.hid (bthen HB.out hb); have HS4 := Lib.hid (HS.out.keep hb); clear hb)
          | (go_at_call 51; (with_reducible refine (vnput_is w1.heap.size g _ x rs _ HS4.out (by omega)).mono ?_); rintro e w5 ⟨rfl, v5, hS5, hW5⟩; have HB5 := Lib.hid (hW5.bel HS4.out HB4.out); have HS5 := Lib.hid hS5; clear hS5 hW5))
        go_roundw
        case rel => exact ⟨k + 1, _, x :: rs, _, by omega, by go_num, HB5.out, HS5.out, HUX.out, HLEN.out, HL16.out, HR.out, HV.out⟩
        case measure => simp [intOf]; omega
      obtain ⟨da, db, ss, rfl, rfl⟩ := push_two_inv hps hk1 hk2 hk3
      obtain ⟨y, x, r, rfl⟩ : ∃ y x r, rs = y :: x :: r := by
        match rs, hlen with
        | y :: x :: r, _ => exact ⟨y, x, r, rfl⟩
        | [_], h => cases h
        | [], h => cases h
      have hxU := HRU.out x (by simp)
      have hyU := HRU.out y (by simp)
      have hl2 : r.length + 2 ≤ 1000 := by simp at hl300'; omega
      have hrl : r.length = ss.length := by simpa using hlen
      have HLEN : Hid (∀ z : Int, (z :: r).length = (max da db :: ss).length ∧ (z :: r).length = ((da + db) :: ss).length) := Lib.hid fun z => by simp [hrl]
      have hkd : kd = 4 ∨ kd = 5 ∨ kd = 6 := by omega
      clear hrl
      rcases hkd with rfl | rfl | rfl
      · obtain ⟨z, hz, hzU, kf⟩ := vnop4 x y hxU hyU
        have HV : Hid (evL numA cur next (zs.drop (k + 1)) ((z :: r).map toF) = [RES]) := Lib.hid (by
          have := HRES.out
          rw [List.map_cons, List.map_cons, evL, ev1_two numA cur next (by simp) (by simp)] at this
          rw [HREST.out, List.map_cons, hz]
          exact this)
        have HUX : Hid (∀ n ∈ z :: r, U n) := Lib.hid (by intro n hn; rcases List.mem_cons.1 hn with rfl | hn <;> first | exact hzU | exact HRU.out n (List.mem_cons_of_mem _ (List.mem_cons_of_mem _ hn)))
        clear hxU hyU hz hzU hps hlen hst HRES
        go_wp2_with (go_at_call 53; (with_reducible refine (vnjoin4_is w1 g _ x y z r _ HB.out HS.out (by omega) kf).mono ?_); rintro e w5 ⟨rfl, hb5, v5, hS5⟩; have HB5 := Lib.hid hb5; have HS5 := Lib.hid hS5; clear hb5 hS5)
        go_roundw
        case rel => exact ⟨k + 1, _, z :: r, _, by omega, by go_num, HB5.out, HS5.out, HUX.out, (HLEN.out z).1, HL16.out, HR.out, HV.out⟩
        case measure => simp [intOf]; omega
      · obtain ⟨z, hz, hzU, kf⟩ := vnop5 x y hxU hyU
        have HV : Hid (evL numA cur next (zs.drop (k + 1)) ((z :: r).map toF) = [RES]) := Lib.hid (by
          have := HRES.out
          rw [List.map_cons, List.map_cons, evL, ev1_two numA cur next (by simp) (by simp)] at this
          rw [HREST.out, List.map_cons, hz]
          exact this)
        have HUX : Hid (∀ n ∈ z :: r, U n) := Lib.hid (by intro n hn; rcases List.mem_cons.1 hn with rfl | hn <;> first | exact hzU | exact HRU.out n (List.mem_cons_of_mem _ (List.mem_cons_of_mem _ hn)))
        clear hxU hyU hz hzU hps hlen hst HRES
        go_wp2_with (go_at_call 53; (with_reducible refine (vnjoin5_is w1 g _ x y z r _ HB.out HS.out (by omega) kf).mono ?_); rintro e w5 ⟨rfl, hb5, v5, hS5⟩; have HB5 := Lib.hid hb5; have HS5 := Lib.hid hS5; clear hb5 hS5)
        go_roundw
        case rel => exact ⟨k + 1, _, z :: r, _, by omega, by go_num, HB5.out, HS5.out, HUX.out, (HLEN.out z).1, HL16.out, HR.out, HV.out⟩
        case measure => simp [intOf]; omega
      · obtain ⟨z, hz, hzU, kf⟩ := vnop6 x y hxU hyU
        have HV : Hid (evL numA cur next (zs.drop (k + 1)) ((z :: r).map toF) = [RES]) := Lib.hid (by
          have := HRES.out
          rw [List.map_cons, List.map_cons, evL, ev1_two numA cur next (by simp) (by simp)] at this
          rw [HREST.out, List.map_cons, hz]
          exact this)
        have HUX : Hid (∀ n ∈ z :: r, U n) := Lib.hid (by intro n hn; rcases List.mem_cons.1 hn with rfl | hn <;> first | exact hzU | exact HRU.out n (List.mem_cons_of_mem _ (List.mem_cons_of_mem _ hn)))
        clear hxU hyU hz hzU hps hlen hst HRES
        go_wp2_with (go_at_call 53; (with_reducible refine (vnjoin6_is w1 g _ x y z r _ HB.out HS.out (by omega) kf).mono ?_); rintro e w5 ⟨rfl, hb5, v5, hS5⟩; have HB5 := Lib.hid hb5; have HS5 := Lib.hid hS5; clear hb5 hS5)
        go_roundw
        case rel => exact ⟨k + 1, _, z :: r, _, by omega, by go_num, HB5.out, HS5.out, HUX.out, (HLEN.out z).2, HL16.out, HR.out, HV.out⟩
        case measure => simp [intOf]; omega
    · obtain rfl : k = zs.length := by omega
      rw [List.drop_length] at hres
      have hres : rs.map toF = [RES] := hres
      obtain ⟨r, rfl, hr⟩ : ∃ r, rs = [r] ∧ toF r = RES := by
        match rs, hres with
        | [r], h => exact ⟨r, rfl, by simpa using h⟩
      have hrU := hru r (by simp)
      have HS := Lib.hid hS; have HB := Lib.hid hB; have HR := Lib.hid hr; have HUR := Lib.hid hrU
      clear hres hS hB hru hlen hst hrun hr hrU
      go_wp2_with (go_at_call 54; (with_reducible refine (vntake_is w1.heap.size g _ r [] _ HS.out (by simp)).mono ?_); rintro e w2 ⟨rfl, v2, hS2, hW2⟩; have HB2 := Lib.hid (hW2.bel HS.out HB.out); clear hS2 hW2)
      go_ret
      exact ⟨r, rfl, HUR.out, HR.out, HB1.out.trans (HB2.out.mono HB1.out.size)⟩
end Go.Proofs.Ytlgfnlkblehlbaa
