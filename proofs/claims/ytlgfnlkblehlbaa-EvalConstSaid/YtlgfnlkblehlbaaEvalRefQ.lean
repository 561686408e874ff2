/-
  What the document's Pairs of layer 17 comes to. (Written by gen_evref.py.)
-/
import Derived.Test.YtlgfnlkblehlbaaEvalRef
namespace Go.Proofs.Ytlgfnlkblehlbaa
open Go Go.RowKit
set_option linter.unusedVariables false

theorem infoQe : (Try.prog.info? 29).map (fun i => (i.zero, i.size, i.bytes)) = some (some (.agg #[.int .u64 0, .int .u64 0]), 2, 16) := by kernel_rfl
def EvRelQ (w0 : World) (zs : List Opn) (cols : Int) (cur next : Nat → F2) (RES : F2) (v i : Value) (W : World) : Prop :=
  ∃ (k : Nat) (vs : List F2) (st : List Nat), k ≤ zs.length ∧ i = .int .i64 k ∧ Below w0.heap.size w0 W ∧ W.ownsRow w0.heap.size 29 2 v vs.length (stkV stQ vs) ∧ vs.length = st.length ∧ st.length ≤ k ∧ Ran cols true (zs.drop k) st ∧ evL pairA cur next (zs.drop k) vs = [RES]
def EvVal66 (gs m M1 M2 cs' pm pM : Nat) (vx vy vz : Value) (k : Nat) : Value :=
  match k with
  | 66 => .slice (some ⟨gs, 0, none⟩) M2 cs'
  | 67 => .int .i64 (M2 : Int)
  | 68 => .int .i64 (m : Int)
  | 69 => .slice (some ⟨gs, 0, none⟩) m cs'
  | 70 => .slice (some ⟨gs, 0, none⟩) M2 cs'
  | 71 => .int .i64 (M2 : Int)
  | 72 => .int .i64 (m : Int)
  | 73 => .pointer (some ⟨gs, pm, none⟩)
  | 74 => vx
  | 75 => .slice (some ⟨gs, 0, none⟩) M2 cs'
  | 76 => .int .i64 (M2 : Int)
  | 77 => .int .i64 (M1 : Int)
  | 78 => .pointer (some ⟨gs, pM, none⟩)
  | 79 => vy
  | _ => vz
def EvVal85 (gs m M1 M2 cs' pm pM : Nat) (vx vy vz : Value) (k : Nat) : Value :=
  match k with
  | 85 => .slice (some ⟨gs, 0, none⟩) M2 cs'
  | 86 => .int .i64 (M2 : Int)
  | 87 => .int .i64 (m : Int)
  | 88 => .slice (some ⟨gs, 0, none⟩) m cs'
  | 89 => .slice (some ⟨gs, 0, none⟩) M2 cs'
  | 90 => .int .i64 (M2 : Int)
  | 91 => .int .i64 (m : Int)
  | 92 => .pointer (some ⟨gs, pm, none⟩)
  | 93 => vx
  | 94 => .slice (some ⟨gs, 0, none⟩) M2 cs'
  | 95 => .int .i64 (M2 : Int)
  | 96 => .int .i64 (M1 : Int)
  | 97 => .pointer (some ⟨gs, pM, none⟩)
  | 98 => vy
  | _ => vz
def EvVal104 (gs m M1 M2 cs' pm pM : Nat) (vx vy vz : Value) (k : Nat) : Value :=
  match k with
  | 104 => .slice (some ⟨gs, 0, none⟩) M2 cs'
  | 105 => .int .i64 (M2 : Int)
  | 106 => .int .i64 (m : Int)
  | 107 => .slice (some ⟨gs, 0, none⟩) m cs'
  | 108 => .slice (some ⟨gs, 0, none⟩) M2 cs'
  | 109 => .int .i64 (M2 : Int)
  | 110 => .int .i64 (m : Int)
  | 111 => .pointer (some ⟨gs, pm, none⟩)
  | 112 => vx
  | 113 => .slice (some ⟨gs, 0, none⟩) M2 cs'
  | 114 => .int .i64 (M2 : Int)
  | 115 => .int .i64 (M1 : Int)
  | 116 => .pointer (some ⟨gs, pM, none⟩)
  | 117 => vy
  | _ => vz
set_option maxRecDepth 100000 in
set_option maxHeartbeats 8000000 in
theorem repairsR_is (a : Option Addr) (cap : Nat) (zs : List Opn) (b : Option Addr) (lenb capb : Nat) (cs : List (Int × Int)) (c : Option Addr) (lenc capc : Nat) (ds : List (Int × Int)) (cols : Int) (w : World) (hO : OpA w a zs.length zs) (hu : ∀ o ∈ zs, OkO o) (hz : EvOk zs cols)
    (hc : QRowA w b lenb cs) (hcu : ∀ n ∈ cs, U n.1 ∧ U n.2) (hlb : cols ≤ lenb) (hd : QRowA w c lenc ds) (hdu : ∀ n ∈ ds, U n.1 ∧ U n.2) (hlc : cols ≤ lenc) :
    Calls Try.prog 14 #[.slice a zs.length cap, .slice b lenb capb, .slice c lenc capc] w fun E w' => E = .returned (.agg #[.int .u64 (enc (evB pairA (rowQ cs) (rowQ ds) zs).a), .int .u64 (enc (evB pairA (rowQ cs) (rowQ ds) zs).b)]) ∧ Below w.heap.size w w' := by
  obtain ⟨i0, hi, hz0, hz1, hz2⟩ := info_parts infoQe
  obtain ⟨hrun, hl300⟩ := hz
  have hp0 : ∀ o ∈ zs, 0 ≤ o.2 := fun o ho => (hu o ho).2.1
  obtain ⟨cur, hcur⟩ : ∃ f, rowQ cs = f := ⟨_, rfl⟩
  obtain ⟨next, hnext⟩ : ∃ f, rowQ ds = f := ⟨_, rfl⟩
  have hone := ran_one pairA cur next hp0 hrun
  rw [hcur, hnext]
  obtain ⟨RES, hRES⟩ : ∃ r, evB pairA cur next zs = r := ⟨_, rfl⟩
  rw [hRES] at hone ⊢
  have HC := Lib.hid hO.2.2; have HCB := Lib.hid hc; have HCD := Lib.hid hd
  have HUC := Lib.hid hcu; have HUD := Lib.hid hdu; have HU := Lib.hid hu
  have HCUR := Lib.hid hcur; have HNEXT := Lib.hid hnext
  have HRUN := Lib.hid (show Ran cols true zs [] from hrun)
  have HONE := Lib.hid hone
  clear hO hu hc hcu hd hdu hcur hnext hRES hone hrun hp0
  go_enter Try.func14, Try.ntmps14
  go_upto_region 3 with fail
  obtain ⟨g6, hg6⟩ : ∃ g, w.heap.size = g := ⟨_, rfl⟩
  refine wp_gen (fun W => Below w.heap.size w W ∧ Var W w.heap.size 0 0) ⟨(Below.refl _ _).alloc (Nat.le_refl _) _, Var.new _ _ _ _⟩ ?_
  rintro w0 ⟨hB0, hV0⟩
  rw [hg6] at hV0
  have HV0 := Lib.hid hV0
  have HG6 := Lib.hid hg6
  simp only [hg6]
  have HB0 := Lib.hid hB0
  clear hB0 hV0 hg6
  go_loopw [7, 8] (EvRelQ w0 zs cols cur next RES) (fun _ i _ => zs.length - (intOf i).toNat)
  case atStart => exact ⟨0, [], [], Nat.zero_le _, rfl, Below.refl _ _, World.ownsRow_nil _ _ _ _, rfl, Nat.zero_le _, by rw [List.drop_zero]; exact HRUN.out, by rw [List.drop_zero]; exact HONE.out⟩
  case round =>
    clear HRUN HONE
    obtain ⟨k, vs, st, hk, rfl, hB, hown, hlen, hst, hrun, hres⟩ := hrel
    have HB := Lib.hid hB; have HO := Lib.hid hown
    by_cases hlt : k < zs.length
    · have hlt' : (k : Int) < (zs.length : Int) := by omega
      have hk0 : (0 : Int) ≤ (k : Int) := by omega
      rw [drop_at hlt] at hrun hres
      have hok : OkO (zs.getD k (0, 0)) := by
        have e : zs.getD k (0, 0) = zs[k] := by simp [List.getD, hlt]
        rw [e]
        exact HU.out _ (List.getElem_mem hlt)
      obtain ⟨bz, offz, rfl, u0, u1⟩ := HC.out k hlt
      replace u0 := bkeep (bthen HB0.out hB) u0; replace u1 := bkeep (bthen HB0.out hB) u1
      obtain ⟨rest, hrest⟩ : ∃ r, zs.drop (k + 1) = r := ⟨_, rfl⟩
      rw [hrest] at hrun hres
      have HREST := Lib.hid hrest
      clear hrest hown
      generalize zs.getD k (0, 0) = o at *
      obtain ⟨kd, nn⟩ := o
      dsimp only at u0 u1
      obtain ⟨st', hps, hst0, hrun', hright⟩ := ran_step hrun
      have hst' : st'.length ≤ k + 1 := by omega
      have hk6 := right_kind hright
      dsimp only at hk6
      have HR := Lib.hid (show Ran cols true (zs.drop (k + 1)) st' by rw [HREST.out]; exact hrun')
      have hn0 : 0 ≤ nn := hok.2.1
      have hnU : U nn := hok.2
      have HL16 := Lib.hid hst'
      have HRES := Lib.hid hres
      have HOK := Lib.hid hright
      obtain ⟨mm, rfl⟩ : ∃ m : Nat, nn = (m : Int) := ⟨nn.toNat, by omega⟩
      clear hrun hrun' hst' hst0 hok hres hright
      by_cases hk1 : kd = 1
      · subst hk1
        obtain ⟨hcol, e⟩ := push_col_inv1 hps
        subst e
        have hml : mm < lenb := by omega
        have hmI : (mm : Int) < (lenb : Int) := by omega
        obtain ⟨bc, offc, rfl, x0, x1⟩ := HCB.out.2.2 mm hml
        replace x0 := bkeep (bthen HB0.out HB.out) x0; replace x1 := bkeep (bthen HB0.out HB.out) x1
        have hxU : U (cs.getD mm (0, 0)).1 ∧ U (cs.getD mm (0, 0)).2 := by
          have e : cs.getD mm (0, 0) = cs[mm]'(by rw [HCB.out.1]; exact hml) := by simp [List.getD, show mm < cs.length by rw [HCB.out.1]; exact hml]
          rw [e]
          exact HUC.out _ (List.getElem_mem _)
        obtain ⟨x, hx⟩ : ∃ x, cur mm = x := ⟨_, rfl⟩
        have hrep : Rep (cs.getD mm (0, 0)).1 (cs.getD mm (0, 0)).2 x := by
          rw [← hx, ← HCUR.out]
          exact rep_raw hxU.1 hxU.2
        generalize cs.getD mm (0, 0) = xx at *
        obtain ⟨xx0, xx1⟩ := xx
        dsimp only at x0 x1 hrep hxU
        have kz := fun W => radd_q xx0 xx1 0 0 x 0 x hrep rep_zero (F2.add_zero x) W
        have HV : Hid (evL pairA cur next (zs.drop (k + 1)) (x :: vs) = [RES]) := Lib.hid (by
          have := HRES.out
          rw [evL, ev1_cur pairA cur next rfl] at this
          rw [HREST.out, ← hx]
          exact this)
        have HLEN : Hid ((x :: vs).length = (1 :: st).length) := Lib.hid (by rw [List.length_cons, List.length_cons, hlen])
        have hvl : vs.length ≤ 300 := by omega
        clear hlen hst
        obtain ⟨aS, cS, rfl⟩ := own_form HO.out
        obtain ⟨FL, hFL⟩ : ∃ fl, stkV stQ vs = fl := ⟨_, rfl⟩
        have hown0 := HO.out
        rw [hFL] at hown0
        have HFL := Lib.hid hFL
        clear hFL
        go_upto_region 4 with (first | (go_at_call 21; (with_reducible refine (kz _).mono ?_); rintro e w2 ⟨rfl, hb⟩; replace HB := Lib.hid (bthen HB.out hb); have hown := own_keep hown0 hb; have hsz0 := HB.out.size; clear hb) | (at_builtin; refine wpList_append_own _ rfl _ _ 23 rfl w0.heap.size 29 i0 (.agg #[.int .u64 0, .int .u64 0]) 2 16 Try.underlying23 hi hz0 hz1 hz2 rfl (by decide) _ _ _ rfl (hown.alloc _) ⟨w2.heap.size, 0, none⟩ 1 1 [(.int .u64 (enc x.a)), (.int .u64 (enc x.b))] rfl rfl (two_src (by simp [go_sem]) (by simp [go_sem])) (by first | rfl | (intro u hu; simp at hu; rcases hu with rfl | rfl <;> rfl)) (by unfold maxLen; omega) (by omega) (by first | omega | (simp; omega)) ?_))
        intro v' w3 hown' hgrow _
        have hb3 := own_row_below (hown.alloc (.cells #[(.int .u64 (enc x.a)), (.int .u64 (enc x.b))] 29)) (HB.out.alloc HB.out.size _) hgrow (Nat.le_refl _) (by simp; omega)
        have q3 : w3.ownsRow w0.heap.size 29 2 v' (x :: vs).length (stkV stQ (x :: vs)) := by rw [stkV_cons, HFL.out]; exact hown'
        have HB := Lib.hid hb3
        have HO := Lib.hid q3
        clear hb3 q3
        go_wp2_with fail
        go_roundw
        case rel => exact ⟨k + 1, x :: vs, 1 :: st, by omega, by go_num, HB.out, HO.out, HLEN.out, HL16.out, HR.out, HV.out⟩
        case measure => simp [intOf]; omega
      by_cases hk2 : kd = 2
      · subst hk2
        obtain ⟨hcol, e⟩ := push_col_inv2 hps
        subst e
        have hml : mm < lenc := by omega
        have hmI : (mm : Int) < (lenc : Int) := by omega
        obtain ⟨bc, offc, rfl, x0, x1⟩ := HCD.out.2.2 mm hml
        replace x0 := bkeep (bthen HB0.out HB.out) x0; replace x1 := bkeep (bthen HB0.out HB.out) x1
        have hxU : U (ds.getD mm (0, 0)).1 ∧ U (ds.getD mm (0, 0)).2 := by
          have e : ds.getD mm (0, 0) = ds[mm]'(by rw [HCD.out.1]; exact hml) := by simp [List.getD, show mm < ds.length by rw [HCD.out.1]; exact hml]
          rw [e]
          exact HUD.out _ (List.getElem_mem _)
        obtain ⟨x, hx⟩ : ∃ x, next mm = x := ⟨_, rfl⟩
        have hrep : Rep (ds.getD mm (0, 0)).1 (ds.getD mm (0, 0)).2 x := by
          rw [← hx, ← HNEXT.out]
          exact rep_raw hxU.1 hxU.2
        generalize ds.getD mm (0, 0) = xx at *
        obtain ⟨xx0, xx1⟩ := xx
        dsimp only at x0 x1 hrep hxU
        have kz := fun W => radd_q xx0 xx1 0 0 x 0 x hrep rep_zero (F2.add_zero x) W
        have HV : Hid (evL pairA cur next (zs.drop (k + 1)) (x :: vs) = [RES]) := Lib.hid (by
          have := HRES.out
          rw [evL, ev1_next pairA cur next rfl] at this
          rw [HREST.out, ← hx]
          exact this)
        have HLEN : Hid ((x :: vs).length = (1 :: st).length) := Lib.hid (by rw [List.length_cons, List.length_cons, hlen])
        have hvl : vs.length ≤ 300 := by omega
        clear hlen hst
        obtain ⟨aS, cS, rfl⟩ := own_form HO.out
        obtain ⟨FL, hFL⟩ : ∃ fl, stkV stQ vs = fl := ⟨_, rfl⟩
        have hown0 := HO.out
        rw [hFL] at hown0
        have HFL := Lib.hid hFL
        clear hFL
        go_upto_region 4 with (first | (go_at_call 21; (with_reducible refine (kz _).mono ?_); rintro e w2 ⟨rfl, hb⟩; replace HB := Lib.hid (bthen HB.out hb); have hown := own_keep hown0 hb; have hsz0 := HB.out.size; clear hb) | (at_builtin; refine wpList_append_own _ rfl _ _ 23 rfl w0.heap.size 29 i0 (.agg #[.int .u64 0, .int .u64 0]) 2 16 Try.underlying23 hi hz0 hz1 hz2 rfl (by decide) _ _ _ rfl (hown.alloc _) ⟨w2.heap.size, 0, none⟩ 1 1 [(.int .u64 (enc x.a)), (.int .u64 (enc x.b))] rfl rfl (two_src (by simp [go_sem]) (by simp [go_sem])) (by first | rfl | (intro u hu; simp at hu; rcases hu with rfl | rfl <;> rfl)) (by unfold maxLen; omega) (by omega) (by first | omega | (simp; omega)) ?_))
        intro v' w3 hown' hgrow _
        have hb3 := own_row_below (hown.alloc (.cells #[(.int .u64 (enc x.a)), (.int .u64 (enc x.b))] 29)) (HB.out.alloc HB.out.size _) hgrow (Nat.le_refl _) (by simp; omega)
        have q3 : w3.ownsRow w0.heap.size 29 2 v' (x :: vs).length (stkV stQ (x :: vs)) := by rw [stkV_cons, HFL.out]; exact hown'
        have HB := Lib.hid hb3
        have HO := Lib.hid q3
        clear hb3 q3
        go_wp2_with fail
        go_roundw
        case rel => exact ⟨k + 1, x :: vs, 1 :: st, by omega, by go_num, HB.out, HO.out, HLEN.out, HL16.out, HR.out, HV.out⟩
        case measure => simp [intOf]; omega
      by_cases hk3 : kd = 3
      · subst hk3
        obtain rfl := push_const_inv hps
        obtain ⟨x, hx⟩ : ∃ x, lift (toF (mm : Int)) = x := ⟨_, rfl⟩
        have kz := fun W => rlift_q (mm : Int) x hnU hx W
        have HV : Hid (evL pairA cur next (zs.drop (k + 1)) (x :: vs) = [RES]) := Lib.hid (by
          have := HRES.out
          rw [evL, ev1_cst pairA cur next rfl] at this
          rw [HREST.out, ← hx]
          exact this)
        have HLEN : Hid ((x :: vs).length = (0 :: st).length) := Lib.hid (by rw [List.length_cons, List.length_cons, hlen])
        have hvl : vs.length ≤ 300 := by omega
        clear hlen hst
        obtain ⟨aS, cS, rfl⟩ := own_form HO.out
        obtain ⟨FL, hFL⟩ : ∃ fl, stkV stQ vs = fl := ⟨_, rfl⟩
        have hown0 := HO.out
        rw [hFL] at hown0
        have HFL := Lib.hid hFL
        clear hFL
        go_upto_region 4 with (first | (go_at_call 15; (with_reducible refine (kz _).mono ?_); rintro e w2 ⟨rfl, hb⟩; replace HB := Lib.hid (bthen HB.out hb); have hown := own_keep hown0 hb; have hsz0 := HB.out.size; clear hb) | (at_builtin; refine wpList_append_own _ rfl _ _ 23 rfl w0.heap.size 29 i0 (.agg #[.int .u64 0, .int .u64 0]) 2 16 Try.underlying23 hi hz0 hz1 hz2 rfl (by decide) _ _ _ rfl (hown.alloc _) ⟨w2.heap.size, 0, none⟩ 1 1 [(.int .u64 (enc x.a)), (.int .u64 (enc x.b))] rfl rfl (two_src (by simp [go_sem]) (by simp [go_sem])) (by first | rfl | (intro u hu; simp at hu; rcases hu with rfl | rfl <;> rfl)) (by unfold maxLen; omega) (by omega) (by first | omega | (simp; omega)) ?_))
        intro v' w3 hown' hgrow _
        have hb3 := own_row_below (hown.alloc (.cells #[(.int .u64 (enc x.a)), (.int .u64 (enc x.b))] 29)) (HB.out.alloc HB.out.size _) hgrow (Nat.le_refl _) (by simp; omega)
        have q3 : w3.ownsRow w0.heap.size 29 2 v' (x :: vs).length (stkV stQ (x :: vs)) := by rw [stkV_cons, HFL.out]; exact hown'
        have HB := Lib.hid hb3
        have HO := Lib.hid q3
        clear hb3 q3
        go_wp2_with fail
        go_roundw
        case rel => exact ⟨k + 1, x :: vs, 0 :: st, by omega, by go_num, HB.out, HO.out, HLEN.out, HL16.out, HR.out, HV.out⟩
        case measure => simp [intOf]; omega
      obtain ⟨da, db, rs, rfl, rfl⟩ := push_two_inv hps hk1 hk2 hk3
      obtain ⟨y, x, r, rfl⟩ : ∃ y x r, vs = y :: x :: r := by
        match vs, hlen with
        | y :: x :: r, _ => exact ⟨y, x, r, rfl⟩
        | [_], h => cases h
        | [], h => cases h
      have hlr : r.length + 1 + 1 ≤ 300 := by
        have e := hlen
        have e2 := hst
        simp only [List.length_cons] at e e2
        omega
      have hrl : r.length = rs.length := by simpa using hlen
      have hkd : kd = 4 ∨ kd = 5 ∨ kd = 6 := by omega
      obtain ⟨M2, hM2⟩ : ∃ M2, r.length + 1 + 1 = M2 := ⟨_, rfl⟩
      have hv1 : IntKind.i64.wrap ((M2 : Int) - 1) = ((r.length + 1 : Nat) : Int) := by rw [IntWalk.i64_in _ (by omega)]; omega
      have hv2 : wrap64 ((M2 : Int) - 1) = ((r.length + 1 : Nat) : Int) := by rw [IntWalk.wrap64_in _ (by omega)]; omega
      have hv3 : IntKind.i64.wrap ((M2 : Int) - 2) = (r.length : Int) := by rw [IntWalk.i64_in _ (by omega)]; omega
      have hv4 : wrap64 ((M2 : Int) - 2) = (r.length : Int) := by rw [IntWalk.wrap64_in _ (by omega)]; omega
      obtain ⟨M1, hM1⟩ : ∃ M1, r.length + 1 = M1 := ⟨_, rfl⟩
      rw [hM1] at hv1 hv2
      have hl2 : (M1 : Int) < (M2 : Int) := by omega
      have hl3 : (r.length : Int) < (M2 : Int) := by omega
      have hl4 : (r.length : Int) ≤ (M2 : Int) := by omega
      have hl5 : (0 : Int) ≤ (M1 : Int) := by omega
      have hl6 : (0 : Int) ≤ (r.length : Int) := by omega
      obtain ⟨gs, cs', hu7, hcs, hcsm, hcx, hcy, hcut⟩ := stk_two stQ_len HO.out
      rw [hM2] at hu7 hcs
      subst hu7
      have hrM : r.length ≤ cs' := by omega
      have HLEN : Hid (∀ z : F2, (z :: r).length = (max da db :: rs).length ∧ (z :: r).length = ((da + db) :: rs).length) := Lib.hid fun z => by simp [hrl]
      have HCUT := Lib.hid hcut
      have hcx1 := hcx 1 (by decide); have hcy1 := hcy 1 (by decide)
      replace hcx := hcx 0 (by decide); replace hcy := hcy 0 (by decide)
      simp only [Nat.add_zero, hM1] at hcx hcy hcx1 hcy1
      replace hcx : wr.cell? ⟨gs, r.length * 2, none⟩ = some (.int .u64 (enc x.a)) := hcx
      replace hcx1 : wr.cell? ⟨gs, r.length * 2 + 1, none⟩ = some (.int .u64 (enc x.b)) := hcx1
      replace hcy : wr.cell? ⟨gs, M1 * 2, none⟩ = some (.int .u64 (enc y.a)) := hcy
      replace hcy1 : wr.cell? ⟨gs, M1 * 2 + 1, none⟩ = some (.int .u64 (enc y.b)) := hcy1
      have HCX := Lib.hid (And.intro hcx hcx1); have HCY := Lib.hid (And.intro hcy hcy1)
      clear hcx hcy hcx1 hcy1
      clear hcut HO hM1 hM2 hlen hst hrl
      rcases hkd with rfl | rfl | rfl
      · obtain ⟨z, hzz⟩ : ∃ z, x + y = z := ⟨_, rfl⟩
        have kc := fun W => qadd x y z hzz W
        have HV : Hid (evL pairA cur next (zs.drop (k + 1)) (z :: r) = [RES]) := Lib.hid (by
          have := HRES.out
          rw [evL, ev1_two pairA cur next (by simp) (by simp)] at this
          rw [HREST.out, ← hzz]
          exact this)
        clear hzz HRES hps
        go_upto_region 14 with fail
        have HBR := Lib.hid HB.out.size
        refine wp_lay [(66, []), (67, []), (68, [67]), (69, [66, 68]), (70, []), (71, []), (72, [71]), (73, [70, 72]), (74, [73]), (75, []), (76, []), (77, [76]), (78, [75, 77]), (79, [78]), (80, [74, 79]), (81, [80]), (82, [69, 81])]
          (StkOp w0 wr 29 2 74 79 80 81 82 7 r.length (stkV stQ r) [(.int .u64 (enc z.a)), (.int .u64 (enc z.b))] [66, 67, 68, 69, 70, 71, 72, 73, 74, 75, 76, 77, 78, 79, 80] (EvVal66 gs r.length M1 M2 cs' (r.length * 2) (M1 * 2) (.agg #[.int .u64 (enc x.a), .int .u64 (enc x.b)]) (.agg #[.int .u64 (enc y.a), .int .u64 (enc y.b)]) (.agg #[.int .u64 (enc z.a), .int .u64 (enc z.b)]))) (by kernel_rfl) (by kernel_rfl) (fun σ => StkOp.start (Below.refl _ _).drew σ) ?_ ?_
        · refine opsw_cons ?_ (opsw_cons ?_ (opsw_cons ?_ (opsw_cons ?_ (opsw_cons ?_ (opsw_cons ?_ (opsw_cons ?_ (opsw_cons ?_ (opsw_cons ?_ (opsw_cons ?_ (opsw_cons ?_ (opsw_cons ?_ (opsw_cons ?_ (opsw_cons ?_ (opsw_cons ?_ (opsw_cons ?_ (opsw_cons ?_ opsw_nil))))))))))))))))
          all_goals
            refine OpRunsW.any ?_
            intro Q0 D σ W K hW hd hn hK
            simp only [fill, List.map, Act.put, List.setIfInBounds_toArray, List.set_cons_zero, List.set_cons_succ] at hK ⊢
          · have HW := Lib.hid hW
            clear hW
            go_simp
            exact hK _ _ (HW.out.next (Below.refl _ _) (by decide) rfl)
          · have HW := Lib.hid hW
            clear hW
            go_simp
            exact hK _ _ (HW.out.next (Below.refl _ _) (by decide) rfl)
          · have h67 : σ 67 = (.int .i64 (M2 : Int)) := hW.sv 67 (by decide) (hn 67 (by decide))
            simp only [h67] at hK
            have HW := Lib.hid hW
            clear hW
            go_simp
            exact hK _ _ (HW.out.next (Below.refl _ _) (by decide) rfl)
          · have h66 : σ 66 = (.slice (some ⟨gs, 0, none⟩) M2 cs') := hW.sv 66 (by decide) (hn 66 (by decide))
            have h68 : σ 68 = (.int .i64 (r.length : Int)) := hW.sv 68 (by decide) (hn 68 (by decide))
            simp only [h66, h68] at hK
            have HW := Lib.hid hW
            clear hW
            go_simp
            exact hK _ _ (HW.out.next (Below.refl _ _) (by decide) rfl)
          · have HW := Lib.hid hW
            clear hW
            go_simp
            exact hK _ _ (HW.out.next (Below.refl _ _) (by decide) rfl)
          · have HW := Lib.hid hW
            clear hW
            go_simp
            exact hK _ _ (HW.out.next (Below.refl _ _) (by decide) rfl)
          · have h71 : σ 71 = (.int .i64 (M2 : Int)) := hW.sv 71 (by decide) (hn 71 (by decide))
            simp only [h71] at hK
            have HW := Lib.hid hW
            clear hW
            go_simp
            exact hK _ _ (HW.out.next (Below.refl _ _) (by decide) rfl)
          · have h70 : σ 70 = (.slice (some ⟨gs, 0, none⟩) M2 cs') := hW.sv 70 (by decide) (hn 70 (by decide))
            have h72 : σ 72 = (.int .i64 (r.length : Int)) := hW.sv 72 (by decide) (hn 72 (by decide))
            simp only [h70, h72] at hK
            have HW := Lib.hid hW
            clear hW
            go_simp
            exact hK _ _ (HW.out.next (Below.refl _ _) (by decide) rfl)
          · have h73 : σ 73 = (.pointer (some ⟨gs, (r.length * 2), none⟩)) := hW.sv 73 (by decide) (hn 73 (by decide))
            simp only [h73] at hK
            have hop := hW.opena hd
            have c0 := bkeep (hW.pre hop) HCX.out.1
            have c1 := bkeep (hW.pre hop) HCX.out.2
            have HW := Lib.hid hW
            clear hW
            go_simp
            exact hK _ _ (HW.out.next (Below.refl _ _) (by decide) rfl)
          · have HW := Lib.hid hW
            clear hW
            go_simp
            exact hK _ _ (HW.out.next (Below.refl _ _) (by decide) rfl)
          · have HW := Lib.hid hW
            clear hW
            go_simp
            exact hK _ _ (HW.out.next (Below.refl _ _) (by decide) rfl)
          · have h76 : σ 76 = (.int .i64 (M2 : Int)) := hW.sv 76 (by decide) (hn 76 (by decide))
            simp only [h76] at hK
            have HW := Lib.hid hW
            clear hW
            go_simp
            exact hK _ _ (HW.out.next (Below.refl _ _) (by decide) rfl)
          · have h75 : σ 75 = (.slice (some ⟨gs, 0, none⟩) M2 cs') := hW.sv 75 (by decide) (hn 75 (by decide))
            have h77 : σ 77 = (.int .i64 (M1 : Int)) := hW.sv 77 (by decide) (hn 77 (by decide))
            simp only [h75, h77] at hK
            have HW := Lib.hid hW
            clear hW
            go_simp
            exact hK _ _ (HW.out.next (Below.refl _ _) (by decide) rfl)
          · have h78 : σ 78 = (.pointer (some ⟨gs, (M1 * 2), none⟩)) := hW.sv 78 (by decide) (hn 78 (by decide))
            simp only [h78] at hK
            have hop := hW.openl hd
            have c0 := bkeep (hW.pre hop) HCY.out.1
            have c1 := bkeep (hW.pre hop) HCY.out.2
            have HW := Lib.hid hW
            clear hW
            go_simp
            exact hK _ _ (HW.out.next (Below.refl _ _) (by decide) rfl)
          · have h74 : σ 74 = ((.agg #[.int .u64 (enc x.a), .int .u64 (enc x.b)])) := hW.sv 74 (by decide) (hn 74 (by decide))
            have h79 : σ 79 = ((.agg #[.int .u64 (enc y.a), .int .u64 (enc y.b)])) := hW.sv 79 (by decide) (hn 79 (by decide))
            simp only [h74, h79] at hK
            have hA := hn 74 (by decide)
            have hL := hn 79 (by decide)
            have HH := Lib.hid (And.intro hd (And.intro hA hL))
            have HW := Lib.hid hW
            clear hW hd hA hL
            go_simp
            go_at_call 21
            refine (kc _).mono ?_
            rintro e w2 ⟨rfl, hb⟩
            exact hK _ _ (HW.out.call HH.out.1 HH.out.2.1 HH.out.2.2 hb (by decide) rfl)
          · have h80 : σ 80 = ((.agg #[.int .u64 (enc z.a), .int .u64 (enc z.b)])) := hW.sv 80 (by decide) (hn 80 (by decide))
            simp only [h80] at hK
            have HH := Lib.hid (And.intro hd (hn 80 (by decide)))
            have HW := Lib.hid hW
            clear hW hd
            go_simp
            exact hK _ _ (HW.out.build HH.out.1 HH.out.2 ((Below.refl _ _).alloc (Nat.le_refl _) _) (by decide) (by decide) (two_src (by simp [go_sem]) (by simp [go_sem])))
          · have hsb := hn 81 (by decide)
            obtain ⟨gl, hl, hcell⟩ := hW.li hd hsb
            have h69 : σ 69 = (.slice (some ⟨gs, 0, none⟩) r.length cs') := hW.sv 69 (by decide) (hn 69 (by decide))
            have hpre := hW.pre hd
            have hown := own_keep HCUT.out hpre
            have hBW := bthen HB.out hpre
            rw [if_pos (by rfl)]
            refine wp_append_at3 (.tmp 69) (.tmp 81) 23 (by rfl) w0.heap.size 29 i0 (.agg #[.int .u64 0, .int .u64 0]) 2 16 Try.underlying23 hi hz0 hz1 hz2 rfl (by decide) (.slice (some ⟨gs, 0, none⟩) r.length cs') r.length (stkV stQ r) (by exact h69) hown (some ⟨gl, 0, none⟩) 1 1 [(.int .u64 (enc z.a)), (.int .u64 (enc z.b))] (by exact hl) rfl (fun h => by cases h) (fun h => by cases h) (by rintro ad e; cases e; exact hcell) (by intro u hu; simp at hu; rcases hu with rfl | rfl <;> rfl) (by unfold maxLen; omega) (by omega) hBW.size ?_
            intro v' w' q1 q2 q3
            exact hK _ _ (hW.app hd hsb (by decide) (by decide) q1 (own_row_below hown hBW q2 (Nat.le_refl _) hBW.size))
        · intro D σ W hW hD
          obtain ⟨hq1, hq2⟩ := hW.post (hD 82 (by decide))
          have q3 : W.ownsRow w0.heap.size 29 2 (σ 82) (z :: r).length (stkV stQ (z :: r)) := by rw [stkV_cons]; exact hq1
          have hb3 := hq2
          obtain ⟨s7, hs7⟩ : ∃ v, σ 82 = v := ⟨_, rfl⟩
          rw [hs7] at q3
          obtain ⟨as7, cs7, rfl⟩ := own_form q3
          clear hW hD hq1 hq2 HCX HCY HCUT kc
          simp only [fill, List.map, Act.put, List.setIfInBounds_toArray, List.set_cons_zero, List.set_cons_succ, List.length_cons, List.length_nil, List.drop_succ_cons, List.drop_zero, Nat.reduceAdd, hs7]
          clear hs7
          have HB := Lib.hid hb3
          have HO := Lib.hid q3
          clear hb3 q3
          go_wp2_with fail
          go_roundw
          case rel => exact ⟨k + 1, z :: r, max da db :: rs, by omega, by go_num, HB.out, HO.out, (HLEN.out z).1, HL16.out, HR.out, HV.out⟩
          case measure => simp [intOf]; omega
      · obtain ⟨z, hzz⟩ : ∃ z, x - y = z := ⟨_, rfl⟩
        have kc := fun W => qsub x y z hzz W
        have HV : Hid (evL pairA cur next (zs.drop (k + 1)) (z :: r) = [RES]) := Lib.hid (by
          have := HRES.out
          rw [evL, ev1_two pairA cur next (by simp) (by simp)] at this
          rw [HREST.out, ← hzz]
          exact this)
        clear hzz HRES hps
        go_upto_region 16 with fail
        have HBR := Lib.hid HB.out.size
        refine wp_lay [(85, []), (86, []), (87, [86]), (88, [85, 87]), (89, []), (90, []), (91, [90]), (92, [89, 91]), (93, [92]), (94, []), (95, []), (96, [95]), (97, [94, 96]), (98, [97]), (99, [93, 98]), (100, [99]), (101, [88, 100])]
          (StkOp w0 wr 29 2 93 98 99 100 101 7 r.length (stkV stQ r) [(.int .u64 (enc z.a)), (.int .u64 (enc z.b))] [85, 86, 87, 88, 89, 90, 91, 92, 93, 94, 95, 96, 97, 98, 99] (EvVal85 gs r.length M1 M2 cs' (r.length * 2) (M1 * 2) (.agg #[.int .u64 (enc x.a), .int .u64 (enc x.b)]) (.agg #[.int .u64 (enc y.a), .int .u64 (enc y.b)]) (.agg #[.int .u64 (enc z.a), .int .u64 (enc z.b)]))) (by kernel_rfl) (by kernel_rfl) (fun σ => StkOp.start (Below.refl _ _).drew σ) ?_ ?_
        · refine opsw_cons ?_ (opsw_cons ?_ (opsw_cons ?_ (opsw_cons ?_ (opsw_cons ?_ (opsw_cons ?_ (opsw_cons ?_ (opsw_cons ?_ (opsw_cons ?_ (opsw_cons ?_ (opsw_cons ?_ (opsw_cons ?_ (opsw_cons ?_ (opsw_cons ?_ (opsw_cons ?_ (opsw_cons ?_ (opsw_cons ?_ opsw_nil))))))))))))))))
          all_goals
            refine OpRunsW.any ?_
            intro Q0 D σ W K hW hd hn hK
            simp only [fill, List.map, Act.put, List.setIfInBounds_toArray, List.set_cons_zero, List.set_cons_succ] at hK ⊢
          · have HW := Lib.hid hW
            clear hW
            go_simp
            exact hK _ _ (HW.out.next (Below.refl _ _) (by decide) rfl)
          · have HW := Lib.hid hW
            clear hW
            go_simp
            exact hK _ _ (HW.out.next (Below.refl _ _) (by decide) rfl)
          · have h86 : σ 86 = (.int .i64 (M2 : Int)) := hW.sv 86 (by decide) (hn 86 (by decide))
            simp only [h86] at hK
            have HW := Lib.hid hW
            clear hW
            go_simp
            exact hK _ _ (HW.out.next (Below.refl _ _) (by decide) rfl)
          · have h85 : σ 85 = (.slice (some ⟨gs, 0, none⟩) M2 cs') := hW.sv 85 (by decide) (hn 85 (by decide))
            have h87 : σ 87 = (.int .i64 (r.length : Int)) := hW.sv 87 (by decide) (hn 87 (by decide))
            simp only [h85, h87] at hK
            have HW := Lib.hid hW
            clear hW
            go_simp
            exact hK _ _ (HW.out.next (Below.refl _ _) (by decide) rfl)
          · have HW := Lib.hid hW
            clear hW
            go_simp
            exact hK _ _ (HW.out.next (Below.refl _ _) (by decide) rfl)
          · have HW := Lib.hid hW
            clear hW
            go_simp
            exact hK _ _ (HW.out.next (Below.refl _ _) (by decide) rfl)
          · have h90 : σ 90 = (.int .i64 (M2 : Int)) := hW.sv 90 (by decide) (hn 90 (by decide))
            simp only [h90] at hK
            have HW := Lib.hid hW
            clear hW
            go_simp
            exact hK _ _ (HW.out.next (Below.refl _ _) (by decide) rfl)
          · have h89 : σ 89 = (.slice (some ⟨gs, 0, none⟩) M2 cs') := hW.sv 89 (by decide) (hn 89 (by decide))
            have h91 : σ 91 = (.int .i64 (r.length : Int)) := hW.sv 91 (by decide) (hn 91 (by decide))
            simp only [h89, h91] at hK
            have HW := Lib.hid hW
            clear hW
            go_simp
            exact hK _ _ (HW.out.next (Below.refl _ _) (by decide) rfl)
          · have h92 : σ 92 = (.pointer (some ⟨gs, (r.length * 2), none⟩)) := hW.sv 92 (by decide) (hn 92 (by decide))
            simp only [h92] at hK
            have hop := hW.opena hd
            have c0 := bkeep (hW.pre hop) HCX.out.1
            have c1 := bkeep (hW.pre hop) HCX.out.2
            have HW := Lib.hid hW
            clear hW
            go_simp
            exact hK _ _ (HW.out.next (Below.refl _ _) (by decide) rfl)
          · have HW := Lib.hid hW
            clear hW
            go_simp
            exact hK _ _ (HW.out.next (Below.refl _ _) (by decide) rfl)
          · have HW := Lib.hid hW
            clear hW
            go_simp
            exact hK _ _ (HW.out.next (Below.refl _ _) (by decide) rfl)
          · have h95 : σ 95 = (.int .i64 (M2 : Int)) := hW.sv 95 (by decide) (hn 95 (by decide))
            simp only [h95] at hK
            have HW := Lib.hid hW
            clear hW
            go_simp
            exact hK _ _ (HW.out.next (Below.refl _ _) (by decide) rfl)
          · have h94 : σ 94 = (.slice (some ⟨gs, 0, none⟩) M2 cs') := hW.sv 94 (by decide) (hn 94 (by decide))
            have h96 : σ 96 = (.int .i64 (M1 : Int)) := hW.sv 96 (by decide) (hn 96 (by decide))
            simp only [h94, h96] at hK
            have HW := Lib.hid hW
            clear hW
            go_simp
            exact hK _ _ (HW.out.next (Below.refl _ _) (by decide) rfl)
          · have h97 : σ 97 = (.pointer (some ⟨gs, (M1 * 2), none⟩)) := hW.sv 97 (by decide) (hn 97 (by decide))
            simp only [h97] at hK
            have hop := hW.openl hd
            have c0 := bkeep (hW.pre hop) HCY.out.1
            have c1 := bkeep (hW.pre hop) HCY.out.2
            have HW := Lib.hid hW
            clear hW
            go_simp
            exact hK _ _ (HW.out.next (Below.refl _ _) (by decide) rfl)
          · have h93 : σ 93 = ((.agg #[.int .u64 (enc x.a), .int .u64 (enc x.b)])) := hW.sv 93 (by decide) (hn 93 (by decide))
            have h98 : σ 98 = ((.agg #[.int .u64 (enc y.a), .int .u64 (enc y.b)])) := hW.sv 98 (by decide) (hn 98 (by decide))
            simp only [h93, h98] at hK
            have hA := hn 93 (by decide)
            have hL := hn 98 (by decide)
            have HH := Lib.hid (And.intro hd (And.intro hA hL))
            have HW := Lib.hid hW
            clear hW hd hA hL
            go_simp
            go_at_call 37
            refine (kc _).mono ?_
            rintro e w2 ⟨rfl, hb⟩
            exact hK _ _ (HW.out.call HH.out.1 HH.out.2.1 HH.out.2.2 hb (by decide) rfl)
          · have h99 : σ 99 = ((.agg #[.int .u64 (enc z.a), .int .u64 (enc z.b)])) := hW.sv 99 (by decide) (hn 99 (by decide))
            simp only [h99] at hK
            have HH := Lib.hid (And.intro hd (hn 99 (by decide)))
            have HW := Lib.hid hW
            clear hW hd
            go_simp
            exact hK _ _ (HW.out.build HH.out.1 HH.out.2 ((Below.refl _ _).alloc (Nat.le_refl _) _) (by decide) (by decide) (two_src (by simp [go_sem]) (by simp [go_sem])))
          · have hsb := hn 100 (by decide)
            obtain ⟨gl, hl, hcell⟩ := hW.li hd hsb
            have h88 : σ 88 = (.slice (some ⟨gs, 0, none⟩) r.length cs') := hW.sv 88 (by decide) (hn 88 (by decide))
            have hpre := hW.pre hd
            have hown := own_keep HCUT.out hpre
            have hBW := bthen HB.out hpre
            rw [if_pos (by rfl)]
            refine wp_append_at3 (.tmp 88) (.tmp 100) 23 (by rfl) w0.heap.size 29 i0 (.agg #[.int .u64 0, .int .u64 0]) 2 16 Try.underlying23 hi hz0 hz1 hz2 rfl (by decide) (.slice (some ⟨gs, 0, none⟩) r.length cs') r.length (stkV stQ r) (by exact h88) hown (some ⟨gl, 0, none⟩) 1 1 [(.int .u64 (enc z.a)), (.int .u64 (enc z.b))] (by exact hl) rfl (fun h => by cases h) (fun h => by cases h) (by rintro ad e; cases e; exact hcell) (by intro u hu; simp at hu; rcases hu with rfl | rfl <;> rfl) (by unfold maxLen; omega) (by omega) hBW.size ?_
            intro v' w' q1 q2 q3
            exact hK _ _ (hW.app hd hsb (by decide) (by decide) q1 (own_row_below hown hBW q2 (Nat.le_refl _) hBW.size))
        · intro D σ W hW hD
          obtain ⟨hq1, hq2⟩ := hW.post (hD 101 (by decide))
          have q3 : W.ownsRow w0.heap.size 29 2 (σ 101) (z :: r).length (stkV stQ (z :: r)) := by rw [stkV_cons]; exact hq1
          have hb3 := hq2
          obtain ⟨s7, hs7⟩ : ∃ v, σ 101 = v := ⟨_, rfl⟩
          rw [hs7] at q3
          obtain ⟨as7, cs7, rfl⟩ := own_form q3
          clear hW hD hq1 hq2 HCX HCY HCUT kc
          simp only [fill, List.map, Act.put, List.setIfInBounds_toArray, List.set_cons_zero, List.set_cons_succ, List.length_cons, List.length_nil, List.drop_succ_cons, List.drop_zero, Nat.reduceAdd, hs7]
          clear hs7
          have HB := Lib.hid hb3
          have HO := Lib.hid q3
          clear hb3 q3
          go_wp2_with fail
          go_roundw
          case rel => exact ⟨k + 1, z :: r, max da db :: rs, by omega, by go_num, HB.out, HO.out, (HLEN.out z).1, HL16.out, HR.out, HV.out⟩
          case measure => simp [intOf]; omega
      · obtain ⟨z, hzz⟩ : ∃ z, x * y = z := ⟨_, rfl⟩
        have kc := fun W => qmul x y z hzz W
        have HV : Hid (evL pairA cur next (zs.drop (k + 1)) (z :: r) = [RES]) := Lib.hid (by
          have := HRES.out
          rw [evL, ev1_two pairA cur next (by simp) (by simp)] at this
          rw [HREST.out, ← hzz]
          exact this)
        clear hzz HRES hps
        go_upto_region 18 with fail
        have HBR := Lib.hid HB.out.size
        refine wp_lay [(104, []), (105, []), (106, [105]), (107, [104, 106]), (108, []), (109, []), (110, [109]), (111, [108, 110]), (112, [111]), (113, []), (114, []), (115, [114]), (116, [113, 115]), (117, [116]), (118, [112, 117]), (119, [118]), (120, [107, 119])]
          (StkOp w0 wr 29 2 112 117 118 119 120 7 r.length (stkV stQ r) [(.int .u64 (enc z.a)), (.int .u64 (enc z.b))] [104, 105, 106, 107, 108, 109, 110, 111, 112, 113, 114, 115, 116, 117, 118] (EvVal104 gs r.length M1 M2 cs' (r.length * 2) (M1 * 2) (.agg #[.int .u64 (enc x.a), .int .u64 (enc x.b)]) (.agg #[.int .u64 (enc y.a), .int .u64 (enc y.b)]) (.agg #[.int .u64 (enc z.a), .int .u64 (enc z.b)]))) (by kernel_rfl) (by kernel_rfl) (fun σ => StkOp.start (Below.refl _ _).drew σ) ?_ ?_
        · refine opsw_cons ?_ (opsw_cons ?_ (opsw_cons ?_ (opsw_cons ?_ (opsw_cons ?_ (opsw_cons ?_ (opsw_cons ?_ (opsw_cons ?_ (opsw_cons ?_ (opsw_cons ?_ (opsw_cons ?_ (opsw_cons ?_ (opsw_cons ?_ (opsw_cons ?_ (opsw_cons ?_ (opsw_cons ?_ (opsw_cons ?_ opsw_nil))))))))))))))))
          all_goals
            refine OpRunsW.any ?_
            intro Q0 D σ W K hW hd hn hK
            simp only [fill, List.map, Act.put, List.setIfInBounds_toArray, List.set_cons_zero, List.set_cons_succ] at hK ⊢
          · have HW := Lib.hid hW
            clear hW
            go_simp
            exact hK _ _ (HW.out.next (Below.refl _ _) (by decide) rfl)
          · have HW := Lib.hid hW
            clear hW
            go_simp
            exact hK _ _ (HW.out.next (Below.refl _ _) (by decide) rfl)
          · have h105 : σ 105 = (.int .i64 (M2 : Int)) := hW.sv 105 (by decide) (hn 105 (by decide))
            simp only [h105] at hK
            have HW := Lib.hid hW
            clear hW
            go_simp
            exact hK _ _ (HW.out.next (Below.refl _ _) (by decide) rfl)
          · have h104 : σ 104 = (.slice (some ⟨gs, 0, none⟩) M2 cs') := hW.sv 104 (by decide) (hn 104 (by decide))
            have h106 : σ 106 = (.int .i64 (r.length : Int)) := hW.sv 106 (by decide) (hn 106 (by decide))
            simp only [h104, h106] at hK
            have HW := Lib.hid hW
            clear hW
            go_simp
            exact hK _ _ (HW.out.next (Below.refl _ _) (by decide) rfl)
          · have HW := Lib.hid hW
            clear hW
            go_simp
            exact hK _ _ (HW.out.next (Below.refl _ _) (by decide) rfl)
          · have HW := Lib.hid hW
            clear hW
            go_simp
            exact hK _ _ (HW.out.next (Below.refl _ _) (by decide) rfl)
          · have h109 : σ 109 = (.int .i64 (M2 : Int)) := hW.sv 109 (by decide) (hn 109 (by decide))
            simp only [h109] at hK
            have HW := Lib.hid hW
            clear hW
            go_simp
            exact hK _ _ (HW.out.next (Below.refl _ _) (by decide) rfl)
          · have h108 : σ 108 = (.slice (some ⟨gs, 0, none⟩) M2 cs') := hW.sv 108 (by decide) (hn 108 (by decide))
            have h110 : σ 110 = (.int .i64 (r.length : Int)) := hW.sv 110 (by decide) (hn 110 (by decide))
            simp only [h108, h110] at hK
            have HW := Lib.hid hW
            clear hW
            go_simp
            exact hK _ _ (HW.out.next (Below.refl _ _) (by decide) rfl)
          · have h111 : σ 111 = (.pointer (some ⟨gs, (r.length * 2), none⟩)) := hW.sv 111 (by decide) (hn 111 (by decide))
            simp only [h111] at hK
            have hop := hW.opena hd
            have c0 := bkeep (hW.pre hop) HCX.out.1
            have c1 := bkeep (hW.pre hop) HCX.out.2
            have HW := Lib.hid hW
            clear hW
            go_simp
            exact hK _ _ (HW.out.next (Below.refl _ _) (by decide) rfl)
          · have HW := Lib.hid hW
            clear hW
            go_simp
            exact hK _ _ (HW.out.next (Below.refl _ _) (by decide) rfl)
          · have HW := Lib.hid hW
            clear hW
            go_simp
            exact hK _ _ (HW.out.next (Below.refl _ _) (by decide) rfl)
          · have h114 : σ 114 = (.int .i64 (M2 : Int)) := hW.sv 114 (by decide) (hn 114 (by decide))
            simp only [h114] at hK
            have HW := Lib.hid hW
            clear hW
            go_simp
            exact hK _ _ (HW.out.next (Below.refl _ _) (by decide) rfl)
          · have h113 : σ 113 = (.slice (some ⟨gs, 0, none⟩) M2 cs') := hW.sv 113 (by decide) (hn 113 (by decide))
            have h115 : σ 115 = (.int .i64 (M1 : Int)) := hW.sv 115 (by decide) (hn 115 (by decide))
            simp only [h113, h115] at hK
            have HW := Lib.hid hW
            clear hW
            go_simp
            exact hK _ _ (HW.out.next (Below.refl _ _) (by decide) rfl)
          · have h116 : σ 116 = (.pointer (some ⟨gs, (M1 * 2), none⟩)) := hW.sv 116 (by decide) (hn 116 (by decide))
            simp only [h116] at hK
            have hop := hW.openl hd
            have c0 := bkeep (hW.pre hop) HCY.out.1
            have c1 := bkeep (hW.pre hop) HCY.out.2
            have HW := Lib.hid hW
            clear hW
            go_simp
            exact hK _ _ (HW.out.next (Below.refl _ _) (by decide) rfl)
          · have h112 : σ 112 = ((.agg #[.int .u64 (enc x.a), .int .u64 (enc x.b)])) := hW.sv 112 (by decide) (hn 112 (by decide))
            have h117 : σ 117 = ((.agg #[.int .u64 (enc y.a), .int .u64 (enc y.b)])) := hW.sv 117 (by decide) (hn 117 (by decide))
            simp only [h112, h117] at hK
            have hA := hn 112 (by decide)
            have hL := hn 117 (by decide)
            have HH := Lib.hid (And.intro hd (And.intro hA hL))
            have HW := Lib.hid hW
            clear hW hd hA hL
            go_simp
            go_at_call 22
            refine (kc _).mono ?_
            rintro e w2 ⟨rfl, hb⟩
            exact hK _ _ (HW.out.call HH.out.1 HH.out.2.1 HH.out.2.2 hb (by decide) rfl)
          · have h118 : σ 118 = ((.agg #[.int .u64 (enc z.a), .int .u64 (enc z.b)])) := hW.sv 118 (by decide) (hn 118 (by decide))
            simp only [h118] at hK
            have HH := Lib.hid (And.intro hd (hn 118 (by decide)))
            have HW := Lib.hid hW
            clear hW hd
            go_simp
            exact hK _ _ (HW.out.build HH.out.1 HH.out.2 ((Below.refl _ _).alloc (Nat.le_refl _) _) (by decide) (by decide) (two_src (by simp [go_sem]) (by simp [go_sem])))
          · have hsb := hn 119 (by decide)
            obtain ⟨gl, hl, hcell⟩ := hW.li hd hsb
            have h107 : σ 107 = (.slice (some ⟨gs, 0, none⟩) r.length cs') := hW.sv 107 (by decide) (hn 107 (by decide))
            have hpre := hW.pre hd
            have hown := own_keep HCUT.out hpre
            have hBW := bthen HB.out hpre
            rw [if_pos (by rfl)]
            refine wp_append_at3 (.tmp 107) (.tmp 119) 23 (by rfl) w0.heap.size 29 i0 (.agg #[.int .u64 0, .int .u64 0]) 2 16 Try.underlying23 hi hz0 hz1 hz2 rfl (by decide) (.slice (some ⟨gs, 0, none⟩) r.length cs') r.length (stkV stQ r) (by exact h107) hown (some ⟨gl, 0, none⟩) 1 1 [(.int .u64 (enc z.a)), (.int .u64 (enc z.b))] (by exact hl) rfl (fun h => by cases h) (fun h => by cases h) (by rintro ad e; cases e; exact hcell) (by intro u hu; simp at hu; rcases hu with rfl | rfl <;> rfl) (by unfold maxLen; omega) (by omega) hBW.size ?_
            intro v' w' q1 q2 q3
            exact hK _ _ (hW.app hd hsb (by decide) (by decide) q1 (own_row_below hown hBW q2 (Nat.le_refl _) hBW.size))
        · intro D σ W hW hD
          obtain ⟨hq1, hq2⟩ := hW.post (hD 120 (by decide))
          have q3 : W.ownsRow w0.heap.size 29 2 (σ 120) (z :: r).length (stkV stQ (z :: r)) := by rw [stkV_cons]; exact hq1
          have hb3 := hq2
          obtain ⟨s7, hs7⟩ : ∃ v, σ 120 = v := ⟨_, rfl⟩
          rw [hs7] at q3
          obtain ⟨as7, cs7, rfl⟩ := own_form q3
          clear hW hD hq1 hq2 HCX HCY HCUT kc
          simp only [fill, List.map, Act.put, List.setIfInBounds_toArray, List.set_cons_zero, List.set_cons_succ, List.length_cons, List.length_nil, List.drop_succ_cons, List.drop_zero, Nat.reduceAdd, hs7]
          clear hs7
          have HB := Lib.hid hb3
          have HO := Lib.hid q3
          clear hb3 q3
          go_wp2_with fail
          go_roundw
          case rel => exact ⟨k + 1, z :: r, (da + db) :: rs, by omega, by go_num, HB.out, HO.out, (HLEN.out z).2, HL16.out, HR.out, HV.out⟩
          case measure => simp [intOf]; omega
    · obtain rfl : k = zs.length := by omega
      rw [List.drop_length] at hres
      have hres : vs = [RES] := hres
      subst hres
      obtain ⟨g', cap', rfl, hcp, hcm, hcell⟩ := stk_one (r := []) stQ_len HO.out
      have htop := hcell 0 (by decide)
      have htop1 := hcell 1 (by decide)
      simp only [List.length_nil, Nat.zero_mul, Nat.add_zero, Nat.zero_add] at htop htop1
      replace htop : wr.cell? ⟨g', 0, none⟩ = some (.int .u64 (enc RES.a)) := htop
      replace htop1 : wr.cell? ⟨g', 1, none⟩ = some (.int .u64 (enc RES.b)) := htop1
      obtain ⟨v0, v1, f0, f1⟩ := HV0.out.keep hB
      have HBE := Lib.hid (bthen HB0.out hB)
      have HGL := Lib.hid (show w.heap.size ≤ g6 by rw [HG6.out]; exact Nat.le_refl _)
      clear hcell hB hown hst hlen hrun HO HB
      go_wp2_with fail
      exact bodyPost_ret (v := .agg #[.int .u64 (enc RES.a), .int .u64 (enc RES.b)]) (by simp [results, Try.results14, go_sem, v0, v1]) rfl ⟨rfl, (HBE.out.setCell HGL.out _).setCell HGL.out _⟩
/-- Of operations that may be. -/
theorem repairs_is (a : Option Addr) (cap : Nat) (zs : List Opn) (b : Option Addr) (lenb capb : Nat) (cs : List (Int × Int)) (c : Option Addr) (lenc capc : Nat) (ds : List (Int × Int)) (cols : Int) (d : Nat) (w : World) (hO : OpA w a zs.length zs) (hu : ∀ o ∈ zs, OkO o) (hz : checkB zs cols true = (d, 0))
    (hc : QRowA w b lenb cs) (hcu : ∀ n ∈ cs, U n.1 ∧ U n.2) (hlb : cols ≤ lenb) (hd : QRowA w c lenc ds) (hdu : ∀ n ∈ ds, U n.1 ∧ U n.2) (hlc : cols ≤ lenc) :
    Calls Try.prog 14 #[.slice a zs.length cap, .slice b lenb capb, .slice c lenc capc] w fun E w' => E = .returned (.agg #[.int .u64 (enc (evB pairA (rowQ cs) (rowQ ds) zs).a), .int .u64 (enc (evB pairA (rowQ cs) (rowQ ds) zs).b)]) ∧ Below w.heap.size w w' :=
  repairsR_is a cap zs b lenb capb cs c lenc capc ds cols w hO hu (checkB_evok hz) hc hcu hlb hd hdu hlc
end Go.Proofs.Ytlgfnlkblehlbaa
