/-
  What the document's At of layer 17 comes to. (Written by gen_evref.py.)
-/
import Derived.Test.YtjcgakmhpblanaaGEvalM
import Derived.Test.YtjcgakmhpblanaaGShape
import Derived.Test.YtjcgakmhpblanaaGRef
namespace Go.Proofs.Ytjcgakmhpblanaa
open Go Go.RowKit
set_option linter.unusedVariables false

abbrev stF (x : F) : List Value := [.int .u64 (enc x)]
theorem stF_len (x : F) : (stF x).length = 1 := rfl
abbrev stQ (x : F2) : List Value := [.int .u64 (enc x.a), .int .u64 (enc x.b)]
theorem stQ_len (x : F2) : (stQ x).length = 2 := rfl
def rowF (cs : List Int) (i : Nat) : F := toF (cs.getD i 0)
def rowQ (cs : List (Int × Int)) (i : Nat) : F2 := toQ (cs.getD i (0, 0))
theorem infoN : (Try.prog.info? 46).map (fun i => (i.zero, i.size, i.bytes)) = some (some (.int .u64 0), 1, 8) := by kernel_rfl
theorem push_inv {cols : Int} {nx : Bool} {o : Opn} {st st' : List Nat} (h : pushS cols nx o st = (0, st')) : rightO o = true ∧ (((o.1 = 1 ∨ o.1 = 2) ∧ o.2 < cols ∧ st' = 1 :: st) ∨ (o.1 = 3 ∧ st' = 0 :: st) ∨
    ∃ a b r, ¬ (o.1 = 1 ∨ o.1 = 2) ∧ o.1 ≠ 3 ∧ st = b :: a :: r ∧ st' = (if o.1 = 6 then a + b else max a b) :: r) := by
  have := pushS_ok (show (pushS cols nx o st).1 = 0 by rw [h])
  rw [h] at this
  exact ⟨this.1, this.2.2⟩
theorem push_col_inv1 {cols n : Int} {nx : Bool} {st st' : List Nat} (h : pushS cols nx (1, n) st = (0, st')) : n < cols ∧ st' = 1 :: st := by
  rcases (push_inv h).2 with ⟨_, h1, h2⟩ | ⟨h1, _⟩ | ⟨_, _, _, h1, _⟩
  · exact ⟨h1, h2⟩
  · cases h1
  · exact absurd (.inl rfl) h1
theorem push_col_inv2 {cols n : Int} {nx : Bool} {st st' : List Nat} (h : pushS cols nx (2, n) st = (0, st')) : n < cols ∧ st' = 1 :: st := by
  rcases (push_inv h).2 with ⟨_, h1, h2⟩ | ⟨h1, _⟩ | ⟨_, _, _, h1, _⟩
  · exact ⟨h1, h2⟩
  · cases h1
  · exact absurd (.inr rfl) h1
theorem push_const_inv {cols n : Int} {nx : Bool} {st st' : List Nat} (h : pushS cols nx (3, n) st = (0, st')) : st' = 0 :: st := by
  rcases (push_inv h).2 with ⟨h1, _⟩ | ⟨_, h1⟩ | ⟨_, _, _, _, h1, _⟩
  · rcases h1 with h1 | h1 <;> cases h1
  · exact h1
  · exact absurd rfl h1
theorem push_two_inv {cols k n : Int} {nx : Bool} {st st' : List Nat} (h : pushS cols nx (k, n) st = (0, st')) (h1 : ¬ k = 1) (h2 : ¬ k = 2) (h3 : ¬ k = 3) : ∃ a b r, st = b :: a :: r ∧ st' = (if k = 6 then a + b else max a b) :: r := by
  rcases (push_inv h).2 with ⟨c, _⟩ | ⟨c, _⟩ | ⟨a, b, r, _, _, e1, e2⟩
  · rcases c with c | c
    · exact absurd c h1
    · exact absurd c h2
  · exact absurd c h3
  · exact ⟨a, b, r, e1, e2⟩
theorem kadd (x y z : F) (h : x + y = z) (W : World) : Calls Try.prog 36 #[.int .u64 (enc x), .int .u64 (enc y)] W fun e w' => e = .returned (.int .u64 (enc z)) ∧ Below W.heap.size W w' :=
  (refadd_any (enc x) (enc y) (enc_U x) (enc_U y) W).mono fun _ _ q => ⟨by rw [q.1, toF_enc, toF_enc, h], q.2 ▸ Below.refl _ _⟩
theorem ksub (x y z : F) (h : x - y = z) (W : World) : Calls Try.prog 37 #[.int .u64 (enc x), .int .u64 (enc y)] W fun e w' => e = .returned (.int .u64 (enc z)) ∧ Below W.heap.size W w' :=
  (refsub_any (enc x) (enc y) (enc_U x) (enc_U y) W).mono fun _ _ q => ⟨by rw [q.1, toF_enc, toF_enc, h], q.2 ▸ Below.refl _ _⟩
theorem kmul (x y z : F) (h : x * y = z) (W : World) : Calls Try.prog 38 #[.int .u64 (enc x), .int .u64 (enc y)] W fun e w' => e = .returned (.int .u64 (enc z)) ∧ Below W.heap.size W w' :=
  ref_below ((refmul_any (enc x) (enc y) (enc_U x) (enc_U y) W).mono fun _ _ q => ⟨by rw [q.1, toF_enc, toF_enc, h], q.2⟩)
def EvRel (w0 : World) (zs : List Opn) (cols : Int) (cur next : Nat → F) (RES : F) (v i : Value) (W : World) : Prop :=
  ∃ (k : Nat) (vs : List F) (st : List Nat), k ≤ zs.length ∧ i = .int .i64 k ∧ Below w0.heap.size w0 W ∧ W.ownsRow w0.heap.size 46 1 v vs.length (stkV stF vs) ∧ vs.length = st.length ∧ st.length ≤ k ∧ Ran cols true (zs.drop k) st ∧ evL numA cur next (zs.drop k) vs = [RES]
def EvVal64 (gs m M1 M2 cs' pm pM : Nat) (vx vy vz : Value) (k : Nat) : Value :=
  match k with
  | 64 => .slice (some ⟨gs, 0, none⟩) M2 cs'
  | 65 => .int .i64 (M2 : Int)
  | 66 => .int .i64 (m : Int)
  | 67 => .slice (some ⟨gs, 0, none⟩) m cs'
  | 68 => .slice (some ⟨gs, 0, none⟩) M2 cs'
  | 69 => .int .i64 (M2 : Int)
  | 70 => .int .i64 (m : Int)
  | 71 => .pointer (some ⟨gs, pm, none⟩)
  | 72 => vx
  | 73 => .slice (some ⟨gs, 0, none⟩) M2 cs'
  | 74 => .int .i64 (M2 : Int)
  | 75 => .int .i64 (M1 : Int)
  | 76 => .pointer (some ⟨gs, pM, none⟩)
  | 77 => vy
  | _ => vz
def EvVal83 (gs m M1 M2 cs' pm pM : Nat) (vx vy vz : Value) (k : Nat) : Value :=
  match k with
  | 83 => .slice (some ⟨gs, 0, none⟩) M2 cs'
  | 84 => .int .i64 (M2 : Int)
  | 85 => .int .i64 (m : Int)
  | 86 => .slice (some ⟨gs, 0, none⟩) m cs'
  | 87 => .slice (some ⟨gs, 0, none⟩) M2 cs'
  | 88 => .int .i64 (M2 : Int)
  | 89 => .int .i64 (m : Int)
  | 90 => .pointer (some ⟨gs, pm, none⟩)
  | 91 => vx
  | 92 => .slice (some ⟨gs, 0, none⟩) M2 cs'
  | 93 => .int .i64 (M2 : Int)
  | 94 => .int .i64 (M1 : Int)
  | 95 => .pointer (some ⟨gs, pM, none⟩)
  | 96 => vy
  | _ => vz
def EvVal102 (gs m M1 M2 cs' pm pM : Nat) (vx vy vz : Value) (k : Nat) : Value :=
  match k with
  | 102 => .slice (some ⟨gs, 0, none⟩) M2 cs'
  | 103 => .int .i64 (M2 : Int)
  | 104 => .int .i64 (m : Int)
  | 105 => .slice (some ⟨gs, 0, none⟩) m cs'
  | 106 => .slice (some ⟨gs, 0, none⟩) M2 cs'
  | 107 => .int .i64 (M2 : Int)
  | 108 => .int .i64 (m : Int)
  | 109 => .pointer (some ⟨gs, pm, none⟩)
  | 110 => vx
  | 111 => .slice (some ⟨gs, 0, none⟩) M2 cs'
  | 112 => .int .i64 (M2 : Int)
  | 113 => .int .i64 (M1 : Int)
  | 114 => .pointer (some ⟨gs, pM, none⟩)
  | 115 => vy
  | _ => vz
set_option maxRecDepth 100000 in
set_option maxHeartbeats 8000000 in
theorem reatR_is (a : Option Addr) (cap : Nat) (zs : List Opn) (b : Option Addr) (lenb capb : Nat) (cs : List Int) (c : Option Addr) (lenc capc : Nat) (ds : List Int) (cols : Int) (w : World) (hO : OpA w a zs.length zs) (hu : ∀ o ∈ zs, OkO o) (hz : EvOk zs cols)
    (hc : RowA w b lenb cs) (hcu : ∀ n ∈ cs, U n) (hlb : cols ≤ lenb) (hd : RowA w c lenc ds) (hdu : ∀ n ∈ ds, U n) (hlc : cols ≤ lenc) :
    Calls Try.prog 21 #[.slice a zs.length cap, .slice b lenb capb, .slice c lenc capc] w fun E w' => E = .returned (.int .u64 (enc (evB numA (rowF cs) (rowF ds) zs))) ∧ Below w.heap.size w w' := by
  obtain ⟨i0, hi, hz0, hz1, hz2⟩ := info_parts infoN
  obtain ⟨hrun, hl300⟩ := hz
  have hp0 : ∀ o ∈ zs, 0 ≤ o.2 := fun o ho => (hu o ho).2.1
  obtain ⟨cur, hcur⟩ : ∃ f, rowF cs = f := ⟨_, rfl⟩
  obtain ⟨next, hnext⟩ : ∃ f, rowF ds = f := ⟨_, rfl⟩
  have hone := ran_one numA cur next hp0 hrun
  rw [hcur, hnext]
  obtain ⟨RES, hRES⟩ : ∃ r, evB numA cur next zs = r := ⟨_, rfl⟩
  rw [hRES] at hone ⊢
  have HC := Lib.hid hO.2.2; have HCB := Lib.hid hc; have HCD := Lib.hid hd
  have HUC := Lib.hid hcu; have HUD := Lib.hid hdu; have HU := Lib.hid hu
  have HCUR := Lib.hid hcur; have HNEXT := Lib.hid hnext
  have HRUN := Lib.hid (show Ran cols true zs [] from hrun)
  have HONE := Lib.hid hone
  clear hO hu hc hcu hd hdu hcur hnext hRES hone hrun hp0
  go_enter Try.func21, Try.ntmps21
  go_upto_region 3 with fail
  refine wp_gen (fun W => Below w.heap.size w W) (Below.refl _ _) ?_
  rintro w0 hB0
  have HB0 := Lib.hid hB0
  clear hB0
  go_loopw [7, 8] (EvRel w0 zs cols cur next RES) (fun _ i _ => zs.length - (intOf i).toNat)
  case atStart => exact ⟨0, [], [], Nat.zero_le _, rfl, Below.refl _ _, World.ownsRow_nil _ _ _ _, rfl, Nat.zero_le _, by rw [List.drop_zero]; exact HRUN.out, by rw [List.drop_zero]; exact HONE.out⟩
  case round =>
    clear HRUN HONE
    obtain ⟨k, vs, st, hk, rfl, hB, hown, hlen, hst, hrun, hres⟩ := hrel
    have HB := Lib.hid hB; have HO := Lib.hid hown
    by_cases hlt : k < zs.length
    · have hlt' : (k : Int) < (zs.length : Int) := by omega
      have hk0 : (0 : Int) ≤ (k : Int) := by omega
      rw [drop_at hlt] at hrun hres
      have hok : OkO (zs.getD k (0, 0)) := by
        have e : zs.getD k (0, 0) = zs[k] := by simp [List.getD, hlt]
        rw [e]
        exact HU.out _ (List.getElem_mem hlt)
      obtain ⟨bz, offz, rfl, u0, u1⟩ := HC.out k hlt
      replace u0 := bkeep (bthen HB0.out hB) u0; replace u1 := bkeep (bthen HB0.out hB) u1
      obtain ⟨rest, hrest⟩ : ∃ r, zs.drop (k + 1) = r := ⟨_, rfl⟩
      rw [hrest] at hrun hres
      have HREST := Lib.hid hrest
      clear hrest hown
      generalize zs.getD k (0, 0) = o at *
      obtain ⟨kd, nn⟩ := o
      dsimp only at u0 u1
      obtain ⟨st', hps, hst0, hrun', hright⟩ := ran_step hrun
      have hst' : st'.length ≤ k + 1 := by omega
      have hk6 := right_kind hright
      dsimp only at hk6
      have HR := Lib.hid (show Ran cols true (zs.drop (k + 1)) st' by rw [HREST.out]; exact hrun')
      have hn0 : 0 ≤ nn := hok.2.1
      have hnU : U nn := hok.2
      have HL16 := Lib.hid hst'
      have HRES := Lib.hid hres
      have HOK := Lib.hid hright
      obtain ⟨mm, rfl⟩ : ∃ m : Nat, nn = (m : Int) := ⟨nn.toNat, by omega⟩
      clear hrun hrun' hst' hst0 hok hres hright
      by_cases hk1 : kd = 1
      · subst hk1
        obtain ⟨hcol, e⟩ := push_col_inv1 hps
        subst e
        have hml : mm < lenb := by omega
        have hmI : (mm : Int) < (lenb : Int) := by omega
        obtain ⟨bc, offc, rfl, x0⟩ := HCB.out.2.2 mm hml
        replace x0 := bkeep (bthen HB0.out HB.out) x0
        have hxU : U (cs.getD mm 0) := by
          have e : cs.getD mm 0 = cs[mm]'(by rw [HCB.out.1]; exact hml) := by simp [List.getD, show mm < cs.length by rw [HCB.out.1]; exact hml]
          rw [e]
          exact HUC.out _ (List.getElem_mem _)
        have hxv : toF (cs.getD mm 0) = cur mm := by rw [← HCUR.out]; rfl
        have hrem := rem_toF _ hxU
        have hmod := mod_toF _ hxU
        rw [hxv] at hrem hmod
        generalize cs.getD mm 0 = xx at *
        obtain ⟨x, hx⟩ : ∃ x, cur mm = x := ⟨_, rfl⟩
        rw [hx] at hrem hmod
        have HV : Hid (evL numA cur next (zs.drop (k + 1)) (x :: vs) = [RES]) := Lib.hid (by
          have := HRES.out
          rw [evL, ev1_cur numA cur next rfl] at this
          rw [HREST.out, ← hx]
          exact this)
        have HLEN : Hid ((x :: vs).length = (1 :: st).length) := Lib.hid (by rw [List.length_cons, List.length_cons, hlen])
        have hvl : vs.length ≤ 300 := by omega
        clear hlen hst
        obtain ⟨aS, cS, rfl⟩ := own_form HO.out
        have hown := HO.out
        have hsz0 := HB.out.size
        obtain ⟨FL, hFL⟩ : ∃ fl, stkV stF vs = fl := ⟨_, rfl⟩
        rw [hFL] at hown
        have HFL := Lib.hid hFL
        clear hFL
        go_upto_region 4 with (at_builtin; refine wpList_append_own _ rfl _ _ 26 rfl w0.heap.size 46 i0 (.int .u64 0) 1 8 Try.underlying26 hi hz0 hz1 hz2 rfl (by decide) _ _ _ rfl (hown.alloc _) ⟨wr.heap.size, 0, none⟩ 1 1 [(.int .u64 (enc x))] rfl rfl (one_src (by simp [go_sem])) (by first | rfl | (intro u hu; simp at hu; subst hu; rfl)) (by unfold maxLen; omega) (by omega) (by first | omega | (simp; omega)) ?_)
        intro v' w3 hown' hgrow _
        have hb3 := own_row_below (hown.alloc (.cells #[(.int .u64 (enc x))] 46)) (HB.out.alloc HB.out.size _) hgrow (Nat.le_refl _) (by simp; omega)
        have q3 : w3.ownsRow w0.heap.size 46 1 v' (x :: vs).length (stkV stF (x :: vs)) := by rw [stkV_cons, HFL.out]; exact hown'
        have HB := Lib.hid hb3
        have HO := Lib.hid q3
        clear hb3 q3
        go_wp2_with fail
        go_roundw
        case rel => exact ⟨k + 1, x :: vs, 1 :: st, by omega, by go_num, HB.out, HO.out, HLEN.out, HL16.out, HR.out, HV.out⟩
        case measure => simp [intOf]; omega
      by_cases hk2 : kd = 2
      · subst hk2
        obtain ⟨hcol, e⟩ := push_col_inv2 hps
        subst e
        have hml : mm < lenc := by omega
        have hmI : (mm : Int) < (lenc : Int) := by omega
        obtain ⟨bc, offc, rfl, x0⟩ := HCD.out.2.2 mm hml
        replace x0 := bkeep (bthen HB0.out HB.out) x0
        have hxU : U (ds.getD mm 0) := by
          have e : ds.getD mm 0 = ds[mm]'(by rw [HCD.out.1]; exact hml) := by simp [List.getD, show mm < ds.length by rw [HCD.out.1]; exact hml]
          rw [e]
          exact HUD.out _ (List.getElem_mem _)
        have hxv : toF (ds.getD mm 0) = next mm := by rw [← HNEXT.out]; rfl
        have hrem := rem_toF _ hxU
        have hmod := mod_toF _ hxU
        rw [hxv] at hrem hmod
        generalize ds.getD mm 0 = xx at *
        obtain ⟨x, hx⟩ : ∃ x, next mm = x := ⟨_, rfl⟩
        rw [hx] at hrem hmod
        have HV : Hid (evL numA cur next (zs.drop (k + 1)) (x :: vs) = [RES]) := Lib.hid (by
          have := HRES.out
          rw [evL, ev1_next numA cur next rfl] at this
          rw [HREST.out, ← hx]
          exact this)
        have HLEN : Hid ((x :: vs).length = (1 :: st).length) := Lib.hid (by rw [List.length_cons, List.length_cons, hlen])
        have hvl : vs.length ≤ 300 := by omega
        clear hlen hst
        obtain ⟨aS, cS, rfl⟩ := own_form HO.out
        have hown := HO.out
        have hsz0 := HB.out.size
        obtain ⟨FL, hFL⟩ : ∃ fl, stkV stF vs = fl := ⟨_, rfl⟩
        rw [hFL] at hown
        have HFL := Lib.hid hFL
        clear hFL
        go_upto_region 4 with (at_builtin; refine wpList_append_own _ rfl _ _ 26 rfl w0.heap.size 46 i0 (.int .u64 0) 1 8 Try.underlying26 hi hz0 hz1 hz2 rfl (by decide) _ _ _ rfl (hown.alloc _) ⟨wr.heap.size, 0, none⟩ 1 1 [(.int .u64 (enc x))] rfl rfl (one_src (by simp [go_sem])) (by first | rfl | (intro u hu; simp at hu; subst hu; rfl)) (by unfold maxLen; omega) (by omega) (by first | omega | (simp; omega)) ?_)
        intro v' w3 hown' hgrow _
        have hb3 := own_row_below (hown.alloc (.cells #[(.int .u64 (enc x))] 46)) (HB.out.alloc HB.out.size _) hgrow (Nat.le_refl _) (by simp; omega)
        have q3 : w3.ownsRow w0.heap.size 46 1 v' (x :: vs).length (stkV stF (x :: vs)) := by rw [stkV_cons, HFL.out]; exact hown'
        have HB := Lib.hid hb3
        have HO := Lib.hid q3
        clear hb3 q3
        go_wp2_with fail
        go_roundw
        case rel => exact ⟨k + 1, x :: vs, 1 :: st, by omega, by go_num, HB.out, HO.out, HLEN.out, HL16.out, HR.out, HV.out⟩
        case measure => simp [intOf]; omega
      by_cases hk3 : kd = 3
      · subst hk3
        obtain rfl := push_const_inv hps
        have hrem := rem_toF _ hnU
        have hmod := mod_toF _ hnU
        obtain ⟨x, hx⟩ : ∃ x, toF (mm : Int) = x := ⟨_, rfl⟩
        rw [hx] at hrem hmod
        have HV : Hid (evL numA cur next (zs.drop (k + 1)) (x :: vs) = [RES]) := Lib.hid (by
          have := HRES.out
          rw [evL, ev1_cst numA cur next rfl] at this
          rw [HREST.out, ← hx]
          exact this)
        have HLEN : Hid ((x :: vs).length = (0 :: st).length) := Lib.hid (by rw [List.length_cons, List.length_cons, hlen])
        have hvl : vs.length ≤ 300 := by omega
        clear hlen hst
        obtain ⟨aS, cS, rfl⟩ := own_form HO.out
        have hown := HO.out
        have hsz0 := HB.out.size
        obtain ⟨FL, hFL⟩ : ∃ fl, stkV stF vs = fl := ⟨_, rfl⟩
        rw [hFL] at hown
        have HFL := Lib.hid hFL
        clear hFL
        go_upto_region 4 with (at_builtin; refine wpList_append_own _ rfl _ _ 26 rfl w0.heap.size 46 i0 (.int .u64 0) 1 8 Try.underlying26 hi hz0 hz1 hz2 rfl (by decide) _ _ _ rfl (hown.alloc _) ⟨wr.heap.size, 0, none⟩ 1 1 [(.int .u64 (enc x))] rfl rfl (one_src (by simp [go_sem])) (by first | rfl | (intro u hu; simp at hu; subst hu; rfl)) (by unfold maxLen; omega) (by omega) (by first | omega | (simp; omega)) ?_)
        intro v' w3 hown' hgrow _
        have hb3 := own_row_below (hown.alloc (.cells #[(.int .u64 (enc x))] 46)) (HB.out.alloc HB.out.size _) hgrow (Nat.le_refl _) (by simp; omega)
        have q3 : w3.ownsRow w0.heap.size 46 1 v' (x :: vs).length (stkV stF (x :: vs)) := by rw [stkV_cons, HFL.out]; exact hown'
        have HB := Lib.hid hb3
        have HO := Lib.hid q3
        clear hb3 q3
        go_wp2_with fail
        go_roundw
        case rel => exact ⟨k + 1, x :: vs, 0 :: st, by omega, by go_num, HB.out, HO.out, HLEN.out, HL16.out, HR.out, HV.out⟩
        case measure => simp [intOf]; omega
      obtain ⟨da, db, rs, rfl, rfl⟩ := push_two_inv hps hk1 hk2 hk3
      obtain ⟨y, x, r, rfl⟩ : ∃ y x r, vs = y :: x :: r := by
        match vs, hlen with
        | y :: x :: r, _ => exact ⟨y, x, r, rfl⟩
        | [_], h => cases h
        | [], h => cases h
      have hlr : r.length + 1 + 1 ≤ 300 := by
        have e := hlen
        have e2 := hst
        simp only [List.length_cons] at e e2
        omega
      have hrl : r.length = rs.length := by simpa using hlen
      have hkd : kd = 4 ∨ kd = 5 ∨ kd = 6 := by omega
      obtain ⟨M2, hM2⟩ : ∃ M2, r.length + 1 + 1 = M2 := ⟨_, rfl⟩
      have hv1 : IntKind.i64.wrap ((M2 : Int) - 1) = ((r.length + 1 : Nat) : Int) := by rw [IntWalk.i64_in _ (by omega)]; omega
      have hv2 : wrap64 ((M2 : Int) - 1) = ((r.length + 1 : Nat) : Int) := by rw [IntWalk.wrap64_in _ (by omega)]; omega
      have hv3 : IntKind.i64.wrap ((M2 : Int) - 2) = (r.length : Int) := by rw [IntWalk.i64_in _ (by omega)]; omega
      have hv4 : wrap64 ((M2 : Int) - 2) = (r.length : Int) := by rw [IntWalk.wrap64_in _ (by omega)]; omega
      obtain ⟨M1, hM1⟩ : ∃ M1, r.length + 1 = M1 := ⟨_, rfl⟩
      rw [hM1] at hv1 hv2
      have hl2 : (M1 : Int) < (M2 : Int) := by omega
      have hl3 : (r.length : Int) < (M2 : Int) := by omega
      have hl4 : (r.length : Int) ≤ (M2 : Int) := by omega
      have hl5 : (0 : Int) ≤ (M1 : Int) := by omega
      have hl6 : (0 : Int) ≤ (r.length : Int) := by omega
      obtain ⟨gs, cs', hu7, hcs, hcsm, hcx, hcy, hcut⟩ := stk_two stF_len HO.out
      rw [hM2] at hu7 hcs
      subst hu7
      have hrM : r.length ≤ cs' := by omega
      have HLEN : Hid (∀ z : F, (z :: r).length = (max da db :: rs).length ∧ (z :: r).length = ((da + db) :: rs).length) := Lib.hid fun z => by simp [hrl]
      have HCUT := Lib.hid hcut
      replace hcx := hcx 0 (by decide); replace hcy := hcy 0 (by decide)
      simp only [Nat.mul_one, Nat.add_zero, hM1] at hcx hcy
      replace hcx : wr.cell? ⟨gs, r.length, none⟩ = some (.int .u64 (enc x)) := hcx
      replace hcy : wr.cell? ⟨gs, M1, none⟩ = some (.int .u64 (enc y)) := hcy
      have HCX := Lib.hid hcx; have HCY := Lib.hid hcy
      clear hcx hcy
      clear hcut HO hM1 hM2 hlen hst hrl
      rcases hkd with rfl | rfl | rfl
      · obtain ⟨z, hzz⟩ : ∃ z, x + y = z := ⟨_, rfl⟩
        have kc := fun W => kadd x y z hzz W
        have HV : Hid (evL numA cur next (zs.drop (k + 1)) (z :: r) = [RES]) := Lib.hid (by
          have := HRES.out
          rw [evL, ev1_two numA cur next (by simp) (by simp)] at this
          rw [HREST.out, ← hzz]
          exact this)
        clear hzz HRES hps
        go_upto_region 14 with fail
        have HBR := Lib.hid HB.out.size
        refine wp_lay [(64, []), (65, []), (66, [65]), (67, [64, 66]), (68, []), (69, []), (70, [69]), (71, [68, 70]), (72, [71]), (73, []), (74, []), (75, [74]), (76, [73, 75]), (77, [76]), (78, [72, 77]), (79, [78]), (80, [67, 79])]
          (StkOp w0 wr 46 1 72 77 78 79 80 7 r.length (stkV stF r) [(.int .u64 (enc z))] [64, 65, 66, 67, 68, 69, 70, 71, 72, 73, 74, 75, 76, 77, 78] (EvVal64 gs r.length M1 M2 cs' r.length M1 (.int .u64 (enc x)) (.int .u64 (enc y)) (.int .u64 (enc z)))) (by kernel_rfl) (by kernel_rfl) (fun σ => StkOp.start (Below.refl _ _).drew σ) ?_ ?_
        · refine opsw_cons ?_ (opsw_cons ?_ (opsw_cons ?_ (opsw_cons ?_ (opsw_cons ?_ (opsw_cons ?_ (opsw_cons ?_ (opsw_cons ?_ (opsw_cons ?_ (opsw_cons ?_ (opsw_cons ?_ (opsw_cons ?_ (opsw_cons ?_ (opsw_cons ?_ (opsw_cons ?_ (opsw_cons ?_ (opsw_cons ?_ opsw_nil))))))))))))))))
          all_goals
            refine OpRunsW.any ?_
            intro Q0 D σ W K hW hd hn hK
            simp only [fill, List.map, Act.put, List.setIfInBounds_toArray, List.set_cons_zero, List.set_cons_succ] at hK ⊢
          · have HW := Lib.hid hW
            clear hW
            go_simp
            exact hK _ _ (HW.out.next (Below.refl _ _) (by decide) rfl)
          · have HW := Lib.hid hW
            clear hW
            go_simp
            exact hK _ _ (HW.out.next (Below.refl _ _) (by decide) rfl)
          · have h65 : σ 65 = (.int .i64 (M2 : Int)) := hW.sv 65 (by decide) (hn 65 (by decide))
            simp only [h65] at hK
            have HW := Lib.hid hW
            clear hW
            go_simp
            exact hK _ _ (HW.out.next (Below.refl _ _) (by decide) rfl)
          · have h64 : σ 64 = (.slice (some ⟨gs, 0, none⟩) M2 cs') := hW.sv 64 (by decide) (hn 64 (by decide))
            have h66 : σ 66 = (.int .i64 (r.length : Int)) := hW.sv 66 (by decide) (hn 66 (by decide))
            simp only [h64, h66] at hK
            have HW := Lib.hid hW
            clear hW
            go_simp
            exact hK _ _ (HW.out.next (Below.refl _ _) (by decide) rfl)
          · have HW := Lib.hid hW
            clear hW
            go_simp
            exact hK _ _ (HW.out.next (Below.refl _ _) (by decide) rfl)
          · have HW := Lib.hid hW
            clear hW
            go_simp
            exact hK _ _ (HW.out.next (Below.refl _ _) (by decide) rfl)
          · have h69 : σ 69 = (.int .i64 (M2 : Int)) := hW.sv 69 (by decide) (hn 69 (by decide))
            simp only [h69] at hK
            have HW := Lib.hid hW
            clear hW
            go_simp
            exact hK _ _ (HW.out.next (Below.refl _ _) (by decide) rfl)
          · have h68 : σ 68 = (.slice (some ⟨gs, 0, none⟩) M2 cs') := hW.sv 68 (by decide) (hn 68 (by decide))
            have h70 : σ 70 = (.int .i64 (r.length : Int)) := hW.sv 70 (by decide) (hn 70 (by decide))
            simp only [h68, h70] at hK
            have HW := Lib.hid hW
            clear hW
            go_simp
            exact hK _ _ (HW.out.next (Below.refl _ _) (by decide) rfl)
          · have h71 : σ 71 = (.pointer (some ⟨gs, r.length, none⟩)) := hW.sv 71 (by decide) (hn 71 (by decide))
            simp only [h71] at hK
            have hop := hW.opena hd
            have c0 := bkeep (hW.pre hop) HCX.out
            have HW := Lib.hid hW
            clear hW
            go_simp
            exact hK _ _ (HW.out.next (Below.refl _ _) (by decide) rfl)
          · have HW := Lib.hid hW
            clear hW
            go_simp
            exact hK _ _ (HW.out.next (Below.refl _ _) (by decide) rfl)
          · have HW := Lib.hid hW
            clear hW
            go_simp
            exact hK _ _ (HW.out.next (Below.refl _ _) (by decide) rfl)
          · have h74 : σ 74 = (.int .i64 (M2 : Int)) := hW.sv 74 (by decide) (hn 74 (by decide))
            simp only [h74] at hK
            have HW := Lib.hid hW
            clear hW
            go_simp
            exact hK _ _ (HW.out.next (Below.refl _ _) (by decide) rfl)
          · have h73 : σ 73 = (.slice (some ⟨gs, 0, none⟩) M2 cs') := hW.sv 73 (by decide) (hn 73 (by decide))
            have h75 : σ 75 = (.int .i64 (M1 : Int)) := hW.sv 75 (by decide) (hn 75 (by decide))
            simp only [h73, h75] at hK
            have HW := Lib.hid hW
            clear hW
            go_simp
            exact hK _ _ (HW.out.next (Below.refl _ _) (by decide) rfl)
          · have h76 : σ 76 = (.pointer (some ⟨gs, M1, none⟩)) := hW.sv 76 (by decide) (hn 76 (by decide))
            simp only [h76] at hK
            have hop := hW.openl hd
            have c0 := bkeep (hW.pre hop) HCY.out
            have HW := Lib.hid hW
            clear hW
            go_simp
            exact hK _ _ (HW.out.next (Below.refl _ _) (by decide) rfl)
          · have h72 : σ 72 = ((.int .u64 (enc x))) := hW.sv 72 (by decide) (hn 72 (by decide))
            have h77 : σ 77 = ((.int .u64 (enc y))) := hW.sv 77 (by decide) (hn 77 (by decide))
            simp only [h72, h77] at hK
            have hA := hn 72 (by decide)
            have hL := hn 77 (by decide)
            have HH := Lib.hid (And.intro hd (And.intro hA hL))
            have HW := Lib.hid hW
            clear hW hd hA hL
            go_simp
            go_at_call 36
            refine (kc _).mono ?_
            rintro e w2 ⟨rfl, hb⟩
            exact hK _ _ (HW.out.call HH.out.1 HH.out.2.1 HH.out.2.2 hb (by decide) rfl)
          · have h78 : σ 78 = ((.int .u64 (enc z))) := hW.sv 78 (by decide) (hn 78 (by decide))
            simp only [h78] at hK
            have HH := Lib.hid (And.intro hd (hn 78 (by decide)))
            have HW := Lib.hid hW
            clear hW hd
            go_simp
            exact hK _ _ (HW.out.build HH.out.1 HH.out.2 ((Below.refl _ _).alloc (Nat.le_refl _) _) (by decide) (by decide) (one_src (by simp [go_sem])))
          · have hsb := hn 79 (by decide)
            obtain ⟨gl, hl, hcell⟩ := hW.li hd hsb
            have h67 : σ 67 = (.slice (some ⟨gs, 0, none⟩) r.length cs') := hW.sv 67 (by decide) (hn 67 (by decide))
            have hpre := hW.pre hd
            have hown := own_keep HCUT.out hpre
            have hBW := bthen HB.out hpre
            rw [if_pos (by rfl)]
            refine wp_append_at3 (.tmp 67) (.tmp 79) 26 (by rfl) w0.heap.size 46 i0 (.int .u64 0) 1 8 Try.underlying26 hi hz0 hz1 hz2 rfl (by decide) (.slice (some ⟨gs, 0, none⟩) r.length cs') r.length (stkV stF r) (by exact h67) hown (some ⟨gl, 0, none⟩) 1 1 [(.int .u64 (enc z))] (by exact hl) rfl (fun h => by cases h) (fun h => by cases h) (by rintro ad e; cases e; exact hcell) (by intro u hu; simp at hu; subst hu; rfl) (by unfold maxLen; omega) (by omega) hBW.size ?_
            intro v' w' q1 q2 q3
            exact hK _ _ (hW.app hd hsb (by decide) (by decide) q1 (own_row_below hown hBW q2 (Nat.le_refl _) hBW.size))
        · intro D σ W hW hD
          obtain ⟨hq1, hq2⟩ := hW.post (hD 80 (by decide))
          have q3 : W.ownsRow w0.heap.size 46 1 (σ 80) (z :: r).length (stkV stF (z :: r)) := by rw [stkV_cons]; exact hq1
          have hb3 := hq2
          obtain ⟨s7, hs7⟩ : ∃ v, σ 80 = v := ⟨_, rfl⟩
          rw [hs7] at q3
          obtain ⟨as7, cs7, rfl⟩ := own_form q3
          clear hW hD hq1 hq2 HCX HCY HCUT kc
          simp only [fill, List.map, Act.put, List.setIfInBounds_toArray, List.set_cons_zero, List.set_cons_succ, List.length_cons, List.length_nil, List.drop_succ_cons, List.drop_zero, Nat.reduceAdd, hs7]
          clear hs7
          have HB := Lib.hid hb3
          have HO := Lib.hid q3
          clear hb3 q3
          go_wp2_with fail
          go_roundw
          case rel => exact ⟨k + 1, z :: r, max da db :: rs, by omega, by go_num, HB.out, HO.out, (HLEN.out z).1, HL16.out, HR.out, HV.out⟩
          case measure => simp [intOf]; omega
      · obtain ⟨z, hzz⟩ : ∃ z, x - y = z := ⟨_, rfl⟩
        have kc := fun W => ksub x y z hzz W
        have HV : Hid (evL numA cur next (zs.drop (k + 1)) (z :: r) = [RES]) := Lib.hid (by
          have := HRES.out
          rw [evL, ev1_two numA cur next (by simp) (by simp)] at this
          rw [HREST.out, ← hzz]
          exact this)
        clear hzz HRES hps
        go_upto_region 16 with fail
        have HBR := Lib.hid HB.out.size
        refine wp_lay [(83, []), (84, []), (85, [84]), (86, [83, 85]), (87, []), (88, []), (89, [88]), (90, [87, 89]), (91, [90]), (92, []), (93, []), (94, [93]), (95, [92, 94]), (96, [95]), (97, [91, 96]), (98, [97]), (99, [86, 98])]
          (StkOp w0 wr 46 1 91 96 97 98 99 7 r.length (stkV stF r) [(.int .u64 (enc z))] [83, 84, 85, 86, 87, 88, 89, 90, 91, 92, 93, 94, 95, 96, 97] (EvVal83 gs r.length M1 M2 cs' r.length M1 (.int .u64 (enc x)) (.int .u64 (enc y)) (.int .u64 (enc z)))) (by kernel_rfl) (by kernel_rfl) (fun σ => StkOp.start (Below.refl _ _).drew σ) ?_ ?_
        · refine opsw_cons ?_ (opsw_cons ?_ (opsw_cons ?_ (opsw_cons ?_ (opsw_cons ?_ (opsw_cons ?_ (opsw_cons ?_ (opsw_cons ?_ (opsw_cons ?_ (opsw_cons ?_ (opsw_cons ?_ (opsw_cons ?_ (opsw_cons ?_ (opsw_cons ?_ (opsw_cons ?_ (opsw_cons ?_ (opsw_cons ?_ opsw_nil))))))))))))))))
          all_goals
            refine OpRunsW.any ?_
            intro Q0 D σ W K hW hd hn hK
            simp only [fill, List.map, Act.put, List.setIfInBounds_toArray, List.set_cons_zero, List.set_cons_succ] at hK ⊢
          · have HW := Lib.hid hW
            clear hW
            go_simp
            exact hK _ _ (HW.out.next (Below.refl _ _) (by decide) rfl)
          · have HW := Lib.hid hW
            clear hW
            go_simp
            exact hK _ _ (HW.out.next (Below.refl _ _) (by decide) rfl)
          · have h84 : σ 84 = (.int .i64 (M2 : Int)) := hW.sv 84 (by decide) (hn 84 (by decide))
            simp only [h84] at hK
            have HW := Lib.hid hW
            clear hW
            go_simp
            exact hK _ _ (HW.out.next (Below.refl _ _) (by decide) rfl)
          · have h83 : σ 83 = (.slice (some ⟨gs, 0, none⟩) M2 cs') := hW.sv 83 (by decide) (hn 83 (by decide))
            have h85 : σ 85 = (.int .i64 (r.length : Int)) := hW.sv 85 (by decide) (hn 85 (by decide))
            simp only [h83, h85] at hK
            have HW := Lib.hid hW
            clear hW
            go_simp
            exact hK _ _ (HW.out.next (Below.refl _ _) (by decide) rfl)
          · have HW := Lib.hid hW
            clear hW
            go_simp
            exact hK _ _ (HW.out.next (Below.refl _ _) (by decide) rfl)
          · have HW := Lib.hid hW
            clear hW
            go_simp
            exact hK _ _ (HW.out.next (Below.refl _ _) (by decide) rfl)
          · have h88 : σ 88 = (.int .i64 (M2 : Int)) := hW.sv 88 (by decide) (hn 88 (by decide))
            simp only [h88] at hK
            have HW := Lib.hid hW
            clear hW
            go_simp
            exact hK _ _ (HW.out.next (Below.refl _ _) (by decide) rfl)
          · have h87 : σ 87 = (.slice (some ⟨gs, 0, none⟩) M2 cs') := hW.sv 87 (by decide) (hn 87 (by decide))
            have h89 : σ 89 = (.int .i64 (r.length : Int)) := hW.sv 89 (by decide) (hn 89 (by decide))
            simp only [h87, h89] at hK
            have HW := Lib.hid hW
            clear hW
            go_simp
            exact hK _ _ (HW.out.next (Below.refl _ _) (by decide) rfl)
          · have h90 : σ 90 = (.pointer (some ⟨gs, r.length, none⟩)) := hW.sv 90 (by decide) (hn 90 (by decide))
            simp only [h90] at hK
            have hop := hW.opena hd
            have c0 := bkeep (hW.pre hop) HCX.out
            have HW := Lib.hid hW
            clear hW
            go_simp
            exact hK _ _ (HW.out.next (Below.refl _ _) (by decide) rfl)
          · have HW := Lib.hid hW
            clear hW
            go_simp
            exact hK _ _ (HW.out.next (Below.refl _ _) (by decide) rfl)
          · have HW := Lib.hid hW
            clear hW
            go_simp
            exact hK _ _ (HW.out.next (Below.refl _ _) (by decide) rfl)
          · have h93 : σ 93 = (.int .i64 (M2 : Int)) := hW.sv 93 (by decide) (hn 93 (by decide))
            simp only [h93] at hK
            have HW := Lib.hid hW
            clear hW
            go_simp
            exact hK _ _ (HW.out.next (Below.refl _ _) (by decide) rfl)
          · have h92 : σ 92 = (.slice (some ⟨gs, 0, none⟩) M2 cs') := hW.sv 92 (by decide) (hn 92 (by decide))
            have h94 : σ 94 = (.int .i64 (M1 : Int)) := hW.sv 94 (by decide) (hn 94 (by decide))
            simp only [h92, h94] at hK
            have HW := Lib.hid hW
            clear hW
            go_simp
            exact hK _ _ (HW.out.next (Below.refl _ _) (by decide) rfl)
          · have h95 : σ 95 = (.pointer (some ⟨gs, M1, none⟩)) := hW.sv 95 (by decide) (hn 95 (by decide))
            simp only [h95] at hK
            have hop := hW.openl hd
            have c0 := bkeep (hW.pre hop) HCY.out
            have HW := Lib.hid hW
            clear hW
            go_simp
            exact hK _ _ (HW.out.next (Below.refl _ _) (by decide) rfl)
          · have h91 : σ 91 = ((.int .u64 (enc x))) := hW.sv 91 (by decide) (hn 91 (by decide))
            have h96 : σ 96 = ((.int .u64 (enc y))) := hW.sv 96 (by decide) (hn 96 (by decide))
            simp only [h91, h96] at hK
            have hA := hn 91 (by decide)
            have hL := hn 96 (by decide)
            have HH := Lib.hid (And.intro hd (And.intro hA hL))
            have HW := Lib.hid hW
            clear hW hd hA hL
            go_simp
            go_at_call 37
            refine (kc _).mono ?_
            rintro e w2 ⟨rfl, hb⟩
            exact hK _ _ (HW.out.call HH.out.1 HH.out.2.1 HH.out.2.2 hb (by decide) rfl)
          · have h97 : σ 97 = ((.int .u64 (enc z))) := hW.sv 97 (by decide) (hn 97 (by decide))
            simp only [h97] at hK
            have HH := Lib.hid (And.intro hd (hn 97 (by decide)))
            have HW := Lib.hid hW
            clear hW hd
            go_simp
            exact hK _ _ (HW.out.build HH.out.1 HH.out.2 ((Below.refl _ _).alloc (Nat.le_refl _) _) (by decide) (by decide) (one_src (by simp [go_sem])))
          · have hsb := hn 98 (by decide)
            obtain ⟨gl, hl, hcell⟩ := hW.li hd hsb
            have h86 : σ 86 = (.slice (some ⟨gs, 0, none⟩) r.length cs') := hW.sv 86 (by decide) (hn 86 (by decide))
            have hpre := hW.pre hd
            have hown := own_keep HCUT.out hpre
            have hBW := bthen HB.out hpre
            rw [if_pos (by rfl)]
            refine wp_append_at3 (.tmp 86) (.tmp 98) 26 (by rfl) w0.heap.size 46 i0 (.int .u64 0) 1 8 Try.underlying26 hi hz0 hz1 hz2 rfl (by decide) (.slice (some ⟨gs, 0, none⟩) r.length cs') r.length (stkV stF r) (by exact h86) hown (some ⟨gl, 0, none⟩) 1 1 [(.int .u64 (enc z))] (by exact hl) rfl (fun h => by cases h) (fun h => by cases h) (by rintro ad e; cases e; exact hcell) (by intro u hu; simp at hu; subst hu; rfl) (by unfold maxLen; omega) (by omega) hBW.size ?_
            intro v' w' q1 q2 q3
            exact hK _ _ (hW.app hd hsb (by decide) (by decide) q1 (own_row_below hown hBW q2 (Nat.le_refl _) hBW.size))
        · intro D σ W hW hD
          obtain ⟨hq1, hq2⟩ := hW.post (hD 99 (by decide))
          have q3 : W.ownsRow w0.heap.size 46 1 (σ 99) (z :: r).length (stkV stF (z :: r)) := by rw [stkV_cons]; exact hq1
          have hb3 := hq2
          obtain ⟨s7, hs7⟩ : ∃ v, σ 99 = v := ⟨_, rfl⟩
          rw [hs7] at q3
          obtain ⟨as7, cs7, rfl⟩ := own_form q3
          clear hW hD hq1 hq2 HCX HCY HCUT kc
          simp only [fill, List.map, Act.put, List.setIfInBounds_toArray, List.set_cons_zero, List.set_cons_succ, List.length_cons, List.length_nil, List.drop_succ_cons, List.drop_zero, Nat.reduceAdd, hs7]
          clear hs7
          have HB := Lib.hid hb3
          have HO := Lib.hid q3
          clear hb3 q3
          go_wp2_with fail
          go_roundw
          case rel => exact ⟨k + 1, z :: r, max da db :: rs, by omega, by go_num, HB.out, HO.out, (HLEN.out z).1, HL16.out, HR.out, HV.out⟩
          case measure => simp [intOf]; omega
      · obtain ⟨z, hzz⟩ : ∃ z, x * y = z := ⟨_, rfl⟩
        have kc := fun W => kmul x y z hzz W
        have HV : Hid (evL numA cur next (zs.drop (k + 1)) (z :: r) = [RES]) := Lib.hid (by
          have := HRES.out
          rw [evL, ev1_two numA cur next (by simp) (by simp)] at this
          rw [HREST.out, ← hzz]
          exact this)
        clear hzz HRES hps
        go_upto_region 18 with fail
        have HBR := Lib.hid HB.out.size
        refine wp_lay [(102, []), (103, []), (104, [103]), (105, [102, 104]), (106, []), (107, []), (108, [107]), (109, [106, 108]), (110, [109]), (111, []), (112, []), (113, [112]), (114, [111, 113]), (115, [114]), (116, [110, 115]), (117, [116]), (118, [105, 117])]
          (StkOp w0 wr 46 1 110 115 116 117 118 7 r.length (stkV stF r) [(.int .u64 (enc z))] [102, 103, 104, 105, 106, 107, 108, 109, 110, 111, 112, 113, 114, 115, 116] (EvVal102 gs r.length M1 M2 cs' r.length M1 (.int .u64 (enc x)) (.int .u64 (enc y)) (.int .u64 (enc z)))) (by kernel_rfl) (by kernel_rfl) (fun σ => StkOp.start (Below.refl _ _).drew σ) ?_ ?_
        · refine opsw_cons ?_ (opsw_cons ?_ (opsw_cons ?_ (opsw_cons ?_ (opsw_cons ?_ (opsw_cons ?_ (opsw_cons ?_ (opsw_cons ?_ (opsw_cons ?_ (opsw_cons ?_ (opsw_cons ?_ (opsw_cons ?_ (opsw_cons ?_ (opsw_cons ?_ (opsw_cons ?_ (opsw_cons ?_ (opsw_cons ?_ opsw_nil))))))))))))))))
          all_goals
            refine OpRunsW.any ?_
            intro Q0 D σ W K hW hd hn hK
            simp only [fill, List.map, Act.put, List.setIfInBounds_toArray, List.set_cons_zero, List.set_cons_succ] at hK ⊢
          · have HW := Lib.hid hW
            clear hW
            go_simp
            exact hK _ _ (HW.out.next (Below.refl _ _) (by decide) rfl)
          · have HW := Lib.hid hW
            clear hW
            go_simp
            exact hK _ _ (HW.out.next (Below.refl _ _) (by decide) rfl)
          · have h103 : σ 103 = (.int .i64 (M2 : Int)) := hW.sv 103 (by decide) (hn 103 (by decide))
            simp only [h103] at hK
            have HW := Lib.hid hW
            clear hW
            go_simp
            exact hK _ _ (HW.out.next (Below.refl _ _) (by decide) rfl)
          · have h102 : σ 102 = (.slice (some ⟨gs, 0, none⟩) M2 cs') := hW.sv 102 (by decide) (hn 102 (by decide))
            have h104 : σ 104 = (.int .i64 (r.length : Int)) := hW.sv 104 (by decide) (hn 104 (by decide))
            simp only [h102, h104] at hK
            have HW := Lib.hid hW
            clear hW
            go_simp
            exact hK _ _ (HW.out.next (Below.refl _ _) (by decide) rfl)
          · have HW := Lib.hid hW
            clear hW
            go_simp
            exact hK _ _ (HW.out.next (Below.refl _ _) (by decide) rfl)
          · have HW := Lib.hid hW
            clear hW
            go_simp
            exact hK _ _ (HW.out.next (Below.refl _ _) (by decide) rfl)
          · have h107 : σ 107 = (.int .i64 (M2 : Int)) := hW.sv 107 (by decide) (hn 107 (by decide))
            simp only [h107] at hK
            have HW := Lib.hid hW
            clear hW
            go_simp
            exact hK _ _ (HW.out.next (Below.refl _ _) (by decide) rfl)
          · have h106 : σ 106 = (.slice (some ⟨gs, 0, none⟩) M2 cs') := hW.sv 106 (by decide) (hn 106 (by decide))
            have h108 : σ 108 = (.int .i64 (r.length : Int)) := hW.sv 108 (by decide) (hn 108 (by decide))
            simp only [h106, h108] at hK
            have HW := Lib.hid hW
            clear hW
            go_simp
            exact hK _ _ (HW.out.next (Below.refl _ _) (by decide) rfl)
          · have h109 : σ 109 = (.pointer (some ⟨gs, r.length, none⟩)) := hW.sv 109 (by decide) (hn 109 (by decide))
            simp only [h109] at hK
            have hop := hW.opena hd
            have c0 := bkeep (hW.pre hop) HCX.out
            have HW := Lib.hid hW
            clear hW
            go_simp
            exact hK _ _ (HW.out.next (Below.refl _ _) (by decide) rfl)
          · have HW := Lib.hid hW
            clear hW
            go_simp
            exact hK _ _ (HW.out.next (Below.refl _ _) (by decide) rfl)
          · have HW := Lib.hid hW
            clear hW
            go_simp
            exact hK _ _ (HW.out.next (Below.refl _ _) (by decide) rfl)
          · have h112 : σ 112 = (.int .i64 (M2 : Int)) := hW.sv 112 (by decide) (hn 112 (by decide))
            simp only [h112] at hK
            have HW := Lib.hid hW
            clear hW
            go_simp
            exact hK _ _ (HW.out.next (Below.refl _ _) (by decide) rfl)
          · have h111 : σ 111 = (.slice (some ⟨gs, 0, none⟩) M2 cs') := hW.sv 111 (by decide) (hn 111 (by decide))
            have h113 : σ 113 = (.int .i64 (M1 : Int)) := hW.sv 113 (by decide) (hn 113 (by decide))
            simp only [h111, h113] at hK
            have HW := Lib.hid hW
            clear hW
            go_simp
            exact hK _ _ (HW.out.next (Below.refl _ _) (by decide) rfl)
          · have h114 : σ 114 = (.pointer (some ⟨gs, M1, none⟩)) := hW.sv 114 (by decide) (hn 114 (by decide))
            simp only [h114] at hK
            have hop := hW.openl hd
            have c0 := bkeep (hW.pre hop) HCY.out
            have HW := Lib.hid hW
            clear hW
            go_simp
            exact hK _ _ (HW.out.next (Below.refl _ _) (by decide) rfl)
          · have h110 : σ 110 = ((.int .u64 (enc x))) := hW.sv 110 (by decide) (hn 110 (by decide))
            have h115 : σ 115 = ((.int .u64 (enc y))) := hW.sv 115 (by decide) (hn 115 (by decide))
            simp only [h110, h115] at hK
            have hA := hn 110 (by decide)
            have hL := hn 115 (by decide)
            have HH := Lib.hid (And.intro hd (And.intro hA hL))
            have HW := Lib.hid hW
            clear hW hd hA hL
            go_simp
            go_at_call 38
            refine (kc _).mono ?_
            rintro e w2 ⟨rfl, hb⟩
            exact hK _ _ (HW.out.call HH.out.1 HH.out.2.1 HH.out.2.2 hb (by decide) rfl)
          · have h116 : σ 116 = ((.int .u64 (enc z))) := hW.sv 116 (by decide) (hn 116 (by decide))
            simp only [h116] at hK
            have HH := Lib.hid (And.intro hd (hn 116 (by decide)))
            have HW := Lib.hid hW
            clear hW hd
            go_simp
            exact hK _ _ (HW.out.build HH.out.1 HH.out.2 ((Below.refl _ _).alloc (Nat.le_refl _) _) (by decide) (by decide) (one_src (by simp [go_sem])))
          · have hsb := hn 117 (by decide)
            obtain ⟨gl, hl, hcell⟩ := hW.li hd hsb
            have h105 : σ 105 = (.slice (some ⟨gs, 0, none⟩) r.length cs') := hW.sv 105 (by decide) (hn 105 (by decide))
            have hpre := hW.pre hd
            have hown := own_keep HCUT.out hpre
            have hBW := bthen HB.out hpre
            rw [if_pos (by rfl)]
            refine wp_append_at3 (.tmp 105) (.tmp 117) 26 (by rfl) w0.heap.size 46 i0 (.int .u64 0) 1 8 Try.underlying26 hi hz0 hz1 hz2 rfl (by decide) (.slice (some ⟨gs, 0, none⟩) r.length cs') r.length (stkV stF r) (by exact h105) hown (some ⟨gl, 0, none⟩) 1 1 [(.int .u64 (enc z))] (by exact hl) rfl (fun h => by cases h) (fun h => by cases h) (by rintro ad e; cases e; exact hcell) (by intro u hu; simp at hu; subst hu; rfl) (by unfold maxLen; omega) (by omega) hBW.size ?_
            intro v' w' q1 q2 q3
            exact hK _ _ (hW.app hd hsb (by decide) (by decide) q1 (own_row_below hown hBW q2 (Nat.le_refl _) hBW.size))
        · intro D σ W hW hD
          obtain ⟨hq1, hq2⟩ := hW.post (hD 118 (by decide))
          have q3 : W.ownsRow w0.heap.size 46 1 (σ 118) (z :: r).length (stkV stF (z :: r)) := by rw [stkV_cons]; exact hq1
          have hb3 := hq2
          obtain ⟨s7, hs7⟩ : ∃ v, σ 118 = v := ⟨_, rfl⟩
          rw [hs7] at q3
          obtain ⟨as7, cs7, rfl⟩ := own_form q3
          clear hW hD hq1 hq2 HCX HCY HCUT kc
          simp only [fill, List.map, Act.put, List.setIfInBounds_toArray, List.set_cons_zero, List.set_cons_succ, List.length_cons, List.length_nil, List.drop_succ_cons, List.drop_zero, Nat.reduceAdd, hs7]
          clear hs7
          have HB := Lib.hid hb3
          have HO := Lib.hid q3
          clear hb3 q3
          go_wp2_with fail
          go_roundw
          case rel => exact ⟨k + 1, z :: r, (da + db) :: rs, by omega, by go_num, HB.out, HO.out, (HLEN.out z).2, HL16.out, HR.out, HV.out⟩
          case measure => simp [intOf]; omega
    · obtain rfl : k = zs.length := by omega
      rw [List.drop_length] at hres
      have hres : vs = [RES] := hres
      subst hres
      obtain ⟨g', cap', rfl, hcp, hcm, hcell⟩ := stk_one (r := []) stF_len HO.out
      have htop := hcell 0 (by decide)
      simp only [List.length_nil, Nat.zero_mul, Nat.add_zero] at htop
      replace htop : wr.cell? ⟨g', 0, none⟩ = some (.int .u64 (enc RES)) := htop
      have HBE := Lib.hid (bthen HB0.out hB)
      clear hcell hB hown hst hlen hrun HO HB
      go_wp2_with fail
      go_ret
      exact ⟨rfl, HBE.out⟩
/-- Of operations that may be. -/
theorem reat_is (a : Option Addr) (cap : Nat) (zs : List Opn) (b : Option Addr) (lenb capb : Nat) (cs : List Int) (c : Option Addr) (lenc capc : Nat) (ds : List Int) (cols : Int) (d : Nat) (w : World) (hO : OpA w a zs.length zs) (hu : ∀ o ∈ zs, OkO o) (hz : checkB zs cols true = (d, 0))
    (hc : RowA w b lenb cs) (hcu : ∀ n ∈ cs, U n) (hlb : cols ≤ lenb) (hd : RowA w c lenc ds) (hdu : ∀ n ∈ ds, U n) (hlc : cols ≤ lenc) :
    Calls Try.prog 21 #[.slice a zs.length cap, .slice b lenb capb, .slice c lenc capc] w fun E w' => E = .returned (.int .u64 (enc (evB numA (rowF cs) (rowF ds) zs))) ∧ Below w.heap.size w w' :=
  reatR_is a cap zs b lenb capb cs c lenc capc ds cols w hO hu (checkB_evok hz) hc hcu hlb hd hdu hlc
end Go.Proofs.Ytjcgakmhpblanaa
