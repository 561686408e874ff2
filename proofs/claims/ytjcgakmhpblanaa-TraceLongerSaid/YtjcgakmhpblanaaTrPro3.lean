/-
  What the program's number, Public, Whole, broken and missed of layer 19 come to.
-/
import Derived.Test.YtjcgakmhpblanaaTrPro2
import Derived.Test.YtjcgakmhpblanaaTraceRefP
import Derived.Test.YtjcgakmhpblanaaTraceRefC
import Derived.BigQuiet
namespace Go.Proofs.Ytjcgakmhpblanaa
open Go Go.RowKit Go.Sort Go.BigFrame
set_option linter.unusedVariables false

/-! ### One number -/
set_option maxHeartbeats 2000000 in
theorem pnumber_is (a : Option Addr) (cap : Nat) (rows : List (List Int)) (c r : Nat) (z : Int) (w : World) (hr : RowsA w a rows.length rows) (h1 : r < rows.length) (h2 : c < (rowN rows r).length) (hz : (rowN rows r).getD c 0 = z) (hk : 0 ≤ z ∧ z < 18446744069414584321) :
    Calls Try.prog 32 #[.slice a rows.length cap, .agg #[.int .i64 c, .int .i64 r]] w fun e w' => e = .returned (.int .u64 z) ∧ Below w.heap.size w w' := by
  obtain ⟨b, off, rfl, ak, ck, c0, hrow, _⟩ := hr.2.2 r h1
  have hrm := hr.2.1
  rw [show rows.getD r [] = rowN rows r from rfl] at c0 hrow
  have hlm := hrow.2.1
  unfold maxLen at hrm hlm
  generalize rowN rows r = row at *
  obtain ⟨rb, ro, rfl, d0⟩ := hrow.2.2 c h2
  rw [hz] at d0
  have h1I : (r : Int) < (rows.length : Int) := by omega
  have h2I : (c : Int) < (row.length : Int) := by omega
  have hc0 : (0 : Int) ≤ (c : Int) := by omega
  have hr0 : (0 : Int) ≤ (r : Int) := by omega
  have hmod : z.tmod 18446744069414584321 = z := by rw [Int.tmod_eq_emod_of_nonneg hk.1]; omega
  have hmod2 : z % 18446744069414584321 = z := by omega
  generalize hN : rows.length = N at *
  generalize hL : row.length = L at *
  clear hr hrow hz hN hL
  go_enter Try.func32, Try.ntmps32
  go_upto_region 1 with fail
  refine wp_gen (fun W => Below w.heap.size w W ∧ W.cell? ⟨w.heap.size, 0, none⟩ = some (.int .i64 c) ∧ W.cell? ⟨w.heap.size, 1, none⟩ = some (.int .i64 r)) ⟨(Below.refl _ _).alloc (Nat.le_refl _) _, by simp [go_sem], by simp [go_sem]⟩ ?_
  rintro w1 ⟨hB, x0, x1⟩
  replace c0 := bkeep hB c0
  replace d0 := bkeep hB d0
  go_quiet (fail)
  go_upto_region 3 with fail
  go_quiet (fail)
  go_wp2_with fail
  go_ret
  exact ⟨rfl, below_drewN (below_drewN hB _) _⟩
/-! ### What is public -/
set_option maxHeartbeats 2000000 in
theorem ppublic_is (A : AirP) (p : AirAt) (a : Option Addr) (cap : Nat) (rows : List (List Int)) (l : List Int) (w : World) (hA : AirA w A p) (hc : A.check = 0) (hr : RowsA w a rows.length rows) (hh : A.holds rows) (hu : UsRows rows) (hkp : ∀ r ∈ rows, KeptR r) (hl : A.shown rows = l) :
    Calls Try.prog 14 #[A.val p, .slice a rows.length cap] w (RowPost w l) := by
  have hLl : l.length = A.bounds.length := by rw [← hl]; exact AirP.shown_len A rows
  have hM16 : A.bounds.length ≤ 16 := (AirP.check_ok hc).1.2.2
  have HIN := Lib.hid (fun k (hk : k < A.bounds.length) => AirP.bound_in hc hk)
  have HAT := Lib.hid (fun k (hk : k < A.bounds.length) => AirP.shown_at (rows := rows) hk)
  rw [hl] at HAT
  have HH := Lib.hid hh; have HU := Lib.hid hu; have HKP := Lib.hid hkp
  have HR := Lib.hid hr; have HA := Lib.hid hA
  have hmk := fun W => run_make_row' (P := Try.prog) 26 46 (.int .u64 0) 8 Try.underlying26 info64' rfl .i64 .i64 A.bounds.length (by omega) (by omega) W
  clear hA hc hr hh hl hu hkp
  go_enter Try.func14, Try.ntmps14
  go_upto_region 1 with fail
  refine wp_gen (fun W => Below w.heap.size w W ∧ W.cell? ⟨w.heap.size, 4, none⟩ = some (.slice p.ba A.bounds.length p.bc)) ⟨(Below.refl _ _).alloc (Nat.le_refl _) _, by simp [go_sem]⟩ ?_
  obtain ⟨gA, hgA⟩ : ∃ g, w.heap.size = g := ⟨_, rfl⟩
  rintro w0 ⟨hB0, x4⟩
  have hnew := fun W => own_fresh W W.heap.size A.bounds.length 46 (.int .u64 0) (Nat.le_refl _) (by unfold maxLen; omega)
  rw [hgA] at x4
  simp only [hgA]
  have HB0 := Lib.hid hB0
  clear hB0 hgA
  have hx4 := x4
  go_upto_region 2 with fail
  refine wp_gen (fun W => Below w0.heap.size w0 W ∧ W.ownsRow w0.heap.size 46 1 (.slice (some ⟨w0.heap.size, 0, none⟩) A.bounds.length A.bounds.length) A.bounds.length ((upL l 0).map (Value.int .u64))) ⟨(Below.refl _ _).alloc (Nat.le_refl _) _, by rw [upL_zero l hLl]; exact hnew _⟩ ?_
  obtain ⟨g, hg⟩ : ∃ g, w0.heap.size = g := ⟨_, rfl⟩
  have HG : Hid (w0.heap.size ≤ g) := Lib.hid (by omega)
  rintro w1 ⟨hB1, hO1⟩
  have hO1' : w1.ownsRow w0.heap.size 46 1 (.slice (some ⟨g, 0, none⟩) A.bounds.length A.bounds.length) A.bounds.length ((upL l 0).map (Value.int .u64)) := by rw [← hg]; exact hO1
  simp only [hg]
  obtain ⟨n, hnn⟩ : ∃ n, A.bounds.length = n := ⟨_, rfl⟩
  rw [hnn] at hO1'
  have HN := Lib.hid hnn
  replace x4 := bkeep hB1 x4
  clear hnew hmk hO1 hg hnn hx4
  go_upto_region 3 with fail
  clear x4
  go_loopw [15] (BehRel w0 g n l) (fun i _ => A.bounds.length - (intOf i).toNat)
  case atStart => exact ⟨0, Nat.zero_le _, rfl, hB1, hO1'⟩
  case round =>
    clear hB1 hO1'
    obtain ⟨k, hk, rfl, hB, hO⟩ := hrel
    rw [hLl] at hk
    have HB := Lib.hid hB; have HO := Lib.hid hO
    by_cases hlt : k < A.bounds.length
    · have hltI : (k : Int) < (A.bounds.length : Int) := by omega
      have hkn : k < n := by have := HN.out; omega
      have hknI : (k : Int) < (n : Int) := by omega
      obtain ⟨bb, bo, hpb, c0, c1⟩ := (HA.out.keep (bthen HB0.out hB)).2.2.1.2.2 k hlt
      have hin := HIN.out k hlt
      have hat := HAT.out k hlt
      rw [show A.bounds.getD k (0, 0) = A.bound k from rfl] at c0 c1
      generalize A.bound k = bd at *
      obtain ⟨C', R'⟩ := bd
      dsimp only at c0 c1 hin hat
      obtain ⟨i1, i2, i3, i4⟩ := hin
      obtain ⟨C, rfl⟩ := Int.eq_ofNat_of_zero_le i1
      obtain ⟨R, rfl⟩ := Int.eq_ofNat_of_zero_le i3
      simp only [Int.toNat_natCast] at hat
      have hRl : R < rows.length := by have := HH.out.1; omega
      have hcl := rows_at (Q := fun r => (r.length : Int) = A.cols) HH.out.2 hRl
      have hCl : C < (rowN rows R).length := by omega
      have hzk : 0 ≤ l.getD k 0 ∧ l.getD k 0 < 18446744069414584321 := by
        rw [hat]
        exact ⟨(usR_at (rows_at HU.out hRl) hCl).1, kept_at (rows_at HKP.out hRl) hCl⟩
      obtain ⟨g', c', e', _, _, _, hA⟩ := own_arr hO (by omega)
      simp only [Value.slice.injEq, Option.some.injEq, Addr.mk.injEq] at e'
      obtain ⟨⟨rfl, _, _⟩, _, _⟩ := e'
      obtain ⟨hck, hf⟩ := hA k (by omega)
      have hset := upL_set l (k := k) (by omega)
      have kn := fun W (h : RowsA W a rows.length rows) => pnumber_is a cap rows C R (l.getD k 0) W h hRl hCl hat.symm hzk
      generalize l.getD k 0 = z at *
      generalize ((upL l k).map (Value.int .u64)).getD k undef = u at *
      have HSET := Lib.hid hset; have HRW := Lib.hid (rowsA_keep HR.out (bthen HB0.out hB))
      simp only [hpb]
      have hgW := World.block_lt_of_cell? _ _ hck
      clear hB hO hpb hA hset hat i1 i2 i3 i4 hcl hzk
      go_upto_region 5 with fail
      refine wp_gen (fun W' => Below wr.heap.size wr W' ∧ W'.cell? ⟨wr.heap.size, 0, none⟩ = some (.int .i64 C) ∧ W'.cell? ⟨wr.heap.size, 1, none⟩ = some (.int .i64 R)) ⟨(Below.refl _ _).alloc (Nat.le_refl _) _, by simp [go_sem], by simp [go_sem]⟩ ?_
      obtain ⟨q, hq⟩ : ∃ q, wr.heap.size = q := ⟨_, rfl⟩
      rintro W2 ⟨hb2, y0, y1⟩
      replace hf := bfree hb2 hck hf; replace hck := bkeep hb2 hck
      have HB2 := Lib.hid (bthen HB.out hb2); have HO2 := Lib.hid (own_keep HO.out hb2)
      have HRW2 := Lib.hid (rowsA_keep HRW.out hb2)
      rw [hq] at y0 y1
      simp only [hq]
      clear hb2 HRW HB HO hq
      go_upto_region 6 with (go_at_call 32; (with_reducible refine (kn _ HRW2.out).mono ?_); rintro E w4 ⟨rfl, hb⟩; replace hf := bfree hb hck hf; replace hck := bkeep hb hck; replace HB2 := Lib.hid (bthen HB2.out hb); replace HO2 := Lib.hid (own_keep HO2.out hb); clear hb kn)
      go_wp2
      go_roundw
      case rel =>
        refine ⟨k + 1, by omega, by go_num, HB2.out.setCell HG.out _, ?_⟩
        rw [← HSET.out]
        exact own_store HO2.out hkn
      case measure => simp [intOf]; omega
    · obtain rfl : k = A.bounds.length := by omega
      clear hB hO
      rw [← hLl, upL_all] at HO
      obtain ⟨a5, c5, e5, hrow⟩ := own_rowA HO.out (by rw [hLl]; exact HN.out.symm)
      have HROW := Lib.hid hrow
      have hge := own_ge HO.out
      have HGE := Lib.hid hge
      simp only [Value.slice.injEq] at e5
      obtain ⟨rfl, _, rfl⟩ := e5
      clear hrow hge
      go_wp2
      go_ret
      refine ⟨bthen HB0.out HB.out, some ⟨g, 0, none⟩, n, by rw [hLl, HN.out]; rfl, ?_, fun x hx => ?_⟩
      · rw [hLl, HN.out]; exact HROW.out
      · cases hx
        exact Nat.le_trans HB0.out.size HG.out
/-! ### Whole -/
def PWhRel (w1 : World) (A : AirP) (rows : List (List Int)) (i : Value) (W : World) : Prop := ∃ k : Nat, k ≤ rows.length ∧ i = .int .i64 k ∧ Below w1.heap.size w1 W ∧ ∀ j, j < k → ((rowN rows j).length : Int) = A.cols ∧ KeptR (rowN rows j)
theorem pfit_w (a : Option Addr) (cap : Nat) (l : List Int) (n : Int) (z : Bool) (hz : decide ((l.length : Int) = n ∧ KeptR l) = z) (W : World) (h : RowA W a l.length l) : Calls Try.prog 24 #[.slice a l.length cap, .int .i64 n] W fun e w' => e = .returned (.bool z) ∧ W = w' := pfit_is a cap l n z W hz h
set_option maxRecDepth 100000 in
set_option maxHeartbeats 4000000 in
theorem pwhole_is (A : AirP) (p : AirAt) (pa : Option Addr) (pc : Nat) (pub : List Int) (a : Option Addr) (cap : Nat) (rows : List (List Int)) (r : Bool) (w : World) (hA : AirA w A p) (hk : OkAir A) (hf : FewAir A) (hp : RowA w pa pub.length pub) (hr : RowsA w a rows.length rows) (hz : decide (A.whole pub rows) = r) :
    Calls Try.prog 18 #[A.val p, .slice pa pub.length pc, .slice a rows.length cap] w fun e w' => e = .returned (.bool r) ∧ Below w.heap.size w w' := by
  have HNO : Hid (¬ A.whole pub rows → false = r) := Lib.hid fun h => by rw [← hz]; exact (decide_eq_false h).symm
  have HYES : Hid (A.whole pub rows → true = r) := Lib.hid fun h => by rw [← hz]; exact (decide_eq_true h).symm
  have HP := Lib.hid hp; have HR := Lib.hid hr
  have hrmax := hr.2.1
  unfold maxLen at hrmax
  obtain ⟨ec, hec⟩ : ∃ e, A.check = e := ⟨_, rfl⟩
  have kc := fun W (h : AirA W A p) => pacheck_is A p ec W h hk hf hec
  have HEC := Lib.hid hec
  have hA0' := Lib.hid hA
  clear hz hp hr hA hec
  go_enter Try.func18, Try.ntmps18
  go_upto_region 1 with fail
  refine wp_gen (fun W => Below w.heap.size w W ∧ AirC W w.heap.size A p) ⟨(Below.refl _ _).alloc (Nat.le_refl _) _, AirC.new _ _ _ _⟩ ?_
  obtain ⟨g, hg⟩ : ∃ g, w.heap.size = g := ⟨_, rfl⟩
  rintro w0 ⟨hB0, hC0⟩
  rw [hg] at hC0
  simp only [hg]
  have HA0 := Lib.hid (hA0'.out.keep hB0)
  have HB := Lib.hid hB0
  have HC := Lib.hid hC0
  have HP0 := Lib.hid (HP.out.keep hB0)
  clear hB0 hg hA0'
  obtain ⟨x0, x1, x2, x3, x4⟩ := hC0
  by_cases h1 : ec = 0
  case neg =>
    have hD := HNO.out (fun hw => h1 (HEC.out.symm.trans hw.1))
    subst hD
    clear HNO HYES
    go_wp2_with (go_at_call 23; (with_reducible refine (kc _ HA0.out).mono ?_); rintro E w1 ⟨rfl, hb⟩; replace HB := Lib.hid (bthen HB.out hb); clear hb)
    go_ret
    exact ⟨rfl, HB.out⟩
  subst h1
  have ks := fun W => pasize_is A p W (AirP.check_ok HEC.out).1
  by_cases h2 : (rows.length : Int) = A.size
  case neg =>
    have hD := HNO.out (fun hw => h2 hw.2.1)
    subst hD
    have e2 : ((rows.length : Int) != A.size) = true := by simpa using h2
    clear HNO HYES h2
    go_wp2_with (first
      | (go_at_call 23; (with_reducible refine (kc _ HA0.out).mono ?_); rintro E w1 ⟨rfl, hb⟩; replace HB := Lib.hid (bthen HB.out hb); replace x0 := bkeep hb x0; replace x1 := bkeep hb x1; replace x2 := bkeep hb x2; replace x3 := bkeep hb x3; replace x4 := bkeep hb x4; clear hb)
      | (go_at_call 27; (with_reducible refine (ks _).mono ?_); rintro E w2 ⟨rfl, hb⟩; replace HB := Lib.hid (bthen HB.out hb); clear hb))
    go_ret
    exact ⟨rfl, HB.out⟩
  have e2 : ((rows.length : Int) != A.size) = false := by simpa using h2
  obtain ⟨fp, hfp⟩ : ∃ z, decide ((pub.length : Int) = (A.bounds.length : Int) ∧ KeptR pub) = z := ⟨_, rfl⟩
  have kf := pfit_w pa pc pub A.bounds.length fp hfp
  cases fp
  case false =>
    have hD := HNO.out (fun hw => of_decide_eq_false hfp ⟨by have := hw.2.2.1; omega, hw.2.2.2.1⟩)
    subst hD
    clear HNO HYES h2 hfp
    go_wp2_with (first
      | (go_at_call 23; (with_reducible refine (kc _ HA0.out).mono ?_); rintro E w1 ⟨rfl, hb⟩; replace HB := Lib.hid (bthen HB.out hb); replace HP0 := Lib.hid (HP0.out.keep hb); replace x0 := bkeep hb x0; replace x1 := bkeep hb x1; replace x2 := bkeep hb x2; replace x3 := bkeep hb x3; replace x4 := bkeep hb x4; clear hb)
      | (go_at_call 27; (with_reducible refine (ks _).mono ?_); rintro E w2 ⟨rfl, hb⟩; replace HB := Lib.hid (bthen HB.out hb); replace HP0 := Lib.hid (HP0.out.keep hb); replace x4 := bkeep hb x4; clear hb)
      | (go_at_call 24; (with_reducible refine (kf _ HP0.out).mono ?_); rintro E w3 ⟨rfl, rfl⟩))
    go_ret
    exact ⟨rfl, HB.out⟩
  have hpub := of_decide_eq_true hfp
  have HH := Lib.hid (And.intro h2 hpub)
  clear h2 hpub hfp
  go_upto_region 4 with (first
    | (go_at_call 23; (with_reducible refine (kc _ HA0.out).mono ?_); rintro E w1 ⟨rfl, hb⟩; replace HB := Lib.hid (bthen HB.out hb); replace HC := Lib.hid (HC.out.keep hb); replace HP0 := Lib.hid (HP0.out.keep hb); replace x0 := bkeep hb x0; replace x1 := bkeep hb x1; replace x2 := bkeep hb x2; replace x3 := bkeep hb x3; replace x4 := bkeep hb x4; clear hb)
    | (go_at_call 27; (with_reducible refine (ks _).mono ?_); rintro E w2 ⟨rfl, hb⟩; replace HB := Lib.hid (bthen HB.out hb); replace HC := Lib.hid (HC.out.keep hb); replace HP0 := Lib.hid (HP0.out.keep hb); replace x4 := bkeep hb x4; clear hb)
    | (go_at_call 24; (with_reducible refine (kf _ HP0.out).mono ?_); rintro E w3 ⟨rfl, rfl⟩))
  clear x0 x1 x2 x3 x4 kc ks kf e2 HP0
  go_loopw [29] (PWhRel w2 A rows) (fun i _ => rows.length - (intOf i).toNat)
  case atStart => exact ⟨0, Nat.zero_le _, rfl, Below.refl _ _, fun j hj => by omega⟩
  case round =>
    obtain ⟨k, hk2, rfl, hB, hpl⟩ := hrel
    have HBI := Lib.hid hB; have HPL := Lib.hid hpl
    by_cases hlt : k < rows.length
    · have hltI : (k : Int) < (rows.length : Int) := by omega
      obtain ⟨b, off, hpe, ak, ck, c0, hrow, _⟩ := (rowsA_keep HR.out (bthen HB.out hB)).2.2 k hlt
      obtain ⟨x0, _, _, _, _⟩ := HC.out.keep hB
      obtain ⟨row, hrw⟩ : ∃ row, rowN rows k = row := ⟨_, rfl⟩
      rw [show rows.getD k [] = row from hrw] at c0 hrow
      have HRW := Lib.hid hrw; have HROW := Lib.hid hrow
      obtain ⟨f, hff⟩ : ∃ z, decide ((row.length : Int) = A.cols ∧ KeptR row) = z := ⟨_, rfl⟩
      have kf := pfit_w ak ck row A.cols f hff
      simp only [hpe]
      clear hB hpl hpe hrw hrow
      cases f
      · have hD := HNO.out (fun hw => of_decide_eq_false hff (by have := rows_at (Q := fun r => (r.length : Int) = A.cols ∧ KeptR r) hw.2.2.2.2 hlt; rw [HRW.out] at this; exact this))
        subst hD
        have HBE := Lib.hid (bthen HB.out HBI.out)
        clear HNO HYES hff HPL
        go_wp2_with (go_at_call 24; (with_reducible refine (kf _ HROW.out).mono ?_); rintro E w3 ⟨rfl, rfl⟩)
        go_ret
        exact ⟨rfl, HBE.out⟩
      · have HPL2 := Lib.hid (show ∀ j, j < k + 1 → ((rowN rows j).length : Int) = A.cols ∧ KeptR (rowN rows j) from fun j hj => by
          by_cases e : j = k
          · subst e; rw [HRW.out]; exact of_decide_eq_true hff
          · exact HPL.out j (by omega))
        clear HPL hff
        go_wp2_with (go_at_call 24; (with_reducible refine (kf _ HROW.out).mono ?_); rintro E w3 ⟨rfl, rfl⟩)
        go_roundw
        case rel => exact ⟨k + 1, by omega, by go_num, HBI.out, HPL2.out⟩
        case measure => simp [intOf]; omega
    · obtain rfl : k = rows.length := by omega
      have hD := HYES.out ⟨HEC.out, HH.out.1, by have := HH.out.2.1; omega, HH.out.2.2, rows_of (Q := fun r => (r.length : Int) = A.cols ∧ KeptR r) hpl⟩
      subst hD
      have HBE := Lib.hid (bthen HB.out hB)
      clear hB hpl HPL HNO HYES
      go_wp2
      go_ret
      exact ⟨rfl, HBE.out⟩
end Go.Proofs.Ytjcgakmhpblanaa
