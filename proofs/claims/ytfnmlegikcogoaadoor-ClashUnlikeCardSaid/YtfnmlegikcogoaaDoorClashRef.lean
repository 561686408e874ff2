/-
  What the document's Trail comes to.
-/
import Derived.Test.YtfnmlegikcogoaaDoorGTree
import Derived.Test.YtfnmlegikcogoaaDoorClashM
namespace Go.Proofs.YtfnmlegikcogoaaDoor
open Go Go.RowKit Go.Sort Go.BigFrame
set_option linter.unusedVariables false

def TrailRel (W0 : World) (s : ByteArray) (i0 : Int) (g : Nat → ByteArray) (n : Nat) (i v t k : Value) (W : World) : Prop :=
  ∃ j : Nat, j ≤ n ∧ k = .int .i64 j ∧ i = .int .i64 (hv i0 j) ∧ t = .string (sumB (trailT s i0 g j)) ∧ MadeG 9 W0 W v (strV (trailT s i0 g) (j + 1))
set_option maxRecDepth 100000 in
set_option maxHeartbeats 4000000 in
theorem rtrail_is (i : Int) (a : Option Addr) (len cap : Nat) (zs : List Int) (b : Option Addr) (lenb capb : Nat) (qs : List (Int × Int)) (p : Option Addr) (n c : Nat) (g : Nat → ByteArray) (w : World) (hr : RowA w a len zs) (hu : ∀ n ∈ zs, U n) (hq : QRowA w b lenb qs) (hv2 : ∀ n ∈ qs, U n.1 ∧ U n.2) (hl : len ≤ 10000) (hlb : lenb ≤ 10000)
    (hS : StrS w p n c g) (hn : n ≤ 70) (hg : ∀ k, k < n → (g k).size ≤ 100) (hi : -9223372036854775808 ≤ i ∧ i ≤ 9223372036854775807) :
    Calls Tryd.prog 12 #[.int .i64 i, .agg #[.slice a len cap, .slice b lenb capb, .slice p n c]] w fun e w' => Below w.heap.size w w' ∧ ∃ r cr, e = .returned (.slice r (n + 1) cr) ∧ StrS w' r (n + 1) cr (trailT (openB zs qs) i g) := by
  obtain ⟨i0, ki, kz0, kz1, kz2⟩ := info_parts infoS
  have kt := fun (W : World) (hb : Below w.heap.size w W) => rltext_is a len cap zs b lenb capb qs (.slice p n c) W (hr.keep hb) hu (hq.keep hb) hv2 hl hlb
  have ko := fun (W : World) (hb : Below w.heap.size w W) => rlof_is a len cap zs b lenb capb qs (.slice p n c) W (hr.keep hb) hu (hq.keep hb) hv2 hl hlb
  have hts := openB_size zs qs (by rw [hr.1]; exact hl) (by rw [hq.1]; exact hlb)
  have hl0 : leafB (openB zs qs) = sumB (trailT (openB zs qs) i g 0) := rfl
  rw [hl0] at ko
  clear hl0
  generalize openB zs qs = s at *
  have HT0 := Lib.hid (show byte0 ++ s = trailT s i g 0 from rfl)
  have HSZ : Hid (∀ k, k ≤ n → (trailT s i g k).size ≤ 200001) := Lib.hid fun k hk => by
    cases k with
    | zero => rw [trailT, ByteArray.size_append]; show 1 + _ ≤ _; omega
    | succ k =>
      have h1 := hg k (by omega)
      have h2 := sumB_size (trailT s i g k)
      rw [trailT]
      split <;> rw [ByteArray.size_append, ByteArray.size_append] <;> (show 1 + _ + _ ≤ _) <;> omega
  have HS := Lib.hid hS; have HG := Lib.hid hg; have HI := Lib.hid hi
  clear hr hq hS hg hi
  go_enter Tryd.func12, Tryd.ntmps12
  go_upto_region 1 with fail
  refine wp_gen (fun W => Below w.heap.size w W ∧ OpenV W w.heap.size (.slice a len cap) (.slice b lenb capb) (.slice p n c)) ⟨(Below.refl _ _).alloc (Nat.le_refl _) _, Open_alloc _ _ _ _ _⟩ ?_
  obtain ⟨g0, hg0⟩ : ∃ g, w.heap.size = g := ⟨_, rfl⟩
  rintro W0 ⟨hB, hX⟩
  rw [hg0] at hX
  simp only [hg0]
  have HB := Lib.hid hB
  have HX0 := Lib.hid hX
  obtain ⟨x0, x1, x2⟩ := hX
  clear hB hg0
  go_upto_region 2 with (go_at_call 18; (with_reducible refine (kt W0 HB.out).mono ?_); rintro e w1 ⟨rfl, hb1⟩)
  have hb2 := (Below.refl w1.heap.size w1).alloc (Nat.le_refl _) (.cells #[.string (byte0 ++ s)] 9)
  refine wp_gen (fun W => MadeG 9 W0 W (.slice (some ⟨w1.heap.size, 0, none⟩) 1 1) (strV (trailT s i g) 1)) ⟨own_new _ _ _ _ hb1.size, bthen hb1 hb2⟩ ?_
  generalize w1.heap.size = gv
  clear x0 x1 x2 hb1 hb2 kt
  rintro W1 hM
  obtain ⟨x0, x1, x2⟩ := HX0.out.keep hM.2
  have HM := Lib.hid hM
  clear hM
  have ko1 := ko W1 (bthen HB.out HM.out.2)
  go_upto_region 4 with (go_at_call 21; (with_reducible refine ko1.mono ?_); rintro e w2 ⟨rfl, hb⟩)
  replace HM := Lib.hid (HM.out.keep hb)
  clear hb ko x0 x1 x2
  go_loopw [0, 5, 6, 7] (TrailRel W0 s i g n) (fun _ _ _ k _ => n - (intOf k).toNat)
  case atStart => exact ⟨0, Nat.zero_le _, rfl, rfl, rfl, HM.out⟩
  case round =>
    clear HM
    obtain ⟨j, hj, rfl, rfl, rfl, hM⟩ := hrel
    obtain ⟨x0, x1, x2⟩ := HX0.out.keep hM.2
    by_cases hlt : j < n
    · obtain ⟨bp, op, rfl, hc⟩ := HS.out.1.2 j hlt
      have c0 := bkeep (bthen HB.out hM.2) hc
      have hlt' : (j : Int) < (n : Int) := by omega
      have hdw : IntKind.i64.wrap ((hv i j).tdiv 2) = (hv i j).tdiv 2 := IntWalk.i64_in _ (hv_bd HI.out (j + 1))
      have HV := Lib.hid (show (hv i j).tdiv 2 = hv i (j + 1) from rfl)
      have HN := Lib.hid (show trailT s i g (j + 1) = if (hv i j).tmod 2 = 0 then byte1 ++ sumB (trailT s i g j) ++ g j else byte1 ++ g j ++ sumB (trailT s i g j) from rfl)
      have HSN := Lib.hid (strV_snoc (trailT s i g) (j + 1))
      have hlen := strV_len (trailT s i g) (j + 1)
      have hs1 := HSZ.out (j + 1) (by omega)
      have kz := rsum1 (trailT s i g (j + 1)) _ rfl (by omega)
      have HMB := Lib.hid hM
      have hown := hM.1; have hsz := hM.2.size
      clear hM hc
      have hq1 := sumB_size (trailT s i g j)
      have hq2 := HG.out j hlt
      clear ko1
      generalize hv i j = x at *
      generalize sumB (trailT s i g j) = σ0 at *
      generalize g j = y at *
      obtain ⟨σ1, hσ1⟩ : ∃ z, sumB (trailT s i g (j + 1)) = z := ⟨_, rfl⟩
      rw [hσ1] at kz
      have HS1 := Lib.hid hσ1
      clear hσ1
      by_cases hp : x.tmod 2 = 0
      · have hE := HN.out.trans (if_pos hp)
        rw [hE] at kz HSN
        have HE := Lib.hid hE
        clear hE HN
        go_upto_region 10 with (at_builtin; refine wpList_append_own _ rfl _ _ 24 rfl W0.heap.size 9 i0 (.string ⟨#[]⟩) 1 16 Tryd.underlying24 ki kz0 kz1 kz2 rfl (by decide) _ _ _ rfl (hown.alloc _) ⟨wr.heap.size, 0, none⟩ 1 1 [.string (byte1 ++ σ0 ++ y)] rfl rfl ?c1 ?c2 ?c3 ?c4 ?c5 ?_)
        case c1 => exact one_src (by simp [go_sem])
        case c2 => first | rfl | (intro u hu; simp at hu; subst hu; rfl)
        case c3 => unfold maxLen; omega
        case c4 => omega
        case c5 => first | omega | (simp; omega)
        · intro v' w3 hown2 hgrow _
          have hba := (Below.refl wr.heap.size wr).alloc (Nat.le_refl _) (.cells #[.string (byte1 ++ σ0 ++ y)] 9)
          have R := Lib.hid ((HMB.out.keep hba).grow (by rw [hlen]; exact hown2) hgrow)
          obtain ⟨y0, y1, y2⟩ := HX0.out.keep R.out.2
          have kz1 := kz w3 9
          clear hown2 hgrow hown x0 x1 x2 c0 kz
          go_wp2_with (go_at_call 19; (with_reducible refine kz1.mono ?_); rintro e w4 ⟨rfl, hb4⟩)
          have R4 := Lib.hid (R.out.keep hb4)
          go_roundw
          case rel => exact ⟨j + 1, by omega, by go_num, by rw [HV.out], by rw [HS1.out], by rw [← HSN.out]; exact R4.out⟩
          case measure => simp [intOf]; omega
      · have hE := HN.out.trans (if_neg hp)
        rw [hE] at kz HSN
        have HE := Lib.hid hE
        clear hE HN
        go_upto_region 10 with (at_builtin; refine wpList_append_own _ rfl _ _ 24 rfl W0.heap.size 9 i0 (.string ⟨#[]⟩) 1 16 Tryd.underlying24 ki kz0 kz1 kz2 rfl (by decide) _ _ _ rfl (hown.alloc _) ⟨wr.heap.size, 0, none⟩ 1 1 [.string (byte1 ++ y ++ σ0)] rfl rfl ?c1 ?c2 ?c3 ?c4 ?c5 ?_)
        case c1 => exact one_src (by simp [go_sem])
        case c2 => first | rfl | (intro u hu; simp at hu; subst hu; rfl)
        case c3 => unfold maxLen; omega
        case c4 => omega
        case c5 => first | omega | (simp; omega)
        · intro v' w3 hown2 hgrow _
          have hba := (Below.refl wr.heap.size wr).alloc (Nat.le_refl _) (.cells #[.string (byte1 ++ y ++ σ0)] 9)
          have R := Lib.hid ((HMB.out.keep hba).grow (by rw [hlen]; exact hown2) hgrow)
          obtain ⟨y0, y1, y2⟩ := HX0.out.keep R.out.2
          have kz1 := kz w3 9
          clear hown2 hgrow hown x0 x1 x2 c0 kz
          go_wp2_with (go_at_call 19; (with_reducible refine kz1.mono ?_); rintro e w4 ⟨rfl, hb4⟩)
          have R4 := Lib.hid (R.out.keep hb4)
          go_roundw
          case rel => exact ⟨j + 1, by omega, by go_num, by rw [HV.out], by rw [HS1.out], by rw [← HSN.out]; exact R4.out⟩
          case measure => simp [intOf]; omega
    · obtain rfl : j = n := by omega
      obtain ⟨ar, cr, rfl, hR⟩ := hM.strs
      have HB2 := Lib.hid (bthen HB.out hM.2)
      have HR := Lib.hid hR
      clear hM hR hlt
      go_wp2
      go_ret
      exact ⟨HB2.out, ar, cr, rfl, HR.out⟩
end Go.Proofs.YtfnmlegikcogoaaDoor
