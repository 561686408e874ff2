/-
  The walk of EvalJoins: it answers true, where the program's calls do what is asked of them. (Written by gen_vjoins.py.)
-/
import Derived.Test.YtlgfnlkblehlbaaVLLifts
import Derived.Test.YtlgfnlkblehlbaaOpsRow
namespace Go.Proofs.Ytlgfnlkblehlbaa
open Go Go.RowKit
set_option linter.unusedVariables false

theorem own_opn {W : World} {B k : Nat} {v : Value} {l : List Opn} (h : W.ownsRow B 38 2 v k (flatO l)) : ∃ a c, v = .slice a k c ∧ OpA W a k l := by
  have hl : k = l.length := by
    have := h.1
    rw [flatO_len2] at this
    omega
  subst hl
  obtain ⟨a, c, e, h4, _⟩ := own_oprow h
  exact ⟨a, c, e, h4⟩
def JoRel (w0 : World) (i : Value) (W : World) : Prop := ∃ kk : Nat, kk ≤ 3 ∧ i = .int .i64 ((4 + kk : Nat) : Int) ∧ Below w0.heap.size w0 W
theorem okJoin {l m : List Opn} {kk : Int} (hl : ∀ o ∈ l, OkO o) (hm : ∀ o ∈ m, OkO o) (hk : 4 ≤ kk ∧ kk ≤ 6) : ∀ o ∈ l ++ m ++ [(kk, 0)], OkO o := by
  intro o ho
  simp only [List.mem_append, List.mem_singleton] at ho
  rcases ho with (h | h) | rfl
  · exact hl o h
  · exact hm o h
  · exact ⟨⟨by show _ ≤ kk; omega, by show kk ≤ _; omega⟩, by unfold U; omega⟩
set_option maxRecDepth 100000 in
set_option maxHeartbeats 8000000 in
theorem vjoins_body (G : World → Prop) (hA : AskEval G) (aw : ∀ W, G W → Calls Try.prog 10 #[] W fun e w' => e = .returned (.bool true) ∧ Below W.heap.size W w') (a : Option Addr) (n cap : Nat) (zs : List Opn) (a2 : Option Addr) (n2 cap2 : Nat) (ys : List Opn) (b : Option Addr) (lb capb : Nat) (cs : List Int) (c : Option Addr) (lc capc : Nat) (ds : List Int) (w : World) (hG0 : G w) (hO : OpA w a n zs) (hu : ∀ o ∈ zs, OkO o) (hna : a = none → cap = 0) (hO2 : OpA w a2 n2 ys) (hu2 : ∀ o ∈ ys, OkO o) (hna2 : a2 = none → cap2 = 0) (hc : RowA w b lb cs) (hcu : ∀ n ∈ cs, U n) (hcb : lb ≤ capb ∧ capb ≤ maxLen) (hd : RowA w c lc ds) (hdu : ∀ n ∈ ds, U n) (hcc : lc ≤ capc ∧ capc ≤ maxLen) :
    Calls Try.prog 6 #[.slice a n cap, .slice a2 n2 cap2, .agg #[.slice b lb capb, .slice c lc capc]] w fun e w' => e = .returned (.bool true) ∧ Below w.heap.size w w' := by
  obtain ⟨i0, hi, hz0, hz1, hz2⟩ := info_parts infoOp
  have HK := Lib.hid (fun (W W' : World) => @AskEval.keep G hA W W')
  have HG0 := Lib.hid hG0
  have hmax := hO.2.1; have hmax2 := hO2.2.1; have hmb := hc.2.1; have hmc := hd.2.1
  have HCAP := Lib.hid (And.intro hcb hcc)
  have HN := Lib.hid (And.intro hna hna2)
  unfold maxLen at hmax hmax2 hmb hmc
  obtain rfl := hO.1
  obtain rfl := hO2.1
  obtain ⟨m, hm⟩ : ∃ m, min lb lc = m := ⟨_, rfl⟩
  have hmn : min (lb : Int) (lc : Int) = (m : Int) := by rw [← hm]; exact min_nat lb lc
  have hm1 : m ≤ lb := by omega
  have hm2 : m ≤ lc := by omega
  obtain ⟨d1, e1, hz1'⟩ : ∃ d e, checkB zs (m : Int) true = (d, e) := ⟨_, _, rfl⟩
  obtain ⟨d2, e2, hz2'⟩ : ∃ d e, checkB ys (m : Int) true = (d, e) := ⟨_, _, rfl⟩
  have HO := Lib.hid hO; have HO2 := Lib.hid hO2; have HC := Lib.hid hc; have HD := Lib.hid hd
  have kr1 := fun (W : World) (hb : Below w.heap.size w W) => rright_is a zs.length cap zs (m : Int) d1 e1 (e1 == 0) W (HO.out.keep hb) hu (by omega) hz1' rfl
  have kr2 := fun (W : World) (hb : Below w.heap.size w W) => rright_is a2 ys.length cap2 ys (m : Int) d2 e2 (e2 == 0) W (HO2.out.keep hb) hu2 (by omega) hz2' rfl
  have HU := Lib.hid hu; have HU2 := Lib.hid hu2; have HUC := Lib.hid hcu; have HUD := Lib.hid hdu
  have HZ1 := Lib.hid hz1'; have HZ2 := Lib.hid hz2'
  have ho1 := fun o ho => (hu o ho).2.1
  have ho2 := fun o ho => (hu2 o ho).2.1
  have HP1 := Lib.hid ho1; have HP2 := Lib.hid ho2
  clear hO hO2 hc hd hm hcb hcc hna hna2 hu hu2 hcu hdu hz1' hz2' ho1 ho2
  go_enter Try.func6, Try.ntmps6
  go_upto_region 1 with fail
  refine wp_gen (fun W => Below w.heap.size w W ∧ W.cell? ⟨w.heap.size, 0, none⟩ = some (.slice b lb capb) ∧ W.cell? ⟨w.heap.size, 1, none⟩ = some (.slice c lc capc)) ⟨(Below.refl _ _).alloc (Nat.le_refl _) _, by simp [go_sem], by simp [go_sem]⟩ ?_
  obtain ⟨g5, hg5⟩ : ∃ g, w.heap.size = g := ⟨_, rfl⟩
  rintro W1 ⟨hB, g0, g1⟩
  rw [hg5] at g0 g1
  simp only [hg5]
  have HB := Lib.hid hB
  clear hB hg5
  by_cases b1 : (100 : Int) < (zs.length : Int)
  · go_wp2_with (first | (go_at_call 9; (first | with_reducible refine (kr1 _ HB.out).mono ?_ | with_reducible refine (kr2 _ HB.out).mono ?_); rintro e w1 ⟨rfl, hb⟩; replace HB := Lib.hid (bthen HB.out hb); replace g0 := bkeep hb g0; replace g1 := bkeep hb g1; clear hb) | (go_at_call 10; (with_reducible refine (aw _ (HK.out _ _ HG0.out HB.out)).mono ?_); rintro e w1 ⟨rfl, hb⟩; replace HB := Lib.hid (bthen HB.out hb); clear hb))
    go_ret
    exact ⟨rfl, HB.out⟩
  by_cases b2 : (100 : Int) < (ys.length : Int)
  · go_wp2_with (first | (go_at_call 9; (first | with_reducible refine (kr1 _ HB.out).mono ?_ | with_reducible refine (kr2 _ HB.out).mono ?_); rintro e w1 ⟨rfl, hb⟩; replace HB := Lib.hid (bthen HB.out hb); replace g0 := bkeep hb g0; replace g1 := bkeep hb g1; clear hb) | (go_at_call 10; (with_reducible refine (aw _ (HK.out _ _ HG0.out HB.out)).mono ?_); rintro e w1 ⟨rfl, hb⟩; replace HB := Lib.hid (bthen HB.out hb); clear hb))
    go_ret
    exact ⟨rfl, HB.out⟩
  by_cases b3 : (8 : Int) < (m : Int)
  · go_wp2_with (first | (go_at_call 9; (first | with_reducible refine (kr1 _ HB.out).mono ?_ | with_reducible refine (kr2 _ HB.out).mono ?_); rintro e w1 ⟨rfl, hb⟩; replace HB := Lib.hid (bthen HB.out hb); replace g0 := bkeep hb g0; replace g1 := bkeep hb g1; clear hb) | (go_at_call 10; (with_reducible refine (aw _ (HK.out _ _ HG0.out HB.out)).mono ?_); rintro e w1 ⟨rfl, hb⟩; replace HB := Lib.hid (bthen HB.out hb); clear hb))
    go_ret
    exact ⟨rfl, HB.out⟩
  by_cases he1 : e1 = 0
  case neg =>
    have he' : (e1 == 0) = false := by simp [he1]
    rw [he'] at kr1
    clear he1 he'
    go_wp2_with (first | (go_at_call 9; (first | with_reducible refine (kr1 _ HB.out).mono ?_ | with_reducible refine (kr2 _ HB.out).mono ?_); rintro e w1 ⟨rfl, hb⟩; replace HB := Lib.hid (bthen HB.out hb); replace g0 := bkeep hb g0; replace g1 := bkeep hb g1; clear hb) | (go_at_call 10; (with_reducible refine (aw _ (HK.out _ _ HG0.out HB.out)).mono ?_); rintro e w1 ⟨rfl, hb⟩; replace HB := Lib.hid (bthen HB.out hb); clear hb))
    go_ret
    exact ⟨rfl, HB.out⟩
  by_cases he2 : e2 = 0
  case neg =>
    have he' : (e2 == 0) = false := by simp [he2]
    rw [he'] at kr2
    subst he1
    have he'' : ((0 : Int) == 0) = true := rfl
    rw [he''] at kr1
    clear he2 he' he''
    go_wp2_with (first | (go_at_call 9; (first | with_reducible refine (kr1 _ HB.out).mono ?_ | with_reducible refine (kr2 _ HB.out).mono ?_); rintro e w1 ⟨rfl, hb⟩; replace HB := Lib.hid (bthen HB.out hb); replace g0 := bkeep hb g0; replace g1 := bkeep hb g1; clear hb) | (go_at_call 10; (with_reducible refine (aw _ (HK.out _ _ HG0.out HB.out)).mono ?_); rintro e w1 ⟨rfl, hb⟩; replace HB := Lib.hid (bthen HB.out hb); clear hb))
    go_ret
    exact ⟨rfl, HB.out⟩
  subst he1 he2
  have he' : ((0 : Int) == 0) = true := rfl
  rw [he'] at kr1 kr2
  clear he'
  go_upto_region 4 with (go_at_call 9; (first | with_reducible refine (kr1 _ HB.out).mono ?_ | with_reducible refine (kr2 _ HB.out).mono ?_); rintro e w1 ⟨rfl, hb⟩; replace HB := Lib.hid (bthen HB.out hb); replace g0 := bkeep hb g0; replace g1 := bkeep hb g1; clear hb)
  clear kr1 kr2
  obtain ⟨x, hx⟩ : ∃ x, evB numA (rowF (cs.take m)) (rowF (ds.take m)) zs = x := ⟨_, rfl⟩
  obtain ⟨y, hy⟩ : ∃ y, evB numA (rowF (cs.take m)) (rowF (ds.take m)) ys = y := ⟨_, rfl⟩
  have k1 := fun (W : World) (hb : Below w.heap.size w W) => hA.num a zs.length cap zs b m capb (cs.take m) c m capc (ds.take m) m d1 x W (HO.out.keep hb) HU.out HZ1.out ((HC.out.keep hb).cut hm1) (fun n hn => HUC.out n (List.mem_of_mem_take hn)) (Int.le_refl _) ((HD.out.keep hb).cut hm2) (fun n hn => HUD.out n (List.mem_of_mem_take hn)) (Int.le_refl _) hx (HK.out _ _ HG0.out hb)
  have k2 := fun (W : World) (hb : Below w.heap.size w W) => hA.num a2 ys.length cap2 ys b m capb (cs.take m) c m capc (ds.take m) m d2 y W (HO2.out.keep hb) HU2.out HZ2.out ((HC.out.keep hb).cut hm1) (fun n hn => HUC.out n (List.mem_of_mem_take hn)) (Int.le_refl _) ((HD.out.keep hb).cut hm2) (fun n hn => HUD.out n (List.mem_of_mem_take hn)) (Int.le_refl _) hy (HK.out _ _ HG0.out hb)
  have HXY := Lib.hid (fun (kk : Int) (h : 4 ≤ kk) => by
    have := evB_joins numA (rowF (cs.take m)) (rowF (ds.take m)) HP1.out HP2.out HZ1.out HZ2.out h
    rw [hx, hy] at this
    exact this)
  have k3 := Lib.hid (fun (kk : Int) (hk : 4 ≤ kk ∧ kk ≤ 6) (d3 : Nat) (W : World) (hb : Below w.heap.size w W) (aa : Option Addr) (ca : Nat) (h : OpA W aa (zs.length + ys.length + 1) (zs ++ ys ++ [(kk, 0)])) (hz : checkB (zs ++ ys ++ [(kk, 0)]) m true = (d3, 0)) => hA.num aa (zs.length + ys.length + 1) ca (zs ++ ys ++ [(kk, 0)]) b m capb (cs.take m) c m capc (ds.take m) m d3 (op2 numA kk x y) W h (okJoin HU.out HU2.out hk) hz ((HC.out.keep hb).cut hm1) (fun n hn => HUC.out n (List.mem_of_mem_take hn)) (Int.le_refl _) ((HD.out.keep hb).cut hm2) (fun n hn => HUD.out n (List.mem_of_mem_take hn)) (Int.le_refl _) (HXY.out kk hk.1) (HK.out _ _ HG0.out hb))
  clear hx hy HXY
  have hcap := HCAP.out
  have hc1 : (m : Int) ≤ (capb : Int) := by omega
  have hc2 : (m : Int) ≤ (capc : Int) := by omega
  have hc3 : m ≤ capb := by omega
  have hc4 : m ≤ capc := by omega
  have hc5 : ¬ (m : Int) < 0 := by omega
  have HFL := Lib.hid (fun kk : Int => (show flatO (zs ++ ys ++ [(kk, 0)]) = flatO zs ++ flatO ys ++ [.int .i64 kk, .int .u64 0] by simp [flatO]))
  have HLN := Lib.hid (fun kk : Int => (show (zs ++ ys ++ [(kk, 0)]).length = zs.length + ys.length + 1 by simp; omega))
  have HFL2 : Hid (flatO (zs ++ ys) = flatO zs ++ flatO ys) := Lib.hid (by simp [flatO])
  have HLN2 : Hid ((zs ++ ys).length = zs.length + ys.length) := Lib.hid (by simp)
  have hst0 : zs.length ≤ 100 := by omega
  have hst1 : ys.length ≤ 100 := by omega
  clear hcap HCAP HC HD b1 b2 HP1 HP2
  cases b <;> cases c
  all_goals
    go_region
    go_upto_region 5 with fail
    refine wp_gen (fun W => Below w.heap.size w W) HB.out.drew ?_
    clear HB g0 g1
    rintro w2 hB
    have HB := Lib.hid hB
    clear hB
    go_upto_region 6 with (go_at_call 11; (first | with_reducible refine (k1 _ HB.out).mono ?_ | with_reducible refine (k2 _ HB.out).mono ?_); rintro e w3 ⟨rfl, hb⟩; replace HB := Lib.hid (bthen HB.out hb); clear hb)
    clear k1 k2 hc1 hc2 hc3 hc4 hc5
    refine wp_gen (fun W => Below w.heap.size w W) HB.out ?_
    clear HB
    rintro wK hB
    have HB := Lib.hid hB
    clear hB
    have HOK := Lib.hid (HO.out.keep HB.out); have HOK2 := Lib.hid (HO2.out.keep HB.out)
    have hlb := (Below.refl wK.heap.size wK).alloc (Nat.le_refl _) (.cells #[] 38)
    have hlo := World.ownsRow_lit (e := 38) (size := 2) wK #[] 0 (Nat.le_refl _) (by unfold maxLen; omega) rfl
    go_upto_region 7 with (first
      | (at_builtin; refine wpList_append3 rfl _ _ 22 rfl wK.heap.size 38 i0 (.agg #[.int .i64 0, .int .u64 0]) 2 16 Try.underlying22 hi hz0 hz1 hz2 rfl (by decide) _ 0 [] rfl hlo a zs.length cap (flatO zs) rfl (flatO_len2 zs) HN.out.1 (opA_nil0 HOK.out) (opA_cells (HOK.out.keep hlb)) (flatO_one zs) (by unfold maxLen; omega) (by omega) (by simp) ?_; intro v1 w1 q1 q2 _; have hbX := own_row_below hlo hlb q2 (Nat.le_refl _) (by simp); have HBX := Lib.hid hbX; have q1' : w1.ownsRow wK.heap.size 38 2 v1 zs.length (flatO zs) := (by simpa using q1); have HROW := Lib.hid q1'; clear hbX q1 q2 q1')
      | (at_builtin; refine wpList_append3 rfl _ _ 22 rfl wK.heap.size 38 i0 (.agg #[.int .i64 0, .int .u64 0]) 2 16 Try.underlying22 hi hz0 hz1 hz2 rfl (by decide) _ zs.length (flatO zs) rfl HROW.out a2 ys.length cap2 (flatO ys) rfl (flatO_len2 ys) HN.out.2 (opA_nil0 HOK2.out) (opA_cells (HOK2.out.keep HBX.out)) (flatO_one ys) (by unfold maxLen; omega) (by omega) HBX.out.size ?_; intro v2 w2' q1 q2 _; have hbX := own_row_below HROW.out HBX.out q2 (Nat.le_refl _) HBX.out.size; have q3 : w2'.ownsRow wK.heap.size 38 2 v2 (zs ++ ys).length (flatO (zs ++ ys)) := (by rw [HFL2.out, HLN2.out]; exact q1); obtain ⟨aB, cB, rfl, h4, hnB⟩ := own_oprow q3; have HBY := Lib.hid hbX; have H4 := Lib.hid h4; have HNB := Lib.hid hnB; clear hbX q1 q2 q3 h4 hnB))
    clear hlb hlo
    refine wp_gen (fun W => Below w.heap.size w W ∧ OpA W aB (zs ++ ys).length (zs ++ ys)) ⟨bthen HB.out HBY.out, H4.out⟩ ?_
    clear HB HBY H4 HOK HOK2 HBX HROW
    rintro w0 ⟨hB, hOB⟩
    have HB0 := Lib.hid hB; have HOB := Lib.hid hOB
    clear hB hOB
    obtain ⟨nB, hnB⟩ : ∃ k, zs.length + ys.length = k := ⟨_, rfl⟩
    rw [HLN2.out, hnB] at HOB
    simp only [hnB]
    have HnB := Lib.hid hnB.symm
    have hnb2 : nB ≤ 200 := by have := HnB.out; omega
    clear hnB
    go_upto_region 8 with fail
    go_loopw [13] (JoRel w0) (fun i _ => (7 - intOf i).toNat)
    case atStart => exact ⟨0, by omega, rfl, Below.refl _ _⟩
    case round =>
      obtain ⟨kk, hk, rfl, hB⟩ := hrel
      have HB := Lib.hid (bthen HB0.out hB)
      have HBW := Lib.hid hB
      clear hB
      have hkc : kk = 0 ∨ kk = 1 ∨ kk = 2 ∨ kk = 3 := by omega
      rcases hkc with rfl | rfl | rfl | rfl
      · obtain ⟨d3, e3, hz3⟩ : ∃ d e, checkB (zs ++ ys ++ [(4, 0)]) m true = (d, e) := ⟨_, _, rfl⟩
        have kr3 := fun (W : World) (aa : Option Addr) (ca : Nat) (h : OpA W aa (zs.length + ys.length + 1) (zs ++ ys ++ [(4, 0)])) => rright_is aa (zs.length + ys.length + 1) ca (zs ++ ys ++ [(4, 0)]) m d3 e3 (e3 == 0) W h (okJoin HU.out HU2.out (by decide)) (by omega) hz3 rfl
        obtain ⟨z, hzz⟩ : ∃ z, x + y = z := ⟨_, rfl⟩
        have K3 := k3.out 4 (by decide) d3
        rw [show op2 numA 4 x y = z from hzz] at K3
        have ks := kadd x y z hzz
        have hF := HFL.out 4
        have hL := HLN.out 4
        have HFLk := Lib.hid hF; have HLNk := Lib.hid hL
        clear hF hL
        have HZ3 := Lib.hid hz3
        clear hz3
        have hlb := (Below.refl wr.heap.size wr).alloc (Nat.le_refl _) (.cells #[] 38)
        have hlo := World.ownsRow_lit (e := 38) (size := 2) wr #[] 0 (Nat.le_refl _) (by unfold maxLen; omega) rfl
        go_upto_region 11 with (first
          | (at_builtin; refine wpList_append3 rfl _ _ 22 rfl wr.heap.size 38 i0 (.agg #[.int .i64 0, .int .u64 0]) 2 16 Try.underlying22 hi hz0 hz1 hz2 rfl (by decide) _ 0 [] rfl hlo aB nB cB (flatO (zs ++ ys)) rfl (by rw [flatO_len2, HLN2.out, HnB.out]) HNB.out (opA_nil0 HOB.out) (opA_cells ((HOB.out.keep HBW.out).keep hlb)) (flatO_one (zs ++ ys)) (by unfold maxLen; omega) (by omega) (by simp) ?_; intro v1 w1 q1 q2 _; have hbX := own_row_below hlo hlb q2 (Nat.le_refl _) (by simp); have HBX := Lib.hid hbX; have q1' : w1.ownsRow wr.heap.size 38 2 v1 nB (flatO (zs ++ ys)) := (by simpa using q1); have HROW := Lib.hid q1'; have hszX := hbX.size; clear hbX q1 q2 q1')
          | (at_builtin; refine wpList_append_own _ rfl _ _ 22 rfl wr.heap.size 38 i0 (.agg #[.int .i64 0, .int .u64 0]) 2 16 Try.underlying22 hi hz0 hz1 hz2 rfl (by decide) _ _ _ rfl (HROW.out.alloc _) ⟨w1.heap.size, 0, none⟩ 1 1 [.int .i64 4, .int .u64 0] rfl rfl (two_src (by simp [go_sem]) (by simp [go_sem])) (by intro u hu; simp at hu; rcases hu with rfl | rfl <;> rfl) (by unfold maxLen; omega) (by omega) (by simp; omega) ?_; intro v2 w2' q1 q2 _; have hbX := own_row_below (HROW.out.alloc (.cells #[.int .i64 4, .int .u64 0] 38)) (HBX.out.alloc HBX.out.size _) q2 (Nat.le_refl _) (by simp; omega); have q3 : w2'.ownsRow wr.heap.size 38 2 v2 (nB + 1) (flatO (zs ++ ys ++ [(4, 0)])) := (by rw [HFLk.out, ← HFL2.out]; exact q1); obtain ⟨aC, cC, e5, h4⟩ := own_opn q3; subst e5; have HBY := Lib.hid hbX; have H4 := Lib.hid h4; clear hbX q1 q2 q3 h4))
        clear hlb hlo
        replace HB := Lib.hid (bthen HB.out HBY.out)
        replace HBW := Lib.hid (bthen HBW.out HBY.out)
        clear HROW HBX HBY hszX
        rw [← HnB.out] at K3 kr3
        by_cases he3 : e3 = 0
        · subst he3
          have he' : ((0 : Int) == 0) = true := rfl
          rw [he'] at kr3
          clear he'
          go_wp2_with (first
            | (go_at_call 9; (with_reducible refine (kr3 _ aC cC H4.out).mono ?_); rintro e w1 ⟨rfl, hb⟩; replace HB := Lib.hid (bthen HB.out hb); replace HBW := Lib.hid (bthen HBW.out hb); replace H4 := Lib.hid (H4.out.keep hb); clear hb)
            | (go_at_call 17; (with_reducible refine (ks _).mono ?_); rintro e w1 ⟨rfl, hb⟩; replace HB := Lib.hid (bthen HB.out hb); replace HBW := Lib.hid (bthen HBW.out hb); replace H4 := Lib.hid (H4.out.keep hb); clear hb)
            | (go_at_call 11; (with_reducible refine (K3 _ HB.out aC cC H4.out HZ3.out).mono ?_); rintro e w1 ⟨rfl, hb⟩; replace HB := Lib.hid (bthen HB.out hb); replace HBW := Lib.hid (bthen HBW.out hb); clear hb))
          go_roundw
          case rel => exact ⟨1, by omega, by go_num, HBW.out⟩
          case measure => first | (simp [intOf]; done) | (simp [intOf]; omega)
        · have he' : (e3 == 0) = false := by simp [he3]
          rw [he'] at kr3
          clear he' he3
          go_wp2_with (go_at_call 9; (with_reducible refine (kr3 _ aC cC H4.out).mono ?_); rintro e w1 ⟨rfl, hb⟩; replace HB := Lib.hid (bthen HB.out hb); replace HBW := Lib.hid (bthen HBW.out hb); clear hb)
          go_roundw
          case rel => exact ⟨1, by omega, by go_num, HBW.out⟩
          case measure => first | (simp [intOf]; done) | (simp [intOf]; omega)
      · obtain ⟨d3, e3, hz3⟩ : ∃ d e, checkB (zs ++ ys ++ [(5, 0)]) m true = (d, e) := ⟨_, _, rfl⟩
        have kr3 := fun (W : World) (aa : Option Addr) (ca : Nat) (h : OpA W aa (zs.length + ys.length + 1) (zs ++ ys ++ [(5, 0)])) => rright_is aa (zs.length + ys.length + 1) ca (zs ++ ys ++ [(5, 0)]) m d3 e3 (e3 == 0) W h (okJoin HU.out HU2.out (by decide)) (by omega) hz3 rfl
        obtain ⟨z, hzz⟩ : ∃ z, x - y = z := ⟨_, rfl⟩
        have K3 := k3.out 5 (by decide) d3
        rw [show op2 numA 5 x y = z from hzz] at K3
        have ks := kadd x y _ rfl
        have kt := ksub x y z hzz
        have hF := HFL.out 5
        have hL := HLN.out 5
        have HFLk := Lib.hid hF; have HLNk := Lib.hid hL
        clear hF hL
        have HZ3 := Lib.hid hz3
        clear hz3
        have hlb := (Below.refl wr.heap.size wr).alloc (Nat.le_refl _) (.cells #[] 38)
        have hlo := World.ownsRow_lit (e := 38) (size := 2) wr #[] 0 (Nat.le_refl _) (by unfold maxLen; omega) rfl
        go_upto_region 11 with (first
          | (at_builtin; refine wpList_append3 rfl _ _ 22 rfl wr.heap.size 38 i0 (.agg #[.int .i64 0, .int .u64 0]) 2 16 Try.underlying22 hi hz0 hz1 hz2 rfl (by decide) _ 0 [] rfl hlo aB nB cB (flatO (zs ++ ys)) rfl (by rw [flatO_len2, HLN2.out, HnB.out]) HNB.out (opA_nil0 HOB.out) (opA_cells ((HOB.out.keep HBW.out).keep hlb)) (flatO_one (zs ++ ys)) (by unfold maxLen; omega) (by omega) (by simp) ?_; intro v1 w1 q1 q2 _; have hbX := own_row_below hlo hlb q2 (Nat.le_refl _) (by simp); have HBX := Lib.hid hbX; have q1' : w1.ownsRow wr.heap.size 38 2 v1 nB (flatO (zs ++ ys)) := (by simpa using q1); have HROW := Lib.hid q1'; have hszX := hbX.size; clear hbX q1 q2 q1')
          | (at_builtin; refine wpList_append_own _ rfl _ _ 22 rfl wr.heap.size 38 i0 (.agg #[.int .i64 0, .int .u64 0]) 2 16 Try.underlying22 hi hz0 hz1 hz2 rfl (by decide) _ _ _ rfl (HROW.out.alloc _) ⟨w1.heap.size, 0, none⟩ 1 1 [.int .i64 5, .int .u64 0] rfl rfl (two_src (by simp [go_sem]) (by simp [go_sem])) (by intro u hu; simp at hu; rcases hu with rfl | rfl <;> rfl) (by unfold maxLen; omega) (by omega) (by simp; omega) ?_; intro v2 w2' q1 q2 _; have hbX := own_row_below (HROW.out.alloc (.cells #[.int .i64 5, .int .u64 0] 38)) (HBX.out.alloc HBX.out.size _) q2 (Nat.le_refl _) (by simp; omega); have q3 : w2'.ownsRow wr.heap.size 38 2 v2 (nB + 1) (flatO (zs ++ ys ++ [(5, 0)])) := (by rw [HFLk.out, ← HFL2.out]; exact q1); obtain ⟨aC, cC, e5, h4⟩ := own_opn q3; subst e5; have HBY := Lib.hid hbX; have H4 := Lib.hid h4; clear hbX q1 q2 q3 h4))
        clear hlb hlo
        replace HB := Lib.hid (bthen HB.out HBY.out)
        replace HBW := Lib.hid (bthen HBW.out HBY.out)
        clear HROW HBX HBY hszX
        rw [← HnB.out] at K3 kr3
        by_cases he3 : e3 = 0
        · subst he3
          have he' : ((0 : Int) == 0) = true := rfl
          rw [he'] at kr3
          clear he'
          go_wp2_with (first
            | (go_at_call 9; (with_reducible refine (kr3 _ aC cC H4.out).mono ?_); rintro e w1 ⟨rfl, hb⟩; replace HB := Lib.hid (bthen HB.out hb); replace HBW := Lib.hid (bthen HBW.out hb); replace H4 := Lib.hid (H4.out.keep hb); clear hb)
            | (go_at_call 17; (with_reducible refine (ks _).mono ?_); rintro e w1 ⟨rfl, hb⟩; replace HB := Lib.hid (bthen HB.out hb); replace HBW := Lib.hid (bthen HBW.out hb); replace H4 := Lib.hid (H4.out.keep hb); clear hb)
            | (go_at_call 18; (with_reducible refine (kt _).mono ?_); rintro e w1 ⟨rfl, hb⟩; replace HB := Lib.hid (bthen HB.out hb); replace HBW := Lib.hid (bthen HBW.out hb); replace H4 := Lib.hid (H4.out.keep hb); clear hb)
            | (go_at_call 11; (with_reducible refine (K3 _ HB.out aC cC H4.out HZ3.out).mono ?_); rintro e w1 ⟨rfl, hb⟩; replace HB := Lib.hid (bthen HB.out hb); replace HBW := Lib.hid (bthen HBW.out hb); clear hb))
          go_roundw
          case rel => exact ⟨2, by omega, by go_num, HBW.out⟩
          case measure => first | (simp [intOf]; done) | (simp [intOf]; omega)
        · have he' : (e3 == 0) = false := by simp [he3]
          rw [he'] at kr3
          clear he' he3
          go_wp2_with (go_at_call 9; (with_reducible refine (kr3 _ aC cC H4.out).mono ?_); rintro e w1 ⟨rfl, hb⟩; replace HB := Lib.hid (bthen HB.out hb); replace HBW := Lib.hid (bthen HBW.out hb); clear hb)
          go_roundw
          case rel => exact ⟨2, by omega, by go_num, HBW.out⟩
          case measure => first | (simp [intOf]; done) | (simp [intOf]; omega)
      · obtain ⟨d3, e3, hz3⟩ : ∃ d e, checkB (zs ++ ys ++ [(6, 0)]) m true = (d, e) := ⟨_, _, rfl⟩
        have kr3 := fun (W : World) (aa : Option Addr) (ca : Nat) (h : OpA W aa (zs.length + ys.length + 1) (zs ++ ys ++ [(6, 0)])) => rright_is aa (zs.length + ys.length + 1) ca (zs ++ ys ++ [(6, 0)]) m d3 e3 (e3 == 0) W h (okJoin HU.out HU2.out (by decide)) (by omega) hz3 rfl
        obtain ⟨z, hzz⟩ : ∃ z, x * y = z := ⟨_, rfl⟩
        have K3 := k3.out 6 (by decide) d3
        rw [show op2 numA 6 x y = z from hzz] at K3
        have ks := kadd x y _ rfl
        have kt := kmul x y z hzz
        have hF := HFL.out 6
        have hL := HLN.out 6
        have HFLk := Lib.hid hF; have HLNk := Lib.hid hL
        clear hF hL
        have HZ3 := Lib.hid hz3
        clear hz3
        have hlb := (Below.refl wr.heap.size wr).alloc (Nat.le_refl _) (.cells #[] 38)
        have hlo := World.ownsRow_lit (e := 38) (size := 2) wr #[] 0 (Nat.le_refl _) (by unfold maxLen; omega) rfl
        go_upto_region 11 with (first
          | (at_builtin; refine wpList_append3 rfl _ _ 22 rfl wr.heap.size 38 i0 (.agg #[.int .i64 0, .int .u64 0]) 2 16 Try.underlying22 hi hz0 hz1 hz2 rfl (by decide) _ 0 [] rfl hlo aB nB cB (flatO (zs ++ ys)) rfl (by rw [flatO_len2, HLN2.out, HnB.out]) HNB.out (opA_nil0 HOB.out) (opA_cells ((HOB.out.keep HBW.out).keep hlb)) (flatO_one (zs ++ ys)) (by unfold maxLen; omega) (by omega) (by simp) ?_; intro v1 w1 q1 q2 _; have hbX := own_row_below hlo hlb q2 (Nat.le_refl _) (by simp); have HBX := Lib.hid hbX; have q1' : w1.ownsRow wr.heap.size 38 2 v1 nB (flatO (zs ++ ys)) := (by simpa using q1); have HROW := Lib.hid q1'; have hszX := hbX.size; clear hbX q1 q2 q1')
          | (at_builtin; refine wpList_append_own _ rfl _ _ 22 rfl wr.heap.size 38 i0 (.agg #[.int .i64 0, .int .u64 0]) 2 16 Try.underlying22 hi hz0 hz1 hz2 rfl (by decide) _ _ _ rfl (HROW.out.alloc _) ⟨w1.heap.size, 0, none⟩ 1 1 [.int .i64 6, .int .u64 0] rfl rfl (two_src (by simp [go_sem]) (by simp [go_sem])) (by intro u hu; simp at hu; rcases hu with rfl | rfl <;> rfl) (by unfold maxLen; omega) (by omega) (by simp; omega) ?_; intro v2 w2' q1 q2 _; have hbX := own_row_below (HROW.out.alloc (.cells #[.int .i64 6, .int .u64 0] 38)) (HBX.out.alloc HBX.out.size _) q2 (Nat.le_refl _) (by simp; omega); have q3 : w2'.ownsRow wr.heap.size 38 2 v2 (nB + 1) (flatO (zs ++ ys ++ [(6, 0)])) := (by rw [HFLk.out, ← HFL2.out]; exact q1); obtain ⟨aC, cC, e5, h4⟩ := own_opn q3; subst e5; have HBY := Lib.hid hbX; have H4 := Lib.hid h4; clear hbX q1 q2 q3 h4))
        clear hlb hlo
        replace HB := Lib.hid (bthen HB.out HBY.out)
        replace HBW := Lib.hid (bthen HBW.out HBY.out)
        clear HROW HBX HBY hszX
        rw [← HnB.out] at K3 kr3
        by_cases he3 : e3 = 0
        · subst he3
          have he' : ((0 : Int) == 0) = true := rfl
          rw [he'] at kr3
          clear he'
          go_wp2_with (first
            | (go_at_call 9; (with_reducible refine (kr3 _ aC cC H4.out).mono ?_); rintro e w1 ⟨rfl, hb⟩; replace HB := Lib.hid (bthen HB.out hb); replace HBW := Lib.hid (bthen HBW.out hb); replace H4 := Lib.hid (H4.out.keep hb); clear hb)
            | (go_at_call 17; (with_reducible refine (ks _).mono ?_); rintro e w1 ⟨rfl, hb⟩; replace HB := Lib.hid (bthen HB.out hb); replace HBW := Lib.hid (bthen HBW.out hb); replace H4 := Lib.hid (H4.out.keep hb); clear hb)
            | (go_at_call 19; (with_reducible refine (kt _).mono ?_); rintro e w1 ⟨rfl, hb⟩; replace HB := Lib.hid (bthen HB.out hb); replace HBW := Lib.hid (bthen HBW.out hb); replace H4 := Lib.hid (H4.out.keep hb); clear hb)
            | (go_at_call 11; (with_reducible refine (K3 _ HB.out aC cC H4.out HZ3.out).mono ?_); rintro e w1 ⟨rfl, hb⟩; replace HB := Lib.hid (bthen HB.out hb); replace HBW := Lib.hid (bthen HBW.out hb); clear hb))
          go_roundw
          case rel => exact ⟨3, by omega, by go_num, HBW.out⟩
          case measure => first | (simp [intOf]; done) | (simp [intOf]; omega)
        · have he' : (e3 == 0) = false := by simp [he3]
          rw [he'] at kr3
          clear he' he3
          go_wp2_with (go_at_call 9; (with_reducible refine (kr3 _ aC cC H4.out).mono ?_); rintro e w1 ⟨rfl, hb⟩; replace HB := Lib.hid (bthen HB.out hb); replace HBW := Lib.hid (bthen HBW.out hb); clear hb)
          go_roundw
          case rel => exact ⟨3, by omega, by go_num, HBW.out⟩
          case measure => first | (simp [intOf]; done) | (simp [intOf]; omega)
      · go_wp2_with (go_at_call 10; (with_reducible refine (aw _ (HK.out _ _ HG0.out HB.out)).mono ?_); rintro e w1 ⟨rfl, hb⟩; replace HB := Lib.hid (bthen HB.out hb); clear hb)
        go_ret
        exact ⟨rfl, HB.out⟩
end Go.Proofs.Ytlgfnlkblehlbaa
