/-
  What the program's node and Trail of layer 11 come to.
-/
import Derived.Test.YtfnmlegikcogoaaDoorClashM
import Derived.Test.YtfnmlegikcogoaaDoorGTree
import Derived.Test.YtfnmlegikcogoaaDoorLProg
import Derived.Deep.OwnRows
namespace Go.Proofs.YtfnmlegikcogoaaDoor
open Go Go.RowKit
set_option linter.unusedVariables false

set_option maxHeartbeats 1000000 in
theorem gcnode_is (i : Int) (s b z : ByteArray) (hz : (if i.tmod 2 = 0 then byte1 ++ s ++ b else byte1 ++ b ++ s) = z) (w : World) (hs : s.size ≤ 100000) (hb : b.size ≤ 100000) :
    Calls Tryd.prog 23 #[.int .i64 i, .string s, .string b] w fun e w' => e = .returned (.string z) ∧ w = w' := by
  by_cases h : i.tmod 2 = 0
  · rw [if_pos h] at hz
    subst hz
    go_enter Tryd.func23, Tryd.ntmps23
    go_wp2
    go_ret
    exact ⟨rfl, rfl⟩
  · rw [if_neg h] at hz
    subst hz
    have hq : (i.tmod 2 != 0) = true := by simp [h]
    go_enter Tryd.func23, Tryd.ntmps23
    go_wp2
    go_ret
    exact ⟨rfl, rfl⟩
theorem OpenV.far {W : World} {g g' o : Nat} {v0 v1 v2 v : Value} (h : OpenV W g v0 v1 v2) (hg : g < g') : OpenV (W.setCell ⟨g', o, none⟩ v) g v0 v1 v2 :=
  ⟨(World.cell?_setCell_far _ _ _ _ (show g' ≠ g by omega)).trans h.1, (World.cell?_setCell_far _ _ _ _ (show g' ≠ g by omega)).trans h.2.1, (World.cell?_setCell_far _ _ _ _ (show g' ≠ g by omega)).trans h.2.2⟩
/-- The texts under way: those up to j are there. -/
def upT (T : Nat → ByteArray) (j m : Nat) : Value := .string (if m ≤ j then T m else ⟨#[]⟩)
theorem upT_step (T : Nat → ByteArray) (j m : Nat) : (if m = j + 1 then .string (T (j + 1)) else upT T j m) = upT T (j + 1) m := by
  unfold upT
  by_cases e : m = j + 1
  · subst e; rw [if_pos rfl, if_pos (by omega)]
  · rw [if_neg e]
    by_cases h : m ≤ j
    · rw [if_pos h, if_pos (by omega)]
    · rw [if_neg h, if_neg (by omega)]
theorem upT_first (T : Nat → ByteArray) (m : Nat) : (if m = 0 then .string (T 0) else .string ⟨#[]⟩) = upT T 0 m := by
  unfold upT
  by_cases e : m = 0
  · subst e; rw [if_pos rfl, if_pos (by omega)]
  · rw [if_neg e, if_neg (by omega)]
def GTrailRel (w : World) (gb N : Nat) (T : Nat → ByteArray) (i0 : Int) (n : Nat) (i k : Value) (W : World) : Prop :=
  ∃ j : Nat, j ≤ n ∧ k = .int .i64 j ∧ i = .int .i64 (hv i0 j) ∧ Below w.heap.size w W ∧ Arr W gb N (upT T j)
set_option maxRecDepth 100000 in
set_option maxHeartbeats 4000000 in
theorem gtrail_is (i : Int) (a : Option Addr) (len cap : Nat) (zs : List Int) (b : Option Addr) (lenb capb : Nat) (qs : List (Int × Int)) (p : Option Addr) (n c : Nat) (g : Nat → ByteArray) (w : World) (hr : RowA w a len zs) (hu : ∀ n ∈ zs, U n) (hq : QRowA w b lenb qs) (hv2 : ∀ n ∈ qs, U n.1 ∧ U n.2) (hl : len ≤ 10000) (hlb : lenb ≤ 10000)
    (hS : StrS w p n c g) (hn : n ≤ 70) (hg : ∀ k, k < n → (g k).size ≤ 100) (hi : -9223372036854775808 ≤ i ∧ i ≤ 9223372036854775807) (hT : TabB w) :
    Calls Tryd.prog 11 #[.int .i64 i, .agg #[.slice a len cap, .slice b lenb capb, .slice p n c]] w fun e w' => Below w.heap.size w w' ∧ ∃ r cr, e = .returned (.slice r (n + 1) cr) ∧ StrS w' r (n + 1) cr (trailT (openB zs qs) i g) := by
  have kt := fun (W : World) (hb : Below w.heap.size w W) => gltext_is a len cap zs b lenb capb qs (.slice p n c) W (hr.keep hb) hu (hq.keep hb) hv2 hl hlb
  have hts := openB_size zs qs (by rw [hr.1]; exact hl) (by rw [hq.1]; exact hlb)
  generalize openB zs qs = s at *
  have HT0 := Lib.hid (show byte0 ++ s = trailT s i g 0 from rfl)
  have HSZ : Hid (∀ k, k ≤ n → (trailT s i g k).size ≤ 200001) := Lib.hid fun k hk => by
    cases k with
    | zero => rw [trailT, ByteArray.size_append]; show 1 + _ ≤ _; omega
    | succ k =>
      have h1 := hg k (by omega)
      have h2 := sumB_size (trailT s i g k)
      rw [trailT]
      split <;> rw [ByteArray.size_append, ByteArray.size_append] <;> (show 1 + _ + _ ≤ _) <;> omega
  have HTN := Lib.hid (fun j => show trailT s i g (j + 1) = if (hv i j).tmod 2 = 0 then byte1 ++ sumB (trailT s i g j) ++ g j else byte1 ++ g j ++ sumB (trailT s i g j) from rfl)
  obtain ⟨T, hTT⟩ : ∃ T, trailT s i g = T := ⟨_, rfl⟩
  simp only [hTT] at HT0 HSZ HTN ⊢
  have hmk := fun W => run_make_row' (P := Tryd.prog) 24 9 (.string ⟨#[]⟩) 16 Tryd.underlying24 infoS rfl .i64 .i64 (n + 1) (by omega) (by omega) W
  have HA0 := Lib.hid (fun (W : World) (e : TypeId) => (Arr.new W #[.string ⟨#[]⟩] (n + 1) e).same (f' := fun _ => .string ⟨#[]⟩) (fun j hj => by simp [Nat.mod_one]))
  have HB0 := Lib.hid (fun (W : World) (o : Obj) => (Below.refl W.heap.size W).alloc (Nat.le_refl _) o)
  obtain ⟨N, hN⟩ : ∃ N, n + 1 = N := ⟨_, rfl⟩
  have hw1 : IntKind.i64.wrap ((n : Int) + 1) = (N : Int) := by rw [IntWalk.i64_in _ (by omega)]; omega
  have hw2 : wrap64 ((n : Int) + 1) = (N : Int) := by rw [IntWalk.wrap64_in _ (by omega)]; omega
  have hw3 : (n : Int) + 1 = (N : Int) := by omega
  have hN0 : (0 : Int) < (N : Int) := by omega
  rw [hN] at hmk HA0
  have HN := Lib.hid hN
  have HS := Lib.hid hS; have HG := Lib.hid hg; have HI := Lib.hid hi; have HT := Lib.hid hT
  clear hr hq hS hg hi hT hTT hN
  go_enter Tryd.func11, Tryd.ntmps11
  go_upto_region 1 with fail
  refine wp_gen (fun W => Below w.heap.size w W ∧ OpenV W w.heap.size (.slice a len cap) (.slice b lenb capb) (.slice p n c)) ⟨(Below.refl _ _).alloc (Nat.le_refl _) _, Open_alloc _ _ _ _ _⟩ ?_
  obtain ⟨g0, hg0⟩ : ∃ g, w.heap.size = g := ⟨_, rfl⟩
  rintro W0 ⟨hB, hX⟩
  rw [hg0] at hX
  simp only [hg0]
  have HB := Lib.hid hB
  have HX0 := Lib.hid hX
  obtain ⟨x0, x1, x2⟩ := hX
  have hgl : w.heap.size ≤ W0.heap.size := hB.size
  clear hB hg0
  go_upto_region 2 with fail
  refine wp_gen (fun W => Below W0.heap.size W0 W ∧ Arr W W0.heap.size N (fun _ => .string ⟨#[]⟩)) ⟨HB0.out _ _, HA0.out _ _⟩ ?_
  rintro W1 ⟨hb1, hA1⟩
  obtain ⟨G, hG⟩ : ∃ G, W0.heap.size = G := ⟨_, rfl⟩
  obtain ⟨x0, x1, x2⟩ := HX0.out.keep hb1
  have hlt0 := HX0.out.lt
  rw [hG] at hA1 hgl hlt0
  have HL0 := Lib.hid hlt0
  clear hlt0
  simp only [hG]
  have HB1 := Lib.hid (bthen HB.out hb1)
  have HX1 := Lib.hid (HX0.out.keep hb1)
  have HA1 := Lib.hid hA1
  have HGL := Lib.hid hgl
  have kt1 := kt W1 HB1.out
  clear hmk hw1 hw2 hw3 hb1 hA1 hgl kt HB0 HA0 HB HX0
  go_upto_region 3 with (go_at_call 22; (with_reducible refine kt1.mono ?_); rintro e w2 ⟨rfl, hb2⟩; obtain ⟨hc0, hf0⟩ := (HA1.out.keep hb2) 0 (by omega))
  refine wp_gen (fun W => Below w.heap.size w W ∧ Arr W G N (upT T 0) ∧ OpenV W g0 (.slice a len cap) (.slice b lenb capb) (.slice p n c)) ⟨(bthen HB1.out hb2).setCell (p := ⟨G, 0, none⟩) HGL.out _, ?_, ?_⟩ ?_
  · rw [HT0.out]
    exact ((HA1.out.keep hb2).set 0 (.string (T 0)) (by omega)).same fun m _ => upT_first T m
  · exact (HX1.out.keep hb2).far HL0.out
  clear x0 x1 x2 hc0 hf0 hb2 kt1 HB1 HX1 HA1 HL0 hG HT0 hts
  rintro W3 ⟨hB, hA, x0, x1, x2⟩
  have HB := Lib.hid hB; have HA := Lib.hid hA
  clear hB hA
  go_upto_region 4 with fail
  go_loopw [0, 21] (GTrailRel w G N T i n) (fun _ k _ => n - (intOf k).toNat)
  case atStart => exact ⟨0, Nat.zero_le _, rfl, rfl, HB.out, HA.out⟩
  case round =>
    clear HB HA x0 x1 x2
    obtain ⟨j, hj, rfl, rfl, hB, hA⟩ := hrel
    by_cases hlt : j < n
    · obtain ⟨bp, op, rfl, hc⟩ := HS.out.1.2 j hlt
      have c0 := bkeep hB hc
      have hcj := (hA j (by have := HN.out; omega)).1
      rw [show upT T j j = .string (T j) from by unfold upT; rw [if_pos (Nat.le_refl _)]] at hcj
      have HAK := Lib.hid (fun (w1 : World) (hb : Below wr.heap.size wr w1) => (hA.keep hb) (j + 1) (by have := HN.out; omega))
      have HR := Lib.hid (fun (w1 : World) (hb : Below wr.heap.size wr w1) => (⟨(bthen hB hb).setCell (p := ⟨G, j + 1, none⟩) HGL.out _, ((hA.keep hb).set (j + 1) (.string (T (j + 1))) (by have := HN.out; omega)).same fun m _ => upT_step T j m⟩ : Below w.heap.size w (w1.setCell ⟨G, j + 1, none⟩ (.string (T (j + 1)))) ∧ Arr (w1.setCell ⟨G, j + 1, none⟩ (.string (T (j + 1)))) G N (upT T (j + 1))))
      have kz := fun t => gsum1 (T j) _ rfl (by have := HSZ.out j (by omega); omega) wr t (HT.out.keep hB)
      have kn := fun W => gcnode_is (hv i j) (sumB (T j)) (g j) (T (j + 1)) (HTN.out j).symm W (by rw [sumB_size]; omega) (by have := HG.out j hlt; omega)
      have hdw : IntKind.i64.wrap ((hv i j).tdiv 2) = (hv i j).tdiv 2 := IntWalk.i64_in _ (hv_bd HI.out (j + 1))
      have HV := Lib.hid (show (hv i j).tdiv 2 = hv i (j + 1) from rfl)
      have hlt' : (j : Int) < (n : Int) := by omega
      have hl1 : (j : Int) < (N : Int) := by have := HN.out; omega
      have hl2 : (j : Int) + 1 < (N : Int) := by have := HN.out; omega
      have ht1 : ((j : Int) + 1).toNat = j + 1 := by omega
      clear hA hB hc
      generalize hv i j = x at *
      generalize sumB (T j) = y at *
      generalize T (j + 1) = z at *
      generalize T j = u at *
      generalize g j = v at *
      go_wp2_with (first
        | (go_at_call 24; (with_reducible refine (kz _).mono ?_); rintro e w1 ⟨rfl, hb1⟩; obtain ⟨hc1, hf1⟩ := HAK.out w1 hb1)
        | (go_at_call 23; (with_reducible refine (kn _).mono ?_); rintro e w2 ⟨rfl, rfl⟩))
      go_roundw
      case rel => exact ⟨j + 1, by omega, by go_num, by rw [HV.out], (HR.out _ hb1).1, (HR.out _ hb1).2⟩
      case measure => simp [intOf]; omega
    · obtain rfl : j = n := by omega
      have HB := Lib.hid hB
      have HA := Lib.hid (show StrS wr (some ⟨G, 0, none⟩) (j + 1) N T from ⟨⟨by unfold maxLen; omega, fun k hk => ⟨G, 0, rfl, by
        rw [Nat.zero_add, (hA k (by rw [← HN.out]; exact hk)).1]
        unfold upT
        rw [if_pos (by omega)]⟩⟩, by rw [HN.out]; exact Nat.le_refl _, by have := HN.out; unfold maxLen; omega, fun h => by cases h⟩)
      clear hA hB hlt
      go_wp2
      go_ret
      exact ⟨HB.out, _, _, by rw [HN.out]; rfl, HA.out⟩
end Go.Proofs.YtfnmlegikcogoaaDoor
