/-
  The walk of ClashExtracts: it answers true, where the program's calls do what is asked of them. (Written by gen_cextl.py.)
-/
import Derived.Test.YtfnmlegikcogoaaDoorClashLem
import Derived.Test.YtfnmlegikcogoaaDoorClashRefE
namespace Go.Proofs.YtfnmlegikcogoaaDoor
open Go Go.RowKit Go.Sort Go.BigFrame
set_option linter.unusedVariables false

set_option maxRecDepth 100000 in
set_option maxHeartbeats 8000000 in
theorem cextracts_body (G : World → Prop) (hA : AskClash G) (aw : ∀ W, G W → Calls Tryd.prog 9 #[] W fun e w' => e = .returned (.bool true) ∧ Below W.heap.size W w') (root : ByteArray) (depth i : Int) (a : Option Addr) (len cap : Nat) (zs : List Int) (b : Option Addr) (lenb capb : Nat) (qs : List (Int × Int)) (p : Option Addr) (n c : Nat) (g : Nat → ByteArray)
    (a2 : Option Addr) (len2 cap2 : Nat) (zs2 : List Int) (b2 : Option Addr) (lenb2 capb2 : Nat) (qs2 : List (Int × Int)) (p2 : Option Addr) (n2 c2 : Nat) (g2 : Nat → ByteArray) (w : World) (hG0 : G w) (hrs : root.size ≤ maxLen)
    (hr : RowA w a len zs) (hu : ∀ n ∈ zs, U n) (hq : QRowA w b lenb qs) (hv : ∀ n ∈ qs, U n.1 ∧ U n.2) (hS : StrS w p n c g) (hr2 : RowA w a2 len2 zs2) (hu2 : ∀ n ∈ zs2, U n) (hq2 : QRowA w b2 lenb2 qs2) (hv2 : ∀ n ∈ qs2, U n.1 ∧ U n.2) (hS2 : StrS w p2 n2 c2 g2)
    (hd : -9223372036854775808 ≤ depth ∧ depth ≤ 9223372036854775807) (hi : -9223372036854775808 ≤ i ∧ i ≤ 9223372036854775807) :
    Calls Tryd.prog 5 #[.string root, .agg #[.int .i64 depth, .int .i64 i], .agg #[.slice a len cap, .slice b lenb capb, .slice p n c, .slice a2 len2 cap2, .slice b2 lenb2 capb2, .slice p2 n2 c2]] w fun e w' => e = .returned (.bool true) ∧ Below w.heap.size w w' := by
  have HK := Lib.hid (fun (W W' : World) => @AskClash.keep G hA W W')
  have HG0 := Lib.hid hG0
  have hl1 := hr.2.1; have hl2 := hq.2.1; have hl3 := hr2.2.1; have hl4 := hq2.2.1
  have kS := fun (W : World) (hb : Below w.heap.size w W) => cshort_is a len cap b lenb capb p n c g (shortB len lenb n g) W hr.2.1 hq.2.1 (hS.1.keep hb) rfl
  have kT := fun (W : World) (hb : Below w.heap.size w W) => cshort_is a2 len2 cap2 b2 lenb2 capb2 p2 n2 c2 g2 (shortB len2 lenb2 n2 g2) W hr2.2.1 hq2.2.1 (hS2.1.keep hb) rfl
  have HA := Lib.hid hA; have HR := Lib.hid hr; have HQ := Lib.hid hq; have HS := Lib.hid hS; have HR2 := Lib.hid hr2; have HQ2 := Lib.hid hq2; have HS2 := Lib.hid hS2
  unfold maxLen at hrs hl1 hl2 hl3 hl4
  clear hA hr hq hS hr2 hq2 hS2 hG0
  go_enter Tryd.func5, Tryd.ntmps5
  go_upto_region 1 with fail
  refine wp_gen (fun W => Below w.heap.size w W ∧ (W.cell? ⟨w.heap.size, 0, none⟩ = some (.int .i64 depth) ∧ W.cell? ⟨w.heap.size, 1, none⟩ = some (.int .i64 i)) ∧ OpenV W (w.heap.size + 1) (.slice a len cap) (.slice b lenb capb) (.slice p n c) ∧ W.cell? ⟨w.heap.size + 1, 3, none⟩ = some (.slice a2 len2 cap2) ∧ W.cell? ⟨w.heap.size + 1, 4, none⟩ = some (.slice b2 lenb2 capb2) ∧ W.cell? ⟨w.heap.size + 1, 5, none⟩ = some (.slice p2 n2 c2)) ⟨?_, ⟨by simp [go_sem], by simp [go_sem]⟩, ⟨by simp [go_sem], by simp [go_sem], by simp [go_sem]⟩, by simp [go_sem], by simp [go_sem], by simp [go_sem]⟩ ?_
  · exact ((Below.refl _ _).alloc (Nat.le_refl _) _).alloc (by simp) _
  obtain ⟨g0, hg0⟩ : ∃ g, w.heap.size = g := ⟨_, rfl⟩
  obtain ⟨g1, hg1⟩ : ∃ g, g0 + 1 = g := ⟨_, rfl⟩
  rintro W1 ⟨hB, hT, hX, hY⟩
  rw [hg0] at hT hX hY
  rw [hg1] at hX hY
  simp only [hg0, hg1]
  obtain ⟨t0, t1⟩ := hT
  obtain ⟨x0, x1, x2⟩ := hX
  obtain ⟨y0, y1, y2⟩ := hY
  have HB := Lib.hid hB
  clear hB hg0 hg1
  by_cases c1 : (100 : Int) < (root.size : Int)
  · go_wp2_with (first
      | (go_at_call 8; (first | with_reducible refine (kS _ HB.out).mono ?_ | with_reducible refine (kT _ HB.out).mono ?_); rintro e w1 ⟨rfl, hb⟩; replace HB := Lib.hid (bthen HB.out hb); replace t0 := bkeep hb t0; replace t1 := bkeep hb t1; replace x0 := bkeep hb x0; replace x1 := bkeep hb x1; replace x2 := bkeep hb x2; replace y0 := bkeep hb y0; replace y1 := bkeep hb y1; replace y2 := bkeep hb y2; clear hb)
      | (go_at_call 9; (with_reducible refine (aw _ (HK.out _ _ HG0.out HB.out)).mono ?_); rintro e w2 ⟨rfl, hb2⟩))
    go_ret
    exact ⟨rfl, bthen HB.out hb2⟩
  cases c4 : shortB len lenb n g with
  | false =>
    simp only [c4] at kS
    go_wp2_with (first
      | (go_at_call 8; (first | with_reducible refine (kS _ HB.out).mono ?_ | with_reducible refine (kT _ HB.out).mono ?_); rintro e w1 ⟨rfl, hb⟩; replace HB := Lib.hid (bthen HB.out hb); replace t0 := bkeep hb t0; replace t1 := bkeep hb t1; replace x0 := bkeep hb x0; replace x1 := bkeep hb x1; replace x2 := bkeep hb x2; replace y0 := bkeep hb y0; replace y1 := bkeep hb y1; replace y2 := bkeep hb y2; clear hb)
      | (go_at_call 9; (with_reducible refine (aw _ (HK.out _ _ HG0.out HB.out)).mono ?_); rintro e w2 ⟨rfl, hb2⟩))
    go_ret
    exact ⟨rfl, bthen HB.out hb2⟩
  | true =>
  simp only [c4] at kS
  cases c5 : shortB len2 lenb2 n2 g2 with
  | false =>
    simp only [c5] at kT
    go_wp2_with (first
      | (go_at_call 8; (first | with_reducible refine (kS _ HB.out).mono ?_ | with_reducible refine (kT _ HB.out).mono ?_); rintro e w1 ⟨rfl, hb⟩; replace HB := Lib.hid (bthen HB.out hb); replace t0 := bkeep hb t0; replace t1 := bkeep hb t1; replace x0 := bkeep hb x0; replace x1 := bkeep hb x1; replace x2 := bkeep hb x2; replace y0 := bkeep hb y0; replace y1 := bkeep hb y1; replace y2 := bkeep hb y2; clear hb)
      | (go_at_call 9; (with_reducible refine (aw _ (HK.out _ _ HG0.out HB.out)).mono ?_); rintro e w2 ⟨rfl, hb2⟩))
    go_ret
    exact ⟨rfl, bthen HB.out hb2⟩
  | true =>
  simp only [c5] at kT
  obtain ⟨s1, s2, s3, s4⟩ := of_decide_eq_true c4
  obtain ⟨r1, r2, r3, r4⟩ := of_decide_eq_true c5
  obtain ⟨x, y, ok, hE⟩ : ∃ x y ok, extractB root depth i (openB zs qs) g n (openB zs2 qs2) g2 n2 = (x, y, ok) := ⟨_, _, _, rfl⟩
  have k1 := fun (W : World) (hb : Below w.heap.size w W) (hg : G W) => HA.out.extract root depth i a len cap zs b lenb capb qs p n c g a2 len2 cap2 zs2 b2 lenb2 capb2 qs2 p2 n2 c2 g2 x y ok W (HR.out.keep hb) hu (HQ.out.keep hb) hv (by omega) (by omega) (HS.out.keep hb) (by omega) s4 (HR2.out.keep hb) hu2 (HQ2.out.keep hb) hv2 (by omega) (by omega) (HS2.out.keep hb) (by omega) r4 hd hi hE hg
  have k2 := fun (W : World) (hb : Below w.heap.size w W) => rextract_is root depth i a len cap zs b lenb capb qs p n c g a2 len2 cap2 zs2 b2 lenb2 capb2 qs2 p2 n2 c2 g2 x y ok W (HR.out.keep hb) hu (HQ.out.keep hb) hv (by omega) (by omega) (HS.out.keep hb) (by omega) s4 (HR2.out.keep hb) hu2 (HQ2.out.keep hb) hv2 (by omega) (by omega) (HS2.out.keep hb) (by omega) r4 hd hi hE
  clear c4 c5 hE s1 s2 s3 s4 r1 r2 r3 r4
  go_wp2_with ((first
    | (go_at_call 8; first | with_reducible refine (kS _ HB.out).mono ?_ | with_reducible refine (kT _ HB.out).mono ?_)
    | (go_at_call 15; with_reducible refine (k1 _ HB.out (HK.out _ _ HG0.out HB.out)).mono ?_)
    | (go_at_call 16; with_reducible refine (k2 _ HB.out).mono ?_)
    | (go_at_call 9; with_reducible refine (aw _ (HK.out _ _ HG0.out HB.out)).mono ?_)); rintro e w1 ⟨rfl, hb⟩; replace HB := Lib.hid (bthen HB.out hb); replace t0 := bkeep hb t0; replace t1 := bkeep hb t1; replace x0 := bkeep hb x0; replace x1 := bkeep hb x1; replace x2 := bkeep hb x2; replace y0 := bkeep hb y0; replace y1 := bkeep hb y1; replace y2 := bkeep hb y2; clear hb)
  go_ret
  exact ⟨rfl, HB.out⟩
end Go.Proofs.YtfnmlegikcogoaaDoor
