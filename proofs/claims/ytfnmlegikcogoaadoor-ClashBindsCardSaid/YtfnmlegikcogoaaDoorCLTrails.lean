/-
  The walk of ClashTrails: it answers true, where the program's calls do what is asked of them. (Written by gen_ctrails.py.)
-/
import Derived.Test.YtfnmlegikcogoaaDoorClashLem
import Derived.Test.YtfnmlegikcogoaaDoorClashRef
import Derived.Test.YtfnmlegikcogoaaDoorGNum
namespace Go.Proofs.YtfnmlegikcogoaaDoor
open Go Go.RowKit Go.Sort Go.BigFrame
set_option linter.unusedVariables false

theorem sameB_refl (f : Nat → ByteArray) (n : Nat) : sameB f f n n = true := decide_eq_true ⟨rfl, fun _ _ => rfl⟩
def CTrR (i : Int) (a b p : Option Addr) (g0 len cap lenb capb n c : Nat) (T : Nat → ByteArray) (sl : Nat) (v : Value) (W : World) : Prop :=
  match sl with
  | 11 => v = .int .i64 i
  | 12 => v = .agg #[.slice a len cap, .slice b lenb capb, .slice p n c]
  | 13 => ∃ (r : Option Addr) (cr : Nat), v = .slice r (n + 1) cr ∧ StrS W r (n + 1) cr T
  | 14 => v = .int .i64 i
  | 15 => v = .agg #[.slice a len cap, .slice b lenb capb, .slice p n c]
  | 16 => ∃ (r : Option Addr) (cr : Nat), v = .slice r (n + 1) cr ∧ StrS W r (n + 1) cr T
  | _ => v = .bool true
theorem CTrR.keep {i : Int} {a b p : Option Addr} {g0 len cap lenb capb n c : Nat} {T : Nat → ByteArray} {sl : Nat} {v : Value} {W W' : World} (h : CTrR i a b p g0 len cap lenb capb n c T sl v W) (hb : Below W.heap.size W W') : CTrR i a b p g0 len cap lenb capb n c T sl v W' := by
  unfold CTrR at *
  split at h
  all_goals first | exact h | (obtain ⟨g, h1, h2, h3⟩ := h; exact ⟨g, h1, h2, h3.keep hb⟩)
set_option maxRecDepth 100000 in
set_option maxHeartbeats 8000000 in
theorem ctrails_body (G : World → Prop) (hA : AskClash G) (aw : ∀ W, G W → Calls Tryd.prog 9 #[] W fun e w' => e = .returned (.bool true) ∧ Below W.heap.size W w') (i : Int) (a : Option Addr) (len cap : Nat) (zs : List Int) (b : Option Addr) (lenb capb : Nat) (qs : List (Int × Int)) (p : Option Addr) (n c : Nat) (g : Nat → ByteArray) (w : World) (hG0 : G w)
    (hr : RowA w a len zs) (hu : ∀ n ∈ zs, U n) (hq : QRowA w b lenb qs) (hv : ∀ n ∈ qs, U n.1 ∧ U n.2) (hS : StrS w p n c g) (hi : -9223372036854775808 ≤ i ∧ i ≤ 9223372036854775807) :
    Calls Tryd.prog 3 #[.int .i64 i, .agg #[.slice a len cap, .slice b lenb capb, .slice p n c]] w fun e w' => e = .returned (.bool true) ∧ Below w.heap.size w w' := by
  have HK := Lib.hid (fun (W W' : World) => @AskClash.keep G hA W W')
  have HG0 := Lib.hid hG0
  have kS := fun (W : World) (hb : Below w.heap.size w W) => cshort_is a len cap b lenb capb p n c g (shortB len lenb n g) W hr.2.1 hq.2.1 (hS.1.keep hb) rfl
  have HA := Lib.hid hA; have HR := Lib.hid hr; have HQ := Lib.hid hq; have HS := Lib.hid hS
  clear hA hr hq hS hG0
  go_enter Tryd.func3, Tryd.ntmps3
  go_upto_region 1 with fail
  refine wp_gen (fun W => Below w.heap.size w W ∧ OpenV W w.heap.size (.slice a len cap) (.slice b lenb capb) (.slice p n c)) ⟨(Below.refl _ _).alloc (Nat.le_refl _) _, Open_alloc _ _ _ _ _⟩ ?_
  obtain ⟨g0, hg0⟩ : ∃ g, w.heap.size = g := ⟨_, rfl⟩
  rintro W1 ⟨hB, hX⟩
  rw [hg0] at hX
  simp only [hg0]
  have HB := Lib.hid hB
  obtain ⟨x0, x1, x2⟩ := hX
  have kS1 := kS W1 hB
  clear hB hg0 kS
  cases c4 : shortB len lenb n g with
  | false =>
    rw [c4] at kS1
    go_wp2_with (first
      | (go_at_call 8; (with_reducible refine kS1.mono ?_); rintro e w1 ⟨rfl, hb1⟩)
      | (go_at_call 9; (with_reducible refine (aw _ (HK.out _ _ HG0.out (bthen HB.out hb1))).mono ?_); rintro e w2 ⟨rfl, hb⟩))
    go_ret
    exact ⟨rfl, bthen HB.out (bthen hb1 hb)⟩
  | true =>
  rw [c4] at kS1
  obtain ⟨s1, s2, s3, s4⟩ := of_decide_eq_true c4
  have k1 := fun (W : World) (hb : Below w.heap.size w W) (hg : G W) => HA.out.trail i a len cap zs b lenb capb qs p n c g W (HR.out.keep hb) hu (HQ.out.keep hb) hv (by omega) (by omega) (HS.out.keep hb) (by omega) s4 hi hg
  have k2 := fun (W : World) (hb : Below w.heap.size w W) => rtrail_is i a len cap zs b lenb capb qs p n c g W (HR.out.keep hb) hu (HQ.out.keep hb) hv (by omega) (by omega) (HS.out.keep hb) (by omega) s4 hi
  generalize trailT (openB zs qs) i g = T at *
  clear c4 s1 s2 s3 s4
  go_upto_region 3 with (go_at_call 8; (with_reducible refine kS1.mono ?_); rintro e w1 ⟨rfl, hb⟩)
  replace HB := Lib.hid (bthen HB.out hb)
  replace x0 := bkeep hb x0; replace x1 := bkeep hb x1; replace x2 := bkeep hb x2
  clear hb kS1
  refine wp_loose [(9, []), (10, [9]), (11, [10]), (12, [10]), (13, [10, 11, 12]), (14, [10]), (15, [10]), (16, [10, 14, 15]), (17, [10, 13, 16]), (18, [10, 17])]
    (CTrR i a b p g0 len cap lenb capb n c T) (fun d => false) (by kernel_rfl) (by kernel_rfl) (fun _ _ _ _ h hb => h.keep hb) ?_ ?_
  · refine opsrun_cons ?_ (opsrun_cons ?_ (opsrun_cons ?_ (opsrun_cons ?_ (opsrun_cons ?_ (opsrun_cons ?_ (opsrun_cons ?_ (opsrun_cons ?_ (opsrun_cons ?_ (opsrun_cons ?_ opsrun_nil)))))))))
    all_goals
      refine OpRuns.any ?_
      intro Q0 σ W' K hb hn hK
      simp only [fill, List.map, Act.put, List.setIfInBounds_toArray, List.set_cons_zero, List.set_cons_succ] at hK ⊢
    · clear hn
      go_simp
      go_at_call 9
      refine (aw _ (HK.out _ _ HG0.out (bthen HB.out hb))).mono ?_
      rintro e w1 ⟨rfl, hb1⟩
      exact hK _ _ rfl hb1 (fun h => absurd h (by decide))
    · have h9 : σ 9 = _ := hn 9 (by decide)
      clear hn
      simp only [h9] at hK
      go_simp
      exact hK _ _ rfl (Below.refl _ _) (fun h => absurd h (by decide))
    · have h10 : σ 10 = _ := hn 10 (by decide)
      clear hn
      simp only [h10] at hK
      go_simp
      exact hK _ _ rfl (Below.refl _ _) (fun h => absurd h (by decide))
    · have h10 : σ 10 = _ := hn 10 (by decide)
      clear hn
      simp only [h10] at hK
      have x0' := bkeep hb x0
      have x1' := bkeep hb x1
      have x2' := bkeep hb x2
      clear x0 x1 x2
      go_simp
      exact hK _ _ rfl (Below.refl _ _) (fun h => absurd h (by decide))
    · have h10 : σ 10 = _ := hn 10 (by decide)
      have h11 : σ 11 = _ := hn 11 (by decide)
      have h12 : σ 12 = _ := hn 12 (by decide)
      clear hn
      simp only [h10, h11, h12] at hK
      go_simp
      go_at_call 11
      refine (k1 _ (bthen HB.out hb) (HK.out _ _ HG0.out (bthen HB.out hb))).mono ?_
      rintro e w1 ⟨hb1, r, cr, rfl, hs⟩
      exact hK _ _ ⟨r, cr, rfl, hs⟩ hb1 (fun h => absurd h (by decide))
    · have h10 : σ 10 = _ := hn 10 (by decide)
      clear hn
      simp only [h10] at hK
      go_simp
      exact hK _ _ rfl (Below.refl _ _) (fun h => absurd h (by decide))
    · have h10 : σ 10 = _ := hn 10 (by decide)
      clear hn
      simp only [h10] at hK
      have x0' := bkeep hb x0
      have x1' := bkeep hb x1
      have x2' := bkeep hb x2
      clear x0 x1 x2
      go_simp
      exact hK _ _ rfl (Below.refl _ _) (fun h => absurd h (by decide))
    · have h10 : σ 10 = _ := hn 10 (by decide)
      have h14 : σ 14 = _ := hn 14 (by decide)
      have h15 : σ 15 = _ := hn 15 (by decide)
      clear hn
      simp only [h10, h14, h15] at hK
      go_simp
      go_at_call 12
      refine (k2 _ (bthen HB.out hb)).mono ?_
      rintro e w1 ⟨hb1, r, cr, rfl, hs⟩
      exact hK _ _ ⟨r, cr, rfl, hs⟩ hb1 (fun h => absurd h (by decide))
    · have h10 : σ 10 = _ := hn 10 (by decide)
      have p13 : ∃ (r : Option Addr) (cr : Nat), (σ 13) = .slice r (n + 1) cr ∧ StrS W' r (n + 1) cr T := hn 13 (by decide)
      have p16 : ∃ (r : Option Addr) (cr : Nat), (σ 16) = .slice r (n + 1) cr ∧ StrS W' r (n + 1) cr T := hn 16 (by decide)
      clear hn
      simp only [h10] at hK
      obtain ⟨r1, cr1, e1, s1⟩ := p13
      obtain ⟨r2, cr2, e2, s2⟩ := p16
      simp only [e1, e2] at hK
      go_simp
      go_at_call 10
      refine (csame_is r1 r2 (n + 1) (n + 1) cr1 cr2 T T true _ s1.1 s2.1 (sameB_refl _ _)).mono ?_
      rintro e w1 ⟨rfl, hb1⟩
      exact hK _ _ rfl hb1 (fun h => absurd h (by decide))
    · have h10 : σ 10 = _ := hn 10 (by decide)
      have h17 : σ 17 = _ := hn 17 (by decide)
      clear hn
      simp only [h10, h17] at hK
      go_simp
      exact hK _ _ rfl (Below.refl _ _) (fun h => absurd h (by decide))
  · intro σ W' hb hR' hF
    have HB' := Lib.hid (bthen HB.out hb)
    have h18 : σ 18 = .bool true := hR' 18 (by decide)
    clear hR' hF hb
    simp only [fill, List.map, Act.put, List.setIfInBounds_toArray, List.set_cons_zero, List.set_cons_succ, List.length_cons, List.length_nil, List.drop_succ_cons, List.drop_zero, Nat.reduceAdd, h18]
    go_wp2_with fail
    go_ret
    exact ⟨rfl, HB'.out⟩
end Go.Proofs.YtfnmlegikcogoaaDoor
