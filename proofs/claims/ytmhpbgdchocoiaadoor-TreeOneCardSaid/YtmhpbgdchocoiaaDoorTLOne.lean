/-
  The walk of TreeOne: it answers true, where the program's calls do what is asked of them. (Written by gen_tone.py.)
-/
import Derived.Test.YtmhpbgdchocoiaaDoorGTree
import Derived.Test.YtmhpbgdchocoiaaDoorGNum
namespace Go.Proofs.YtmhpbgdchocoiaaDoor
open Go Go.RowKit Go.Sort Go.BigFrame
set_option linter.unusedVariables false

theorem one_lit (W : World) (A : ByteArray) (t : TypeId) : StrS (W.alloc (.cells #[.string A] t)) (some ⟨W.heap.size, 0, none⟩) 1 1 (fun _ => A) :=
  ⟨str_lit W #[.string A] t 1 _ (by unfold maxLen; omega) (fun j hj => by
    have e : j = 0 := by omega
    subst e
    rfl), by omega, by unfold maxLen; omega, fun h => by cases h⟩
theorem nil_strs (W : World) (g : Nat → ByteArray) : StrS W none 0 0 g := ⟨⟨by unfold maxLen; omega, fun k hk => by omega⟩, by omega, by unfold maxLen; omega, fun _ => ⟨rfl, rfl⟩⟩
theorem leads_zero (root s : ByteArray) (g : Nat → ByteArray) : leadsB root 0 0 s g 0 = decide (root = s) := by
  unfold leadsB
  refine decide_eq_decide.2 ⟨fun h => h.2.2.2.2.2.2.symm, fun h => ⟨by decide, by decide, by decide, by decide, rfl, fun k hk => by omega, h.symm⟩⟩
theorem leads_off (root s : ByteArray) (g : Nat → ByteArray) : leadsB root 0 1 s g 0 = false := leadsB_no (fun h => absurd h.2.2.2.1 (by decide))
set_option maxRecDepth 100000 in
set_option maxHeartbeats 8000000 in
theorem tone_body (G : World → Prop) (hA : AskTree G) (aw : ∀ W, G W → Calls Tryd.prog 9 #[] W fun e w' => e = .returned (.bool true) ∧ Below W.heap.size W w') (a : Option Addr) (len cap : Nat) (zs : List Int) (root : ByteArray) (w : World) (hG0 : G w)
    (hr : RowA w a len zs) (hu : ∀ n ∈ zs, U n) : Calls Tryd.prog 7 #[.slice a len cap, .string root] w fun e w' => e = .returned (.bool true) ∧ Below w.heap.size w w' := by
  have HK := Lib.hid (fun (W W' : World) => @AskTree.keep G hA W W')
  have HG0 := Lib.hid hG0
  have hl1 := hr.2.1
  unfold maxLen at hl1
  have HA := Lib.hid hA; have HR := Lib.hid hr
  clear hA hr hG0
  by_cases c1 : (len : Int) < 1
  · go_enter Tryd.func7, Tryd.ntmps7
    go_wp2_with (go_at_call 9; ((with_reducible refine (aw _ HG0.out).mono ?_); rintro e w1 ⟨rfl, hb⟩))
    go_ret
    exact ⟨rfl, hb⟩
  by_cases c2 : 20 < (len : Int)
  · go_enter Tryd.func7, Tryd.ntmps7
    go_wp2_with (go_at_call 9; ((with_reducible refine (aw _ HG0.out).mono ?_); rintro e w1 ⟨rfl, hb⟩))
    go_ret
    exact ⟨rfl, hb⟩
  by_cases c3 : 100 < (root.size : Int)
  · go_enter Tryd.func7, Tryd.ntmps7
    go_wp2_with (go_at_call 9; ((with_reducible refine (aw _ HG0.out).mono ?_); rintro e w1 ⟨rfl, hb⟩))
    go_ret
    exact ⟨rfl, hb⟩
  have kb := fun (W : World) (hb : Below w.heap.size w W) => rlbase_is a len cap zs W (HR.out.keep hb) hu (by omega)
  have sz := leafB_size (rowB zs)
  have e0 : leafB (openB zs []) = leafB (rowB zs) := by rw [openB_nil]
  have kl := fun (r : ByteArray) (i : Int) (hi : -9223372036854775808 ≤ i ∧ i ≤ 9223372036854775807) (W : World) (hb : Below w.heap.size w W) (hg : G W) => HA.out.leads r 0 i a len cap zs none 0 0 [] none 0 0 (fun _ => root) W (HR.out.keep hb) hu (nil_qrow _) uqnil (by omega) (by omega) (nil_strs _ _) (by omega) (fun k hk => by omega) (by omega) hi hg
  rw [e0] at kl
  clear e0
  have ku := fun (W : World) (hg : G W) => HA.out.build (some ⟨W.heap.size, 0, none⟩) 1 1 (fun _ => leafB (rowB zs)) (W.alloc (.cells #[.string (leafB (rowB zs))] 9)) (one_lit W _ _) (by decide) (fun j hj => by omega) (HK.out _ _ hg ((Below.refl _ _).alloc (Nat.le_refl _) _))
  have kr := fun (B : Nat) (b : Option Addr) (cb : Nat) (W : World) (hT : TreeA B W b 1 cb (fun _ => leafB (rowB zs))) (hg : G W) => HA.out.root B b 1 cb _ W hT (by decide) hg
  have kp := fun (B : Nat) (b : Option Addr) (cb : Nat) (W : World) (hT : TreeA B W b 1 cb (fun _ => leafB (rowB zs))) (hg : G W) => HA.out.path B b 1 cb _ 0 W hT (by decide) (by omega) hg
  rw [show rowsN 1 = 1 from rfl] at ku
  simp only [show ¬ (1 : Nat) = 0 by decide, if_false, show ∀ s : ByteArray, lev (fun _ => s) (1 - 1) 0 = s from fun _ => rfl] at kr
  generalize leafB (rowB zs) = s at *
  have k2 := kl root 0 (by omega)
  have k3 := kl s 0 (by omega)
  have k4 := kl s 1 (by omega)
  simp only [leads_zero, leads_off, decide_true] at k2 k3 k4
  obtain ⟨Z, hZ⟩ : ∃ Z, decide (root = s) = Z := ⟨_, rfl⟩
  rw [hZ] at k2
  have HZ := Lib.hid hZ
  clear hZ kl
  go_enter Tryd.func7, Tryd.ntmps7
  go_upto_region 4 with fail
  refine wp_gen (fun W => Below w.heap.size w W ∧ OpenV W w.heap.size (.slice a len cap) (.slice none 0 0) (.slice none 0 0)) ⟨(Below.refl _ _).alloc (Nat.le_refl _) _, by simp [go_sem], by simp [go_sem], by simp [go_sem]⟩ ?_
  obtain ⟨g1, hg1⟩ : ∃ g, w.heap.size = g := ⟨_, rfl⟩
  rintro W1 ⟨hB, x0, x1, x2⟩
  rw [hg1] at x0 x1 x2
  simp only [hg1]
  have HB := Lib.hid hB
  clear hB hg1 c1 c2 c3 sz
  go_upto_region 5 with (go_at_call 22; (with_reducible refine (kb W1 HB.out).mono ?_); rintro e w1 ⟨rfl, hb⟩)
  replace HB := Lib.hid (bthen HB.out hb)
  replace x0 := bkeep hb x0; replace x1 := bkeep hb x1; replace x2 := bkeep hb x2
  clear hb kb
  go_upto_region 6 with (go_at_call 10; (with_reducible refine (ku w1 (HK.out _ _ HG0.out HB.out)).mono ?_); rintro e w2 ⟨hb', b, cb, rfl, hT⟩)
  have hb : Below w1.heap.size w1 w2 := bthen ((Below.refl _ _).alloc (Nat.le_refl _) _) hb'
  replace HB := Lib.hid (bthen HB.out hb)
  replace x0 := bkeep hb x0; replace x1 := bkeep hb x1; replace x2 := bkeep hb x2
  have HT := Lib.hid (hT 0 (Nat.zero_le _) (fun _ _ => Nat.zero_le _))
  clear hb hb' hT ku
  go_upto_region 7 with (go_at_call 15; (with_reducible refine (kp 0 b cb w2 HT.out (HK.out _ _ HG0.out HB.out)).mono ?_); rintro e w3 ⟨hb, ⟨_, _, _, p, cp, rfl, hP, _⟩ | ⟨hno, _⟩⟩)
  replace HB := Lib.hid (bthen HB.out hb)
  replace x0 := bkeep hb x0; replace x1 := bkeep hb x1; replace x2 := bkeep hb x2
  replace HT := Lib.hid (HT.out.keep hb)
  have k1 := fun (W : World) (hT : TreeA 0 W b 1 cb (fun _ => s)) (hg : G W) => kr 0 b cb W hT hg
  clear hb hP kp kr
  have hbq := beq_of HZ.out
  go_wp2_with ((first
    | (go_at_call 9; with_reducible refine (aw _ (HK.out _ _ HG0.out HB.out)).mono ?_)
    | (go_at_call 12; with_reducible refine (k1 _ HT.out (HK.out _ _ HG0.out HB.out)).mono ?_)
    | (go_at_call 18; first | with_reducible refine (k2 _ HB.out (HK.out _ _ HG0.out HB.out)).mono ?_ | with_reducible refine (k3 _ HB.out (HK.out _ _ HG0.out HB.out)).mono ?_ | with_reducible refine (k4 _ HB.out (HK.out _ _ HG0.out HB.out)).mono ?_)); rintro e w1 ⟨rfl, hb⟩; replace HB := Lib.hid (bthen HB.out hb); replace x0 := bkeep hb x0; replace x1 := bkeep hb x1; replace x2 := bkeep hb x2; replace HT := Lib.hid (HT.out.keep hb); clear hb)
  go_ret
  exact ⟨rfl, HB.out⟩
end Go.Proofs.YtmhpbgdchocoiaaDoor
