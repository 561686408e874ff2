/-
  What the statements of layer 20 reckon beside: the document's examples.
-/
import Derived.Test.YtepfdhcdalkddaaDoorGFold
namespace Go.Proofs.YtepfdhcdalkddaaDoor
open Go Go.RowKit
set_option linter.unusedVariables false

theorem fq_two (W : World) (a b c d : Int) (t : TypeId) : QRowA (W.alloc (.cells #[.int .u64 a, .int .u64 b, .int .u64 c, .int .u64 d] t)) (some ⟨W.heap.size, 0, none⟩) 2 [(a, b), (c, d)] :=
  ⟨rfl, by unfold maxLen; omega, fun k hk => ⟨W.heap.size, 0, rfl, by
    have : k = 0 ∨ k = 1 := by omega
    rcases this with rfl | rfl <;> simp [go_sem]⟩⟩
theorem fq_one (W : World) (a b : Int) (t : TypeId) : QRowA (W.alloc (.cells #[.int .u64 a, .int .u64 b] t)) (some ⟨W.heap.size, 0, none⟩) 1 [(a, b)] :=
  ⟨rfl, by unfold maxLen; omega, fun k hk => ⟨W.heap.size, 0, rfl, by
    have : k = 0 := by omega
    subst this; simp [go_sem]⟩⟩
set_option maxRecDepth 100000 in
set_option maxHeartbeats 8000000 in
theorem fawake (G : World → Prop) (hA : AskFold G) (w : World) (hG : G w) : Calls Tryd.prog 8 #[] w fun e w' => e = .returned (.bool true) ∧ Below w.heap.size w w' := by
  have HK := Lib.hid (fun (W W' : World) => @AskFold.keep G hA W W')
  have HG := Lib.hid hG
  have hal := fun (W : World) (o : Obj) => (Below.refl W.heap.size W).alloc (Nat.le_refl _) o
  have k1 := fun W (h : Below w.heap.size w W) => hA.one 5 0 1 0 3 0 2 ⟨5, 0⟩ ⟨1, 0⟩ ⟨3, 0⟩ ⟨6, 0⟩ 2 true W ⟨by unfold U; decide, by unfold U; decide, by decide +kernel, by decide +kernel⟩ ⟨by unfold U; decide, by unfold U; decide, by decide +kernel, by decide +kernel⟩ ⟨by unfold U; decide, by unfold U; decide, by decide +kernel, by decide +kernel⟩ (by unfold U; decide) (by decide +kernel) one_ex (HK.out _ _ HG.out h)
  have k2 := fun W (h : Below w.heap.size w W) => hA.one 0 0 0 0 0 0 0 ⟨0, 0⟩ ⟨0, 0⟩ ⟨0, 0⟩ 0 0 false W ⟨by unfold U; decide, by unfold U; decide, by decide +kernel, by decide +kernel⟩ ⟨by unfold U; decide, by unfold U; decide, by decide +kernel, by decide +kernel⟩ ⟨by unfold U; decide, by unfold U; decide, by decide +kernel, by decide +kernel⟩ (by unfold U; decide) (by decide +kernel) (one_no _ _ _) (HK.out _ _ HG.out h)
  have k3 := fun W a (hq : QRowA W a 2 [(4, 0), (4, 0)]) (h : Below w.heap.size w W) => hA.word a 2 2 [(4, 0), (4, 0)] 0 9 0 ⟨0, 9⟩ [(4, 0)] true W hq (Nat.le_refl _) (by unfold U; decide) (by decide) ⟨by unfold U; decide, by unfold U; decide, by decide +kernel, by decide +kernel⟩ (by unfold I64; decide) word_ex (HK.out _ _ HG.out h)
  have k4 := fun W a (hq : QRowA W a 1 [(4, 0)]) (h : Below w.heap.size w W) => hA.word a 1 1 [(4, 0)] 0 0 0 ⟨0, 0⟩ [] false W hq (Nat.le_refl _) (by unfold U; decide) (by decide) ⟨by unfold U; decide, by unfold U; decide, by decide +kernel, by decide +kernel⟩ (by unfold I64; decide) word_no (HK.out _ _ HG.out h)
  have s0 := fun W (h : Below w.heap.size w W) => hA.shift 0 7 W (by unfold I64; decide) shift_0 (HK.out _ _ HG.out h)
  have s1 := fun W (h : Below w.heap.size w W) => hA.shift 1 49 W (by unfold I64; decide) shift_1 (HK.out _ _ HG.out h)
  have s2 := fun W (h : Below w.heap.size w W) => hA.shift 2 2401 W (by unfold I64; decide) shift_2 (HK.out _ _ HG.out h)
  have p1 := fun W (h : Below w.heap.size w W) => hA.point 1 0 1 18446744069414584314 W (by unfold I64; decide) (by unfold I64; decide) (by unfold I64; decide) point_ex (HK.out _ _ HG.out h)
  rw [show enc (⟨6, 0⟩ : F2).a = 6 by decide +kernel, show enc (⟨6, 0⟩ : F2).b = 0 by decide +kernel] at k1
  rw [show enc (0 : F2).a = 0 from rfl, show enc (0 : F2).b = 0 from rfl] at k2
  unfold WordPost at k3 k4
  simp only [List.length_cons, List.length_nil, Nat.zero_add] at k3 k4
  have HB := Lib.hid (Below.refl w.heap.size w)
  clear hA hG
  go_enter Tryd.func8, Tryd.ntmps8
  go_upto_region 2 with (go_at_call 9; (with_reducible refine (k1 _ HB.out).mono ?_); rintro e w1 ⟨rfl, hb⟩; replace HB := Lib.hid (bthen HB.out hb); clear hb)
  obtain ⟨gx, hg⟩ : ∃ g, w1.heap.size = g := ⟨_, rfl⟩
  refine wp_gen (fun W => Below w.heap.size w W ∧ Duo W gx (.int .u64 6) (.int .u64 0)) ⟨bthen HB.out (hal _ _), by rw [← hg]; simp [Duo, go_sem]⟩ ?_
  clear HB k1
  rintro w2 ⟨hB, hX⟩
  simp only [hg]
  have HB := Lib.hid hB; have HX := Lib.hid hX
  clear hg hB hX
  go_upto_region 3 with (go_at_call 9; (with_reducible refine (k2 _ HB.out).mono ?_); rintro e w3 ⟨rfl, hb⟩; replace HX := Lib.hid (HX.out.keep hb); replace HB := Lib.hid (bthen HB.out hb); clear hb)
  refine wp_gen (fun W => Below w.heap.size w W ∧ Duo W gx (.int .u64 6) (.int .u64 0)) ⟨bthen HB.out (hal _ _), HX.out.keep (hal _ _)⟩ ?_
  clear HB HX k2
  rintro w4 ⟨hB, hX⟩
  have HB := Lib.hid hB; have HX := Lib.hid hX
  clear hB hX
  go_upto_region 4 with (go_at_call 15; (with_reducible refine (k3 _ _ (fq_two _ _ _ _ _ _) (bthen HB.out (hal _ _))).mono ?_); rintro e w5 ⟨hb, a5, c5, rfl, hq5⟩; have hb2 := bthen (hal _ _) hb; replace HX := Lib.hid (HX.out.keep hb2); replace HB := Lib.hid (bthen HB.out hb2); have HQ := Lib.hid hq5; clear hb hb2 hq5)
  go_upto_region 5 with (go_at_call 15; (with_reducible refine (k4 _ _ (fq_one _ _ _ _) (bthen HB.out (hal _ _))).mono ?_); rintro e w6 ⟨hb, a6, c6, rfl, _⟩; have hb2 := bthen (hal _ _) hb; replace HX := Lib.hid (HX.out.keep hb2); replace HB := Lib.hid (bthen HB.out hb2); replace HQ := Lib.hid (HQ.out.keep hb2); clear hb hb2)
  obtain ⟨x0, x1, _, _⟩ := HX.out
  obtain ⟨b, off, rfl, q0, q1⟩ := HQ.out.2.2 0 (by decide)
  have q0 : w6.cell? ⟨b, off, none⟩ = some (.int .u64 4) := by simpa using q0
  have q1 : w6.cell? ⟨b, off + 1, none⟩ = some (.int .u64 0) := by simpa using q1
  clear k3 k4 hal
  go_wp2_with (first
    | (go_at_call 11; (first | with_reducible refine (s0 _ HB.out).mono ?_ | with_reducible refine (s1 _ HB.out).mono ?_ | with_reducible refine (s2 _ HB.out).mono ?_); rintro e w7 ⟨rfl, hb⟩; replace HB := Lib.hid (bthen HB.out hb); clear hb)
    | (go_at_call 13; (with_reducible refine (p1 _ HB.out).mono ?_); rintro e w8 ⟨rfl, hb⟩; replace HB := Lib.hid (bthen HB.out hb); clear hb))
  go_ret
  exact ⟨rfl, HB.out⟩
end Go.Proofs.YtepfdhcdalkddaaDoor
