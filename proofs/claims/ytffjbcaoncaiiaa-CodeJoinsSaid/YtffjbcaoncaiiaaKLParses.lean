/-
  The walk of CodeParses: it answers true, where the program's calls do what is asked of them. (Written by gen_klaws.py.)
-/
import Derived.Test.YtffjbcaoncaiiaaKAw
namespace Go.Proofs.Ytffjbcaoncaiiaa
open Go Go.RowKit
set_option linter.unusedVariables false

set_option maxRecDepth 100000 in
set_option maxHeartbeats 8000000 in
theorem kparses_body (G : World → Prop) (hA : AskCode G) (aw : ∀ W, G W → Calls Try.prog 8 #[] W fun e w' => e = .returned (.bool true) ∧ Below W.heap.size W w') (s : ByteArray) (w : World) (hG0 : G w) (hs : s.size ≤ maxLen) :
    Calls Try.prog 4 #[.string s] w fun e w' => e = .returned (.bool true) ∧ Below w.heap.size w w' := by
  have HK := Lib.hid (fun (W W' : World) => @AskCode.keep G hA W W')
  have HG0 := Lib.hid hG0
  have hAh := Lib.hid hA
  clear hA hG0
  unfold maxLen at hs
  have HB : Hid (Below w.heap.size w w) := Lib.hid (Below.refl _ _)
  by_cases b1 : (3000 : Int) < (s.size : Int)
  · go_enter Try.func4, Try.ntmps4
    go_wp2_with (go_at_call 8; (with_reducible refine (aw _ (HK.out _ _ HG0.out HB.out)).mono ?_); rintro e w1 ⟨rfl, hb⟩; replace HB := Lib.hid (bthen HB.out hb); clear hb)
    go_ret
    exact ⟨rfl, HB.out⟩
  obtain ⟨m, r, hp⟩ : ∃ m r, parseB s = (m, r) := ⟨_, _, rfl⟩
  have k1 := fun W hg => hAh.out.parse s m r W (by omega) hp hg
  have k2 := fun W => rcparse_is s m r W (by omega) hp
  unfold ParsePost at k1 k2
  clear hp
  go_enter Try.func4, Try.ntmps4
  go_upto_region 4 with (go_at_call 13; (with_reducible refine (k1 _ (HK.out _ _ HG0.out HB.out)).mono ?_); rintro e w1 ⟨hb, a1, c1, rfl, h1, _⟩; replace HB := Lib.hid (bthen HB.out hb); clear hb)
  have H1 := Lib.hid h1
  clear h1
  go_upto_region 5 with (go_at_call 14; (with_reducible refine (k2 _).mono ?_); rintro e w2 ⟨hb, a2, c2, rfl, h2, _⟩; replace HB := Lib.hid (bthen HB.out hb); replace H1 := Lib.hid (H1.out.keep hb); clear hb)
  have H2 := Lib.hid h2
  clear h2 k1 k2
  go_wp2_with (first
    | (go_at_call 8; (with_reducible refine (aw _ (HK.out _ _ HG0.out HB.out)).mono ?_); rintro e w1 ⟨rfl, hb⟩; replace HB := Lib.hid (bthen HB.out hb); replace H1 := Lib.hid (H1.out.keep hb); replace H2 := Lib.hid (H2.out.keep hb); clear hb)
    | (go_at_call 15; (with_reducible refine (rsameO_is a1 a2 m.length c1 c2 m _ H1.out H2.out).mono ?_); rintro e w1 ⟨rfl, hb⟩; replace HB := Lib.hid (bthen HB.out hb); clear hb))
  go_ret
  exact ⟨rfl, HB.out⟩
end Go.Proofs.Ytffjbcaoncaiiaa
