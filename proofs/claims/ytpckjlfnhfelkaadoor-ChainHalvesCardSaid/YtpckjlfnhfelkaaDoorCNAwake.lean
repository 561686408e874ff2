/-
  Layer 21's examples come out as the document says, where the program's calls do what is asked of them.
-/
import Derived.Test.YtpckjlfnhfelkaaDoorCNEx
import Derived.BigQuiet
namespace Go.Proofs.YtpckjlfnhfelkaaDoor
open Go Go.RowKit Go.Sort Go.BigFrame
set_option linter.unusedVariables false

set_option maxRecDepth 100000 in
set_option maxHeartbeats 8000000 in
theorem cnawake (G : World → Prop) (hA : AskChain G) (w : World) (hG : G w) : Calls Tryd.prog 8 #[] w fun e w' => e = .returned (.bool true) ∧ Below w.heap.size w w' := by
  have HK := Lib.hid (fun (W W' : World) => @AskChain.keep G hA W W')
  have HG := Lib.hid hG
  have hal := fun (W : World) (o : Obj) => (Below.refl W.heap.size W).alloc (Nat.le_refl _) o
  have hwU : ∀ n ∈ w12, U n.1 ∧ U n.2 := joinL_U _ _
  obtain ⟨rows, r1, r2, r3⟩ := ex_words
  have f1 := fun W a (hq : QRowA W a 2 z12) => refforthq_yes a 2 2 z12 7 (by unfold U; decide) (shiftF 0) (by decide +kernel) 2 (by decide) W hq (by unfold z12 U; decide) (by decide)
  have k1 := fun W a c a' (hq : QRowA W a 4 w12) (hq' : QRowA W a' 1 [(3, 0)]) (h : Below w.heap.size w W) => hA.words a 4 c w12 a' 1 1 [(3, 0)] rows true W hq hwU hq' (by unfold U; decide) (by decide) (by decide) r1 (HK.out _ _ HG.out h)
  have k2 := fun W a c (hq : QRowA W a 2 (forthQ [(7, 0)] (shiftF 1) 1)) (h : Below w.heap.size w W) => hA.final a 2 c _ 1 1 [(7, 0)] true W hq (joinL_U _ _) (by decide) (by unfold I64; decide) (by unfold I64; decide) ex_final (HK.out _ _ HG.out h)
  have k3 := fun W a c a' (hq : QRowA W a 4 w12) (hq' : QRowA W a' 3 [(0, 0), (0, 0), (0, 0)]) (h : Below w.heap.size w W) => hA.words a 4 c w12 a' 3 3 [(0, 0), (0, 0), (0, 0)] [] false W hq hwU hq' (by unfold U; decide) (by decide) (by decide) ex_no (HK.out _ _ HG.out h)
  have k4 := fun W a c (hq : QRowA W a 4 w12) (h : Below w.heap.size w W) => hA.final a 4 c w12 0 1 [] false W hq hwU (by decide) (by unfold I64; decide) (by unfold I64; decide) ex_none (HK.out _ _ HG.out h)
  unfold NewOkQ at f1
  unfold WordsPost at k1 k3
  unfold WordPost at k2 k4
  rw [r2] at k1
  simp only [List.length_cons, List.length_nil, Nat.zero_add] at k2 k3 k4
  simp only [show 2 ^ 2 = 4 from rfl] at f1
  simp only [show ((2 : Nat) : Int) = 2 from rfl] at f1
  have HR3 := Lib.hid r3
  have hrl : (forthQ [(7, 0)] (shiftF 1) 1).length = 2 := forthQ_len _ _ _
  have HRL := Lib.hid hrl
  have hmk := fun W => run_make_pairs (P := Tryd.prog) 22 41 (.agg #[.int .u64 0, .int .u64 0]) Tryd.underlying22 infoQf rfl 3 (by omega) W
  simp only [show ((3 : Nat) : Int) = 3 from rfl, show 3 * 2 = 6 from rfl] at hmk
  have HB := Lib.hid (Below.refl w.heap.size w)
  clear hA hG r1 r2 r3 hrl hwU
  go_enter Tryd.func8, Tryd.ntmps8
  go_upto_region 2 with (go_at_call 14; (with_reducible refine (f1 _ _ (cq_two _ _ _ _ _ _)).mono ?_); rintro e w1 ⟨a1, c1, rfl, hb, hq⟩; have HQ : Hid (QRowA w1 a1 4 w12) := Lib.hid hq.at; replace HB := Lib.hid (bthen HB.out (bthen (hal _ _) hb)); clear hb hq)
  go_upto_region 3 with (go_at_call 9; (with_reducible refine (k1 _ _ _ _ (HQ.out.keep (hal _ _)) (cq_one _ _ _ _) (bthen HB.out (hal _ _))).mono ?_); rintro e w2 ⟨hb, a2, c2, rfl, ht, hc⟩; have hb2 := bthen (hal _ _) hb; have HT := Lib.hid ht; replace HQ := Lib.hid (HQ.out.keep hb2); replace HB := Lib.hid (bthen HB.out hb2); clear hb hb2 ht hc)
  obtain ⟨b, off, hab, ak, ck, hcell, hrow⟩ := HT.out.2.2 1 (by decide)
  subst hab
  rw [HR3.out, HRL.out] at hcell hrow
  have HROW := Lib.hid hrow
  clear hrow k1 f1
  go_upto_region 6 with (go_at_call 12; (with_reducible refine (k2 _ _ _ HROW.out HB.out).mono ?_); rintro e w3 ⟨hb, a3, c3, rfl, hq⟩; have HF := Lib.hid hq; replace HQ := Lib.hid (HQ.out.keep hb); replace HB := Lib.hid (bthen HB.out hb); clear hb hq)
  clear hcell k2
  go_upto_region 7 with (go_at_call 9; (with_reducible refine (k3 _ _ _ _ (HQ.out.keep (hal _ _)) (cq_zeros _ _) (bthen HB.out (hal _ _))).mono ?_); rintro e w4 ⟨hb, a4, c4, rfl, _, _⟩; have hb2 := bthen (hal _ _) hb; replace HF := Lib.hid (HF.out.keep hb2); replace HQ := Lib.hid (HQ.out.keep hb2); replace HB := Lib.hid (bthen HB.out hb2); clear hb hb2)
  go_upto_region 8 with (go_at_call 12; (with_reducible refine (k4 _ _ _ HQ.out HB.out).mono ?_); rintro e w5 ⟨hb, a5, c5, rfl, _⟩; replace HF := Lib.hid (HF.out.keep hb); replace HB := Lib.hid (bthen HB.out hb); clear hb)
  obtain ⟨b3, o3, rfl, q0, q1⟩ := HF.out.2.2 0 (by decide)
  have q0 : w5.cell? ⟨b3, o3, none⟩ = some (.int .u64 7) := by simpa using q0
  have q1 : w5.cell? ⟨b3, o3 + 1, none⟩ = some (.int .u64 0) := by simpa using q1
  clear k3 k4 hal hmk
  go_wp2_with fail
  go_ret
  exact ⟨rfl, HB.out⟩
end Go.Proofs.YtpckjlfnhfelkaaDoor
