/-
  The awake of layer 15's law.
-/
import Derived.Test.YtffjbcaoncaiiaaCodeRef3
namespace Go.Proofs.Ytffjbcaoncaiiaa
open Go Go.RowKit
set_option linter.unusedVariables false

abbrev litOps : List Opn := [(1, 0), (3, 5), (6, 0), (2, 1), (5, 0)]
abbrev litCode : ByteArray := ⟨#[1, 0, 3, 5, 0, 0, 0, 0, 0, 0, 0, 6, 2, 1, 5]⟩
theorem litOps_right : ∀ o ∈ litOps, rightO o = true ∧ U o.2 := by
  intro o ho
  simp only [litOps, List.mem_cons, List.not_mem_nil, or_false] at ho
  rcases ho with rfl | rfl | rfl | rfl | rfl <;> exact ⟨by decide, by unfold U; decide⟩
theorem litOps_code : codeB litOps = litCode := by decide +kernel
theorem litOps_parse : parseB litCode = (litOps, 0) := by
  have := parse_print litOps litOps_right
  rw [litOps_code] at this
  exact this
theorem parse_err1 {s : ByteArray} {e : Int} (h : 0 < s.size) (he : (parseAt s 0).1 = e) (h0 : e ≠ 0) : parseB s = ([], e) := by
  unfold parseB
  rw [parseR_err h (by rw [he]; exact h0), he]
theorem parse_7 : parseB ⟨#[7]⟩ = ([], 3) := parse_err1 (by decide) (by decide +kernel) (by decide)
theorem parse_1 : parseB ⟨#[1]⟩ = ([], 2) := parse_err1 (by decide) (by decide +kernel) (by decide)
theorem parse_3 : parseB ⟨#[3, 255, 255, 255, 255, 255, 255, 255, 255]⟩ = ([], 2) := parse_err1 (by decide) (by decide +kernel) (by decide)
theorem lit_opA (W : World) (t : TypeId) : OpA (W.alloc (.cells #[.int .i64 1, .int .u64 0, .int .i64 3, .int .u64 5, .int .i64 6, .int .u64 0, .int .i64 2, .int .u64 1, .int .i64 5, .int .u64 0] t)) (some ⟨W.heap.size, 0, none⟩) 5 litOps := by
  refine ⟨rfl, by unfold maxLen; omega, fun k hk => ⟨W.heap.size, 0, rfl, ?_⟩⟩
  have : k = 0 ∨ k = 1 ∨ k = 2 ∨ k = 3 ∨ k = 4 := by omega
  rcases this with rfl | rfl | rfl | rfl | rfl <;> simp [go_sem, litOps]
set_option maxRecDepth 100000 in
set_option maxHeartbeats 8000000 in
theorem kawake (G : World → Prop) (hA : AskCode G) (w : World) (hG0 : G w) : Calls Try.prog 8 #[] w fun e w' => e = .returned (.bool true) ∧ Below w.heap.size w w' := by
  have HK := Lib.hid (fun (W W' : World) => @AskCode.keep G hA W W')
  have HG0 := Lib.hid hG0
  have k1 := fun g W h hg => hA.print (some ⟨g, 0, none⟩) 5 5 litOps litCode W h litOps_right (by decide) litOps_code hg
  have k2 := fun W hg => hA.parse litCode _ _ W (by decide) litOps_parse hg
  have k3 := fun W hg => hA.parse _ _ _ W (by decide) parse_7 hg
  have k4 := fun W hg => hA.parse _ _ _ W (by decide) parse_1 hg
  have k5 := fun W hg => hA.parse _ _ _ W (by decide) parse_3 hg
  have k6 := fun W hg => hA.right 3 5 true W ⟨by decide, by unfold U; decide⟩ (by decide) hg
  have k7 := fun W hg => hA.right 4 1 false W ⟨by decide, by unfold U; decide⟩ (by decide) hg
  unfold ParsePost at k2 k3 k4 k5
  simp only [show litOps.length = 5 from rfl, List.length_nil] at k2 k3 k4 k5
  clear hA hG0
  go_enter Try.func8, Try.ntmps8
  go_upto_region 2 with fail
  refine wp_gen (fun W => Below w.heap.size w W ∧ OpA W (some ⟨w.heap.size, 0, none⟩) 5 litOps) ⟨(Below.refl _ _).alloc (Nat.le_refl _) _, lit_opA _ _⟩ ?_
  obtain ⟨g, hg⟩ : ∃ g, w.heap.size = g := ⟨_, rfl⟩
  rintro W1 ⟨hB, hO⟩
  rw [hg] at hO
  simp only [hg]
  have HB := Lib.hid hB; have HO := Lib.hid hO
  clear hB hO hg
  go_upto_region 3 with (go_at_call 11; (with_reducible refine (k1 _ _ HO.out (HK.out _ _ HG0.out HB.out)).mono ?_); rintro e w1 ⟨rfl, hb⟩; replace HB := Lib.hid (bthen HB.out hb); replace HO := Lib.hid (HO.out.keep hb); clear hb)
  go_upto_region 4 with (go_at_call 13; (with_reducible refine (k2 _ (HK.out _ _ HG0.out HB.out)).mono ?_); rintro e w2 ⟨hb, a, c, rfl, hq, _⟩; replace HB := Lib.hid (bthen HB.out hb); replace HO := Lib.hid (HO.out.keep hb); clear hb)
  have HQ := Lib.hid hq
  clear hq k1 k2
  go_upto_region 7 with (go_at_call 13; (first | with_reducible refine (k3 _ (HK.out _ _ HG0.out HB.out)).mono ?_ | with_reducible refine (k4 _ (HK.out _ _ HG0.out HB.out)).mono ?_ | with_reducible refine (k5 _ (HK.out _ _ HG0.out HB.out)).mono ?_); rintro e w2 ⟨hb, a', c', rfl, _, _⟩; replace HB := Lib.hid (bthen HB.out hb); replace HO := Lib.hid (HO.out.keep hb); replace HQ := Lib.hid (HQ.out.keep hb); clear hb)
  obtain ⟨b1, o1, eb, u0, u1⟩ := HO.out.2.2 1 (by decide)
  cases eb
  simp only [litOps, List.getD_cons_succ, List.getD_cons_zero] at u0 u1
  clear k3 k4 k5
  go_wp2_with (first
    | (go_at_call 15; (with_reducible refine (rsameO_is _ _ 5 _ _ litOps _ HO.out HQ.out).mono ?_); rintro e w3 ⟨rfl, hb⟩; replace HB := Lib.hid (bthen HB.out hb); replace u0 := bkeep hb u0; replace u1 := bkeep hb u1; clear hb)
    | (go_at_call 9; (first | with_reducible refine (k6 _ (HK.out _ _ HG0.out HB.out)).mono ?_ | with_reducible refine (k7 _ (HK.out _ _ HG0.out HB.out)).mono ?_); rintro e w3 ⟨rfl, hb⟩; replace HB := Lib.hid (bthen HB.out hb); replace u0 := bkeep hb u0; replace u1 := bkeep hb u1; clear hb))
  go_ret
  exact ⟨rfl, HB.out⟩
end Go.Proofs.Ytffjbcaoncaiiaa
