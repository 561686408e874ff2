/-
  The statements of layer 18: the example's rules.
-/
import Derived.Test.YtckipfcjgmiacaaALShort
import Derived.Test.YtckipfcjgmiacaaCodeRef2
import Derived.Test.YtckipfcjgmiacaaHAw
import Derived.Test.YtckipfcjgmiacaaAirSome
namespace Go.Proofs.Ytckipfcjgmiacaa
open Go Go.RowKit
set_option linter.unusedVariables false

theorem parse_x : parseA ⟨#[120]⟩ = (airZ, 2) := by
  have h : (readA ⟨#[120]⟩).2.2 = true := by decide +kernel
  unfold parseA
  rw [if_pos (.inl h)]
set_option maxHeartbeats 4000000 in
theorem some_is (w : World) : Calls Try.prog 28 #[] w fun e w' => Below w.heap.size w w' ∧ ∃ gS gB : Nat, e = .returned (.agg #[.int .i64 2, .int .i64 2, .slice (some ⟨gS, 0, none⟩) 2 2, .slice none 0 0, .slice (some ⟨gB, 0, none⟩) 2 2]) ∧ AirA w' airS ⟨some ⟨gS, 0, none⟩, 2, none, 0, some ⟨gB, 0, none⟩, 2⟩ := by
  have k1 := fun W => rprint_is (some ⟨W.heap.size, 0, none⟩) 1 1 opsS0 txtS0 (W.alloc (.cells #[.int .i64 1, .int .u64 1] 51)) (opA_lit W _ opsS0 _ rfl (by decide)) okO_S0 (by decide) txtS0_is
  have k2 := fun W => rprint_is (some ⟨W.heap.size, 0, none⟩) 3 3 opsS1 txtS1 (W.alloc (.cells #[.int .i64 1, .int .u64 0, .int .i64 1, .int .u64 1, .int .i64 4, .int .u64 0] 51)) (opA_lit W _ opsS1 _ rfl (by decide)) okO_S1 (by decide) txtS1_is
  go_enter Try.func28, Try.ntmps28
  go_upto_region 1 with fail
  obtain ⟨g0, hg0⟩ : ∃ g, w.heap.size = g := ⟨_, rfl⟩
  refine wp_gen (fun W => Below w.heap.size w W ∧ Five W g0 (.int .i64 0) (.int .i64 0) (.slice none 0 0) (.slice none 0 0) (.slice none 0 0)) ⟨(Below.refl _ _).alloc (Nat.le_refl _) _, by rw [← hg0]; exact Five.new _ _⟩ ?_
  rintro w1 ⟨hB1, hF1⟩
  simp only [hg0]
  have HB := Lib.hid hB1; have HF := Lib.hid hF1
  have hal := fun (W : World) (o : Obj) => (Below.refl W.heap.size W).alloc (Nat.le_refl _) o
  clear hB1 hF1
  go_upto_region 2 with (go_at_call 43; (with_reducible refine (k1 _).mono ?_); rintro e w2 ⟨rfl, hb⟩; replace HF := Lib.hid (HF.out.keep (bthen (hal _ _) hb)); replace HB := Lib.hid (bthen HB.out (bthen (hal _ _) hb)); clear hb)
  go_upto_region 3 with (go_at_call 43; (with_reducible refine (k2 _).mono ?_); rintro e w3 ⟨rfl, hb⟩; replace HF := Lib.hid (HF.out.keep (bthen (hal _ _) hb)); replace HB := Lib.hid (bthen HB.out (bthen (hal _ _) hb)); clear hb)
  obtain ⟨⟨a0, a1, a2, a3, a4⟩, f0, f1, f2, f3, f4⟩ := HF.out
  have hlt : w.heap.size ≤ g0 := by omega
  have hgg : g0 < w3.heap.size := HF.out.lt
  have hne1 : g0 ≠ w3.heap.size := by omega
  have hne2 : g0 ≠ w3.heap.size + 1 := by omega
  have hne3 : w3.heap.size ≠ g0 := by omega
  have hne4 : w3.heap.size + 1 ≠ g0 := by omega
  have hb3 := HB
  clear HF k1 k2 hal
  go_wp2_with fail
  exact bodyPost_ret (v := .agg #[.int .i64 2, .int .i64 2, .slice (some ⟨w3.heap.size, 0, none⟩) 2 2, .slice none 0 0, .slice (some ⟨w3.heap.size + 1, 0, none⟩) 2 2]) (by simp [results, Try.results28, go_sem, a0, a1, a2, a3, a4, hgg]) rfl ⟨some_below hb3.out hlt _ _ _ _ _ _ _, w3.heap.size, w3.heap.size + 1, rfl, some_air _ _ _ _ (by simp [go_sem])⟩
end Go.Proofs.Ytckipfcjgmiacaa
