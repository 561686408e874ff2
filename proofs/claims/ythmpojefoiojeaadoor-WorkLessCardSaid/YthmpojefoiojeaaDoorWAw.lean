/-
  The awake of layer 14's law. (Written by gen_wlaws.py.)
-/
import Derived.Test.YthmpojefoiojeaaDoorWorkRef
import Derived.Test.YthmpojefoiojeaaDoorDLits
namespace Go.Proofs.YthmpojefoiojeaaDoor
open Go Go.RowKit Go.Sort Go.BigFrame
set_option linter.unusedVariables false

theorem AskWork.search_is {G : World → Prop} (hA : AskWork G) (s : ByteArray) (c want m : Int) (ok : Bool) (lim : Nat) (W : World) (h1 : s.size ≤ 10000) (h2 : -9223372036854775808 ≤ want ∧ want ≤ 9223372036854775807) (h3 : lim ≤ 1000000) (h : searchB s want lim = (m, ok)) (hg : G W) :
    Calls Tryd.prog 12 #[spong s c, .int .i64 want, .int .u64 lim] W fun e w' => e = .returned (.tuple #[.int .u64 m, .bool ok]) ∧ Below W.heap.size W w' := by
  have := hA.search s c want lim W h1 h2 h3 hg
  rw [h] at this
  exact this
theorem AskWork.meets_is {G : World → Prop} (hA : AskWork G) (s : ByteArray) (c n want : Int) (r : Bool) (W : World) (h1 : s.size ≤ 10000) (hn : U n) (h2 : -9223372036854775808 ≤ want ∧ want ≤ 9223372036854775807) (hr : decide (weightB s n ≥ want) = r) (hg : G W) :
    Calls Tryd.prog 10 #[spong s c, .int .u64 n, .int .i64 want] W fun e w' => e = .returned (.bool r) ∧ Below W.heap.size W w' := by
  have := hA.meets s c n want W h1 hn h2 hg
  rw [hr] at this
  exact this
theorem search_cases (s : ByteArray) (want : Int) (lim : Nat) : (∃ k : Nat, searchB s want lim = ((k : Int), true) ∧ k < lim ∧ meetsB s want k = true ∧ ∀ j, j < k → meetsB s want j = false) ∨ (searchB s want lim = (0, false) ∧ ∀ j, j < lim → meetsB s want j = false) := by
  unfold searchB
  cases h : least (meetsB s want) lim with
  | none => exact Or.inr ⟨rfl, least_none.1 h⟩
  | some k =>
    obtain ⟨h1, h2, h3⟩ := least_some h
    exact Or.inl ⟨k, rfl, h1, h2, h3⟩
theorem work_54 : weightB vZ 54 = 6 := by
  unfold weightB
  have e : workB vZ 54 = sumB (byte4 ++ vZ ++ eightB 54) := (workB_is vZ 54).symm
  rw [e, show byte4 ++ vZ ++ eightB 54 = (⟨#[4, 75, 148, 222, 237, 144, 146, 113, 146, 214, 152, 207, 63, 106, 236, 141, 49, 89, 74, 174, 86, 26, 216, 229, 92, 13, 237, 247, 2, 100, 58, 129, 23, 54, 0, 0, 0, 0, 0, 0, 0]⟩ : ByteArray) by decide +kernel, sum_w, num_w]
  decide +kernel
theorem search_1 : searchB vZ 0 1 = (((0 : Nat) : Int), true) := by
  refine search_yes (by decide) ?_ (fun j hj => by omega)
  exact decide_eq_true (weightB_bd vZ (0 : Nat)).1
theorem search_0 : searchB vZ 0 0 = (0, false) := search_no (fun j hj => by omega)
theorem search_4 : ∃ k : Nat, searchB vZ 4 1000 = ((k : Int), true) ∧ k < 1000 ∧ 4 ≤ weightB vZ k := by
  rcases search_cases vZ 4 1000 with ⟨k, h1, h2, h3, _⟩ | ⟨_, h⟩
  · exact ⟨k, h1, h2, of_decide_eq_true h3⟩
  · have := h 54 (by decide)
    have h2 : decide (weightB vZ ((54 : Nat) : Int) ≥ 4) = false := this
    rw [show ((54 : Nat) : Int) = 54 from rfl, work_54] at h2
    cases h2
set_option maxHeartbeats 1000000 in
theorem lsearch_is (s : ByteArray) (c m : Int) (w : World) (hs : s.size ≤ 10000) (hr : searchB s 4 1000 = (m, true)) : Calls Tryd.prog 15 #[spong s c] w fun e w' => e = .returned (.int .u64 m) ∧ Below w.heap.size w w' := by
  have k1 := fun W => rsearch_is s c 4 m true 1000 W hs (by decide) hr
  rw [show ((1000 : Nat) : Int) = 1000 from rfl] at k1
  go_enter Tryd.func15, Tryd.ntmps15
  go_upto_region 1 with fail
  refine wp_gen (fun W => Below w.heap.size w W ∧ Duo W w.heap.size (.string s) (.int .i64 c)) ⟨(Below.refl _ _).alloc (Nat.le_refl _) _, by simp [Duo, go_sem]⟩ ?_
  obtain ⟨g, hg⟩ : ∃ g, w.heap.size = g := ⟨_, rfl⟩
  rintro W1 ⟨hB, hS⟩
  rw [hg] at hS
  simp only [hg]
  have HB := Lib.hid hB
  obtain ⟨x0, x1, _, _⟩ := hS
  clear hB hg
  go_wp2_with (go_at_call 13; (with_reducible refine (k1 _).mono ?_); rintro e w1 ⟨rfl, hb⟩)
  go_ret
  exact ⟨rfl, bthen HB.out hb⟩
set_option maxRecDepth 100000 in
set_option maxHeartbeats 8000000 in
theorem wawake (G : World → Prop) (hA : AskWork G) (w : World) (hG0 : G w) : Calls Tryd.prog 7 #[] w fun e w' => e = .returned (.bool true) ∧ Below w.heap.size w w' := by
  have HK := Lib.hid (fun (W W' : World) => @AskWork.keep G hA W W')
  have HG0 := Lib.hid hG0
  have hz : vZ.size ≤ 10000 := by decide
  obtain ⟨k, hk, hk2, hk3⟩ := search_4
  have hb0 := weightB_bd vZ k
  have n1 := rnew_is ⟨#[97]⟩ w (by decide)
  rw [new_lit] at n1
  have k1 := fun W hg => hA.search_is vZ 0 0 _ _ 1 W hz (by decide) (by decide) search_1 hg
  have k2 := fun W hg => hA.search_is vZ 0 0 _ _ 0 W hz (by decide) (by decide) search_0 hg
  have k3 := fun W hg => hA.search_is vZ 0 4 _ _ 1000 W hz (by decide) (by decide) hk hg
  have k4 := fun W hg => hA.weight vZ 0 k W hz (by unfold U; omega) hg
  have k5 := fun W hg => hA.meets_is vZ 0 k 4 true W hz (by unfold U; omega) (by decide) (decide_eq_true hk3) hg
  have k6 := fun W hg => hA.meets_is vZ 0 k 65 false W hz (by unfold U; omega) (by decide) (decide_eq_false (by omega)) hg
  have k7 := fun W => lsearch_is vZ 0 k W hz hk
  rw [show ((1 : Nat) : Int) = 1 from rfl, show ((0 : Nat) : Int) = 0 from rfl] at k1
  rw [show ((0 : Nat) : Int) = 0 from rfl] at k2
  rw [show ((1000 : Nat) : Int) = 1000 from rfl] at k3
  have hge : weightB vZ k ≥ 4 := hk3
  generalize weightB vZ k = wt at *
  generalize vZ = Z at *
  obtain ⟨m, hm⟩ : ∃ m : Int, (k : Int) = m := ⟨_, rfl⟩
  rw [hm] at k3 k4 k5 k6 k7
  clear hA hG0 hz hk hk2 hb0 hm
  go_enter Tryd.func7, Tryd.ntmps7
  go_upto_region 2 with (go_at_call 14; (with_reducible refine n1.mono ?_); rintro e w1 ⟨rfl, hb⟩)
  refine wp_gen (fun W => Below w.heap.size w W ∧ Duo W w1.heap.size (.string Z) (.int .i64 0)) ⟨hb.alloc hb.size _, by simp [Duo, go_sem]⟩ ?_
  generalize w1.heap.size = g1
  clear hb n1
  rintro W1 ⟨hB, ⟨x0, x1, _, _⟩⟩
  have HB := Lib.hid hB
  clear hB
  go_wp2_with ((first
    | (go_at_call 12; first | with_reducible refine (k1 _ (HK.out _ _ HG0.out HB.out)).mono ?_ | with_reducible refine (k2 _ (HK.out _ _ HG0.out HB.out)).mono ?_ | with_reducible refine (k3 _ (HK.out _ _ HG0.out HB.out)).mono ?_)
    | (go_at_call 8; with_reducible refine (k4 _ (HK.out _ _ HG0.out HB.out)).mono ?_)
    | (go_at_call 10; first | with_reducible refine (k5 _ (HK.out _ _ HG0.out HB.out)).mono ?_ | with_reducible refine (k6 _ (HK.out _ _ HG0.out HB.out)).mono ?_)
    | (go_at_call 15; with_reducible refine (k7 _).mono ?_)); rintro e w1 ⟨rfl, hb⟩; replace HB := Lib.hid (bthen HB.out hb); replace x0 := bkeep hb x0; replace x1 := bkeep hb x1; clear hb)
  go_ret
  exact ⟨rfl, HB.out⟩
end Go.Proofs.YthmpojefoiojeaaDoor
