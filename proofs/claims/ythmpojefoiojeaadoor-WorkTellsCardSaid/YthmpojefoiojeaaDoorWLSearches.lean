/-
  The walk of WorkSearches: it answers true, where the program's calls do what is asked of them. (Written by gen_wlaws.py.)
-/
import Derived.Test.YthmpojefoiojeaaDoorWAw
namespace Go.Proofs.YthmpojefoiojeaaDoor
open Go Go.RowKit Go.Sort Go.BigFrame
set_option linter.unusedVariables false

theorem rem201 (n : Int) (h : 0 ≤ n ∧ n < 256) : ∃ r : Nat, r ≤ 200 ∧ n.tmod 201 = (r : Int) ∧ n % 201 = (r : Int) := by
  have h1 := Int.emod_nonneg n (show (201 : Int) ≠ 0 by decide)
  have h2 := Int.emod_lt_of_pos n (show (0 : Int) < 201 by decide)
  have h3 := Int.tmod_eq_emod_of_nonneg (b := 201) h.1
  generalize n % 201 = z at *
  exact ⟨z.toNat, by omega, by rw [h3]; omega, by omega⟩
def NoneRel2 (w : World) (g3 : Nat) (s : ByteArray) (c : Int) (m : Nat) (i : Value) (W : World) : Prop := ∃ k : Nat, k ≤ m ∧ i = .int .u64 k ∧ Below w.heap.size w W ∧ W.cell? ⟨g3, 0, none⟩ = some (.string s) ∧ W.cell? ⟨g3, 1, none⟩ = some (.int .i64 c)
set_option maxRecDepth 100000 in
set_option maxHeartbeats 8000000 in
theorem wsearches_body (G : World → Prop) (hA : AskWork G) (aw : ∀ W, G W → Calls Tryd.prog 7 #[] W fun e w' => e = .returned (.bool true) ∧ Below W.heap.size W w') (s : ByteArray) (c want n : Int) (w : World) (hG0 : G w) (hs : s.size ≤ maxLen) (hw : -9223372036854775808 ≤ want ∧ want ≤ 9223372036854775807) (hn : 0 ≤ n ∧ n < 256) :
    Calls Tryd.prog 4 #[.agg #[.string s, .int .i64 c], .int .i64 want, .int .u8 n] w fun e w' => e = .returned (.bool true) ∧ Below w.heap.size w w' := by
  obtain ⟨L, hL, e1, e1'⟩ := rem201 n hn
  have hwn : IntKind.u64.wrap n = n := by rw [IntKind.wrap_u64]; exact Int.emod_eq_of_lt hn.1 (by omega)
  have HK := Lib.hid (fun (W W' : World) => @AskWork.keep G hA W W')
  have HG0 := Lib.hid hG0
  have hAh := Lib.hid hA
  unfold maxLen at hs
  clear hA hG0
  go_enter Tryd.func4, Tryd.ntmps4
  go_upto_region 1 with fail
  refine wp_gen (fun W => Below w.heap.size w W ∧ Duo W w.heap.size (.string s) (.int .i64 c)) ⟨(Below.refl _ _).alloc (Nat.le_refl _) _, by simp [Duo, go_sem]⟩ ?_
  obtain ⟨g3, hg⟩ : ∃ g, w.heap.size = g := ⟨_, rfl⟩
  rintro W1 ⟨hB, hS⟩
  rw [hg] at hS
  simp only [hg]
  have HB := Lib.hid hB; have HS := Lib.hid hS
  obtain ⟨x0, x1, _, _⟩ := hS
  clear hB hg
  by_cases b0 : (200 : Int) < (s.size : Int)
  · go_wp2_with (go_at_call 7; (with_reducible refine (aw _ (HK.out _ _ HG0.out HB.out)).mono ?_); rintro e w1 ⟨rfl, hb⟩; replace HB := Lib.hid (bthen HB.out hb); clear hb)
    go_ret
    exact ⟨rfl, HB.out⟩
  rcases search_cases s want L with ⟨k, hk, hkl, hkm, hkj⟩ | ⟨hk, hkj⟩
  · have k1 := fun W hg => hAh.out.search_is s c want k true L W (by omega) hw (by omega) hk hg
    have k2 := fun W => rsearch_is s c want k true L W (by omega) (by omega) hk
    have k4 := fun W hg => hAh.out.meets_is s c k want true W (by omega) (by unfold U; omega) hw hkm hg
    have HJ : Hid (∀ (j : Nat), j < k → ∀ W, G W → Calls Tryd.prog 10 #[spong s c, .int .u64 j, .int .i64 want] W fun e w' => e = .returned (.bool false) ∧ Below W.heap.size W w') := Lib.hid fun j hj W hg => hAh.out.meets_is s c j want false W (by omega) (by unfold U; omega) hw (hkj j hj) hg
    have hklI : (k : Int) < (L : Int) := by omega
    clear hk hkm hkj HS
    go_upto_region 11 with (first
      | (go_at_call 12; (with_reducible refine (k1 _ (HK.out _ _ HG0.out HB.out)).mono ?_); rintro e w1 ⟨rfl, hb⟩; replace HB := Lib.hid (bthen HB.out hb); replace x0 := bkeep hb x0; replace x1 := bkeep hb x1; clear hb)
      | (go_at_call 13; (with_reducible refine (k2 _).mono ?_); rintro e w1 ⟨rfl, hb⟩; replace HB := Lib.hid (bthen HB.out hb); replace x0 := bkeep hb x0; replace x1 := bkeep hb x1; clear hb))
    have hB := HB.out
    clear k1 k2 e1 e1' hwn
    go_loopw [12] (NoneRel2 w g3 s c k) (fun i _ => k - (intOf i).toNat)
    case atStart => exact ⟨0, Nat.zero_le _, rfl, hB, x0, x1⟩
    case round =>
      clear hB HB x0 x1
      obtain ⟨j, hj, rfl, hB, x0, x1⟩ := hrel
      have HB := Lib.hid hB
      clear hB
      by_cases hlt : j < k
      · have hlt' : (j : Int) < (k : Int) := by omega
        have k5 := HJ.out j hlt
        go_wp2_with (go_at_call 10; (with_reducible refine (k5 _ (HK.out _ _ HG0.out HB.out)).mono ?_); rintro e w1 ⟨rfl, hb⟩; replace HB := Lib.hid (bthen HB.out hb); replace x0 := bkeep hb x0; replace x1 := bkeep hb x1; clear hb)
        go_roundw
        case rel => exact ⟨j + 1, by omega, by first | go_num | simp, HB.out, x0, x1⟩
        case measure => simp [intOf]; omega
      · obtain rfl : j = k := by omega
        go_wp2_with (first
          | (go_at_call 7; (with_reducible refine (aw _ (HK.out _ _ HG0.out HB.out)).mono ?_); rintro e w1 ⟨rfl, hb⟩; replace HB := Lib.hid (bthen HB.out hb); replace x0 := bkeep hb x0; replace x1 := bkeep hb x1; clear hb)
          | (go_at_call 10; (with_reducible refine (k4 _ (HK.out _ _ HG0.out HB.out)).mono ?_); rintro e w1 ⟨rfl, hb⟩; replace HB := Lib.hid (bthen HB.out hb); replace x0 := bkeep hb x0; replace x1 := bkeep hb x1; clear hb))
        go_ret
        exact ⟨rfl, HB.out⟩
  · have k1 := fun W hg => hAh.out.search_is s c want 0 false L W (by omega) hw (by omega) hk hg
    have k2 := fun W => rsearch_is s c want 0 false L W (by omega) (by omega) hk
    clear hk hkj HS
    go_wp2_with (first
      | (go_at_call 7; (with_reducible refine (aw _ (HK.out _ _ HG0.out HB.out)).mono ?_); rintro e w1 ⟨rfl, hb⟩; replace HB := Lib.hid (bthen HB.out hb); replace x0 := bkeep hb x0; replace x1 := bkeep hb x1; clear hb)
      | (go_at_call 12; (with_reducible refine (k1 _ (HK.out _ _ HG0.out HB.out)).mono ?_); rintro e w1 ⟨rfl, hb⟩; replace HB := Lib.hid (bthen HB.out hb); replace x0 := bkeep hb x0; replace x1 := bkeep hb x1; clear hb)
      | (go_at_call 13; (with_reducible refine (k2 _).mono ?_); rintro e w1 ⟨rfl, hb⟩; replace HB := Lib.hid (bthen HB.out hb); replace x0 := bkeep hb x0; replace x1 := bkeep hb x1; clear hb))
    go_ret
    exact ⟨rfl, HB.out⟩
end Go.Proofs.YthmpojefoiojeaaDoor
