/-
  The walk of WorkFarther: it answers true, where the program's calls do what is asked of them. (Written by gen_wlaws.py.)
-/
import Derived.Test.YthmpojefoiojeaaDoorWAw
import Derived.Test.YthmpojefoiojeaaDoorGNum
namespace Go.Proofs.YthmpojefoiojeaaDoor
open Go Go.RowKit Go.Sort Go.BigFrame
set_option linter.unusedVariables false

theorem rem10w (n : Int) (h : 0 ≤ n ∧ n < 256) : ∃ r : Nat, r ≤ 9 ∧ n.tmod 10 = (r : Int) ∧ n % 10 = (r : Int) := by
  have h1 := Int.emod_nonneg n (show (10 : Int) ≠ 0 by decide)
  have h2 := Int.emod_lt_of_pos n (show (0 : Int) < 10 by decide)
  have h3 := Int.tmod_eq_emod_of_nonneg (b := 10) h.1
  generalize n % 10 = z at *
  exact ⟨z.toNat, by omega, by rw [h3]; omega, by omega⟩
theorem low_high (a b : Int) (ha : 0 ≤ a ∧ a < 256) (hb : 0 ≤ b ∧ b < 256) : ∃ L H : Nat, L ≤ H ∧ H ≤ 255 ∧ min a b = (L : Int) ∧ max a b = (H : Int) ∧ IntKind.u64.wrap (L : Int) = L ∧ IntKind.u64.wrap (H : Int) = H := by
  have hu : ∀ n : Nat, n ≤ 255 → IntKind.u64.wrap (n : Int) = n := fun n hn => by rw [IntKind.wrap_u64]; omega
  exact ⟨(min a b).toNat, (max a b).toNat, by omega, by omega, by omega, by omega, hu _ (by omega), hu _ (by omega)⟩
def FarR (g5 : Nat) (a b : Int) (L H : Nat) (sl : Nat) (v : Value) (W : World) : Prop :=
  match sl with
  | 18 => v = .pointer (some ⟨g5, 0, none⟩)
  | 19 => v = .int .u8 a
  | 20 => v = .pointer (some ⟨g5, 1, none⟩)
  | 21 => v = .int .u8 b
  | 22 => v = .int .u8 (L : Int)
  | 23 => v = .int .u64 (L : Int)
  | 24 => v = .pointer (some ⟨g5, 0, none⟩)
  | 25 => v = .int .u8 a
  | 26 => v = .pointer (some ⟨g5, 1, none⟩)
  | 27 => v = .int .u8 b
  | 28 => v = .int .u8 (H : Int)
  | 29 => v = .int .u64 (H : Int)
  | 7 => v = .int .u64 (L : Int)
  | 8 => v = .int .u64 (H : Int)
  | _ => v = .bool true
theorem FarR.keep {g5 : Nat} {a b : Int} {L H : Nat} {sl : Nat} {v : Value} {W W' : World} (h : FarR g5 a b L H sl v W) (hb : Below W.heap.size W W') : FarR g5 a b L H sl v W' := by
  unfold FarR at *
  split at h
  all_goals first | exact h
set_option maxRecDepth 100000 in
set_option maxHeartbeats 8000000 in
theorem wfarther_body (G : World → Prop) (hA : AskWork G) (aw : ∀ W, G W → Calls Tryd.prog 7 #[] W fun e w' => e = .returned (.bool true) ∧ Below W.heap.size W w') (s : ByteArray) (c n a b : Int) (w : World) (hG0 : G w) (hs : s.size ≤ maxLen) (hn : 0 ≤ n ∧ n < 256) (ha : 0 ≤ a ∧ a < 256) (hb : 0 ≤ b ∧ b < 256) :
    Calls Tryd.prog 6 #[.agg #[.string s, .int .i64 c], .int .u8 n, .agg #[.int .u8 a, .int .u8 b]] w fun e w' => e = .returned (.bool true) ∧ Below w.heap.size w w' := by
  obtain ⟨T, hT, e3, e3'⟩ := rem10w n hn
  obtain ⟨L, H, hLH, hH, e1, e2, u1, u2⟩ := low_high a b ha hb
  clear ha hb hn
  have HK := Lib.hid (fun (W W' : World) => @AskWork.keep G hA W W')
  have HG0 := Lib.hid hG0
  have hAh := Lib.hid hA
  unfold maxLen at hs
  clear hA hG0
  go_enter Tryd.func6, Tryd.ntmps6
  go_upto_region 1 with fail
  refine wp_gen (fun W => Below w.heap.size w W ∧ Duo W w.heap.size (.string s) (.int .i64 c) ∧ W.cell? ⟨w.heap.size + 1, 0, none⟩ = some (.int .u8 a) ∧ W.cell? ⟨w.heap.size + 1, 1, none⟩ = some (.int .u8 b)) ⟨((Below.refl _ _).alloc (Nat.le_refl _) _).alloc (by simp) _, by simp [Duo, go_sem], by simp [go_sem], by simp [go_sem]⟩ ?_
  obtain ⟨g3, hg⟩ : ∃ g, w.heap.size = g := ⟨_, rfl⟩
  obtain ⟨g5, hg5⟩ : ∃ h, g3 + 1 = h := ⟨_, rfl⟩
  rintro W1 ⟨hB, hS, t0, t1⟩
  simp only [hg] at hS t0 t1 ⊢
  simp only [hg5] at t0 t1 ⊢
  have HB := Lib.hid hB; have HS := Lib.hid hS
  obtain ⟨x0, x1, _, _⟩ := hS
  clear hB hg hg5
  by_cases b0 : (200 : Int) < (s.size : Int)
  · go_wp2_with (go_at_call 7; (with_reducible refine (aw _ (HK.out _ _ HG0.out HB.out)).mono ?_); rintro e w1 ⟨rfl, hb⟩; replace HB := Lib.hid (bthen HB.out hb); clear hb)
    go_ret
    exact ⟨rfl, HB.out⟩
  go_upto_region 3 with fail
  refine wp_loose [(18, []), (19, [18]), (20, []), (21, [20]), (22, [19, 21]), (23, [22]), (24, []), (25, [24]), (26, []), (27, [26]), (28, [25, 27]), (29, [28]), (7, [23]), (8, [29])]
    (FarR g5 a b L H) (fun d => false) (by kernel_rfl) (by kernel_rfl) (fun _ _ _ _ h hb => h.keep hb) ?_ ?_
  · refine opsrun_cons ?_ (opsrun_cons ?_ (opsrun_cons ?_ (opsrun_cons ?_ (opsrun_cons ?_ (opsrun_cons ?_ (opsrun_cons ?_ (opsrun_cons ?_ (opsrun_cons ?_ (opsrun_cons ?_ (opsrun_cons ?_ (opsrun_cons ?_ (opsrun_cons ?_ (opsrun_cons ?_ opsrun_nil)))))))))))))
    all_goals
      refine OpRuns.any ?_
      intro Q0 σ W' K hb hn hK
      simp only [fill, List.map, Act.put, List.setIfInBounds_toArray, List.set_cons_zero, List.set_cons_succ] at hK ⊢
    · clear hn
      go_simp
      exact hK _ _ rfl (Below.refl _ _) (fun h => absurd h (by decide))
    · have h18 : σ 18 = _ := hn 18 (by decide)
      clear hn
      simp only [h18] at hK
      have t0' := bkeep hb t0
      clear t0
      go_simp
      exact hK _ _ rfl (Below.refl _ _) (fun h => absurd h (by decide))
    · clear hn
      go_simp
      exact hK _ _ rfl (Below.refl _ _) (fun h => absurd h (by decide))
    · have h20 : σ 20 = _ := hn 20 (by decide)
      clear hn
      simp only [h20] at hK
      have t1' := bkeep hb t1
      clear t1
      go_simp
      exact hK _ _ rfl (Below.refl _ _) (fun h => absurd h (by decide))
    · have h19 : σ 19 = _ := hn 19 (by decide)
      have h21 : σ 21 = _ := hn 21 (by decide)
      clear hn
      simp only [h19, h21] at hK
      go_simp
      exact hK _ _ rfl (Below.refl _ _) (fun h => absurd h (by decide))
    · have h22 : σ 22 = _ := hn 22 (by decide)
      clear hn
      simp only [h22] at hK
      go_simp
      exact hK _ _ rfl (Below.refl _ _) (fun h => absurd h (by decide))
    · clear hn
      go_simp
      exact hK _ _ rfl (Below.refl _ _) (fun h => absurd h (by decide))
    · have h24 : σ 24 = _ := hn 24 (by decide)
      clear hn
      simp only [h24] at hK
      have t0' := bkeep hb t0
      clear t0
      go_simp
      exact hK _ _ rfl (Below.refl _ _) (fun h => absurd h (by decide))
    · clear hn
      go_simp
      exact hK _ _ rfl (Below.refl _ _) (fun h => absurd h (by decide))
    · have h26 : σ 26 = _ := hn 26 (by decide)
      clear hn
      simp only [h26] at hK
      have t1' := bkeep hb t1
      clear t1
      go_simp
      exact hK _ _ rfl (Below.refl _ _) (fun h => absurd h (by decide))
    · have h25 : σ 25 = _ := hn 25 (by decide)
      have h27 : σ 27 = _ := hn 27 (by decide)
      clear hn
      simp only [h25, h27] at hK
      go_simp
      exact hK _ _ rfl (Below.refl _ _) (fun h => absurd h (by decide))
    · have h28 : σ 28 = _ := hn 28 (by decide)
      clear hn
      simp only [h28] at hK
      go_simp
      exact hK _ _ rfl (Below.refl _ _) (fun h => absurd h (by decide))
    · have h23 : σ 23 = _ := hn 23 (by decide)
      clear hn
      simp only [h23] at hK
      go_simp
      exact hK _ _ rfl (Below.refl _ _) (fun h => absurd h (by decide))
    · have h29 : σ 29 = _ := hn 29 (by decide)
      clear hn
      simp only [h29] at hK
      go_simp
      exact hK _ _ rfl (Below.refl _ _) (fun h => absurd h (by decide))
  · intro σ W' hb hR' hF
    have h7 : σ 7 = .int .u64 (L : Int) := hR' 7 (by decide)
    have h8 : σ 8 = .int .u64 (H : Int) := hR' 8 (by decide)
    replace HB := Lib.hid (bthen HB.out hb)
    replace x0 := bkeep hb x0; replace x1 := bkeep hb x1
    clear hR' hF hb t0 t1 e1 e2 u1 u2
    simp only [fill, List.map, Act.put, List.setIfInBounds_toArray, List.set_cons_zero, List.set_cons_succ, List.length_cons, List.length_nil, List.drop_succ_cons, List.drop_zero, Nat.reduceAdd, h7, h8]
    clear h7 h8
    rcases search_cases s T L with ⟨k, hk, hkl, hkm, hkj⟩ | ⟨hk, hkj⟩
    · have hk2 := search_yes (lim := H) (by omega) hkm hkj
      have k1 := fun W hg => hAh.out.search_is s c T k true L W (by omega) (by omega) (by omega) hk hg
      have k2 := fun W hg => hAh.out.search_is s c T k true H W (by omega) (by omega) (by omega) hk2 hg
      clear hk hk2 hkm hkj
      clear HS
      go_wp2_with (first
        | (go_at_call 7; (with_reducible refine (aw _ (HK.out _ _ HG0.out HB.out)).mono ?_); rintro e w1 ⟨rfl, hb⟩; replace HB := Lib.hid (bthen HB.out hb); replace x0 := bkeep hb x0; replace x1 := bkeep hb x1; clear hb)
        | (go_at_call 12; (first | with_reducible refine (k1 _ (HK.out _ _ HG0.out HB.out)).mono ?_ | with_reducible refine (k2 _ (HK.out _ _ HG0.out HB.out)).mono ?_); rintro e w1 ⟨rfl, hb⟩; replace HB := Lib.hid (bthen HB.out hb); replace x0 := bkeep hb x0; replace x1 := bkeep hb x1; clear hb))
      go_ret
      exact ⟨rfl, HB.out⟩
    · rcases search_cases s T H with ⟨k, hk2, hkl, hkm, hkj2⟩ | ⟨hk2, hkj2⟩
      · have hge : L ≤ k := by
          refine Nat.le_of_not_lt fun h => ?_
          have := hkj k h
          rw [hkm] at this
          cases this
        have hgeI : (L : Int) ≤ (k : Int) := by omega
        have k1 := fun W hg => hAh.out.search_is s c T 0 false L W (by omega) (by omega) (by omega) hk hg
        have k2 := fun W hg => hAh.out.search_is s c T k true H W (by omega) (by omega) (by omega) hk2 hg
        clear hk hk2 hkm hkj hkj2
        clear HS
        go_wp2_with (first
          | (go_at_call 7; (with_reducible refine (aw _ (HK.out _ _ HG0.out HB.out)).mono ?_); rintro e w1 ⟨rfl, hb⟩; replace HB := Lib.hid (bthen HB.out hb); replace x0 := bkeep hb x0; replace x1 := bkeep hb x1; clear hb)
          | (go_at_call 12; (first | with_reducible refine (k1 _ (HK.out _ _ HG0.out HB.out)).mono ?_ | with_reducible refine (k2 _ (HK.out _ _ HG0.out HB.out)).mono ?_); rintro e w1 ⟨rfl, hb⟩; replace HB := Lib.hid (bthen HB.out hb); replace x0 := bkeep hb x0; replace x1 := bkeep hb x1; clear hb))
        go_ret
        exact ⟨rfl, HB.out⟩
      · have k1 := fun W hg => hAh.out.search_is s c T 0 false L W (by omega) (by omega) (by omega) hk hg
        have k2 := fun W hg => hAh.out.search_is s c T 0 false H W (by omega) (by omega) (by omega) hk2 hg
        clear hk hk2 hkj hkj2
        clear HS
        go_wp2_with (first
          | (go_at_call 7; (with_reducible refine (aw _ (HK.out _ _ HG0.out HB.out)).mono ?_); rintro e w1 ⟨rfl, hb⟩; replace HB := Lib.hid (bthen HB.out hb); replace x0 := bkeep hb x0; replace x1 := bkeep hb x1; clear hb)
          | (go_at_call 12; (first | with_reducible refine (k1 _ (HK.out _ _ HG0.out HB.out)).mono ?_ | with_reducible refine (k2 _ (HK.out _ _ HG0.out HB.out)).mono ?_); rintro e w1 ⟨rfl, hb⟩; replace HB := Lib.hid (bthen HB.out hb); replace x0 := bkeep hb x0; replace x1 := bkeep hb x1; clear hb))
        go_ret
        exact ⟨rfl, HB.out⟩
end Go.Proofs.YthmpojefoiojeaaDoor
