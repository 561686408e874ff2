/-
  What the document's calls of layer 14 come to. (Written by gen_wref.py.)
-/
import Derived.Test.YthmpojefoiojeaaDoorLen64
import Derived.Test.YthmpojefoiojeaaDoorSpongeRef
namespace Go.Proofs.YthmpojefoiojeaaDoor
open Go Go.RowKit Go.Sort Go.BigFrame
set_option linter.unusedVariables false

def WeiR (g : Nat) (n x : Int) (s E X : ByteArray) (sl : Nat) (v : Value) (W : World) : Prop :=
  match sl with
  | 8 => v = .pointer (some ⟨g, 0, none⟩)
  | 9 => v = .string s
  | 10 => v = .int .u64 n
  | 11 => v = .string E
  | 12 => StrL W v 3 [byte4, s, E]
  | 13 => v = .string X
  | 14 => v = .tuple #[.int .u64 x, .bool true]
  | 7 => v = .tuple #[.int .u64 x, .bool true]
  | 15 => v = .int .u64 x
  | 5 => v = .int .u64 x
  | _ => v = .bool true
theorem WeiR.keep {g : Nat} {n x : Int} {s E X : ByteArray} {sl : Nat} {v : Value} {W W' : World} (h : WeiR g n x s E X sl v W) (hb : Below W.heap.size W W') : WeiR g n x s E X sl v W' := by
  unfold WeiR at *
  split at h
  all_goals first | exact h | (exact StrL.keep h hb)
set_option maxRecDepth 100000 in
set_option maxHeartbeats 4000000 in
theorem rweight_is (s : ByteArray) (c n : Int) (w : World) (hs : s.size ≤ 10000) (hn : U n) : Calls Tryd.prog 9 #[spong s c, .int .u64 n] w fun e w' => e = .returned (.int .i64 (weightB s n)) ∧ Below w.heap.size w w' := by
  have e1 := fun W => reight_is n hn W
  have hE := eightB_size n
  have m1 := fun v W => rsumL [byte4, s, eightB n] 3 (workB s n) (by rw [cat_tx3]; exact workB_is _ _) (by simp only [lens, tx, List.getD]; show 0 + 1 + _ + _ ≤ _; simp only [List.getElem?_cons_zero, List.getElem?_cons_succ, Option.getD_some]; omega) v W
  have hX := workB_size s n
  have n1 := fun W => rnum_yes (workB s n) (by omega) W
  have z1 := fun W => lead_is (numB (workB s n) 0) (numB_U _ _) W
  have hwt : lz (numB (workB s n) 0) = weightB s n := rfl
  rw [hwt] at z1
  generalize weightB s n = wt at *
  generalize numB (workB s n) 0 = x at *
  generalize workB s n = X at *
  generalize eightB n = E at *
  clear hE hX hwt
  go_enter Tryd.func9, Tryd.ntmps9
  go_upto_region 1 with fail
  refine wp_gen (fun W => Below w.heap.size w W ∧ W.cell? ⟨w.heap.size, 0, none⟩ = some (.string s)) ⟨(Below.refl _ _).alloc (Nat.le_refl _) _, by simp [go_sem]⟩ ?_
  obtain ⟨g, hg⟩ : ∃ g, w.heap.size = g := ⟨_, rfl⟩
  rintro W1 ⟨hB, c0⟩
  rw [hg] at c0
  simp only [hg]
  have HB := Lib.hid hB
  clear hB hg
  refine wp_loose [(8, []), (9, [8]), (10, []), (11, [10]), (12, [9, 11]), (13, [12]), (14, [13]), (7, [14]), (15, [7]), (16, [7]), (5, [15]), (6, [16])]
    (WeiR g n x s E X) (fun d => false) (by kernel_rfl) (by kernel_rfl) (fun _ _ _ _ h hb => h.keep hb) ?_ ?_
  · refine opsrun_cons ?_ (opsrun_cons ?_ (opsrun_cons ?_ (opsrun_cons ?_ (opsrun_cons ?_ (opsrun_cons ?_ (opsrun_cons ?_ (opsrun_cons ?_ (opsrun_cons ?_ (opsrun_cons ?_ (opsrun_cons ?_ (opsrun_cons ?_ opsrun_nil)))))))))))
    all_goals
      refine OpRuns.any ?_
      intro Q0 σ W' K hb hn hK
      simp only [fill, List.map, Act.put, List.setIfInBounds_toArray, List.set_cons_zero, List.set_cons_succ] at hK ⊢
    · clear hn
      go_simp
      exact hK _ _ rfl (Below.refl _ _) (fun h => absurd h (by decide))
    · have h8 : σ 8 = _ := hn 8 (by decide)
      clear hn
      simp only [h8] at hK
      have c0' := bkeep hb c0
      clear c0
      go_simp
      exact hK _ _ rfl (Below.refl _ _) (fun h => absurd h (by decide))
    · clear hn
      go_simp
      exact hK _ _ rfl (Below.refl _ _) (fun h => absurd h (by decide))
    · have h10 : σ 10 = _ := hn 10 (by decide)
      clear hn
      simp only [h10] at hK
      go_simp
      go_at_call 22
      refine (e1 _).mono ?_
      rintro e w1 ⟨rfl, hb1⟩
      exact hK _ _ rfl hb1 (fun h => absurd h (by decide))
    · have h9 : σ 9 = _ := hn 9 (by decide)
      have h11 : σ 11 = _ := hn 11 (by decide)
      clear hn
      simp only [h9, h11] at hK
      go_simp
      exact hK _ _ (StrL.new _ [byte4, s, E] 3 _ rfl (by decide)) ((Below.refl _ _).alloc (Nat.le_refl _) _) (fun h => absurd h (by decide))
    · have p12 : StrL W' (σ 12) 3 [byte4, s, E] := hn 12 (by decide)
      clear hn
      obtain ⟨b, e, hs⟩ := p12
      simp only [e] at hK
      go_simp
      go_at_call 21
      refine (m1 _ _ ⟨b, rfl, hs⟩).mono ?_
      rintro e w1 ⟨rfl, hb1⟩
      exact hK _ _ rfl hb1 (fun h => absurd h (by decide))
    · have h13 : σ 13 = _ := hn 13 (by decide)
      clear hn
      simp only [h13] at hK
      go_simp
      go_at_call 20
      refine (n1 _).mono ?_
      rintro e w1 ⟨rfl, rfl⟩
      exact hK _ _ rfl (Below.refl _ _) (fun h => absurd h (by decide))
    · have h14 : σ 14 = _ := hn 14 (by decide)
      clear hn
      simp only [h14] at hK
      go_simp
      exact hK _ _ rfl (Below.refl _ _) (fun h => absurd h (by decide))
    · have h7 : σ 7 = _ := hn 7 (by decide)
      clear hn
      simp only [h7] at hK
      go_simp
      exact hK _ _ rfl (Below.refl _ _) (fun h => absurd h (by decide))
    · have h7 : σ 7 = _ := hn 7 (by decide)
      clear hn
      simp only [h7] at hK
      go_simp
      exact hK _ _ rfl (Below.refl _ _) (fun h => absurd h (by decide))
    · have h15 : σ 15 = _ := hn 15 (by decide)
      clear hn
      simp only [h15] at hK
      go_simp
      exact hK _ _ rfl (Below.refl _ _) (fun h => absurd h (by decide))
    · have h16 : σ 16 = _ := hn 16 (by decide)
      clear hn
      simp only [h16] at hK
      go_simp
      exact hK _ _ rfl (Below.refl _ _) (fun h => absurd h (by decide))
  · intro σ W' hb hR' hF
    have h5 : σ 5 = .int .u64 x := hR' 5 (by decide)
    have HB' := Lib.hid (bthen HB.out hb)
    clear hR' hF hb c0 HB
    simp only [fill, List.map, Act.put, List.setIfInBounds_toArray, List.set_cons_zero, List.set_cons_succ, List.length_cons, List.length_nil, List.drop_succ_cons, List.drop_zero, Nat.reduceAdd, h5]
    go_wp2_with (go_at_call 19; (with_reducible refine (z1 _).mono ?_); rintro e w1 ⟨rfl, rfl⟩)
    go_ret
    exact ⟨rfl, HB'.out⟩
set_option maxHeartbeats 1000000 in
theorem rmeets_is (s : ByteArray) (c n want : Int) (r : Bool) (w : World) (hs : s.size ≤ 10000) (hn : U n) (hr : decide (weightB s n ≥ want) = r) : Calls Tryd.prog 11 #[spong s c, .int .u64 n, .int .i64 want] w fun e w' => e = .returned (.bool r) ∧ Below w.heap.size w w' := by
  have k1 := fun W => rweight_is s c n W hs hn
  have hr' : decide (want ≤ weightB s n) = r := hr
  generalize weightB s n = wt at *
  go_enter Tryd.func11, Tryd.ntmps11
  go_upto_region 1 with fail
  refine wp_gen (fun W => Below w.heap.size w W ∧ W.cell? ⟨w.heap.size, 0, none⟩ = some (.string s) ∧ W.cell? ⟨w.heap.size, 1, none⟩ = some (.int .i64 c)) ⟨(Below.refl _ _).alloc (Nat.le_refl _) _, by simp [go_sem], by simp [go_sem]⟩ ?_
  obtain ⟨g, hg⟩ : ∃ g, w.heap.size = g := ⟨_, rfl⟩
  rintro W1 ⟨hB, c0, c1⟩
  rw [hg] at c0 c1
  simp only [hg]
  have HB := Lib.hid hB
  clear hB hg
  go_wp2_with (go_at_call 9; (with_reducible refine (k1 _).mono ?_); rintro e w1 ⟨rfl, hb⟩; replace HB := Lib.hid (bthen HB.out hb); clear hb)
  all_goals (go_ret; exact ⟨by first | rfl | simp [hr'] | simp_all, HB.out⟩)
/-- The least nonce, looked for from the first one up. -/
def SeaRel (w : World) (g : Nat) (s : ByteArray) (c want : Int) (lim : Nat) (i : Value) (W : World) : Prop := ∃ k : Nat, k ≤ lim ∧ i = .int .u64 k ∧ Below w.heap.size w W ∧ Duo W g (.string s) (.int .i64 c) ∧ ∀ j, j < k → meetsB s want j = false
theorem least_at {p : Nat → Bool} {n k : Nat} (h : k < n) (hp : p k = true) (hj : ∀ j, j < k → p j = false) : least p n = some k := by
  have h1 : least p (k + 1) = some k := by
    rw [least, least_none.2 hj]
    simp [hp]
  exact least_le h1 (by omega)
theorem search_yes {s : ByteArray} {want : Int} {lim k : Nat} (h : k < lim) (hp : meetsB s want k = true) (hj : ∀ j, j < k → meetsB s want j = false) : searchB s want lim = ((k : Int), true) := by unfold searchB; rw [least_at h hp hj]
theorem search_no {s : ByteArray} {want : Int} {lim : Nat} (hj : ∀ j, j < lim → meetsB s want j = false) : searchB s want lim = (0, false) := by unfold searchB; rw [least_none.2 hj]
set_option maxHeartbeats 4000000 in
theorem rsearch_is (s : ByteArray) (c want m : Int) (ok : Bool) (lim : Nat) (w : World) (hs : s.size ≤ 10000) (hl : lim ≤ 1000000) (hr : searchB s want lim = (m, ok)) : Calls Tryd.prog 13 #[spong s c, .int .i64 want, .int .u64 lim] w fun e w' => e = .returned (.tuple #[.int .u64 m, .bool ok]) ∧ Below w.heap.size w w' := by
  have HR : Hid (∀ a : Int × Bool, searchB s want lim = a → a.1 = m ∧ a.2 = ok) := Lib.hid fun a h => by rw [hr] at h; subst h; exact ⟨rfl, rfl⟩
  clear hr
  go_enter Tryd.func13, Tryd.ntmps13
  go_upto_region 2 with fail
  refine wp_gen (fun W => Below w.heap.size w W ∧ Duo W w.heap.size (.string s) (.int .i64 c)) ⟨(Below.refl _ _).alloc (Nat.le_refl _) _, by simp [Duo, go_sem]⟩ ?_
  obtain ⟨g, hg⟩ : ∃ g, w.heap.size = g := ⟨_, rfl⟩
  rintro W1 ⟨hB, hD⟩
  rw [hg] at hD
  simp only [hg]
  clear hg
  go_loopw [8] (SeaRel w g s c want lim) (fun i _ => lim - (intOf i).toNat)
  case atStart => exact ⟨0, Nat.zero_le _, rfl, hB, hD, fun j hj => by omega⟩
  case round =>
    clear hB hD
    obtain ⟨k, hk, rfl, hB, hD, hj⟩ := hrel
    by_cases hlt : k < lim
    · have hlt' : (k : Int) < (lim : Int) := by omega
      obtain ⟨r, hr⟩ : ∃ r, decide (weightB s k ≥ want) = r := ⟨_, rfl⟩
      have k1 := fun W => rmeets_is s c k want r W hs (by unfold U; omega) hr
      have hm : meetsB s want k = r := hr
      have HB := Lib.hid hB; have HD := Lib.hid hD; have HM := Lib.hid hm; have HJ := Lib.hid hj
      obtain ⟨x0, x1, _, _⟩ := hD
      have hw : IntKind.u64.wrap ((k : Int) + 1) = (k : Int) + 1 := by rw [IntKind.wrap_u64]; omega
      clear hB hr hm hj
      cases r with
      | true =>
        obtain ⟨e1, e2⟩ := HR.out _ (search_yes hlt HM.out HJ.out)
        have e1 : (k : Int) = m := e1
        have e2 : true = ok := e2
        subst e1 e2
        clear HR HM HJ
        go_wp2_with (go_at_call 11; (with_reducible refine (k1 _).mono ?_); rintro e w1 ⟨rfl, hb⟩)
        exact bodyPost_ret (v := .tuple #[.int .u64 (k : Int), .bool true]) (by simp [results, Tryd.results13, go_sem]) rfl ⟨rfl, bthen HB.out hb⟩
      | false =>
        have HJ2 : Hid (∀ j, j < k + 1 → meetsB s want j = false) := Lib.hid fun j hj => by
          by_cases e : j = k
          · subst e; exact HM.out
          · exact HJ.out j (by omega)
        clear HM HJ
        go_wp2_with (go_at_call 11; (with_reducible refine (k1 _).mono ?_); rintro e w1 ⟨rfl, hb⟩)
        go_roundw
        case rel => exact ⟨k + 1, by omega, by first | go_num | (simp), bthen HB.out hb, HD.out.keep hb, HJ2.out⟩
        case measure => simp [intOf]; omega
    · obtain rfl : k = lim := by omega
      obtain ⟨e1, e2⟩ := HR.out _ (search_no hj)
      have e1 : (0 : Int) = m := e1
      have e2 : false = ok := e2
      subst e1 e2
      have HB := Lib.hid hB
      clear hB hD hj HR
      go_wp2_with fail
      exact bodyPost_ret (v := .tuple #[.int .u64 0, .bool false]) (by simp [results, Tryd.results13, go_sem]) rfl ⟨rfl, HB.out⟩
end Go.Proofs.YthmpojefoiojeaaDoor
