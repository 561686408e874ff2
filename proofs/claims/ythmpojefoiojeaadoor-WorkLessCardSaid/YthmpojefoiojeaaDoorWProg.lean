/-
  The program's calls of layer 14: what is asked of them is so. (Written by gen_wprog.py.)
-/
import Derived.Test.YthmpojefoiojeaaDoorWorkRef
import Derived.Test.YthmpojefoiojeaaDoorSProg
namespace Go.Proofs.YthmpojefoiojeaaDoor
open Go Go.RowKit Go.Sort Go.BigFrame
set_option linter.unusedVariables false

theorem wsumL (l : List ByteArray) (n : Nat) (z : ByteArray) (hz : sumB (cat (tx l) n) = z) (hl : lens (tx l) n ≤ 1000000) (v : Value) (W : World) (hG : TabB W) (h : StrL W v n l) : Calls Tryd.prog 17 #[v] W fun e w' => e = .returned (.string z) ∧ Below W.heap.size W w' :=
  sumL_of (G := TabB) ask7.sum l n z hz hl v W h hG
def GWeiR (g : Nat) (n x : Int) (s E X : ByteArray) (sl : Nat) (v : Value) (W : World) : Prop :=
  match sl with
  | 8 => v = .pointer (some ⟨g, 0, none⟩)
  | 9 => v = .string s
  | 10 => v = .int .u64 n
  | 11 => v = .string E
  | 12 => StrL W v 3 [byte4, s, E]
  | 13 => v = .string X
  | 14 => v = .tuple #[.int .u64 x, .bool true]
  | 7 => v = .tuple #[.int .u64 x, .bool true]
  | 15 => v = .int .u64 x
  | 5 => v = .int .u64 x
  | _ => v = .bool true
theorem GWeiR.keep {g : Nat} {n x : Int} {s E X : ByteArray} {sl : Nat} {v : Value} {W W' : World} (h : GWeiR g n x s E X sl v W) (hb : Below W.heap.size W W') : GWeiR g n x s E X sl v W' := by
  unfold GWeiR at *
  split at h
  all_goals first | exact h | (exact StrL.keep h hb)
set_option maxRecDepth 100000 in
set_option maxHeartbeats 4000000 in
theorem gweight_is (s : ByteArray) (c n : Int) (w : World) (hs : s.size ≤ 10000) (hn : U n) (hT : TabB w) : Calls Tryd.prog 8 #[spong s c, .int .u64 n] w fun e w' => e = .returned (.int .i64 (weightB s n)) ∧ Below w.heap.size w w' := by
  have e1 := fun W => oeight_is n hn W
  have hE := eightB_size n
  have m1 := fun v W => wsumL [byte4, s, eightB n] 3 (workB s n) (by rw [cat_tx3]; exact workB_is _ _) (by simp only [lens, tx, List.getD]; show 0 + 1 + _ + _ ≤ _; simp only [List.getElem?_cons_zero, List.getElem?_cons_succ, Option.getD_some]; omega) v W
  have hX := workB_size s n
  have n1 := fun W => onum_yes (workB s n) (by omega) W
  have z1 := fun W => lead_is (numB (workB s n) 0) (numB_U _ _) W
  have hwt : lz (numB (workB s n) 0) = weightB s n := rfl
  rw [hwt] at z1
  generalize weightB s n = wt at *
  generalize numB (workB s n) 0 = x at *
  generalize workB s n = X at *
  generalize eightB n = E at *
  have HT := Lib.hid hT
  clear hE hX hwt hT
  go_enter Tryd.func8, Tryd.ntmps8
  go_upto_region 1 with fail
  refine wp_gen (fun W => Below w.heap.size w W ∧ W.cell? ⟨w.heap.size, 0, none⟩ = some (.string s)) ⟨(Below.refl _ _).alloc (Nat.le_refl _) _, by simp [go_sem]⟩ ?_
  obtain ⟨g, hg⟩ : ∃ g, w.heap.size = g := ⟨_, rfl⟩
  rintro W1 ⟨hB, c0⟩
  rw [hg] at c0
  have HB := Lib.hid hB
  clear hB
  simp only [hg]
  clear hg
  refine wp_loose [(8, []), (9, [8]), (10, []), (11, [10]), (12, [9, 11]), (13, [12]), (14, [13]), (7, [14]), (15, [7]), (16, [7]), (5, [15]), (6, [16])]
    (GWeiR g n x s E X) (fun d => false) (by kernel_rfl) (by kernel_rfl) (fun _ _ _ _ h hb => h.keep hb) ?_ ?_
  · refine opsrun_cons ?_ (opsrun_cons ?_ (opsrun_cons ?_ (opsrun_cons ?_ (opsrun_cons ?_ (opsrun_cons ?_ (opsrun_cons ?_ (opsrun_cons ?_ (opsrun_cons ?_ (opsrun_cons ?_ (opsrun_cons ?_ (opsrun_cons ?_ opsrun_nil)))))))))))
    all_goals
      refine OpRuns.any ?_
      intro Q0 σ W' K hb hn hK
      simp only [fill, List.map, Act.put, List.setIfInBounds_toArray, List.set_cons_zero, List.set_cons_succ] at hK ⊢
    · clear hn
      go_simp
      exact hK _ _ rfl (Below.refl _ _) (fun h => absurd h (by decide))
    · have h8 : σ 8 = _ := hn 8 (by decide)
      clear hn
      simp only [h8] at hK
      have c0' := bkeep hb c0
      clear c0
      go_simp
      exact hK _ _ rfl (Below.refl _ _) (fun h => absurd h (by decide))
    · clear hn
      go_simp
      exact hK _ _ rfl (Below.refl _ _) (fun h => absurd h (by decide))
    · have h10 : σ 10 = _ := hn 10 (by decide)
      clear hn
      simp only [h10] at hK
      go_simp
      go_at_call 18
      refine (e1 _).mono ?_
      rintro e w1 ⟨rfl, hb1⟩
      exact hK _ _ rfl hb1 (fun h => absurd h (by decide))
    · have h9 : σ 9 = _ := hn 9 (by decide)
      have h11 : σ 11 = _ := hn 11 (by decide)
      clear hn
      simp only [h9, h11] at hK
      go_simp
      exact hK _ _ (StrL.new _ [byte4, s, E] 3 _ rfl (by decide)) ((Below.refl _ _).alloc (Nat.le_refl _) _) (fun h => absurd h (by decide))
    · have p12 : StrL W' (σ 12) 3 [byte4, s, E] := hn 12 (by decide)
      clear hn
      obtain ⟨b, e, hs⟩ := p12
      simp only [e] at hK
      go_simp
      go_at_call 17
      refine (m1 _ _ (HT.out.keep (bthen HB.out hb)) ⟨b, rfl, hs⟩).mono ?_
      rintro e w1 ⟨rfl, hb1⟩
      exact hK _ _ rfl hb1 (fun h => absurd h (by decide))
    · have h13 : σ 13 = _ := hn 13 (by decide)
      clear hn
      simp only [h13] at hK
      go_simp
      go_at_call 16
      refine (n1 _).mono ?_
      rintro e w1 ⟨rfl, rfl⟩
      exact hK _ _ rfl (Below.refl _ _) (fun h => absurd h (by decide))
    · have h14 : σ 14 = _ := hn 14 (by decide)
      clear hn
      simp only [h14] at hK
      go_simp
      exact hK _ _ rfl (Below.refl _ _) (fun h => absurd h (by decide))
    · have h7 : σ 7 = _ := hn 7 (by decide)
      clear hn
      simp only [h7] at hK
      go_simp
      exact hK _ _ rfl (Below.refl _ _) (fun h => absurd h (by decide))
    · have h7 : σ 7 = _ := hn 7 (by decide)
      clear hn
      simp only [h7] at hK
      go_simp
      exact hK _ _ rfl (Below.refl _ _) (fun h => absurd h (by decide))
    · have h15 : σ 15 = _ := hn 15 (by decide)
      clear hn
      simp only [h15] at hK
      go_simp
      exact hK _ _ rfl (Below.refl _ _) (fun h => absurd h (by decide))
    · have h16 : σ 16 = _ := hn 16 (by decide)
      clear hn
      simp only [h16] at hK
      go_simp
      exact hK _ _ rfl (Below.refl _ _) (fun h => absurd h (by decide))
  · intro σ W' hb hR' hF
    have h5 : σ 5 = .int .u64 x := hR' 5 (by decide)
    have HB' := Lib.hid (bthen HB.out hb)
    clear hR' hF hb c0 HB
    simp only [fill, List.map, Act.put, List.setIfInBounds_toArray, List.set_cons_zero, List.set_cons_succ, List.length_cons, List.length_nil, List.drop_succ_cons, List.drop_zero, Nat.reduceAdd, h5]
    go_wp2_with (go_at_call 19; (with_reducible refine (z1 _).mono ?_); rintro e w1 ⟨rfl, rfl⟩)
    go_ret
    exact ⟨rfl, HB'.out⟩
set_option maxHeartbeats 1000000 in
theorem gmeets_is (s : ByteArray) (c n want : Int) (r : Bool) (w : World) (hs : s.size ≤ 10000) (hn : U n) (hr : decide (weightB s n ≥ want) = r) (hT : TabB w) : Calls Tryd.prog 10 #[spong s c, .int .u64 n, .int .i64 want] w fun e w' => e = .returned (.bool r) ∧ Below w.heap.size w w' := by
  have k1 := fun W hW => gweight_is s c n W hs hn hW
  have hr' : decide (want ≤ weightB s n) = r := hr
  generalize weightB s n = wt at *
  have HT := Lib.hid hT
  clear hT
  go_enter Tryd.func10, Tryd.ntmps10
  go_upto_region 1 with fail
  refine wp_gen (fun W => Below w.heap.size w W ∧ W.cell? ⟨w.heap.size, 0, none⟩ = some (.string s) ∧ W.cell? ⟨w.heap.size, 1, none⟩ = some (.int .i64 c)) ⟨(Below.refl _ _).alloc (Nat.le_refl _) _, by simp [go_sem], by simp [go_sem]⟩ ?_
  obtain ⟨g, hg⟩ : ∃ g, w.heap.size = g := ⟨_, rfl⟩
  rintro W1 ⟨hB, c0, c1⟩
  rw [hg] at c0 c1
  have HB := Lib.hid hB
  clear hB
  simp only [hg]
  clear hg
  go_wp2_with (go_at_call 8; (with_reducible refine (k1 _ (HT.out.keep HB.out)).mono ?_); rintro e w1 ⟨rfl, hb⟩; replace HB := Lib.hid (bthen HB.out hb); clear hb)
  all_goals (go_ret; exact ⟨by first | rfl | simp [hr'] | simp_all, HB.out⟩)
/-- More than all 64 bits are asked: no nonce shows them. -/
theorem meets_much {s : ByteArray} {want : Int} (h : 64 < want) (j : Nat) : meetsB s want j = false := by
  have := (weightB_bd s j).2
  exact decide_eq_false (by omega)
set_option maxHeartbeats 4000000 in
theorem gsearch_is (s : ByteArray) (c want m : Int) (ok : Bool) (lim : Nat) (w : World) (hs : s.size ≤ 10000) (hl : lim ≤ 1000000) (hr : searchB s want lim = (m, ok)) (hT : TabB w) : Calls Tryd.prog 12 #[spong s c, .int .i64 want, .int .u64 lim] w fun e w' => e = .returned (.tuple #[.int .u64 m, .bool ok]) ∧ Below w.heap.size w w' := by
  have HR : Hid (∀ a : Int × Bool, searchB s want lim = a → a.1 = m ∧ a.2 = ok) := Lib.hid fun a h => by rw [hr] at h; subst h; exact ⟨rfl, rfl⟩
  have HT := Lib.hid hT
  clear hr hT
  by_cases hbig : 64 < want
  · obtain ⟨e1, e2⟩ := HR.out _ (search_no (fun j hj => meets_much hbig j))
    have e1 : (0 : Int) = m := e1
    have e2 : false = ok := e2
    subst e1 e2
    clear HR HT
    go_enter Tryd.func12, Tryd.ntmps12
    go_wp2
    go_ret2
    exact ⟨rfl, (Below.refl _ _).alloc (Nat.le_refl _) _⟩
  go_enter Tryd.func12, Tryd.ntmps12
  go_upto_region 4 with fail
  refine wp_gen (fun W => Below w.heap.size w W ∧ Duo W w.heap.size (.string s) (.int .i64 c)) ⟨(Below.refl _ _).alloc (Nat.le_refl _) _, by simp [Duo, go_sem]⟩ ?_
  obtain ⟨g, hg⟩ : ∃ g, w.heap.size = g := ⟨_, rfl⟩
  rintro W1 ⟨hB, hD⟩
  rw [hg] at hD
  simp only [hg]
  clear hg hbig
  go_loopw [12] (SeaRel w g s c want lim) (fun i _ => lim - (intOf i).toNat)
  case atStart => exact ⟨0, Nat.zero_le _, rfl, hB, hD, fun j hj => by omega⟩
  case round =>
    clear hB hD
    obtain ⟨k, hk, rfl, hB, hD, hj⟩ := hrel
    by_cases hlt : k < lim
    · have hlt' : (k : Int) < (lim : Int) := by omega
      obtain ⟨r, hr⟩ : ∃ r, decide (weightB s k ≥ want) = r := ⟨_, rfl⟩
      have k1 := fun W hW => gmeets_is s c k want r W hs (by unfold U; omega) hr hW
      have hm : meetsB s want k = r := hr
      have HB := Lib.hid hB; have HD := Lib.hid hD; have HM := Lib.hid hm; have HJ := Lib.hid hj
      obtain ⟨x0, x1, _, _⟩ := hD
      have hw : IntKind.u64.wrap ((k : Int) + 1) = (k : Int) + 1 := by rw [IntKind.wrap_u64]; omega
      clear hB hr hm hj
      cases r with
      | true =>
        obtain ⟨e1, e2⟩ := HR.out _ (search_yes hlt HM.out HJ.out)
        have e1 : (k : Int) = m := e1
        have e2 : true = ok := e2
        subst e1 e2
        clear HR HM HJ
        go_wp2_with (go_at_call 10; (with_reducible refine (k1 _ (HT.out.keep HB.out)).mono ?_); rintro e w1 ⟨rfl, hb⟩)
        exact bodyPost_ret (v := .tuple #[.int .u64 (k : Int), .bool true]) (by simp [results, Tryd.results12, go_sem]) rfl ⟨rfl, bthen HB.out hb⟩
      | false =>
        have HJ2 : Hid (∀ j, j < k + 1 → meetsB s want j = false) := Lib.hid fun j hj => by
          by_cases e : j = k
          · subst e; exact HM.out
          · exact HJ.out j (by omega)
        clear HM HJ
        go_wp2_with (go_at_call 10; (with_reducible refine (k1 _ (HT.out.keep HB.out)).mono ?_); rintro e w1 ⟨rfl, hb⟩)
        go_roundw
        case rel => exact ⟨k + 1, by omega, by first | go_num | (simp), bthen HB.out hb, HD.out.keep hb, HJ2.out⟩
        case measure => simp [intOf]; omega
    · obtain rfl : k = lim := by omega
      obtain ⟨e1, e2⟩ := HR.out _ (search_no hj)
      have e1 : (0 : Int) = m := e1
      have e2 : false = ok := e2
      subst e1 e2
      have HB := Lib.hid hB
      clear hB hD hj HR
      go_wp2_with fail
      exact bodyPost_ret (v := .tuple #[.int .u64 0, .bool false]) (by simp [results, Tryd.results12, go_sem]) rfl ⟨rfl, HB.out⟩
theorem ask14 : AskWork TabB where
  keep := fun h hb => h.keep hb
  weight := fun s c n W hs hn hG => gweight_is s c n W hs hn hG
  meets := fun s c n want W hs hn _ hG => gmeets_is s c n want _ W hs hn rfl hG
  search := fun s c want lim W hs _ hl hG => gsearch_is s c want _ _ lim W hs hl rfl hG
end Go.Proofs.YthmpojefoiojeaaDoor
