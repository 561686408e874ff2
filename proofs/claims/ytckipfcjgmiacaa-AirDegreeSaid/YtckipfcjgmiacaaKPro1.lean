/-
  The program's Right and first of layer 15; what is parsed from a place on is what is parsed of the text behind that place.
-/
import Derived.Test.YtckipfcjgmiacaaCodeRef3
import Derived.Test.YtckipfcjgmiacaaGOctPro
namespace Go.Proofs.Ytckipfcjgmiacaa
open Go Go.RowKit
set_option linter.unusedVariables false

theorem cut_size (t : ByteArray) (c : Nat) : (t.extract c t.size).size = t.size - c := by rw [ByteArray.size_extract]; omega
theorem numB_cut (t : ByteArray) (c i : Nat) (h : c + i + 8 ≤ t.size) : numB (t.extract c t.size) i = numB t (c + i) := by
  unfold numB
  exact numP_ext fun j hj => by rw [byt_extract _ _ _ _ (Nat.le_refl _) (by omega), Nat.add_assoc]
theorem at_cut (t : ByteArray) (c i : Nat) (h : c + i < t.size) : parseAt (t.extract c t.size) i = ((parseAt t (c + i)).1, (parseAt t (c + i)).2.1, (parseAt t (c + i)).2.2 - c) := by
  have b0 := byt_extract t c t.size i (Nat.le_refl _) h
  have hz := cut_size t c
  unfold parseAt
  rw [b0, hz]
  by_cases h1 : byt t (c + i) < 1 ∨ 6 < byt t (c + i)
  · rw [if_pos h1, if_pos h1]
    show _ = ((3 : Int), ((0, 0) : Opn), c + i - c)
    rw [show c + i - c = i by omega]
  · rw [if_neg h1, if_neg h1]
    by_cases h3 : byt t (c + i) = 3
    · rw [if_pos h3, if_pos h3]
      by_cases h9 : c + i + 9 ≤ t.size
      · rw [numB_cut t c (i + 1) (by omega), show c + (i + 1) = c + i + 1 by omega]
        by_cases hp : numB t (c + i + 1) < 18446744069414584321
        · rw [if_pos ⟨by omega, hp⟩, if_pos ⟨h9, hp⟩]
          show _ = ((0 : Int), ((3, _) : Opn), c + i + 9 - c)
          rw [show c + i + 9 - c = i + 9 by omega]
        · rw [if_neg (fun q => hp q.2), if_neg (fun q => hp q.2)]
          show _ = ((2 : Int), ((0, 0) : Opn), c + i - c)
          rw [show c + i - c = i by omega]
      · rw [if_neg (fun q => h9 (by have := q.1; omega)), if_neg (fun q => h9 q.1)]
        show _ = ((2 : Int), ((0, 0) : Opn), c + i - c)
        rw [show c + i - c = i by omega]
    · rw [if_neg h3, if_neg h3]
      by_cases h2 : byt t (c + i) = 1 ∨ byt t (c + i) = 2
      · rw [if_pos h2, if_pos h2]
        by_cases h4 : c + i + 1 < t.size
        · rw [if_pos (by omega : i + 1 < t.size - c), if_pos h4, byt_extract t c t.size (i + 1) (Nat.le_refl _) (by omega), show c + (i + 1) = c + i + 1 by omega]
          show _ = ((0 : Int), ((_, _) : Opn), c + i + 2 - c)
          rw [show c + i + 2 - c = i + 2 by omega]
        · rw [if_neg (by omega : ¬ i + 1 < t.size - c), if_neg h4]
          show _ = ((2 : Int), ((0, 0) : Opn), c + i - c)
          rw [show c + i - c = i by omega]
      · rw [if_neg h2, if_neg h2]
        show _ = ((0 : Int), ((_, 0) : Opn), c + i + 1 - c)
        rw [show c + i + 1 - c = i + 1 by omega]
theorem parseD_cut (t : ByteArray) (c : Nat) (hc : c ≤ t.size) : ∀ (f i : Nat) (out : List Opn), parseD (t.extract c t.size) f i out = parseD t f (c + i) out
  | 0, i, out => rfl
  | f + 1, i, out => by
    rw [parseD, parseD, cut_size]
    by_cases h : t.size ≤ c + i
    · rw [if_pos (by omega), if_pos h]
    · rw [if_neg (by omega), if_neg h, at_cut t c i (by omega)]
      by_cases h0 : (parseAt t (c + i)).1 = 0
      · have hn := parseAt_next t (c + i) h0
        rw [if_pos h0, if_pos h0]
        show (if 256 < out.length + 1 then _ else parseD (t.extract c t.size) f ((parseAt t (c + i)).2.2 - c) (out ++ [(parseAt t (c + i)).2.1])) = _
        rw [parseD_cut t c hc f _ _, show c + ((parseAt t (c + i)).2.2 - c) = (parseAt t (c + i)).2.2 by omega]
      · rw [if_neg h0, if_neg h0]
theorem parse_cut (t : ByteArray) (c : Nat) (hc : c ≤ t.size) (out : List Opn) : parseR (t.extract c t.size) 0 out = parseR t c out := by
  unfold parseR
  rw [parseD_cut t c hc, Nat.add_zero]
  exact parseD_fuel t _ _ c out (by rw [cut_size]; omega) (by omega)
theorem four_eq {a a' : Int} {b b' : Int} {x x' : Int} {d d' : Nat} (h : ((a, (b, x), d) : Int × Opn × Nat) = (a', (b', x'), d')) : a' = a ∧ b' = b ∧ x' = x ∧ d' = d := by cases h; exact ⟨rfl, rfl, rfl, rfl⟩

set_option maxHeartbeats 2000000 in
theorem kright_is (k n : Int) (r : Bool) (w : World) (hk : OkO (k, n)) (hr : rightO (k, n) = r) : Calls Try.prog 65 #[.agg #[.int .i64 k, .int .u64 n]] w fun e w' => e = .returned (.bool r) ∧ Below w.heap.size w w' := by
  have HR := Lib.hid hr
  clear hr
  go_enter Try.func65, Try.ntmps65
  go_upto_region 1 with fail
  refine wp_gen (fun W => Below w.heap.size w W ∧ W.cell? ⟨w.heap.size, 0, none⟩ = some (.int .i64 k) ∧ W.cell? ⟨w.heap.size, 1, none⟩ = some (.int .u64 n)) ⟨(Below.refl _ _).alloc (Nat.le_refl _) _, by simp [go_sem], by simp [go_sem]⟩ ?_
  obtain ⟨g, hg⟩ : ∃ g, w.heap.size = g := ⟨_, rfl⟩
  rintro W1 ⟨hB, c0, c1⟩
  rw [hg] at c0 c1
  simp only [hg]
  have HB := Lib.hid hB
  clear hB hg
  have hcase : k = 1 ∨ k = 2 ∨ k = 3 ∨ k = 4 ∨ k = 5 ∨ k = 6 ∨ (¬ k = 1 ∧ ¬ k = 2 ∧ ¬ k = 3 ∧ ¬ k = 4 ∧ ¬ k = 5 ∧ ¬ k = 6) := by omega
  rcases hcase with rfl | rfl | rfl | rfl | rfl | rfl | ⟨h1, h2, h3, h4, h5, h6⟩
  all_goals
    go_wp2_with fail
    go_ret
    refine ⟨?_, HB.out⟩
    rw [← HR.out]
    (simp_all [rightO]) <;> (rw [Bool.eq_iff_iff]; simp)
abbrev firstV (k n : Int) (c : Nat) (e : Int) : Value := .tuple #[.agg #[.int .i64 k, .int .u64 n], .int .i64 (c : Int), .int .i64 e]
set_option maxHeartbeats 4000000 in
theorem kfirst_is (t : ByteArray) (e k n : Int) (c : Nat) (ht : 0 < t.size) (hs : t.size ≤ 9223372036854775807) (h : parseAt t 0 = (e, (k, n), c)) (w : World) :
    Calls Try.prog 64 #[.string t] w fun en w' => en = .returned (firstV k n c e) ∧ Below w.heap.size w w' := by
  have hI : (0 : Int) < (t.size : Int) := by omega
  have e1 : (((t[0]'ht).toNat : Nat) : Int) = byt t 0 := byt_get t 0 ht
  have hbd := byt_bd t 0
  have HP := Lib.hid h
  clear h
  generalize hx : byt t 0 = x at *
  by_cases hbad : x < 1 ∨ 6 < x
  · obtain ⟨rfl, rfl, rfl, rfl⟩ := four_eq (((show parseAt t 0 = (3, (0, 0), 0) by unfold parseAt; rw [hx, if_pos hbad])).symm.trans HP.out)
    have n1 : ¬ x = 1 := by omega
    have n2 : ¬ x = 2 := by omega
    have n3 : ¬ x = 3 := by omega
    have n4 : ¬ x = 4 := by omega
    have n5 : ¬ x = 5 := by omega
    have n6 : ¬ x = 6 := by omega
    clear hx HP hbad hbd
    go_enter Try.func64, Try.ntmps64
    go_wp2_with fail
    exact bodyPost_ret (v := firstV (0) (0) 0 (3)) (by simp [results, Try.results64, go_sem]) rfl ⟨rfl, (Below.refl w.heap.size w).alloc (Nat.le_refl _) _⟩
  · have hcase : x = 1 ∨ x = 2 ∨ x = 3 ∨ x = 4 ∨ x = 5 ∨ x = 6 := by omega
    have nbad := hbad
    rcases hcase with rfl | rfl | rfl | rfl | rfl | rfl
    · by_cases h2 : 1 < t.size
      · obtain ⟨rfl, rfl, rfl, rfl⟩ := four_eq (((show parseAt t 0 = (0, (1, byt t 1), 2) by unfold parseAt; rw [hx, if_neg (by omega), if_neg (by omega), if_pos (by omega), if_pos (by omega)])).symm.trans HP.out)
        have hI2 : ¬ (t.size : Int) < 2 := by omega
        have hI3 : (1 : Int) < (t.size : Int) := by omega
        have hy := byt_bd t 1
        have e2 : IntKind.u64.wrap (((t[1]'h2).toNat : Nat) : Int) = byt t 1 := by rw [byt_get, IntKind.wrap_u64]; exact Int.emod_eq_of_lt hy.1 (by omega)
        generalize byt t 1 = y at *
        clear hx HP hbad hbd nbad
        go_enter Try.func64, Try.ntmps64
        go_wp2_with fail
        exact bodyPost_ret (v := firstV (1) (y) 2 (0)) (by simp [results, Try.results64, go_sem]) rfl ⟨rfl, (Below.refl w.heap.size w).alloc (Nat.le_refl _) _⟩
      · obtain ⟨rfl, rfl, rfl, rfl⟩ := four_eq (((show parseAt t 0 = (2, (0, 0), 0) by unfold parseAt; rw [hx, if_neg (by omega), if_neg (by omega), if_pos (by omega), if_neg (by omega)])).symm.trans HP.out)
        have hI2 : (t.size : Int) < 2 := by omega
        clear hx HP hbad hbd nbad
        go_enter Try.func64, Try.ntmps64
        go_wp2_with fail
        exact bodyPost_ret (v := firstV (0) (0) 0 (2)) (by simp [results, Try.results64, go_sem]) rfl ⟨rfl, (Below.refl w.heap.size w).alloc (Nat.le_refl _) _⟩
    · by_cases h2 : 1 < t.size
      · obtain ⟨rfl, rfl, rfl, rfl⟩ := four_eq (((show parseAt t 0 = (0, (2, byt t 1), 2) by unfold parseAt; rw [hx, if_neg (by omega), if_neg (by omega), if_pos (by omega), if_pos (by omega)])).symm.trans HP.out)
        have hI2 : ¬ (t.size : Int) < 2 := by omega
        have hI3 : (1 : Int) < (t.size : Int) := by omega
        have hy := byt_bd t 1
        have e2 : IntKind.u64.wrap (((t[1]'h2).toNat : Nat) : Int) = byt t 1 := by rw [byt_get, IntKind.wrap_u64]; exact Int.emod_eq_of_lt hy.1 (by omega)
        generalize byt t 1 = y at *
        clear hx HP hbad hbd nbad
        go_enter Try.func64, Try.ntmps64
        go_wp2_with fail
        exact bodyPost_ret (v := firstV (2) (y) 2 (0)) (by simp [results, Try.results64, go_sem]) rfl ⟨rfl, (Below.refl w.heap.size w).alloc (Nat.le_refl _) _⟩
      · obtain ⟨rfl, rfl, rfl, rfl⟩ := four_eq (((show parseAt t 0 = (2, (0, 0), 0) by unfold parseAt; rw [hx, if_neg (by omega), if_neg (by omega), if_pos (by omega), if_neg (by omega)])).symm.trans HP.out)
        have hI2 : (t.size : Int) < 2 := by omega
        clear hx HP hbad hbd nbad
        go_enter Try.func64, Try.ntmps64
        go_wp2_with fail
        exact bodyPost_ret (v := firstV (0) (0) 0 (2)) (by simp [results, Try.results64, go_sem]) rfl ⟨rfl, (Below.refl w.heap.size w).alloc (Nat.le_refl _) _⟩
    · have hI1 : (1 : Int) ≤ (t.size : Int) := by omega
      by_cases h9 : 9 ≤ t.size
      · have kn := fun W => onum_yes (t.extract 1 t.size) (by rw [cut_size]; omega) W
        rw [numB_cut t 1 0 (by omega)] at kn
        have hu := numB_U t 1
        by_cases hp : numB t 1 < 18446744069414584321
        · obtain ⟨rfl, rfl, rfl, rfl⟩ := four_eq (((show parseAt t 0 = (0, (3, numB t 1), 9) by unfold parseAt; rw [hx, if_neg (by omega), if_pos rfl, if_pos ⟨by omega, hp⟩])).symm.trans HP.out)
          have hp' : ¬ numB t 1 ≥ 18446744069414584321 := by omega
          rw [show 1 + 0 = 1 from rfl] at kn
          generalize numB t 1 = y at *
          clear hx HP hbad hbd nbad
          go_enter Try.func64, Try.ntmps64
          go_wp2_with (go_at_call 61; (with_reducible refine (kn _).mono ?_); rintro e w2 ⟨rfl, rfl⟩)
          exact bodyPost_ret (v := firstV (3) (y) 9 (0)) (by simp [results, Try.results64, go_sem]) rfl ⟨rfl, (Below.refl w.heap.size w).alloc (Nat.le_refl _) _⟩
        · obtain ⟨rfl, rfl, rfl, rfl⟩ := four_eq (((show parseAt t 0 = (2, (0, 0), 0) by unfold parseAt; rw [hx, if_neg (by omega), if_pos rfl, if_neg (fun q => hp q.2)])).symm.trans HP.out)
          have hp' : numB t 1 ≥ 18446744069414584321 := by omega
          rw [show 1 + 0 = 1 from rfl] at kn
          generalize numB t 1 = y at *
          clear hx HP hbad hbd nbad hp
          go_enter Try.func64, Try.ntmps64
          go_wp2_with (go_at_call 61; (with_reducible refine (kn _).mono ?_); rintro e w2 ⟨rfl, rfl⟩)
          exact bodyPost_ret (v := firstV (0) (0) 0 (2)) (by simp [results, Try.results64, go_sem]) rfl ⟨rfl, (Below.refl w.heap.size w).alloc (Nat.le_refl _) _⟩
      · have kn := fun W => onum_no (t.extract 1 t.size) (by rw [cut_size]; omega) W
        obtain ⟨rfl, rfl, rfl, rfl⟩ := four_eq (((show parseAt t 0 = (2, (0, 0), 0) by unfold parseAt; rw [hx, if_neg (by omega), if_pos rfl, if_neg (fun q => h9 (by have := q.1; omega))])).symm.trans HP.out)
        clear hx HP hbad hbd nbad
        go_enter Try.func64, Try.ntmps64
        go_wp2_with (go_at_call 61; (with_reducible refine (kn _).mono ?_); rintro e w2 ⟨rfl, rfl⟩)
        exact bodyPost_ret (v := firstV (0) (0) 0 (2)) (by simp [results, Try.results64, go_sem]) rfl ⟨rfl, (Below.refl w.heap.size w).alloc (Nat.le_refl _) _⟩
    · obtain ⟨rfl, rfl, rfl, rfl⟩ := four_eq (((show parseAt t 0 = (0, (4, 0), 1) by unfold parseAt; rw [hx, if_neg (by omega), if_neg (by omega), if_neg (by omega)])).symm.trans HP.out)
      clear hx HP hbad hbd nbad
      go_enter Try.func64, Try.ntmps64
      go_wp2_with fail
      exact bodyPost_ret (v := firstV (4) (0) 1 (0)) (by simp [results, Try.results64, go_sem]) rfl ⟨rfl, (Below.refl w.heap.size w).alloc (Nat.le_refl _) _⟩
    · obtain ⟨rfl, rfl, rfl, rfl⟩ := four_eq (((show parseAt t 0 = (0, (5, 0), 1) by unfold parseAt; rw [hx, if_neg (by omega), if_neg (by omega), if_neg (by omega)])).symm.trans HP.out)
      clear hx HP hbad hbd nbad
      go_enter Try.func64, Try.ntmps64
      go_wp2_with fail
      exact bodyPost_ret (v := firstV (5) (0) 1 (0)) (by simp [results, Try.results64, go_sem]) rfl ⟨rfl, (Below.refl w.heap.size w).alloc (Nat.le_refl _) _⟩
    · obtain ⟨rfl, rfl, rfl, rfl⟩ := four_eq (((show parseAt t 0 = (0, (6, 0), 1) by unfold parseAt; rw [hx, if_neg (by omega), if_neg (by omega), if_neg (by omega)])).symm.trans HP.out)
      clear hx HP hbad hbd nbad
      go_enter Try.func64, Try.ntmps64
      go_wp2_with fail
      exact bodyPost_ret (v := firstV (6) (0) 1 (0)) (by simp [results, Try.results64, go_sem]) rfl ⟨rfl, (Below.refl w.heap.size w).alloc (Nat.le_refl _) _⟩
end Go.Proofs.Ytckipfcjgmiacaa
