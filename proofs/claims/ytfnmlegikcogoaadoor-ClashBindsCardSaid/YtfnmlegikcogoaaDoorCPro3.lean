/-
  What the program's Extract comes to. (Written by gen_cpro3.py.)
-/
import Derived.Test.YtfnmlegikcogoaaDoorClashRefX
import Derived.Test.YtfnmlegikcogoaaDoorCPro4
import Derived.Test.YtfnmlegikcogoaaDoorClashRefU
import Derived.Test.YtfnmlegikcogoaaDoorGNum
namespace Go.Proofs.YtfnmlegikcogoaaDoor
open Go Go.RowKit Go.Sort Go.BigFrame
set_option linter.unusedVariables false

set_option maxRecDepth 100000 in
set_option maxHeartbeats 4000000 in
theorem gextract_no (root : ByteArray) (depth i : Int) (a : Option Addr) (len cap : Nat) (b : Option Addr) (lenb capb : Nat) (p : Option Addr) (n c : Nat) (a2 : Option Addr) (len2 cap2 : Nat) (b2 : Option Addr) (lenb2 capb2 : Nat) (p2 : Option Addr) (n2 c2 : Nat) (l1 l2 : Bool) (s t : ByteArray) (w : World)
    (k1 : ∀ W, Below w.heap.size w W → Calls Tryd.prog 26 #[.string root, .int .i64 depth, .int .i64 i, .agg #[.slice a len cap, .slice b lenb capb, .slice p n c]] W fun e w' => e = .returned (.bool l1) ∧ Below W.heap.size W w')
    (k2 : ∀ W, Below w.heap.size w W → Calls Tryd.prog 26 #[.string root, .int .i64 depth, .int .i64 i, .agg #[.slice a2 len2 cap2, .slice b2 lenb2 capb2, .slice p2 n2 c2]] W fun e w' => e = .returned (.bool l2) ∧ Below W.heap.size W w')
    (k3 : ∀ W, Below w.heap.size w W → Calls Tryd.prog 22 #[.agg #[.slice a len cap, .slice b lenb capb, .slice p n c]] W fun e w' => e = .returned (.string s) ∧ Below W.heap.size W w')
    (k4 : ∀ W, Below w.heap.size w W → Calls Tryd.prog 22 #[.agg #[.slice a2 len2 cap2, .slice b2 lenb2 capb2, .slice p2 n2 c2]] W fun e w' => e = .returned (.string t) ∧ Below W.heap.size W w') (hno : ¬ (l1 = true ∧ l2 = true ∧ s ≠ t)) :
    Calls Tryd.prog 15 #[.string root, .int .i64 depth, .int .i64 i, .agg #[.slice a len cap, .slice b lenb capb, .slice p n c], .agg #[.slice a2 len2 cap2, .slice b2 lenb2 capb2, .slice p2 n2 c2]] w fun e w' => e = .returned (.tuple #[.string ⟨#[]⟩, .string ⟨#[]⟩, .bool false]) ∧ Below w.heap.size w w' := by
  cases l1 with
  | false =>
    clear hno
    go_enter Tryd.func15, Tryd.ntmps15
    go_upto_region 1 with fail
    refine wp_gen (fun W => Below w.heap.size w W ∧ OpenV W w.heap.size (.slice a len cap) (.slice b lenb capb) (.slice p n c) ∧ OpenV W (w.heap.size + 1) (.slice a2 len2 cap2) (.slice b2 lenb2 capb2) (.slice p2 n2 c2)) ⟨?_, ⟨by simp [go_sem], by simp [go_sem], by simp [go_sem]⟩, by simp [go_sem], by simp [go_sem], by simp [go_sem]⟩ ?_
    · exact ((Below.refl _ _).alloc (Nat.le_refl _) _).alloc (by simp) _
    obtain ⟨g0, hg0⟩ : ∃ g, w.heap.size = g := ⟨_, rfl⟩
    obtain ⟨g1, hg1⟩ : ∃ g, g0 + 1 = g := ⟨_, rfl⟩
    rintro W1 ⟨hB, hX, hY⟩
    rw [hg0] at hX hY
    rw [hg1] at hY
    simp only [hg0, hg1]
    have HB := Lib.hid hB; have HX := Lib.hid hX; have HY := Lib.hid hY
    clear hB hg0 hg1
    obtain ⟨x0, x1, x2⟩ := hX
    obtain ⟨y0, y1, y2⟩ := hY
    replace x0 := fun q : Regrown => cell_regrown x0 q.d q.os
    replace x1 := fun q : Regrown => cell_regrown x1 q.d q.os
    replace x2 := fun q : Regrown => cell_regrown x2 q.d q.os
    replace y0 := fun q : Regrown => cell_regrown y0 q.d q.os
    replace y1 := fun q : Regrown => cell_regrown y1 q.d q.os
    replace y2 := fun q : Regrown => cell_regrown y2 q.d q.os
    refine wp_region_quiet_below (by kernel_rfl) (by kernel_rfl) ?_
    repeat (first | go_big_quiet_step (first
      | (go_at_call 26; first | with_reducible exact Calls.regrown_of (k1 _ (bthen HB.out (below_regrown W1 _ _))) | with_reducible exact Calls.regrown_of (k2 _ (bthen HB.out (below_regrown W1 _ _))))
      | (go_at_call 22; first | with_reducible exact Calls.regrown_of (k3 _ (bthen HB.out (below_regrown W1 _ _))) | with_reducible exact Calls.regrown_of (k4 _ (bthen HB.out (below_regrown W1 _ _))))) | quiet_step (fail))
    refine wpQuiet_nil ?_
    rintro _ ⟨pq, rfl⟩
    replace HB := Lib.hid (bthen HB.out (below_regrown W1 pq.d pq.os))
    go_wp2
    exact bodyPost_ret (v := .tuple #[.string ⟨#[]⟩, .string ⟨#[]⟩, .bool false]) (by simp [results, Tryd.results15, go_sem]) rfl ⟨rfl, HB.out⟩
  | true =>
  cases l2 with
  | false =>
    clear hno
    go_enter Tryd.func15, Tryd.ntmps15
    go_upto_region 1 with fail
    refine wp_gen (fun W => Below w.heap.size w W ∧ OpenV W w.heap.size (.slice a len cap) (.slice b lenb capb) (.slice p n c) ∧ OpenV W (w.heap.size + 1) (.slice a2 len2 cap2) (.slice b2 lenb2 capb2) (.slice p2 n2 c2)) ⟨?_, ⟨by simp [go_sem], by simp [go_sem], by simp [go_sem]⟩, by simp [go_sem], by simp [go_sem], by simp [go_sem]⟩ ?_
    · exact ((Below.refl _ _).alloc (Nat.le_refl _) _).alloc (by simp) _
    obtain ⟨g0, hg0⟩ : ∃ g, w.heap.size = g := ⟨_, rfl⟩
    obtain ⟨g1, hg1⟩ : ∃ g, g0 + 1 = g := ⟨_, rfl⟩
    rintro W1 ⟨hB, hX, hY⟩
    rw [hg0] at hX hY
    rw [hg1] at hY
    simp only [hg0, hg1]
    have HB := Lib.hid hB; have HX := Lib.hid hX; have HY := Lib.hid hY
    clear hB hg0 hg1
    obtain ⟨x0, x1, x2⟩ := hX
    obtain ⟨y0, y1, y2⟩ := hY
    replace x0 := fun q : Regrown => cell_regrown x0 q.d q.os
    replace x1 := fun q : Regrown => cell_regrown x1 q.d q.os
    replace x2 := fun q : Regrown => cell_regrown x2 q.d q.os
    replace y0 := fun q : Regrown => cell_regrown y0 q.d q.os
    replace y1 := fun q : Regrown => cell_regrown y1 q.d q.os
    replace y2 := fun q : Regrown => cell_regrown y2 q.d q.os
    refine wp_region_quiet_below (by kernel_rfl) (by kernel_rfl) ?_
    repeat (first | go_big_quiet_step (first
      | (go_at_call 26; first | with_reducible exact Calls.regrown_of (k1 _ (bthen HB.out (below_regrown W1 _ _))) | with_reducible exact Calls.regrown_of (k2 _ (bthen HB.out (below_regrown W1 _ _))))
      | (go_at_call 22; first | with_reducible exact Calls.regrown_of (k3 _ (bthen HB.out (below_regrown W1 _ _))) | with_reducible exact Calls.regrown_of (k4 _ (bthen HB.out (below_regrown W1 _ _))))) | quiet_step (fail))
    refine wpQuiet_nil ?_
    rintro _ ⟨pq, rfl⟩
    replace HB := Lib.hid (bthen HB.out (below_regrown W1 pq.d pq.os))
    go_wp2
    exact bodyPost_ret (v := .tuple #[.string ⟨#[]⟩, .string ⟨#[]⟩, .bool false]) (by simp [results, Tryd.results15, go_sem]) rfl ⟨rfl, HB.out⟩
  | true =>
    have hst : s = t := Classical.byContradiction fun h => hno ⟨rfl, rfl, h⟩
    subst hst
    clear hno
    go_enter Tryd.func15, Tryd.ntmps15
    go_upto_region 1 with fail
    refine wp_gen (fun W => Below w.heap.size w W ∧ OpenV W w.heap.size (.slice a len cap) (.slice b lenb capb) (.slice p n c) ∧ OpenV W (w.heap.size + 1) (.slice a2 len2 cap2) (.slice b2 lenb2 capb2) (.slice p2 n2 c2)) ⟨?_, ⟨by simp [go_sem], by simp [go_sem], by simp [go_sem]⟩, by simp [go_sem], by simp [go_sem], by simp [go_sem]⟩ ?_
    · exact ((Below.refl _ _).alloc (Nat.le_refl _) _).alloc (by simp) _
    obtain ⟨g0, hg0⟩ : ∃ g, w.heap.size = g := ⟨_, rfl⟩
    obtain ⟨g1, hg1⟩ : ∃ g, g0 + 1 = g := ⟨_, rfl⟩
    rintro W1 ⟨hB, hX, hY⟩
    rw [hg0] at hX hY
    rw [hg1] at hY
    simp only [hg0, hg1]
    have HB := Lib.hid hB; have HX := Lib.hid hX; have HY := Lib.hid hY
    clear hB hg0 hg1
    obtain ⟨x0, x1, x2⟩ := hX
    obtain ⟨y0, y1, y2⟩ := hY
    replace x0 := fun q : Regrown => cell_regrown x0 q.d q.os
    replace x1 := fun q : Regrown => cell_regrown x1 q.d q.os
    replace x2 := fun q : Regrown => cell_regrown x2 q.d q.os
    replace y0 := fun q : Regrown => cell_regrown y0 q.d q.os
    replace y1 := fun q : Regrown => cell_regrown y1 q.d q.os
    replace y2 := fun q : Regrown => cell_regrown y2 q.d q.os
    refine wp_region_quiet_below (by kernel_rfl) (by kernel_rfl) ?_
    repeat (first | go_big_quiet_step (first
      | (go_at_call 26; first | with_reducible exact Calls.regrown_of (k1 _ (bthen HB.out (below_regrown W1 _ _))) | with_reducible exact Calls.regrown_of (k2 _ (bthen HB.out (below_regrown W1 _ _))))
      | (go_at_call 22; first | with_reducible exact Calls.regrown_of (k3 _ (bthen HB.out (below_regrown W1 _ _))) | with_reducible exact Calls.regrown_of (k4 _ (bthen HB.out (below_regrown W1 _ _))))) | quiet_step (fail))
    refine wpQuiet_nil ?_
    rintro _ ⟨pq, rfl⟩
    replace HB := Lib.hid (bthen HB.out (below_regrown W1 pq.d pq.os))
    go_wp2
    exact bodyPost_ret (v := .tuple #[.string ⟨#[]⟩, .string ⟨#[]⟩, .bool false]) (by simp [results, Tryd.results15, go_sem]) rfl ⟨rfl, HB.out⟩
set_option maxRecDepth 100000 in
set_option maxHeartbeats 4000000 in
theorem gextract_yes (root : ByteArray) (depth i : Int) (a : Option Addr) (len cap : Nat) (b : Option Addr) (lenb capb : Nat) (p : Option Addr) (n c : Nat) (a2 : Option Addr) (len2 cap2 : Nat) (b2 : Option Addr) (lenb2 capb2 : Nat) (p2 : Option Addr) (n2 c2 : Nat) (s t : ByteArray) (w : World)
    (k1 : ∀ W, Below w.heap.size w W → Calls Tryd.prog 26 #[.string root, .int .i64 depth, .int .i64 i, .agg #[.slice a len cap, .slice b lenb capb, .slice p n c]] W fun e w' => e = .returned (.bool true) ∧ Below W.heap.size W w')
    (k2 : ∀ W, Below w.heap.size w W → Calls Tryd.prog 26 #[.string root, .int .i64 depth, .int .i64 i, .agg #[.slice a2 len2 cap2, .slice b2 lenb2 capb2, .slice p2 n2 c2]] W fun e w' => e = .returned (.bool true) ∧ Below W.heap.size W w')
    (k3 : ∀ W, Below w.heap.size w W → Calls Tryd.prog 22 #[.agg #[.slice a len cap, .slice b lenb capb, .slice p n c]] W fun e w' => e = .returned (.string s) ∧ Below W.heap.size W w')
    (k4 : ∀ W, Below w.heap.size w W → Calls Tryd.prog 22 #[.agg #[.slice a2 len2 cap2, .slice b2 lenb2 capb2, .slice p2 n2 c2]] W fun e w' => e = .returned (.string t) ∧ Below W.heap.size W w') (T1 T2 : Nat → ByteArray) (x y : ByteArray) (ok : Bool) (hst : s ≠ t)
    (kt1 : ∀ W, Below w.heap.size w W → Calls Tryd.prog 11 #[.int .i64 i, .agg #[.slice a len cap, .slice b lenb capb, .slice p n c]] W fun e w' => Below W.heap.size W w' ∧ ∃ r cr, e = .returned (.slice r (n + 1) cr) ∧ StrS w' r (n + 1) cr T1)
    (kt2 : ∀ W, Below w.heap.size w W → Calls Tryd.prog 11 #[.int .i64 i, .agg #[.slice a2 len2 cap2, .slice b2 lenb2 capb2, .slice p2 n2 c2]] W fun e w' => Below W.heap.size W w' ∧ ∃ r cr, e = .returned (.slice r (n2 + 1) cr) ∧ StrS w' r (n2 + 1) cr T2)
    (hu : unlikeB T1 T2 (n + 1) (n2 + 1) = (x, y, ok)) (hn70 : n ≤ 70) (hn72 : n2 ≤ 70) :
    Calls Tryd.prog 15 #[.string root, .int .i64 depth, .int .i64 i, .agg #[.slice a len cap, .slice b lenb capb, .slice p n c], .agg #[.slice a2 len2 cap2, .slice b2 lenb2 capb2, .slice p2 n2 c2]] w fun e w' => e = .returned (.tuple #[.string x, .string y, .bool ok]) ∧ Below w.heap.size w w' := by
  have HU := Lib.hid hu
  have hbq := beq_of (decide_eq_false hst)
  clear hu hst
  go_enter Tryd.func15, Tryd.ntmps15
  go_upto_region 1 with fail
  refine wp_gen (fun W => Below w.heap.size w W ∧ OpenV W w.heap.size (.slice a len cap) (.slice b lenb capb) (.slice p n c) ∧ OpenV W (w.heap.size + 1) (.slice a2 len2 cap2) (.slice b2 lenb2 capb2) (.slice p2 n2 c2)) ⟨?_, ⟨by simp [go_sem], by simp [go_sem], by simp [go_sem]⟩, by simp [go_sem], by simp [go_sem], by simp [go_sem]⟩ ?_
  · exact ((Below.refl _ _).alloc (Nat.le_refl _) _).alloc (by simp) _
  obtain ⟨g0, hg0⟩ : ∃ g, w.heap.size = g := ⟨_, rfl⟩
  obtain ⟨g1, hg1⟩ : ∃ g, g0 + 1 = g := ⟨_, rfl⟩
  rintro W1 ⟨hB, hX, hY⟩
  rw [hg0] at hX hY
  rw [hg1] at hY
  simp only [hg0, hg1]
  have HB := Lib.hid hB; have HX := Lib.hid hX; have HY := Lib.hid hY
  clear hB hg0 hg1
  obtain ⟨x0, x1, x2⟩ := hX
  obtain ⟨y0, y1, y2⟩ := hY
  replace x0 := fun q : Regrown => cell_regrown x0 q.d q.os
  replace x1 := fun q : Regrown => cell_regrown x1 q.d q.os
  replace x2 := fun q : Regrown => cell_regrown x2 q.d q.os
  replace y0 := fun q : Regrown => cell_regrown y0 q.d q.os
  replace y1 := fun q : Regrown => cell_regrown y1 q.d q.os
  replace y2 := fun q : Regrown => cell_regrown y2 q.d q.os
  refine wp_region_quiet_below (by kernel_rfl) (by kernel_rfl) ?_
  repeat (first | go_big_quiet_step (first
    | (go_at_call 26; first | with_reducible exact Calls.regrown_of (k1 _ (bthen HB.out (below_regrown W1 _ _))) | with_reducible exact Calls.regrown_of (k2 _ (bthen HB.out (below_regrown W1 _ _))))
    | (go_at_call 22; first | with_reducible exact Calls.regrown_of (k3 _ (bthen HB.out (below_regrown W1 _ _))) | with_reducible exact Calls.regrown_of (k4 _ (bthen HB.out (below_regrown W1 _ _))))) | quiet_step (fail))
  refine wpQuiet_nil ?_
  rintro _ ⟨pq, rfl⟩
  replace HB := Lib.hid (bthen HB.out (below_regrown W1 pq.d pq.os))
  have hX := HX.out.keep (below_regrown W1 pq.d pq.os)
  have hY := HY.out.keep (below_regrown W1 pq.d pq.os)
  clear x0 x1 x2 y0 y1 y2 hbq k1 k2 k3 k4
  obtain ⟨x0, x1, x2⟩ := hX
  obtain ⟨y0, y1, y2⟩ := hY
  go_upto_region 3 with fail
  refine wp_loose [(34, []), (35, []), (36, [34, 35]), (37, []), (38, []), (39, [37, 38]), (40, [36, 39]), (41, [40]), (42, [40]), (43, [40]), (10, [41]), (11, [42]), (12, [43])]
    (CExtR root depth i a b p a2 b2 p2 len cap lenb capb n c len2 cap2 lenb2 capb2 n2 c2 x y ok T1 T2) (fun d => false) (by kernel_rfl) (by kernel_rfl) (fun _ _ _ _ h hb => h.keep hb) ?_ ?_
  · refine opsrun_cons ?_ (opsrun_cons ?_ (opsrun_cons ?_ (opsrun_cons ?_ (opsrun_cons ?_ (opsrun_cons ?_ (opsrun_cons ?_ (opsrun_cons ?_ (opsrun_cons ?_ (opsrun_cons ?_ (opsrun_cons ?_ (opsrun_cons ?_ (opsrun_cons ?_ opsrun_nil))))))))))))
    all_goals
      refine OpRuns.any ?_
      intro Q0 σ W' K hb hn hK
      simp only [fill, List.map, Act.put, List.setIfInBounds_toArray, List.set_cons_zero, List.set_cons_succ] at hK ⊢
    · clear hn
      go_simp
      exact hK _ _ rfl (Below.refl _ _) (fun h => absurd h (by decide))
    · clear hn
      have x0' := bkeep hb x0
      have x1' := bkeep hb x1
      have x2' := bkeep hb x2
      clear x0 x1 x2
      go_simp
      exact hK _ _ rfl (Below.refl _ _) (fun h => absurd h (by decide))
    · have h34 : σ 34 = _ := hn 34 (by decide)
      have h35 : σ 35 = _ := hn 35 (by decide)
      clear hn
      simp only [h34, h35] at hK
      go_simp
      go_at_call 11
      refine (kt1 _ (bthen HB.out hb)).mono ?_
      rintro e w1 ⟨hb1, r, cr, rfl, hs⟩
      exact hK _ _ ⟨r, cr, rfl, hs⟩ hb1 (fun h => absurd h (by decide))
    · clear hn
      go_simp
      exact hK _ _ rfl (Below.refl _ _) (fun h => absurd h (by decide))
    · clear hn
      have y0' := bkeep hb y0
      have y1' := bkeep hb y1
      have y2' := bkeep hb y2
      clear y0 y1 y2
      go_simp
      exact hK _ _ rfl (Below.refl _ _) (fun h => absurd h (by decide))
    · have h37 : σ 37 = _ := hn 37 (by decide)
      have h38 : σ 38 = _ := hn 38 (by decide)
      clear hn
      simp only [h37, h38] at hK
      go_simp
      go_at_call 11
      refine (kt2 _ (bthen HB.out hb)).mono ?_
      rintro e w1 ⟨hb1, r, cr, rfl, hs⟩
      exact hK _ _ ⟨r, cr, rfl, hs⟩ hb1 (fun h => absurd h (by decide))
    · have p36 : ∃ (r : Option Addr) (cr : Nat), (σ 36) = .slice r (n + 1) cr ∧ StrS W' r (n + 1) cr T1 := hn 36 (by decide)
      have p39 : ∃ (r : Option Addr) (cr : Nat), (σ 39) = .slice r (n2 + 1) cr ∧ StrS W' r (n2 + 1) cr T2 := hn 39 (by decide)
      clear hn
      obtain ⟨r1, cr1, e1, s1⟩ := p36
      obtain ⟨r2, cr2, e2, s2⟩ := p39
      simp only [e1, e2] at hK
      go_simp
      go_at_call 13
      refine (gunlike_is r1 (n + 1) cr1 T1 r2 (n2 + 1) cr2 T2 x y ok _ s1.1 s2.1 (by omega) (by omega) HU.out).mono ?_
      rintro e w1 ⟨rfl, hb1⟩
      exact hK _ _ rfl hb1 (fun h => absurd h (by decide))
    · have h40 : σ 40 = _ := hn 40 (by decide)
      clear hn
      simp only [h40] at hK
      go_simp
      exact hK _ _ rfl (Below.refl _ _) (fun h => absurd h (by decide))
    · have h40 : σ 40 = _ := hn 40 (by decide)
      clear hn
      simp only [h40] at hK
      go_simp
      exact hK _ _ rfl (Below.refl _ _) (fun h => absurd h (by decide))
    · have h40 : σ 40 = _ := hn 40 (by decide)
      clear hn
      simp only [h40] at hK
      go_simp
      exact hK _ _ rfl (Below.refl _ _) (fun h => absurd h (by decide))
    · have h41 : σ 41 = _ := hn 41 (by decide)
      clear hn
      simp only [h41] at hK
      go_simp
      exact hK _ _ rfl (Below.refl _ _) (fun h => absurd h (by decide))
    · have h42 : σ 42 = _ := hn 42 (by decide)
      clear hn
      simp only [h42] at hK
      go_simp
      exact hK _ _ rfl (Below.refl _ _) (fun h => absurd h (by decide))
    · have h43 : σ 43 = _ := hn 43 (by decide)
      clear hn
      simp only [h43] at hK
      go_simp
      exact hK _ _ rfl (Below.refl _ _) (fun h => absurd h (by decide))
  · intro σ W' hb hR' hF
    have HB' := Lib.hid (bthen HB.out hb)
    have e10 : σ 10 = .string x := hR' 10 (by decide)
    have e11 : σ 11 = .string y := hR' 11 (by decide)
    have e12 : σ 12 = .bool ok := hR' 12 (by decide)
    clear hR' hF hb
    simp only [fill, List.map, Act.put, List.setIfInBounds_toArray, List.set_cons_zero, List.set_cons_succ, List.length_cons, List.length_nil, List.drop_succ_cons, List.drop_zero, Nat.reduceAdd, e10, e11, e12]
    go_wp2_with fail
    exact bodyPost_ret (v := .tuple #[.string x, .string y, .bool ok]) (by simp [results, Tryd.results15, go_sem]) rfl ⟨rfl, HB'.out⟩
end Go.Proofs.YtfnmlegikcogoaaDoor
