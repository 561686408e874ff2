/-
  What slices.Clone and slices.Reverse come to, of numbers and of pairs.
-/
import Derived.Test.YtflabonifbhmnaaDoorBut
import Derived.Test.YtflabonifbhmnaaDoorPartsRef
import Derived.RegionTactic
import Derived.Lib.SliceRun
namespace Go.Proofs.YtflabonifbhmnaaDoor
open Go.RowKit
set_option linter.unusedVariables false

theorem own_arr {w : World} {base : Nat} {e : TypeId} {size n : Nat} {v : Value} {xs : List Value} (h : w.ownsRow base e size v n xs) (h0 : 0 < n) :
    ∃ g c, v = .slice (some ⟨g, 0, none⟩) n c ∧ base ≤ g ∧ n ≤ c ∧ c ≤ maxLen ∧ Arr w g (n * size) (fun j => xs.getD j undef) := by
  obtain ⟨h1, h2 | ⟨g, cap, cur, hv, hb, hg, hn, hc, hs, ht⟩⟩ := h
  · omega
  · refine ⟨g, cap, hv, hb, hn, hc, fun j hj => ?_⟩
    have hle : n * size ≤ cap * size := Nat.mul_le_mul_right _ hn
    constructor
    · have : cur[j]? = some (xs.getD j undef) := by
        rw [← ht]
        have hj2 : j < cur.toList.length := by simp; omega
        simp [List.getD, hj, show j < cur.size by omega]
      simp [World.cell?, hg, this]
    · simp [World.frozen?, hg]
theorem Arr.eq {w : World} {g n m : Nat} {f : Nat → Value} (h : Arr w g n f) (e : n = m) : Arr w g m f := e ▸ h
/-- Places o to o + n, the other way round. -/
def rx (o n j : Nat) : Nat := if o ≤ j ∧ j < o + n then 2 * o + n - 1 - j else j
/-- .. under way: the first m, and the last m. -/
def rxm (o n m j : Nat) : Nat := if o ≤ j ∧ j < o + n ∧ (j < o + m ∨ o + n ≤ j + m) then 2 * o + n - 1 - j else j
theorem rxm_zero (o n j : Nat) : rxm o n 0 j = j := if_neg (by omega)
theorem rxm_end (o n m j : Nat) (h : n ≤ 2 * m + 1) : rxm o n m j = rx o n j := by
  unfold rxm rx
  by_cases c : o ≤ j ∧ j < o + n
  · rw [if_pos c]
    by_cases d : j < o + m ∨ o + n ≤ j + m
    · rw [if_pos ⟨c.1, c.2, d⟩]
    · rw [if_neg (fun h => d h.2.2)]; omega
  · rw [if_neg c, if_neg (fun h => c ⟨h.1, h.2.1⟩)]
theorem rxm_step (o n m r j : Nat) (h : m < r) (hr : r + 1 + m = n) : rxm o n (m + 1) j = if j = o + r then o + m else if j = o + m then o + r else rxm o n m j := by
  unfold rxm
  by_cases c1 : j = o + r
  · rw [if_pos c1, if_pos (by omega)]; omega
  · rw [if_neg c1]
    by_cases c2 : j = o + m
    · rw [if_pos c2, if_pos (by omega)]; omega
    · rw [if_neg c2]
      by_cases c3 : o ≤ j ∧ j < o + n ∧ (j < o + m ∨ o + n ≤ j + m)
      · rw [if_pos c3, if_pos (by omega)]
      · rw [if_neg c3, if_neg (by omega)]
theorem rxm_fresh (o n m r : Nat) (h : m < r) (hr : r + 1 + m = n) : rxm o n m (o + m) = o + m ∧ rxm o n m (o + r) = o + r := ⟨if_neg (by omega), if_neg (by omega)⟩

set_option maxHeartbeats 4000000 in
theorem clone_u (a : Option Addr) (len cap : Nat) (zs : List Int) (w : World) (hr : RowA w a len zs) (h0 : 0 < len) (hl : len ≤ 4294967296) :
    Calls Tryd.prog 49 #[.slice a len cap] w fun e w' => ∃ g c, e = .returned (.slice (some ⟨g, 0, none⟩) len c) ∧ w.heap.size ≤ g ∧ len ≤ c ∧ c ≤ maxLen ∧ Below w.heap.size w w' ∧ Arr w' g len (fun j => .int .u64 (zs.getD j 0)) := by
  obtain ⟨i0, hi, hz0, hz1, hz2⟩ := info_parts info64'
  have q := fun (w : World) (a : Option Addr) (n c n' c' : Nat) => Lib.run_eql_slice_nil (P := Tryd.prog) w 22 23 a n c n' c' Tryd.underlying22
  obtain ⟨hz, hm, hc⟩ := hr
  obtain ⟨b, off, rfl, g0⟩ := hc 0 h0
  have A : Aside (∀ j u, (zs.map (Value.int .u64))[j]? = some u → w.cell? ⟨b, off + j, none⟩ = some u) := by
    intro j u hj
    have hj2 : j < zs.length := by have := (List.getElem?_eq_some_iff.1 hj).1; simpa using this
    obtain ⟨b', off', e, h⟩ := hc j (by omega)
    cases e
    rw [h, ← hj]; simp [List.getD, hj2]
  have L1 : (zs.map (Value.int .u64)).length = len * 1 := by simp [hz]
  clear hc g0
  obtain ⟨news, hnews⟩ : ∃ l, zs.map (Value.int .u64) = l := ⟨_, rfl⟩
  have HN := Lib.hid hnews
  rw [hnews] at A L1
  clear hnews
  have hon : ∀ u ∈ news, u.oneCell' = true := by rw [← HN.out]; intro u hu; obtain ⟨x, _, rfl⟩ := List.mem_map.1 hu; rfl
  have HM := Lib.hid hm
  go_enter Tryd.func49, Tryd.ntmps49
  go_wp2_with (at_builtin; refine wpList_append_own _ rfl _ _ 22 rfl w.heap.size 23 i0 (.int .u64 0) 1 8 Tryd.underlying22 hi hz0 hz1 hz2 rfl (by decide) _ _ _ rfl (World.ownsRow_made w #[] 0 (Nat.le_refl _) (Nat.zero_le _) (by simp)) ⟨b, off, none⟩ len cap news rfl ?qc1 ?qc2 ?qc3 ?qc4 ?qc5 ?qc6 ?_)
  case qc1 => exact L1
  case qc2 =>
    intro j u hj
    rw [Addr.add_lit]
    exact Lib.cell?_alloc_some _ (A.out j u hj)
  case qc3 => exact hon
  case qc4 => rw [Nat.zero_add]; exact HM.out
  case qc5 => rw [Nat.zero_add]; omega
  case qc6 => simp
  intro v' w1 hown hgrow hnil
  try simp only [Nat.zero_add, List.nil_append] at hown
  obtain ⟨g, c, rfl, hb, hnc, hcm, hA⟩ := own_arr hown h0
  have HA : Hid (Arr w1 g len (fun j => .int .u64 (zs.getD j 0))) := Lib.hid (by
    rw [← HN.out] at hA
    exact (hA.same (fun j hj => by simp [List.getD, show j < zs.length by omega])).eq (Nat.mul_one _))
  have HB := Lib.hid (((Below.refl _ w).alloc (Nat.le_refl _) _).grown hgrow (by simp) (by intro k hk; simp [Value.ownBlock] at hk; omega))
  clear hA hown hgrow hnil
  go_wp2
  go_ret
  exact ⟨g, c, rfl, hb, hnc, hcm, HB.out, HA.out⟩

set_option maxHeartbeats 4000000 in
theorem clone_q (a : Option Addr) (len cap : Nat) (zs : List (Int × Int)) (w : World) (hr : QRowA w a len zs) (h0 : 0 < len) (hl : len ≤ 4294967296) :
    Calls Tryd.prog 59 #[.slice a len cap] w fun e w' => ∃ g c, e = .returned (.slice (some ⟨g, 0, none⟩) len c) ∧ w.heap.size ≤ g ∧ len ≤ c ∧ c ≤ maxLen ∧ Below w.heap.size w w' ∧ Arr w' g (len * 2) (pc fun j => zs.getD j (0, 0)) := by
  obtain ⟨i0, hi, hz0, hz1, hz2⟩ := info_parts infoQ'
  have q := fun (w : World) (a : Option Addr) (n c n' c' : Nat) => Lib.run_eql_slice_nil (P := Tryd.prog) w 32 60 a n c n' c' Tryd.underlying32
  obtain ⟨hz, hm, hc⟩ := hr
  obtain ⟨b, off, rfl, g0⟩ := hc 0 h0
  have A : Aside (∀ j u, (flat zs)[j]? = some u → w.cell? ⟨b, off + j, none⟩ = some u) := by
    intro j u hj
    have hj2 : j < len * 2 := by have := (List.getElem?_eq_some_iff.1 hj).1; rw [flat_length] at this; omega
    obtain ⟨b', off', e, h, h'⟩ := hc (j / 2) (by omega)
    cases e
    obtain ⟨f0, f1⟩ := flat_at zs (j / 2) (by omega)
    rcases (by omega : j = j / 2 * 2 ∨ j = j / 2 * 2 + 1) with e | e
    · rw [← e] at h f0; rw [h, ← hj, f0]
    · rw [← e] at f1; rw [Nat.add_assoc, ← e] at h'; rw [h', ← hj, f1]
  have L1 : (flat zs).length = len * 2 := by rw [flat_length, hz]
  clear hc g0
  obtain ⟨news, hnews⟩ : ∃ l, flat zs = l := ⟨_, rfl⟩
  have HN := Lib.hid hnews
  rw [hnews] at A L1
  clear hnews
  have hon : ∀ u ∈ news, u.oneCell' = true := by rw [← HN.out]; intro u hu; obtain ⟨x, _, hx⟩ := List.mem_flatMap.1 hu; simp at hx; rcases hx with rfl | rfl <;> rfl
  have HM := Lib.hid hm
  go_enter Tryd.func59, Tryd.ntmps59
  go_wp2_with (at_builtin; refine wpList_append_own _ rfl _ _ 32 rfl w.heap.size 60 i0 (.agg #[.int .u64 0, .int .u64 0]) 2 16 Tryd.underlying32 hi hz0 hz1 hz2 rfl (by decide) _ _ _ rfl (World.ownsRow_made w #[] 0 (Nat.le_refl _) (Nat.zero_le _) (by simp)) ⟨b, off, none⟩ len cap news rfl ?qc1 ?qc2 ?qc3 ?qc4 ?qc5 ?qc6 ?_)
  case qc1 => exact L1
  case qc2 =>
    intro j u hj
    rw [Addr.add_lit]
    exact Lib.cell?_alloc_some _ (A.out j u hj)
  case qc3 => exact hon
  case qc4 => rw [Nat.zero_add]; exact HM.out
  case qc5 => rw [Nat.zero_add]; omega
  case qc6 => simp
  intro v' w1 hown hgrow hnil
  try simp only [Nat.zero_add, List.nil_append] at hown
  obtain ⟨g, c, rfl, hb, hnc, hcm, hA⟩ := own_arr hown h0
  have HA : Hid (Arr w1 g (len * 2) (pc fun j => zs.getD j (0, 0))) := Lib.hid (by
    rw [← HN.out] at hA
    exact (hA.same (fun j hj => by
      obtain ⟨f0, f1⟩ := flat_at zs (j / 2) (by omega)
      unfold pc
      rcases (by omega : j = j / 2 * 2 ∨ j = j / 2 * 2 + 1) with e | e
      · rw [if_pos (by omega)]; rw [← e] at f0; rw [List.getD, f0]; rfl
      · rw [if_neg (by omega)]; rw [← e] at f1; rw [List.getD, f1]; rfl)))
  have HB := Lib.hid (((Below.refl _ w).alloc (Nat.le_refl _) _).grown hgrow (by simp) (by intro k hk; simp [Value.ownBlock] at hk; omega))
  clear hA hown hgrow hnil
  go_wp2
  go_ret
  exact ⟨g, c, rfl, hb, hnc, hcm, HB.out, HA.out⟩

def RevRel (w : World) (g N o n : Nat) (z : Nat → Int) (i j : Value) (W : World) : Prop :=
  ∃ m : Nat, 2 * m ≤ n + 1 ∧ i = .int .i64 m ∧ j = .int .i64 ((n : Int) - 1 - m) ∧ But g w W ∧ Arr W g N (fun i => .int .u64 (z (rxm o n m i)))
set_option maxHeartbeats 4000000 in
theorem reverse_u (g N o n cap : Nat) (hN : N ≤ 4294967296) (hn : o + n ≤ N) (z : Nat → Int) (w : World) (hA : Arr w g N (fun i => .int .u64 (z i))) :
    Calls Tryd.prog 50 #[.slice (some ⟨g, o, none⟩) n cap] w fun e w' => e = .returned (.tuple #[]) ∧ But g w w' ∧ Arr w' g N (fun i => .int .u64 (z (rx o n i))) := by
  have hst := Lib.hid (rxm_zero o n); have hsw := Lib.hid (rxm_step o n); have hfr := Lib.hid (rxm_fresh o n); have hE := Lib.hid (rxm_end o n)
  have H0 := Lib.hid (hA.same (f' := fun i => .int .u64 (z (rxm o n 0 i))) (fun j hj => by rw [hst.out j]))
  have HN := Lib.hid hn
  have hn1 : (n : Int) ≤ 4294967296 := by omega
  have hn0 : (0 : Int) ≤ (n : Int) := by omega
  clear hA
  go_enter Tryd.func50, Tryd.ntmps50
  go_wp2_with fail
  go_loopw [2, 3] (RevRel w g N o n z) (fun i _ _ => n - (intOf i).toNat)
  case atStart => exact ⟨0, by omega, rfl, by simp, But.refl _ _, H0.out⟩
  case round =>
    obtain ⟨m, hm, rfl, rfl, hB, hA⟩ := hrel
    by_cases hlt : 2 * m + 1 < n
    · obtain ⟨r, hr⟩ : ∃ r : Nat, (n : Int) - 1 - m = (r : Int) := ⟨n - 1 - m, by omega⟩
      have h3 : (m : Int) < (r : Int) := by omega
      have hrn : r + 1 + m = n := by omega
      obtain ⟨e0, e1⟩ := hfr.out m r (by omega) hrn
      have HA2 := Lib.hid ((hA.set (o + m) (.int .u64 (z (o + r))) (by omega)).set (o + r) (.int .u64 (z (o + m))) (by omega))
      obtain ⟨c0, f0⟩ := hA (o + m) (by omega)
      obtain ⟨c1, f1⟩ := hA (o + r) (by omega)
      dsimp only at c0 c1
      rw [e0] at c0
      rw [e1] at c1
      clear e0 e1
      have HS : Hid (∀ j, rxm o n (m + 1) j = if j = o + r then o + m else if j = o + m then o + r else rxm o n m j) := Lib.hid (fun j => hsw.out m r j (by omega) hrn)
      have HR := Lib.hid hrn
      have HB := Lib.hid hB
      rw [hr]
      clear hA hB hr hrn
      have q1 : (m : Int) < (n : Int) := by have := HR.out; omega
      have q2 : (r : Int) < (n : Int) := by have := HR.out; omega
      have q3 : m < n := by have := HR.out; omega
      have q4 : r < n := by have := HR.out; omega
      have q5 : r ≠ m := by omega
      have q6 : m ≠ r := by omega
      go_wp2_with fail
      go_region
      all_goals
        go_wp2_with fail
        go_roundw
        case rel => exact ⟨m + 1, by have := HR.out; omega, by go_num, by have := HR.out; exact congrArg (Value.int .i64) (by omega), ((HB.out.setCell (Or.inl rfl) _).setCell (Or.inl rfl) _).drew, HA2.out.same (f' := fun i => .int .u64 (z (rxm o n (m + 1) i))) (fun j hj => by
          rw [HS.out j]
          by_cases a1 : j = o + r
          · rw [if_pos a1, if_pos a1]
          · rw [if_neg a1, if_neg a1]
            by_cases a2 : j = o + m
            · rw [if_pos a2, if_pos a2]
            · rw [if_neg a2, if_neg a2])⟩
        case measure => have := HR.out; simp [intOf]; omega
    · have h3 : ¬ (m : Int) < (n : Int) - 1 - m := by omega
      have HA2 := Lib.hid (hA.same (f' := fun i => .int .u64 (z (rx o n i))) (fun j hj => by rw [hE.out m j (by omega)]))
      have HB := Lib.hid hB
      clear hA hB
      go_wp2_with fail
      go_end0
      exact ⟨rfl, HB.out, HA2.out⟩

def RevRelQ (w : World) (g N o n : Nat) (z : Nat → Int × Int) (i j : Value) (W : World) : Prop :=
  ∃ m : Nat, 2 * m ≤ n + 1 ∧ i = .int .i64 m ∧ j = .int .i64 ((n : Int) - 1 - m) ∧ But g w W ∧ Arr W g (N * 2) (pc fun i => z (rxm o n m i))
set_option maxHeartbeats 4000000 in
theorem reverse_q (g N o n cap : Nat) (hN : N ≤ 4294967296) (hn : o + n ≤ N) (z : Nat → Int × Int) (w : World) (hA : Arr w g (N * 2) (pc z)) (a : Nat) (ha : a = o * 2) :
    Calls Tryd.prog 60 #[.slice (some ⟨g, a, none⟩) n cap] w fun e w' => e = .returned (.tuple #[]) ∧ But g w w' ∧ Arr w' g (N * 2) (pc fun i => z (rx o n i)) := by
  have hst := Lib.hid (rxm_zero o n); have hsw := Lib.hid (rxm_step o n); have hfr := Lib.hid (rxm_fresh o n); have hE := Lib.hid (rxm_end o n)
  have H0 := Lib.hid (hA.same (pc_same (y := fun i => z (rxm o n 0 i)) (fun j hj => by rw [hst.out j])))
  have HN := Lib.hid hn
  have HAA := Lib.hid ha
  clear ha
  have hn1 : (n : Int) ≤ 4294967296 := by omega
  have hn0 : (0 : Int) ≤ (n : Int) := by omega
  clear hA
  go_enter Tryd.func60, Tryd.ntmps60
  go_wp2_with fail
  go_loopw [2, 3] (RevRelQ w g N o n z) (fun i _ _ => n - (intOf i).toNat)
  case atStart => exact ⟨0, by omega, rfl, by simp, But.refl _ _, H0.out⟩
  case round =>
    obtain ⟨m, hm, rfl, rfl, hB, hA⟩ := hrel
    by_cases hlt : 2 * m + 1 < n
    · obtain ⟨r, hr⟩ : ∃ r : Nat, (n : Int) - 1 - m = (r : Int) := ⟨n - 1 - m, by omega⟩
      have h3 : (m : Int) < (r : Int) := by omega
      have hrn : r + 1 + m = n := by omega
      obtain ⟨e0, e1⟩ := hfr.out m r (by omega) hrn
      have HA2 := Lib.hid ((hA.setq (o + m) (z (o + r)).1 (z (o + r)).2 (by omega)).setq (o + r) (z (o + m)).1 (z (o + m)).2 (by omega))
      obtain ⟨c0, d0, f0, k0⟩ := hA.cells (o + m) (by omega)
      obtain ⟨c1, d1, f1, k1⟩ := hA.cells (o + r) (by omega)
      rw [e0] at c0 d0
      rw [e1] at c1 d1
      clear e0 e1
      rw [show (o + m) * 2 = a + m * 2 by have := HAA.out; omega] at c0 d0 f0 k0 HA2
      rw [show (o + r) * 2 = a + r * 2 by have := HAA.out; omega] at c1 d1 f1 k1 HA2
      have HS : Hid (∀ j, rxm o n (m + 1) j = if j = o + r then o + m else if j = o + m then o + r else rxm o n m j) := Lib.hid (fun j => hsw.out m r j (by omega) hrn)
      have HR := Lib.hid hrn
      have HB := Lib.hid hB
      rw [hr]
      clear hA hB hr hrn
      have q1 : (m : Int) < (n : Int) := by have := HR.out; omega
      have q2 : (r : Int) < (n : Int) := by have := HR.out; omega
      have q3 : m < n := by have := HR.out; omega
      have q4 : r < n := by have := HR.out; omega
      have q5 : r ≠ m := by omega
      have q6 : m ≠ r := by omega
      go_wp2_with fail
      go_region
      all_goals
        go_wp2_with fail
        go_roundw
        case rel => exact ⟨m + 1, by have := HR.out; omega, by go_num, by have := HR.out; exact congrArg (Value.int .i64) (by omega), ((((HB.out.setCell (Or.inl rfl) _).setCell (Or.inl rfl) _).setCell (Or.inl rfl) _).setCell (Or.inl rfl) _).drew, HA2.out.same (pc_same (y := fun i => z (rxm o n (m + 1) i)) (fun j hj => by
          rw [HS.out j]
          by_cases a1 : j = o + r
          · rw [if_pos a1, if_pos a1]
          · rw [if_neg a1, if_neg a1]
            by_cases a2 : j = o + m
            · rw [if_pos a2, if_pos a2]
            · rw [if_neg a2, if_neg a2]))⟩
        case measure => have := HR.out; simp [intOf]; omega
    · have h3 : ¬ (m : Int) < (n : Int) - 1 - m := by omega
      have HA2 := Lib.hid (hA.same (pc_same (y := fun i => z (rx o n i)) (fun j hj => by rw [hE.out m j (by omega)])))
      have HB := Lib.hid hB
      clear hA hB
      go_wp2_with fail
      go_end0
      exact ⟨rfl, HB.out, HA2.out⟩
end Go.Proofs.YtflabonifbhmnaaDoor
