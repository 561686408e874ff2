/-
  What the program's fit, operations and behind of layer 19 come to; slices.Clone of numbers, as a row of its own.
-/
import Derived.Test.YtjcgakmhpblanaaTraceRefM
import Derived.Test.YtjcgakmhpblanaaTraceEv
import Derived.Test.YtjcgakmhpblanaaGEval
import Derived.Test.YtjcgakmhpblanaaGAirCk
import Derived.Laws.Rows
namespace Go.Proofs.Ytjcgakmhpblanaa
open Go Go.RowKit
set_option linter.unusedVariables false

/-- A cell of an own row is stored. -/
theorem own_store {W : World} {B g n c i : Nat} {e : TypeId} {x : Value} {xs : List Value} (h : W.ownsRow B e 1 (.slice (some ⟨g, 0, none⟩) n c) n xs) (hi : i < n) : (W.setCell ⟨g, i, none⟩ x).ownsRow B e 1 (.slice (some ⟨g, 0, none⟩) n c) n (xs.set i x) := by
  obtain ⟨h1, h2⟩ := h
  refine ⟨by simpa using h1, ?_⟩
  rcases h2 with ⟨hv, _⟩ | ⟨g', cap, cur, hv, hb, hg, hn, hc, hs, ht⟩
  · cases hv
  · cases hv
    refine .inr ⟨g, c, cur.setIfInBounds i x, rfl, hb, Go.heap_setCell_same W g i cur e x hg, hn, hc, by simpa using hs, ?_⟩
    rw [Array.toList_setIfInBounds, List.take_set, ht]
/-- A row that is made is one's own. -/
theorem own_fresh (W : World) (B n : Nat) (e : TypeId) (z : Value) (hb : B ≤ W.heap.size) (hn : n ≤ maxLen) : (W.alloc (.cells (madeCells #[z] n) e)).ownsRow B e 1 (.slice (some ⟨W.heap.size, 0, none⟩) n n) n (List.replicate n z) := by
  have e1 : (madeCells #[z] n).toList = List.replicate n z := by
    refine List.ext_getElem (by simp [madeCells]) fun k h1 h2 => ?_
    simp [madeCells, Nat.mod_one]
  exact ⟨by simp, .inr ⟨W.heap.size, n, _, rfl, hb, heap_alloc_new W _, Nat.le_refl _, hn, by have := size_madeCells #[z] n; simpa using this, by rw [e1]; simp⟩⟩
/-! ### As many, all as they are kept -/
theorem pfit1_is (x : Int) (z : Bool) (w : World) (hz : decide (18446744069414584321 ≤ x) = z) : Calls Try.prog 43 #[.int .u64 x] w fun e w' => e = .returned (.bool z) ∧ w = w' := by
  by_cases h : 18446744069414584321 ≤ x
  · obtain rfl : z = true := by rw [← hz]; exact decide_eq_true h
    clear hz
    go_enter Try.func43, Try.ntmps43
    go_wp2
    go_ret
    exact ⟨rfl, rfl⟩
  · obtain rfl : z = false := by rw [← hz]; exact decide_eq_false h
    clear hz
    go_enter Try.func43, Try.ntmps43
    go_wp2
    go_ret
    exact ⟨rfl, rfl⟩
def FitPost (z : Bool) (w : World) (e : Ending) (w' : World) : Prop := w = w' ∧ ∃ k : Int, e = .returned (.int .i64 k) ∧ decide (0 ≤ k) = !z
def FitRel (l : List Int) (i : Value) : Prop := ∃ k : Nat, k ≤ l.length ∧ i = .int .i64 k ∧ ∀ j, j < k → l.getD j 0 < 18446744069414584321
set_option maxHeartbeats 1000000 in
theorem pfitidx_is (a : Option Addr) (cap : Nat) (l : List Int) (z : Bool) (w : World) (hz : decide (KeptR l) = z) (h : RowA w a l.length l) :
    Calls Try.prog 55 #[.slice a l.length cap, .func (.func 43) #[] #[]] w (FitPost z w) := by
  have HS := Lib.hid h.2.2
  have HZ0 := Lib.hid hz
  have hm := h.2.1
  unfold maxLen at hm
  clear h hz
  go_enter Try.func55, Try.ntmps55
  go_upto_region 2 with fail
  go_loop [8] (FitRel l) (fun i => l.length - (intOf i).toNat)
  case atStart => exact ⟨0, Nat.zero_le _, rfl, fun j hj => by omega⟩
  case round =>
    obtain ⟨k, hk, rfl, hs⟩ := hrel
    by_cases hlt : k < l.length
    · obtain ⟨b, off, rfl, g0⟩ := HS.out k hlt
      have hlt' : (k : Int) < (l.length : Int) := by omega
      have HP := Lib.hid hs
      have HLT := Lib.hid hlt
      obtain ⟨x, hx⟩ : ∃ x, l.getD k 0 = x := ⟨_, rfl⟩
      rw [hx] at g0
      have HX := Lib.hid hx
      clear hs hx
      by_cases hq : 18446744069414584321 ≤ x
      · have HN := Lib.hid (show decide (0 ≤ (k : Int)) = !z by rw [← HZ0.out, decide_eq_false (fun c : KeptR l => absurd (kept_at c HLT.out) (by rw [HX.out]; omega))]; simp)
        have k1 := pfit1_is x true w (decide_eq_true hq)
        clear hq
        go_wp2_with (go_at_call 43; ((with_reducible refine k1.mono ?_); rintro e w1 ⟨rfl, rfl⟩))
        go_ret
        exact ⟨rfl, _, rfl, HN.out⟩
      · have HZ := Lib.hid (show ∀ j, j < k + 1 → l.getD j 0 < 18446744069414584321 from fun j hj => by
          by_cases e : j = k
          · subst e; rw [HX.out]; omega
          · exact HP.out j (by omega))
        have k1 := pfit1_is x false w (decide_eq_false hq)
        clear hq
        go_wp2_with (go_at_call 43; ((with_reducible refine k1.mono ?_); rintro e w1 ⟨rfl, rfl⟩))
        go_round
        case rel => exact ⟨k + 1, by omega, by go_num, HZ.out⟩
        case measure => simp [intOf]; omega
    · obtain rfl : k = l.length := by omega
      have HP := Lib.hid (show decide (0 ≤ (-1 : Int)) = !z by rw [← HZ0.out, decide_eq_true (kept_of hs)]; rfl)
      clear hs
      go_wp2
      go_ret
      exact ⟨rfl, _, rfl, HP.out⟩
theorem pfitcont_is (a : Option Addr) (cap : Nat) (l : List Int) (z : Bool) (w : World) (hz : decide (KeptR l) = z) (h : RowA w a l.length l) :
    Calls Try.prog 42 #[.slice a l.length cap, .func (.func 43) #[] #[]] w fun e w' => e = .returned (.bool (!z)) ∧ w = w' := by
  have k1 := pfitidx_is a cap l z w hz h
  clear hz h
  cases z
  all_goals
    go_enter Try.func42, Try.ntmps42
    go_wp2_with (go_at_call 55; ((with_reducible refine k1.mono ?_); rintro e w1 ⟨rfl, k, rfl, h1⟩; simp only [Bool.not_true, Bool.not_false] at h1))
    go_ret
    exact ⟨rfl, rfl⟩
theorem pfit_is (a : Option Addr) (cap : Nat) (l : List Int) (n : Int) (z : Bool) (w : World) (hz : decide ((l.length : Int) = n ∧ KeptR l) = z) (h : RowA w a l.length l) :
    Calls Try.prog 24 #[.slice a l.length cap, .int .i64 n] w fun e w' => e = .returned (.bool z) ∧ w = w' := by
  by_cases hn : (l.length : Int) = n
  · have k1 := pfitcont_is a cap l z w (by rw [← hz]; exact decide_eq_decide.2 ⟨fun h => ⟨hn, h⟩, fun h => h.2⟩) h
    subst hn
    clear hz h
    cases z
    all_goals
      go_enter Try.func24, Try.ntmps24
      go_wp2_with (go_at_call 42; ((with_reducible refine k1.mono ?_); rintro e w1 ⟨rfl, rfl⟩))
      go_ret
      exact ⟨rfl, rfl⟩
  · obtain rfl : z = false := by rw [← hz]; exact decide_eq_false fun h => hn h.1
    clear hz h
    go_enter Try.func24, Try.ntmps24
    go_wp2
    go_ret
    exact ⟨rfl, rfl⟩
/-! ### slices.Clone -/
set_option maxHeartbeats 4000000 in
theorem clone_own1 (a : Option Addr) (len cap : Nat) (zs : List Int) (w : World) (hr : RowA w a len zs) (h0 : 0 < len) (hl : len ≤ 4294967296) :
    Calls Try.prog 26 #[.slice a len cap] w fun e w' => ∃ v, e = .returned v ∧ w'.ownsRow w.heap.size 46 1 v len (zs.map (Value.int .u64)) ∧ Below w.heap.size w w' := by
  obtain ⟨i0, hi, hz0, hz1, hz2⟩ := info_parts info64'
  have q := fun (w : World) (a : Option Addr) (n c n' c' : Nat) => Lib.run_eql_slice_nil (P := Try.prog) w 26 46 a n c n' c' Try.underlying26
  obtain ⟨hz, hm, hc⟩ := hr
  obtain ⟨b, off, rfl, g0⟩ := hc 0 h0
  have A : Aside (∀ j u, (zs.map (Value.int .u64))[j]? = some u → w.cell? ⟨b, off + j, none⟩ = some u) := by
    intro j u hj
    have hj2 : j < zs.length := by have := (List.getElem?_eq_some_iff.1 hj).1; simpa using this
    obtain ⟨b', off', e, h⟩ := hc j (by omega)
    cases e
    rw [h, ← hj]; simp [List.getD, hj2]
  have L1 : (zs.map (Value.int .u64)).length = len * 1 := by simp [hz]
  clear hc g0
  obtain ⟨news, hnews⟩ : ∃ l, zs.map (Value.int .u64) = l := ⟨_, rfl⟩
  have HN := Lib.hid hnews
  rw [hnews] at A L1
  clear hnews
  have hon : ∀ u ∈ news, u.oneCell' = true := by rw [← HN.out]; intro u hu; obtain ⟨x, _, rfl⟩ := List.mem_map.1 hu; rfl
  have HM := Lib.hid hm
  go_enter Try.func26, Try.ntmps26
  go_wp2_with (at_builtin; refine wpList_append_own _ rfl _ _ 26 rfl w.heap.size 46 i0 (.int .u64 0) 1 8 Try.underlying26 hi hz0 hz1 hz2 rfl (by decide) _ _ _ rfl (World.ownsRow_made w #[] 0 (Nat.le_refl _) (Nat.zero_le _) (by simp)) ⟨b, off, none⟩ len cap news rfl ?qc1 ?qc2 ?qc3 ?qc4 ?qc5 ?qc6 ?_)
  case qc1 => exact L1
  case qc2 =>
    intro j u hj
    rw [Addr.add_lit]
    exact Lib.cell?_alloc_some _ (A.out j u hj)
  case qc3 => exact hon
  case qc4 => rw [Nat.zero_add]; exact HM.out
  case qc5 => rw [Nat.zero_add]; omega
  case qc6 => simp
  intro v' w1 hown hgrow hnil
  try simp only [Nat.zero_add, List.nil_append] at hown
  obtain ⟨av, cv, rfl⟩ := own_form hown
  have HB := Lib.hid (((Below.refl _ w).alloc (Nat.le_refl _) _).grown hgrow (by simp) (by intro k hk; simp [Value.ownBlock] at hk; omega))
  have HO := Lib.hid hown
  rw [← HN.out] at HO
  clear hown hgrow hnil
  go_wp2
  go_ret
  exact ⟨_, rfl, HO.out, HB.out⟩
theorem clone_own (a : Option Addr) (cap : Nat) (zs : List Int) (w : World) (hr : RowA w a zs.length zs) (h0 : 0 < zs.length) (hl : zs.length ≤ 4294967296) :
    Calls Try.prog 26 #[.slice a zs.length cap] w fun e w' => ∃ v, e = .returned v ∧ MadeU w w' v zs :=
  clone_own1 a zs.length cap zs w hr h0 hl
end Go.Proofs.Ytjcgakmhpblanaa
