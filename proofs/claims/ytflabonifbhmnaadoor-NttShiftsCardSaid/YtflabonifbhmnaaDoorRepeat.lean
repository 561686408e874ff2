/-
  What slices.Repeat comes to, of one 1.
-/
import Derived.Test.YtflabonifbhmnaaDoorCopy
import Derived.Test.YtflabonifbhmnaaDoorTwo
import Derived.Test.YtflabonifbhmnaaDoorOwn
import Derived.Test.YtflabonifbhmnaaDoorPrime
import Derived.IntWalk
namespace Go.Proofs.YtflabonifbhmnaaDoor
open Go.RowKit
set_option linter.unusedVariables false

theorem bmul_one (N : Nat) (hN : N ≤ 1048576) (w : World) : Calls Tryd.prog 51 #[.int .u64 1, .int .u64 N] w fun e w' => e = .returned (.tuple #[.int .u64 0, .int .u64 N]) ∧ w = w' := by
  have K := mul64_any 1 N (U_lit _ rfl rfl) (by unfold U; omega) w
  have e1 : hiOf 1 N = 0 := by unfold hiOf; omega
  have e2 : loOf 1 N = N := by unfold loOf; omega
  rw [e1, e2] at K
  clear e1 e2
  go_enter Tryd.func51, Tryd.ntmps51
  go_wp2_with (go_at_call 41; ((with_reducible refine K.mono ?_); rintro e w' ⟨rfl, rfl⟩))
  go_ret2
  exact ⟨rfl, rfl⟩

def ones (n : Nat) (j : Nat) : Value := .int .u64 (if j < n then 1 else 0)
theorem ones_cop (n m j : Nat) : cop (ones n) n (List.replicate m (.int .u64 1)) j = ones (n + m) j := by
  unfold cop ones
  rw [List.length_replicate]
  by_cases c : n ≤ j ∧ j < n + m
  · rw [if_pos c, if_pos c.2, List.getD, List.getElem?_replicate, if_pos (by omega)]; rfl
  · rw [if_neg c]
    by_cases d : j < n
    · rw [if_pos d, if_pos (by omega)]
    · rw [if_neg d, if_neg (by omega)]
def RepRel (w : World) (g N : Nat) (i : Value) (W : World) : Prop :=
  ∃ n : Nat, 1 ≤ n ∧ n ≤ N ∧ i = .int .i64 n ∧ Below w.heap.size w W ∧ Arr W g N (ones n)
def RepWd (w : World) (g N n m : Nat) (s : Bool) (W : World) : Prop := Below w.heap.size w W ∧ Arr W g N (ones (if s = true then n + m else n))
def RepR (g N n m : Nat) (sl : Nat) (v : Value) : Prop :=
  match sl with
  | 38 => v = .int .i64 n
  | 39 => v = .slice (some ⟨g, 0, none⟩) N N
  | 40 => v = .int .i64 n
  | 41 => v = .slice (some ⟨g, n, none⟩) (N - n) (N - n)
  | 42 => v = .slice (some ⟨g, 0, none⟩) N N
  | 43 => v = .int .i64 n
  | 44 => v = .slice (some ⟨g, 0, none⟩) n N
  | 45 => v = .int .i64 m
  | _ => v = .int .i64 ((n + m : Nat) : Int)

set_option maxHeartbeats 4000000 in
theorem repeat_one (b c N : Nat) (h0 : 0 < N) (hN : N ≤ 1048576) (w : World) (h : w.cell? ⟨b, 0, none⟩ = some (.int .u64 1)) :
    Calls Tryd.prog 33 #[.slice (some ⟨b, 0, none⟩) 1 c, .int .i64 N] w fun e w' => ∃ g, e = .returned (.slice (some ⟨g, 0, none⟩) N N) ∧ w.heap.size ≤ g ∧ Below w.heap.size w w' ∧ Arr w' g N (fun _ => .int .u64 1) := by
  have hmk := fun W => run_make_row' (P := Tryd.prog) 22 23 (.int .u64 0) 8 Tryd.underlying22 info64' rfl .i64 .i64 N (by omega) (by omega) W
  have B1 := bmul_one N hN
  have n0 : (0 : Int) ≤ (N : Int) := by omega
  have n1 : (N : Int) ≤ 1048576 := by omega
  go_enter Tryd.func33, Tryd.ntmps33
  go_upto_region 7 with (go_at_call 51; ((with_reducible refine (B1 _).mono ?_); rintro e w' ⟨rfl, rfl⟩))
  have hcell := bkeep ((Below.refl _ w).alloc (Nat.le_refl _) (.cells (madeCells #[.int .u64 0] N) 23)) h
  have hA0 := Arr.new w #[.int .u64 0] N 23
  have hB0 := (Below.refl w.heap.size w).alloc (Nat.le_refl _) (.cells (madeCells #[.int .u64 0] N) 23)
  go_wp2_with (refine wpList_copy_arr rfl (.tmp 31) (.tmp 32) 22 22 rfl 23 Tryd.underlying22 1 (by kernel_rfl) w.heap.size N 0 N N 1 c _ rfl rfl 1 (by simp only [Nat.min_def]; rw [if_pos (by omega)]) [.int .u64 1] rfl _ hA0 (fun _ => ⟨_, rfl, one_src hcell⟩) (fun h => by cases h) (by simp; omega) (by intro v hv; simp at hv; subst hv; rfl) ?_; intro w2 hb2 hA2)
  clear hmk B1 hcell hA0 h
  go_loopw [8] (RepRel w w.heap.size N) (fun i _ => N - (intOf i).toNat)
  case atStart => exact ⟨1, Nat.le_refl _, by omega, rfl, But.below hB0 hb2.out (Nat.le_refl _) (by simp), hA2.out.same (fun j hj => by
    unfold cop ones
    by_cases c1 : j = 0
    · subst c1; rfl
    · rw [if_neg (by simp; omega), if_neg (by omega)]; simp [Nat.mod_one])⟩
  case round =>
    clear hB0 hb2 hA2
    obtain ⟨n, h1, h2, rfl, hB, hA⟩ := hrel
    by_cases hlt : n < N
    · have q1 : (n : Int) < (N : Int) := by omega
      have q2 : (n : Int) ≤ (N : Int) := by omega
      have q3 : (0 : Int) ≤ (n : Int) := by omega
      have q4 : N ≠ n := by omega
      have q5 : n ≠ N := by omega
      obtain ⟨m, hm⟩ : ∃ m, Nat.min n (N - n) = m := ⟨_, rfl⟩
      have hm1 : 0 < m ∧ m ≤ n ∧ m ≤ N - n := by
        rw [← hm]; simp only [Nat.min_def]; split <;> omega
      have HM := Lib.hid hm
      have HS : Hid (IntKind.i64.wrap ((n : Int) + (m : Int)) = ((n + m : Nat) : Int)) := Lib.hid (by rw [IntWalk.i64_in _ (by omega)]; omega)
      have h0W : RepWd w w.heap.size N n m false { wr with drawn := wr.drawn + 1 } := ⟨hB.drew, hA⟩
      clear hA hB hm
      have HM1 := Lib.hid hm1
      clear hm1
      go_upto_region 9 with fail
      refine wp_two [(some 38, [], false), (some 39, [], false), (some 40, [], false), (some 41, [39, 40], true), (some 42, [], false), (some 43, [], false), (some 44, [42, 43], true), (some 45, [41, 44], false), (some 46, [38, 45], false)]
        7 (RepR w.heap.size N n m) (RepWd w w.heap.size N n m) (by kernel_rfl) (by kernel_rfl) h0W ?_ ?_
      · refine ops2_one ?_ (ops2_one ?_ (ops2_one ?_ (ops2_one ?_ (ops2_one ?_ (ops2_one ?_ (ops2_one ?_ (ops2_st ?_ (ops2_one ?_ ops2_nil))))))))
        all_goals
          first | refine OpRuns1.any ?_ | refine StRuns.any ?_
        · intro Q0 σ s W K hs1 hW hn hK
          simp only [fill, List.filterMap, Act.put, List.setIfInBounds_toArray, List.set_cons_zero, List.set_cons_succ] at hK ⊢
          clear hn
          have HW := Lib.hid hW
          clear hW
          go_simp
          exact hK _ _ rfl HW.out
        · intro Q0 σ s W K hs1 hW hn hK
          simp only [fill, List.filterMap, Act.put, List.setIfInBounds_toArray, List.set_cons_zero, List.set_cons_succ] at hK ⊢
          clear hn
          have HW := Lib.hid hW
          clear hW
          go_simp
          exact hK _ _ rfl HW.out
        · intro Q0 σ s W K hs1 hW hn hK
          simp only [fill, List.filterMap, Act.put, List.setIfInBounds_toArray, List.set_cons_zero, List.set_cons_succ] at hK ⊢
          clear hn
          have HW := Lib.hid hW
          clear hW
          go_simp
          exact hK _ _ rfl HW.out
        · intro Q0 σ s W K hs1 hW hn hK
          simp only [fill, List.filterMap, Act.put, List.setIfInBounds_toArray, List.set_cons_zero, List.set_cons_succ] at hK ⊢
          obtain rfl := hs1 rfl
          have h39 : σ 39 = _ := hn 39 (by decide)
          have h40 : σ 40 = _ := hn 40 (by decide)
          clear hn
          simp only [h39, h40] at hK
          have HW := Lib.hid hW
          clear hW
          go_simp
          exact hK _ _ rfl HW.out
        · intro Q0 σ s W K hs1 hW hn hK
          simp only [fill, List.filterMap, Act.put, List.setIfInBounds_toArray, List.set_cons_zero, List.set_cons_succ] at hK ⊢
          clear hn
          have HW := Lib.hid hW
          clear hW
          go_simp
          exact hK _ _ rfl HW.out
        · intro Q0 σ s W K hs1 hW hn hK
          simp only [fill, List.filterMap, Act.put, List.setIfInBounds_toArray, List.set_cons_zero, List.set_cons_succ] at hK ⊢
          clear hn
          have HW := Lib.hid hW
          clear hW
          go_simp
          exact hK _ _ rfl HW.out
        · intro Q0 σ s W K hs1 hW hn hK
          simp only [fill, List.filterMap, Act.put, List.setIfInBounds_toArray, List.set_cons_zero, List.set_cons_succ] at hK ⊢
          obtain rfl := hs1 rfl
          have h42 : σ 42 = _ := hn 42 (by decide)
          have h43 : σ 43 = _ := hn 43 (by decide)
          clear hn
          simp only [h42, h43] at hK
          have HW := Lib.hid hW
          clear hW
          go_simp
          exact hK _ _ rfl HW.out
        · intro Q0 σ W K hW hn hK
          simp only [fill, List.filterMap, Act.put, List.setIfInBounds_toArray, List.set_cons_zero, List.set_cons_succ] at hK ⊢
          have h41 : σ 41 = _ := hn 41 (by decide)
          have h44 : σ 44 = _ := hn 44 (by decide)
          clear hn
          simp only [h41, h44] at hK
          simp only [h41, h44]
          rw [if_pos (by rfl)]
          refine wp_copy_arr (.tmp 41) (.tmp 44) 22 22 (by rfl) 23 Tryd.underlying22 1 (by kernel_rfl) w.heap.size N n (N - n) (N - n) n N (some ⟨w.heap.size, 0, none⟩) (by rfl) (by rfl) m HM.out (List.replicate m (.int .u64 1)) (by simp) (ones n) hW.2 (fun _ => ⟨_, rfl, fun j u hj => ?_⟩) (fun h => by have := HM1.out; omega) (by have := HM1.out; simp; omega) (fun u hu => by rw [List.eq_of_mem_replicate hu]; rfl) ?_
          · rw [List.getElem?_replicate] at hj
            have hjm : j < m := by split at hj; assumption; cases hj
            rw [if_pos hjm] at hj
            cases hj
            rw [Addr.add_lit, Nat.zero_add, (hW.2 j (by have := HM1.out; omega)).1]
            show some (ones n j) = _
            unfold ones
            rw [if_pos (by have := HM1.out; omega)]
          · intro w2 hb2 hA2
            exact hK _ _ (fun k hk => by cases hk; rfl) ⟨But.below hW.1 hb2.out (Nat.le_refl _) hW.1.size, hA2.out.same fun j _ => ones_cop n m j⟩
        · intro Q0 σ s W K hs1 hW hn hK
          simp only [fill, List.filterMap, Act.put, List.setIfInBounds_toArray, List.set_cons_zero, List.set_cons_succ] at hK ⊢
          have h38 : σ 38 = _ := hn 38 (by decide)
          have h45 : σ 45 = _ := hn 45 (by decide)
          clear hn
          simp only [h38, h45] at hK
          have HW := Lib.hid hW
          clear hW
          go_simp
          exact hK _ _ (congrArg (Value.int .i64) HS.out) HW.out
      · intro σ W' hW hR'
        have h46 : σ 46 = _ := hR' 46 (by decide)
        have HW := Lib.hid hW
        clear hR' hW h0W
        simp only [fill, List.filterMap, Act.put, List.setIfInBounds_toArray, List.set_cons_zero, List.set_cons_succ, List.length_cons, List.length_nil, List.drop_succ_cons, List.drop_zero, Nat.reduceAdd, h46]
        clear h46
        go_wp2_with fail
        go_roundw
        case rel => exact ⟨n + m, by have := HM1.out; omega, by have := HM1.out; omega, rfl, HW.out.1, HW.out.2⟩
        case measure => have := HM1.out; simp [intOf]; omega
    · obtain rfl : n = N := by omega
      have HA := Lib.hid (hA.same (f' := fun _ => .int .u64 1) (fun j hj => by unfold ones; rw [if_pos hj]))
      have HB := Lib.hid hB
      clear hA hB
      go_wp2_with fail
      go_ret
      exact ⟨_, rfl, Nat.le_refl _, HB.out, HA.out⟩
end Go.Proofs.YtflabonifbhmnaaDoor
