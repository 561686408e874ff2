/-
  The walk of PrimeLists: it answers true.
-/
import Derived.Test.YthbhgjhddclleaaRefList
import Derived.WalkSmall
namespace Go.Proofs.Ythbhgjhddclleaa
open Go.RowKit
set_option linter.unusedVariables false

theorem info64 : (Try.prog.info? 22).map (fun i => (i.zero, i.size, i.bytes)) = some (some (.int .u64 0), 1, 8) := by kernel_rfl

/-- The numbers from k on, the last one first. -/
def revFrom (zs : List Int) (k : Nat) : List Int := (zs.drop k).reverse
theorem revFrom_end (zs : List Int) : revFrom zs zs.length = [] := by simp [revFrom]
theorem revFrom_zero (zs : List Int) : revFrom zs 0 = zs.reverse := by simp [revFrom]
theorem revFrom_succ (zs : List Int) (j : Nat) (h : j < zs.length) : revFrom zs j = revFrom zs (j + 1) ++ [zs.getD j 0] := by
  unfold revFrom
  rw [List.drop_eq_getElem_cons h, List.reverse_cons]
  simp [List.getD, h]
theorem revFrom_length (zs : List Int) (k : Nat) : (revFrom zs k).length = zs.length - k := by simp [revFrom]

/-- What is put together so far. -/
def Made (W w : World) (v : Value) (zs : List Int) (k : Nat) : Prop :=
  w.ownsRow W.heap.size 22 1 v (revFrom zs k).length ((revFrom zs k).map (Value.int .u64)) ∧ Below W.heap.size W w

theorem Made.start (W : World) (zs : List Int) : Made W W (.slice none 0 0) zs zs.length := by
  unfold Made; rw [revFrom_end]; exact ⟨World.ownsRow_nil _ _ _ _, Below.refl _ _⟩

theorem ownBlock_ge {w : World} {base : Nat} {e : TypeId} {n : Nat} {v : Value} {xs : List Value} (h : w.ownsRow base e 1 v n xs) : ∀ k, v.ownBlock = some k → base ≤ k := by
  intro k hk
  rcases h.2 with ⟨rfl, _⟩ | ⟨g, cap, cur, rfl, hb, _⟩
  · simp [Value.ownBlock] at hk
  · simp [Value.ownBlock] at hk; omega

theorem Made.step {W w w1 : World} {v v' : Value} {zs : List Int} {j : Nat} (h : Made W w v zs (j + 1)) (hj : j < zs.length) (o : Obj)
    (hown : w1.ownsRow W.heap.size 22 1 v' ((revFrom zs (j + 1)).length + 1) ((revFrom zs (j + 1)).map (Value.int .u64) ++ [.int .u64 (zs.getD j 0)])) (hg : (w.alloc o).grownBy w1 v.ownBlock) :
    Made W w1 v' zs j := by
  obtain ⟨h1, h2⟩ := h
  refine ⟨?_, ?_⟩
  · rw [revFrom_succ zs j hj, List.length_append, List.map_append]; exact hown
  · refine (h2.alloc h2.size o).grown hg ?_ (ownBlock_ge h1)
    have := h2.size; show _ ≤ (w.heap.push o).size; simp; omega

theorem below_all {w wr : World} (h : Below w.heap.size w wr) (c : Array Value) (t : TypeId) (n : Nat) : Below w.heap.size w ((wr.alloc (.cells c t)).drewN n) :=
  below_drewN (h.alloc h.size _) n

set_option maxHeartbeats 8000000 in
theorem lists_tail (v mv : Value) (zs : List Int) (wr : World) (rv : Row wr v zs) (rm : Row wr mv zs.reverse) (hu : ∀ n ∈ zs, U n) : ∃ s p : Int,
    (∀ W, Below wr.heap.size wr W → Calls Try.prog 24 #[v] W fun e w' => e = .returned (.int .u64 s) ∧ W = w') ∧
    (∀ W, Below wr.heap.size wr W → Calls Try.prog 25 #[v] W fun e w' => e = .returned (.int .u64 s) ∧ W = w') ∧
    (∀ W, Below wr.heap.size wr W → Calls Try.prog 26 #[v] W fun e w' => e = .returned (.int .u64 p) ∧ W = w') ∧
    (∀ W, Below wr.heap.size wr W → Calls Try.prog 27 #[v] W fun e w' => e = .returned (.int .u64 p) ∧ ∃ n, w' = W.drewN n) ∧
    (∀ W, Below wr.heap.size wr W → Calls Try.prog 24 #[mv] W fun e w' => e = .returned (.int .u64 s) ∧ W = w') ∧
    (∀ W, Below wr.heap.size wr W → Calls Try.prog 26 #[mv] W fun e w' => e = .returned (.int .u64 p) ∧ W = w') := by
  refine ⟨enc (fsum (zs.map toF)), enc (fprod (zs.map toF)), fun W hb => sum_any v zs W (rv.below hb) hu, fun W hb => refsum_any v zs W (rv.below hb) hu, fun W hb => prod_any v zs W (rv.below hb) hu, fun W hb => refprod_any v zs W (rv.below hb) hu, ?_, ?_⟩
  · intro W hb
    have := sum_any mv zs.reverse W (rm.below hb) (by simpa using hu)
    rw [List.map_reverse, fsum_reverse] at this
    exact this
  · intro W hb
    have := prod_any mv zs.reverse W (rm.below hb) (by simpa using hu)
    rw [List.map_reverse, fprod_reverse] at this
    exact this

set_option maxHeartbeats 8000000 in
theorem lists_nil (w : World) : Calls Try.prog 5 #[.slice none 0 0] w fun e w' => e = .returned (.bool true) ∧ Below w.heap.size w w' := by
  obtain ⟨s, p, s1, s2, s3, s4, s5, s6⟩ := lists_tail (.slice none 0 0) (.slice none 0 0) [] w (Or.inl ⟨rfl, rfl⟩) (Or.inl ⟨rfl, rfl⟩) (by simp)
  have hbel := Below.refl w.heap.size w
  go_enter Try.func5, Try.ntmps5
  go_wp2
  go_loop [3, 4] (fun m i => m = .slice none 0 0 ∧ i = .int .i64 (-1)) (fun _ _ => 0)
  case atStart => exact ⟨rfl, rfl⟩
  case round =>
    obtain ⟨rfl, rfl⟩ := hrel
    go_wp2_with (first
      | (go_at_call 9; ((with_reducible refine (awake_any _).mono ?_); rintro e w' ⟨rfl, o1, o2, rfl⟩))
      | (go_at_call 24; ((with_reducible refine (s1 _ (by first | exact (Below.refl _ _).alloc (Nat.le_refl _) _ | exact below_drewN ((Below.refl _ _).alloc (Nat.le_refl _) _) _)).mono ?_); rintro e w' ⟨rfl, rfl⟩))
      | (go_at_call 24; ((with_reducible refine (s5 _ (by first | exact (Below.refl _ _).alloc (Nat.le_refl _) _ | exact below_drewN ((Below.refl _ _).alloc (Nat.le_refl _) _) _)).mono ?_); rintro e w' ⟨rfl, rfl⟩))
      | (go_at_call 25; ((with_reducible refine (s2 _ (by first | exact (Below.refl _ _).alloc (Nat.le_refl _) _ | exact below_drewN ((Below.refl _ _).alloc (Nat.le_refl _) _) _)).mono ?_); rintro e w' ⟨rfl, rfl⟩))
      | (go_at_call 26; ((with_reducible refine (s3 _ (by first | exact (Below.refl _ _).alloc (Nat.le_refl _) _ | exact below_drewN ((Below.refl _ _).alloc (Nat.le_refl _) _) _)).mono ?_); rintro e w' ⟨rfl, rfl⟩))
      | (go_at_call 26; ((with_reducible refine (s6 _ (by first | exact (Below.refl _ _).alloc (Nat.le_refl _) _ | exact below_drewN ((Below.refl _ _).alloc (Nat.le_refl _) _) _)).mono ?_); rintro e w' ⟨rfl, rfl⟩))
      | (go_at_call 27; ((with_reducible refine (s4 _ (by first | exact (Below.refl _ _).alloc (Nat.le_refl _) _ | exact below_drewN ((Below.refl _ _).alloc (Nat.le_refl _) _) _)).mono ?_); rintro e w' ⟨rfl, _, rfl⟩)))
    go_ret
    exact ⟨rfl, below_all hbel _ _ _⟩

set_option maxHeartbeats 8000000 in
theorem lists_bare (a : Addr) (cap : Nat) (w : World) : Calls Try.prog 5 #[.slice (some a) 0 cap] w fun e w' => e = .returned (.bool true) ∧ Below w.heap.size w w' := by
  obtain ⟨s, p, s1, s2, s3, s4, s5, s6⟩ := lists_tail (.slice (some a) 0 cap) (.slice none 0 0) [] w (Or.inr (Or.inl ⟨a, cap, rfl, rfl⟩)) (Or.inl ⟨rfl, rfl⟩) (by simp)
  have hbel := Below.refl w.heap.size w
  go_enter Try.func5, Try.ntmps5
  go_wp2
  go_loop [3, 4] (fun m i => m = .slice none 0 0 ∧ i = .int .i64 (-1)) (fun _ _ => 0)
  case atStart => exact ⟨rfl, rfl⟩
  case round =>
    obtain ⟨rfl, rfl⟩ := hrel
    go_wp2_with (first
      | (go_at_call 9; ((with_reducible refine (awake_any _).mono ?_); rintro e w' ⟨rfl, o1, o2, rfl⟩))
      | (go_at_call 24; ((with_reducible refine (s1 _ (by first | exact (Below.refl _ _).alloc (Nat.le_refl _) _ | exact below_drewN ((Below.refl _ _).alloc (Nat.le_refl _) _) _)).mono ?_); rintro e w' ⟨rfl, rfl⟩))
      | (go_at_call 24; ((with_reducible refine (s5 _ (by first | exact (Below.refl _ _).alloc (Nat.le_refl _) _ | exact below_drewN ((Below.refl _ _).alloc (Nat.le_refl _) _) _)).mono ?_); rintro e w' ⟨rfl, rfl⟩))
      | (go_at_call 25; ((with_reducible refine (s2 _ (by first | exact (Below.refl _ _).alloc (Nat.le_refl _) _ | exact below_drewN ((Below.refl _ _).alloc (Nat.le_refl _) _) _)).mono ?_); rintro e w' ⟨rfl, rfl⟩))
      | (go_at_call 26; ((with_reducible refine (s3 _ (by first | exact (Below.refl _ _).alloc (Nat.le_refl _) _ | exact below_drewN ((Below.refl _ _).alloc (Nat.le_refl _) _) _)).mono ?_); rintro e w' ⟨rfl, rfl⟩))
      | (go_at_call 26; ((with_reducible refine (s6 _ (by first | exact (Below.refl _ _).alloc (Nat.le_refl _) _ | exact below_drewN ((Below.refl _ _).alloc (Nat.le_refl _) _) _)).mono ?_); rintro e w' ⟨rfl, rfl⟩))
      | (go_at_call 27; ((with_reducible refine (s4 _ (by first | exact (Below.refl _ _).alloc (Nat.le_refl _) _ | exact below_drewN ((Below.refl _ _).alloc (Nat.le_refl _) _) _)).mono ?_); rintro e w' ⟨rfl, _, rfl⟩)))
    go_ret
    exact ⟨rfl, below_all hbel _ _ _⟩

set_option maxHeartbeats 8000000 in
theorem lists_real (b off len cap : Nat) (zs : List Int) (w : World) (hz : zs.length = len) (h100 : len ≤ 100) (hcap : len ≤ cap) (hm : cap ≤ maxLen) (hu : ∀ n ∈ zs, U n)
    (hc : ∀ j, j < len → w.cell? ⟨b, off + j, none⟩ = some (.int .u64 (zs.getD j 0))) :
    Calls Try.prog 5 #[.slice (some ⟨b, off, none⟩) len cap] w fun e w' => e = .returned (.bool true) ∧ Below w.heap.size w w' := by
  have rw0 : Row w (.slice (some ⟨b, off, none⟩) len cap) zs := Or.inr (Or.inr ⟨b, off, cap, by rw [hz], by omega, hm, fun i hi => hc i (by omega)⟩)
  have hst : Hid (Made w w (.slice none 0 0) zs len) := Lib.hid (hz ▸ Made.start w zs)
  obtain ⟨i0, hi, hz0, hz1, hz2⟩ := info_parts info64
  have HC := Lib.hid hc
  have HU := Lib.hid hu
  have HZ := Lib.hid hz
  have HM := Lib.hid hm
  clear hc hu hz hm
  go_enter Try.func5, Try.ntmps5
  go_wp2
  go_loopw [3, 4] (fun m i wr => ∃ k : Nat, k ≤ len ∧ i = .int .i64 ((k : Int) - 1) ∧ Made w wr m zs k) (fun _ i _ => (intOf i + 1).toNat)
  case atStart => exact ⟨len, Nat.le_refl _, rfl, hst.out⟩
  case round =>
    obtain ⟨k, hk, rfl, hmade⟩ := hrel
    cases k with
    | zero =>
      rw [show ((0 : Nat) : Int) - 1 = -1 from rfl]
      obtain ⟨hown, hbel⟩ := hmade
      rw [revFrom_zero] at hown
      obtain ⟨s, p, s1, s2, s3, s4, s5, s6⟩ := lists_tail _ _ zs wr (rw0.below hbel) (Row.own hown) HU.out
      clear hown rw0 hst HC HU HZ HM
      go_wp2_with (first
        | (go_at_call 9; ((with_reducible refine (awake_any _).mono ?_); rintro e w' ⟨rfl, o1, o2, rfl⟩))
        | (go_at_call 24; ((with_reducible refine (s1 _ (by first | exact (Below.refl _ _).alloc (Nat.le_refl _) _ | exact below_drewN ((Below.refl _ _).alloc (Nat.le_refl _) _) _)).mono ?_); rintro e w' ⟨rfl, rfl⟩))
        | (go_at_call 24; ((with_reducible refine (s5 _ (by first | exact (Below.refl _ _).alloc (Nat.le_refl _) _ | exact below_drewN ((Below.refl _ _).alloc (Nat.le_refl _) _) _)).mono ?_); rintro e w' ⟨rfl, rfl⟩))
        | (go_at_call 25; ((with_reducible refine (s2 _ (by first | exact (Below.refl _ _).alloc (Nat.le_refl _) _ | exact below_drewN ((Below.refl _ _).alloc (Nat.le_refl _) _) _)).mono ?_); rintro e w' ⟨rfl, rfl⟩))
        | (go_at_call 26; ((with_reducible refine (s3 _ (by first | exact (Below.refl _ _).alloc (Nat.le_refl _) _ | exact below_drewN ((Below.refl _ _).alloc (Nat.le_refl _) _) _)).mono ?_); rintro e w' ⟨rfl, rfl⟩))
        | (go_at_call 26; ((with_reducible refine (s6 _ (by first | exact (Below.refl _ _).alloc (Nat.le_refl _) _ | exact below_drewN ((Below.refl _ _).alloc (Nat.le_refl _) _) _)).mono ?_); rintro e w' ⟨rfl, rfl⟩))
        | (go_at_call 27; ((with_reducible refine (s4 _ (by first | exact (Below.refl _ _).alloc (Nat.le_refl _) _ | exact below_drewN ((Below.refl _ _).alloc (Nat.le_refl _) _) _)).mono ?_); rintro e w' ⟨rfl, _, rfl⟩)))
      go_ret
      exact ⟨rfl, below_all hbel _ _ _⟩
    | succ j =>
      rw [show ((j + 1 : Nat) : Int) - 1 = (j : Int) by omega]
      have g0 := HC.out j (by omega)
      have hb := World.block_lt_of_cell? w _ g0
      have g := (hmade.2.cell hb).trans g0
      have hstep := fun w1 v' => @Made.step w _ w1 _ v' zs j hmade (by have := HZ.out; omega)
      have hown := hmade.1
      have hlen := revFrom_length zs (j + 1)
      have hlen2 : (revFrom zs (j + 1)).length ≤ 100 := by have := HZ.out; omega
      have hsz := hmade.2.size
      have HS := Lib.hid hstep
      clear hstep hlen g0 hmade
      generalize zs.getD j 0 = z at *
      generalize (revFrom zs (j + 1)).length = nn at *
      generalize (revFrom zs (j + 1)).map (Value.int .u64) = xs at *
      go_wp2_with (at_builtin; refine wpList_append_own _ rfl _ _ 30 rfl w.heap.size 22 i0 (.int .u64 0) 1 8 Try.underlying30 hi hz0 hz1 hz2 rfl (by decide) _ _ _ rfl (hown.alloc _) ⟨wr.heap.size, 0, none⟩ 1 1 [.int .u64 z] rfl rfl ?c1 ?c2 ?c3 ?c4 ?c5 ?_)
      case c2 => first | rfl | (intro u hu; simp at hu; subst hu; rfl)
      case c3 => unfold maxLen; omega
      case c4 => omega
      case c5 => first | omega | (simp; omega)
      · intro v' w1 hown' hgrow _
        have R := HS.out w1 v' _ hown' hgrow
        clear hown' hgrow hown HS
        go_wp2
        go_roundw
        case rel => exact ⟨j, by omega, rfl, R⟩
        case measure => first | (simp [intOf]; done) | (simp [intOf]; omega)

theorem lists_walk (a : Option Addr) (len cap : Nat) (z0 : List Int) (w : World)
    (h : (a = none ∧ len = 0 ∧ cap = 0 ∧ z0 = []) ∨ ∃ x, a = some x ∧ len ≤ cap ∧ cap ≤ maxLen ∧ z0.length = cap ∧ (∀ i, i < z0.length → w.cell? (x.add i) = some (.int .u64 (z0.getD i 0))) ∧ ∀ n ∈ z0, (Lit.int .u64 n).wf = true) :
    Calls Try.prog 5 #[.slice a len cap] w fun e w' => e = .returned (.bool true) ∧ Below w.heap.size w w' := by
  by_cases h100 : len ≤ 100
  · obtain ⟨hr, hlen, hwf⟩ := Row.came h
    have hu : ∀ n ∈ z0.take len, U n := fun n hn => U_wf (hwf n hn)
    generalize z0.take len = zs at *
    rcases hr with ⟨hv, rfl⟩ | ⟨ad, cap', hv, rfl⟩ | ⟨b, off, cap', hv, hc, hm, hcell⟩
    · rw [hv]; exact lists_nil w
    · rw [hv]; exact lists_bare ad cap' w
    · rw [hv, hlen]
      exact lists_real b off len cap' zs w hlen h100 (by omega) hm hu (fun j hj => hcell j (by omega))
  · have h1 : 100 < len := by omega
    clear h
    go_enter Try.func5, Try.ntmps5
    go_wp2_with (go_at_call 9; ((with_reducible refine (awake_any _).mono ?_); rintro e w' ⟨rfl, o1, o2, rfl⟩))
    go_ret
    exact ⟨rfl, (Below.refl _ _).alloc (Nat.le_refl _) _⟩
end Go.Proofs.Ythbhgjhddclleaa
