/-
  What the document's calls of layer 12 come to. (Written by gen_sref.py.)
-/
import Derived.Test.YtgnnliablgbgkaaDoorSpongeM
import Derived.Test.YtgnnliablgbgkaaDoorLeafRef
import Derived.Test.YtgnnliablgbgkaaDoorGNum
namespace Go.Proofs.YtgnnliablgbgkaaDoor
open Go Go.RowKit Go.Sort Go.BigFrame
set_option linter.unusedVariables false

set_option maxHeartbeats 1000000 in
theorem rnew_is (l : ByteArray) (w : World) (hl : l.size ≤ 10000) : Calls Tryd.prog 19 #[.string l] w fun e w' => e = .returned (spong (newB l) 0) ∧ Below w.heap.size w w' := by
  have s1 := fun (W : World) (t : TypeId) => rsum2 byte2 l _ (newB_is l) (by show 1 + _ ≤ _; omega) W t
  have hb1 := fun (W : World) (o : Obj) => (Below.refl W.heap.size W).alloc (Nat.le_refl _) o
  generalize newB l = Z at *
  go_enter Tryd.func19, Tryd.ntmps19
  go_upto_region 1 with fail
  refine wp_gen (fun W => Below w.heap.size w W ∧ (W.cell? ⟨w.heap.size, 0, none⟩ = some (.string ⟨#[]⟩) ∧ W.cell? ⟨w.heap.size, 1, none⟩ = some (.int .i64 0)) ∧ W.frozen? ⟨w.heap.size, 0, none⟩ = false ∧ W.frozen? ⟨w.heap.size, 1, none⟩ = false) ⟨hb1 _ _, ⟨by simp [go_sem], by simp [go_sem]⟩, by simp [go_sem], by simp [go_sem]⟩ ?_
  obtain ⟨g, hg⟩ : ∃ g, w.heap.size = g := ⟨_, rfl⟩
  rintro W1 ⟨hB, ⟨c0, c1⟩, f0, f1⟩
  rw [hg] at c0 c1 f0 f1
  simp only [hg]
  have HB := Lib.hid hB
  have hgle : w.heap.size ≤ g := by omega
  clear hB hg hb1
  go_wp2_with (go_at_call 30; (with_reducible refine (s1 W1 _).mono ?_); rintro e w1 ⟨rfl, hb⟩; replace f0 := bfree hb c0 f0; replace f1 := bfree hb c1 f1; replace c0 := bkeep hb c0; replace c1 := bkeep hb c1; replace HB := Lib.hid (bthen HB.out hb); clear hb)
  exact bodyPost_ret (v := .agg #[.string Z, .int .i64 0]) (by simp [results, Tryd.results19, go_sem, c0, c1]) rfl ⟨rfl, (HB.out.setCell hgle _).setCell hgle _⟩
-- gen
theorem rsumL (l : List ByteArray) (n : Nat) (z : ByteArray) (hz : sumB (cat (tx l) n) = z) (hl : lens (tx l) n ≤ 1000000) (v : Value) (W : World) (h : StrL W v n l) : Calls Tryd.prog 30 #[v] W fun e w' => e = .returned (.string z) ∧ Below W.heap.size W w' :=
  sumL_of (G := fun _ => True) (fun a len cap F W h1 h2 _ => rsum_is a len cap F W h1 h2) l n z hz hl v W h trivial
theorem wrap_size (n : Nat) (h : n ≤ 1000000) : IntKind.u64.wrap (n : Int) = (n : Int) := by rw [IntKind.wrap_u64]; omega
def AbsR (g bp op n cap k : Nat) (s1 T E Z : ByteArray) (sl : Nat) (v : Value) (W : World) : Prop :=
  match sl with
  | 12 => v = .pointer (some ⟨g, 0, none⟩)
  | 13 => v = .string s1
  | 14 => v = .slice (some ⟨bp, op, none⟩) n cap
  | 15 => v = .int .i64 k
  | 16 => v = .pointer (some ⟨bp, op + k, none⟩)
  | 17 => v = .string T
  | 18 => v = .int .i64 (T.size : Int)
  | 19 => v = .int .u64 (T.size : Int)
  | 20 => v = .string E
  | 21 => v = .slice (some ⟨bp, op, none⟩) n cap
  | 22 => v = .int .i64 k
  | 23 => v = .pointer (some ⟨bp, op + k, none⟩)
  | 24 => v = .string T
  | 25 => StrL W v 4 [byte2, s1, E, T]
  | 26 => v = .string Z
  | 27 => v = .agg #[.string Z, .int .i64 0]
  | _ => v = .bool true
theorem AbsR.keep {g bp op n cap k : Nat} {s1 T E Z : ByteArray} {sl : Nat} {v : Value} {W W' : World} (h : AbsR g bp op n cap k s1 T E Z sl v W) (hb : Below W.heap.size W W') : AbsR g bp op n cap k s1 T E Z sl v W' := by
  unfold AbsR at *
  split at h
  all_goals first | exact h | (exact StrL.keep h hb)
def AbsRel (w : World) (g g2 : Nat) (s : ByteArray) (c : Int) (f : Nat → ByteArray) (n : Nat) (i : Value) (W : World) : Prop :=
  ∃ k : Nat, k ≤ n ∧ i = .int .i64 k ∧ Below w.heap.size w W ∧ Duo W g (.string (absL s f k)) (.int .i64 (if k = 0 then c else 0)) ∧ Duo W g2 (.string ⟨#[]⟩) (.int .i64 0)
def SqzR (g : Nat) (s : ByteArray) (c m : Int) (E Z : ByteArray) (sl : Nat) (v : Value) (W : World) : Prop :=
  match sl with
  | 5 => v = .pointer (some ⟨g, 0, none⟩)
  | 6 => v = .string s
  | 7 => v = .pointer (some ⟨g, 1, none⟩)
  | 8 => v = .int .i64 c
  | 9 => v = .int .u64 m
  | 10 => v = .string E
  | 11 => StrL W v 3 [byte3, s, E]
  | 12 => v = .string Z
  | _ => v = .bool true
theorem SqzR.keep {g : Nat} {s : ByteArray} {c m : Int} {E Z : ByteArray} {sl : Nat} {v : Value} {W W' : World} (h : SqzR g s c m E Z sl v W) (hb : Below W.heap.size W W') : SqzR g s c m E Z sl v W' := by
  unfold SqzR at *
  split at h
  all_goals first | exact h | (exact StrL.keep h hb)
set_option maxHeartbeats 4000000 in
theorem rsqz_is (s : ByteArray) (c : Int) (w : World) (hs : s.size ≤ 10000) :
    Calls Tryd.prog 20 #[spong s c] w fun e w' => e = .returned (.tuple #[spong s (IntKind.i64.wrap (c + 1)), .string (sqB s c)]) ∧ Below w.heap.size w w' := by
  have hm : U (IntKind.u64.wrap c) := by unfold U; rw [IntKind.wrap_u64]; exact ⟨Int.emod_nonneg _ (by decide), Int.emod_lt_of_pos _ (by decide)⟩
  have e1 := fun W => reight_is _ hm W
  have hE := eightB_size (IntKind.u64.wrap c)
  have m1 := fun v W => rsumL [byte3, s, eightB (IntKind.u64.wrap c)] 3 (sqB s c) (by rw [cat_tx3]; exact sqB_is _ _) (by simp only [lens, tx, List.getD]; show 0 + 1 + _ + _ ≤ _; simp only [List.getElem?_cons_zero, List.getElem?_cons_succ, Option.getD_some]; omega) v W
  obtain ⟨m, hw⟩ : ∃ m, IntKind.u64.wrap c = m := ⟨_, rfl⟩
  rw [hw] at e1 m1
  generalize sqB s c = Z at *
  generalize eightB m = E at *
  clear hm hE
  go_enter Tryd.func20, Tryd.ntmps20
  go_upto_region 1 with fail
  refine wp_gen (fun W => Below w.heap.size w W ∧ Duo W w.heap.size (.string s) (.int .i64 c) ∧ Duo W (w.heap.size + 1) (.string ⟨#[]⟩) (.int .i64 0)) ⟨((Below.refl _ _).alloc (Nat.le_refl _) _).alloc (by simp) _, by simp [Duo, go_sem], by simp [Duo, go_sem]⟩ ?_
  obtain ⟨g, hg⟩ : ∃ g, w.heap.size = g := ⟨_, rfl⟩
  obtain ⟨g2, hg2⟩ : ∃ h, g + 1 = h := ⟨_, rfl⟩
  rintro W1 ⟨hB, hD, hD2⟩
  rw [hg] at hD hD2
  rw [hg2] at hD2
  simp only [hg, hg2]
  have hne : g2 ≠ g := by omega
  have hne' : g ≠ g2 := by omega
  have hgle : w.heap.size ≤ g := by omega
  have hgle2 : w.heap.size ≤ g2 := by omega
  clear hg hg2
  have HB := Lib.hid hB
  clear hB
  obtain ⟨c0, c1, f0, f1⟩ := hD
  obtain ⟨d0, d1, x0, x1⟩ := hD2
  refine wp_loose [(5, []), (6, [5]), (7, []), (8, [7]), (9, [8]), (10, [9]), (11, [6, 10]), (12, [11])]
    (SqzR g s c m E Z) (fun d => false) (by kernel_rfl) (by kernel_rfl) (fun _ _ _ _ h hb => h.keep hb) ?_ ?_
  · refine opsrun_cons ?_ (opsrun_cons ?_ (opsrun_cons ?_ (opsrun_cons ?_ (opsrun_cons ?_ (opsrun_cons ?_ (opsrun_cons ?_ (opsrun_cons ?_ opsrun_nil)))))))
    all_goals
      refine OpRuns.any ?_
      intro Q0 σ W' K hb hn hK
      simp only [fill, List.map, Act.put, List.setIfInBounds_toArray, List.set_cons_zero, List.set_cons_succ] at hK ⊢
    · clear hn
      go_simp
      exact hK _ _ rfl (Below.refl _ _) (fun h => absurd h (by decide))
    · have h5 : σ 5 = _ := hn 5 (by decide)
      clear hn
      simp only [h5] at hK
      have c0' := bkeep hb c0
      clear c0
      go_simp
      exact hK _ _ rfl (Below.refl _ _) (fun h => absurd h (by decide))
    · clear hn
      go_simp
      exact hK _ _ rfl (Below.refl _ _) (fun h => absurd h (by decide))
    · have h7 : σ 7 = _ := hn 7 (by decide)
      clear hn
      simp only [h7] at hK
      have c1' := bkeep hb c1
      clear c1
      go_simp
      exact hK _ _ rfl (Below.refl _ _) (fun h => absurd h (by decide))
    · have h8 : σ 8 = _ := hn 8 (by decide)
      clear hn
      simp only [h8] at hK
      go_simp
      exact hK _ _ rfl (Below.refl _ _) (fun h => absurd h (by decide))
    · have h9 : σ 9 = _ := hn 9 (by decide)
      clear hn
      simp only [h9] at hK
      go_simp
      go_at_call 31
      refine (e1 _).mono ?_
      rintro e w1 ⟨rfl, hb1⟩
      exact hK _ _ rfl hb1 (fun h => absurd h (by decide))
    · have h6 : σ 6 = _ := hn 6 (by decide)
      have h10 : σ 10 = _ := hn 10 (by decide)
      clear hn
      simp only [h6, h10] at hK
      go_simp
      exact hK _ _ (StrL.new _ [byte3, s, E] 3 _ rfl (by decide)) ((Below.refl _ _).alloc (Nat.le_refl _) _) (fun h => absurd h (by decide))
    · have p11 : StrL W' (σ 11) 3 [byte3, s, E] := hn 11 (by decide)
      clear hn
      obtain ⟨b, e, hs⟩ := p11
      simp only [e] at hK
      go_simp
      go_at_call 30
      refine (m1 _ _ ⟨b, rfl, hs⟩).mono ?_
      rintro e w1 ⟨rfl, hb1⟩
      exact hK _ _ rfl hb1 (fun h => absurd h (by decide))
  · intro σ W' hb hR' hF
    have h12 : σ 12 = _ := hR' 12 (by decide)
    have HB' := Lib.hid (bthen HB.out hb)
    replace f0 := bfree hb c0 f0; replace f1 := bfree hb c1 f1
    replace c0 := bkeep hb c0; replace c1 := bkeep hb c1
    replace x0 := bfree hb d0 x0; replace x1 := bfree hb d1 x1
    replace d0 := bkeep hb d0; replace d1 := bkeep hb d1
    clear hR' hF hb m1 e1 HB
    simp only [fill, List.map, Act.put, List.setIfInBounds_toArray, List.set_cons_zero, List.set_cons_succ, List.length_cons, List.length_nil, List.drop_succ_cons, List.drop_zero, Nat.reduceAdd, h12]
    clear h12
    go_wp2
    exact bodyPost_ret (v := .tuple #[.agg #[.string s, .int .i64 (IntKind.i64.wrap (c + 1))], .string Z]) (by simp [results, Tryd.results20, go_sem, d0, d1, IntWalk.i64_left]) rfl ⟨rfl, ((HB'.out.setCell hgle _).setCell hgle2 _).setCell hgle2 _⟩
end Go.Proofs.YtgnnliablgbgkaaDoor
