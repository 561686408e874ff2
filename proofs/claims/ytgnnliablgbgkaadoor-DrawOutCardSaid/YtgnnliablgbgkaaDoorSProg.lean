/-
  The program's calls of layer 12: what is asked of them is so. (Written by gen_sprog.py.)
-/
import Derived.Test.YtgnnliablgbgkaaDoorSPro
import Derived.Test.YtgnnliablgbgkaaDoorGNum
import Derived.Test.YtgnnliablgbgkaaDoorGRow
namespace Go.Proofs.YtgnnliablgbgkaaDoor
open Go Go.RowKit Go.Sort Go.BigFrame
set_option linter.unusedVariables false

theorem geight_is (n : Int) (hn : U n) (W : World) : Calls Tryd.prog 33 #[.int .u64 n] W fun e w' => e = .returned (.string (eightB n)) ∧ Below W.heap.size W w' := oeight_is n hn W
theorem gwrap_size (n : Nat) (h : n ≤ 1000000) : IntKind.u64.wrap (n : Int) = (n : Int) := by rw [IntKind.wrap_u64]; omega
theorem lens_tx2 (a b : ByteArray) (h : a.size + b.size ≤ 100000) : lens (tx [a, b]) 2 ≤ 1000000 := by simp only [lens, tx, List.getD]; show 0 + _ + _ ≤ _; simp only [List.getElem?_cons_zero, List.getElem?_cons_succ, Option.getD_some]; omega
theorem lens_tx3 (a b c : ByteArray) (h : a.size + b.size + c.size ≤ 100000) : lens (tx [a, b, c]) 3 ≤ 1000000 := by simp only [lens, tx, List.getD]; show 0 + _ + _ + _ ≤ _; simp only [List.getElem?_cons_zero, List.getElem?_cons_succ, Option.getD_some]; omega
theorem lens_tx4 (a b c d : ByteArray) (h : a.size + b.size + c.size + d.size ≤ 100000) : lens (tx [a, b, c, d]) 4 ≤ 1000000 := by simp only [lens, tx, List.getD]; show 0 + _ + _ + _ + _ ≤ _; simp only [List.getElem?_cons_zero, List.getElem?_cons_succ, Option.getD_some]; omega
theorem Duo.went {W W' : World} {g h : Nat} {u v x y : Value} (hD : Duo W g u v) (hW : Went h W W' x y) (hne : g ≠ h) (hx : x.ownBlock ≠ some g) : Duo W' g u v := by
  have hl := hD.lt
  obtain ⟨c0, c1, f0, f1⟩ := hD
  have hb := hW.block g hl hne hx
  exact ⟨(World.cell?_of_block (a := ⟨g, 0, none⟩) hb).trans c0, (World.cell?_of_block (a := ⟨g, 1, none⟩) hb).trans c1, (World.frozen?_of_block (a := ⟨g, 0, none⟩) hb).trans f0, (World.frozen?_of_block (a := ⟨g, 1, none⟩) hb).trans f1⟩
theorem str_one (W : World) (l : ByteArray) (t : TypeId) : StrA (W.alloc (.cells #[.string l] t)) (some ⟨W.heap.size, 0, none⟩) 1 (tx [l]) := str_lit W _ t 1 _ (by unfold maxLen; omega) fun j hj => by
  have : j = 0 := by omega
  subst this; rfl
/-- Texts side by side, in a block that is neither the variable's nor the row's. -/
def AbsS (g : Nat) (vv : Value) (l : List ByteArray) (v : Value) (W : World) : Prop := StrL W v l.length l ∧ (∀ b, v = .slice (some ⟨b, 0, none⟩) l.length l.length → b ≠ g) ∧ (∀ b, v = .slice (some ⟨b, 0, none⟩) l.length l.length → vv.ownBlock ≠ some b)
theorem AbsS.keep {g : Nat} {vv : Value} {l : List ByteArray} {v : Value} {W W' : World} (h : AbsS g vv l v W) (hb : Below W.heap.size W W') : AbsS g vv l v W' := ⟨h.1.keep hb, h.2⟩
def AbsG (g : Nat) (vv : Value) (s1 T E : ByteArray) (sl : Nat) (v : Value) (W : World) : Prop :=
  match sl with
  | 16 => v = .pointer (some ⟨g, 0, none⟩)
  | 17 => v = .pointer (some ⟨g, 0, none⟩)
  | 18 => v = .string s1
  | 19 => v = .string T
  | 20 => v = .int .i64 (T.size : Int)
  | 21 => v = .int .u64 (T.size : Int)
  | 22 => v = .string E
  | 23 => v = .string T
  | 24 => AbsS g vv [s1, E, T] v W
  | _ => v = .bool true
theorem AbsG.keep {g : Nat} {vv : Value} {s1 T E : ByteArray} {sl : Nat} {v : Value} {W W' : World} (h : AbsG g vv s1 T E sl v W) (hb : Below W.heap.size W W') : AbsG g vv s1 T E sl v W' := by
  unfold AbsG at *
  split at h
  all_goals first | exact h | (exact AbsS.keep h hb)
def AbsRelG (w : World) (g g2 : Nat) (s : ByteArray) (c : Int) (f : Nat → ByteArray) (n : Nat) (i : Value) (W : World) : Prop :=
  ∃ (k : Nat) (v : Value), k ≤ n ∧ i = .int .i64 k ∧ Below w.heap.size w W ∧ Stp w.heap.size W g (absL s f k) (if k = 0 then c else 0) v [] ∧ Duo W g2 (.string ⟨#[]⟩) (.int .i64 0) ∧ v.ownBlock ≠ some g2
def SqzG (g : Nat) (s : ByteArray) (c m : Int) (E : ByteArray) (sl : Nat) (v : Value) (W : World) : Prop :=
  match sl with
  | 7 => v = .pointer (some ⟨g, 2, none⟩)
  | 8 => v = .pointer (some ⟨g, 0, none⟩)
  | 9 => v = .pointer (some ⟨g, 0, none⟩)
  | 10 => v = .string s
  | 11 => v = .pointer (some ⟨g, 0, none⟩)
  | 12 => v = .pointer (some ⟨g, 1, none⟩)
  | 13 => v = .int .i64 c
  | 14 => v = .int .u64 m
  | 15 => v = .string E
  | 16 => StrL W v 3 [byte3, s, E]
  | _ => v = .bool true
theorem SqzG.keep {g : Nat} {s : ByteArray} {c m : Int} {E : ByteArray} {sl : Nat} {v : Value} {W W' : World} (h : SqzG g s c m E sl v W) (hb : Below W.heap.size W W') : SqzG g s c m E sl v W' := by
  unfold SqzG at *
  split at h
  all_goals first | exact h | (exact StrL.keep h hb)
/-- While what is squeezed is summed. -/
structure SqW (w : World) (g g2 : Nat) (s : ByteArray) (c : Int) (l : List ByteArray) (Z : ByteArray) (val : Nat → Value) (D : Nat → Bool) (σ : Nat → Value) (W : World) : Prop where
  st : ∃ v, Stp w.heap.size W g s c v (if D 27 = true then [] else l) ∧ v.ownBlock ≠ some g2
  bel : Below w.heap.size w W
  duo : Duo W g2 (.string ⟨#[]⟩) (.int .i64 0)
  z : D 27 = true → σ 27 = .string Z
  sv : ∀ d, d ∈ [24, 25, 26] → D d = true → σ d = val d
theorem SqW.next {w : World} {g g2 : Nat} {s : ByteArray} {c : Int} {l : List ByteArray} {Z : ByteArray} {val : Nat → Value} {D : Nat → Bool} {σ : Nat → Value} {W : World} (h : SqW w g g2 s c l Z val D σ W) {d : Nat} {u : Value} (h0 : d ≠ 27) (hu : u = val d) :
    SqW w g g2 s c l Z val (fun k => if k = d then true else D k) (fun k => if k = d then u else σ k) W := by
  refine ⟨by simpa only [if_neg (Ne.symm h0)] using h.st, h.bel, h.duo, by simpa only [if_neg (Ne.symm h0)] using h.z, fun e he => ?_⟩
  by_cases k : e = d
  · subst k; intro _; simp only [if_pos]; exact hu
  · simp only [if_neg k]; exact h.sv e he
def SqVal (g : Nat) (s : ByteArray) (c : Int) : Nat → Value
  | 24 => .pointer (some ⟨g, 0, none⟩)
  | 25 => .agg #[.string s, .int .i64 c]
  | 26 => .pointer (some ⟨g, 2, none⟩)
  | _ => undef
theorem Stp.count {B : Nat} {W : World} {g : Nat} {s : ByteArray} {c : Int} {v : Value} {l : List ByteArray} (h : Stp B W g s c v l) (c' : Int) : Stp B (W.setCell ⟨g, 1, none⟩ (.int .i64 c')) g s c' v l := by
  obtain ⟨c0, c1, c2, f0, f1, f2, ho, ne, le⟩ := h
  refine ⟨by simp [go_sem, c0], by simp [go_sem, c1], by simp [go_sem, c2], by simp [f0], by simp [f1], by simp [f2], ?_, ne, le⟩
  exact ho.kept (grown_set W g 1 _) (by
    cases hv : v.ownBlock with
    | none => exact .inl rfl
    | some k => exact .inr (by intro e; exact ne (hv.trans e)))
set_option maxHeartbeats 4000000 in
theorem spsqueeze_is (s : ByteArray) (c : Int) (w : World) (hs : s.size ≤ 10000) (hT : TabB w) :
    Calls Tryd.prog 22 #[spong s c] w fun e w' => e = .returned (.tuple #[spong s (IntKind.i64.wrap (c + 1)), .string (sqB s c)]) ∧ Below w.heap.size w w' := by
  have hm : U (IntKind.u64.wrap c) := by unfold U; rw [IntKind.wrap_u64]; exact ⟨Int.emod_nonneg _ (by decide), Int.emod_lt_of_pos _ (by decide)⟩
  have e1 := fun W => geight_is _ hm W
  have hE := eightB_size (IntKind.u64.wrap c)
  have hZ2 : sumB (cat (tx [byte3, s, eightB (IntKind.u64.wrap c)]) 3) = sqB s c := by rw [cat_tx3]; exact sqB_is _ _
  obtain ⟨m, hw⟩ : ∃ m, IntKind.u64.wrap c = m := ⟨_, rfl⟩
  rw [hw] at e1 hZ2 hE
  generalize sqB s c = Z at *
  generalize eightB m = E at *
  obtain ⟨c', hc'⟩ : ∃ c', IntKind.i64.wrap (c + 1) = c' := ⟨_, rfl⟩
  have w64 : wrap64 (c + 1) = c' := (IntWalk.i64_left _).symm.trans hc'
  simp only [hc']
  have HZ2 := Lib.hid hZ2; have HE := Lib.hid hE; have HT := Lib.hid hT
  clear hm hE hZ2 hT
  go_enter Tryd.func22, Tryd.ntmps22
  go_upto_region 2 with fail
  obtain ⟨g0, hg0⟩ : ∃ g, w.heap.size = g := ⟨_, rfl⟩
  obtain ⟨g2, hg2⟩ : ∃ h, g0 + 1 = h := ⟨_, rfl⟩
  obtain ⟨g, hg⟩ : ∃ h, g2 + 1 = h := ⟨_, rfl⟩
  refine wp_gen (fun W => Below w.heap.size w W ∧ Duo W g2 (.string ⟨#[]⟩) (.int .i64 0) ∧ Stp w.heap.size W g s c (.slice none 0 0) []) ⟨(((Below.refl _ _).alloc (Nat.le_refl _) _).alloc (by simp) _).alloc (by simp; omega) _, by rw [← hg2, ← hg0]; simp [Duo, go_sem], ?_⟩ ?_
  · have h := Stp.new ((w.alloc (.cells #[.string s, .int .i64 c] 23)).alloc (.cells #[.string ⟨#[]⟩, .int .i64 0] 23)) w.heap.size (by simp; omega) s c 61
    rw [← hg, ← hg2, ← hg0]
    simpa using h
  rintro W1 ⟨hB, hD, hS1⟩
  simp only [hg0, hg2, hg]
  have hne : g2 ≠ g := by omega
  have hgle2 : w.heap.size ≤ g2 := by omega
  have HG := Lib.hid hgle2
  clear hg0 hg2 hg hgle2
  have HD := Lib.hid hD; have HB := Lib.hid hB; have HSt := Lib.hid hS1
  have hgl := hS1.lt
  have k1 : ∀ (b : Nat) (W : World), Stp w.heap.size W g s c (.slice none 0 0) [] → StrA W (some ⟨b, 0, none⟩) 3 (tx [byte3, s, E]) →
      Calls Tryd.prog 32 #[.pointer (some ⟨g, 2, none⟩), .slice (some ⟨b, 0, none⟩) 3 3] W fun e w' => e = .returned (.tuple #[]) ∧ ∃ v', Stp w.heap.size w' g s c v' [byte3, s, E] ∧ Went g W w' (.slice none 0 0) v' :=
    fun b W hS hr => spwrite_is w.heap.size g s c (.slice none 0 0) [] [byte3, s, E] b 3 W hS hr (by simp)
  have HK1 := Lib.hid k1
  clear hB hD hS1 k1
  obtain ⟨c0, c1, c2, f0, f1, f2, _, _, _⟩ := HSt.out
  refine wp_loose [(7, []), (8, []), (9, [8]), (10, [9]), (11, []), (12, [11]), (13, [12]), (14, [13]), (15, [14]), (16, [10, 15])]
    (SqzG g s c m E) (fun d => false) (by kernel_rfl) (by kernel_rfl) (fun _ _ _ _ h hb => h.keep hb) ?_ ?_
  · refine opsrun_cons ?_ (opsrun_cons ?_ (opsrun_cons ?_ (opsrun_cons ?_ (opsrun_cons ?_ (opsrun_cons ?_ (opsrun_cons ?_ (opsrun_cons ?_ (opsrun_cons ?_ (opsrun_cons ?_ opsrun_nil)))))))))
    all_goals
      refine OpRuns.any ?_
      intro Q0 σ W' K hb hn hK
      simp only [fill, List.map, Act.put, List.setIfInBounds_toArray, List.set_cons_zero, List.set_cons_succ] at hK ⊢
    · clear hn
      go_simp
      exact hK _ _ rfl (Below.refl _ _) (fun h => absurd h (by decide))
    · clear hn
      go_simp
      exact hK _ _ rfl (Below.refl _ _) (fun h => absurd h (by decide))
    · have h8 : σ 8 = _ := hn 8 (by decide)
      clear hn
      simp only [h8] at hK
      go_simp
      exact hK _ _ rfl (Below.refl _ _) (fun h => absurd h (by decide))
    · have h9 : σ 9 = _ := hn 9 (by decide)
      clear hn
      simp only [h9] at hK
      have c0' := bkeep hb c0
      clear c0
      go_simp
      exact hK _ _ rfl (Below.refl _ _) (fun h => absurd h (by decide))
    · clear hn
      go_simp
      exact hK _ _ rfl (Below.refl _ _) (fun h => absurd h (by decide))
    · have h11 : σ 11 = _ := hn 11 (by decide)
      clear hn
      simp only [h11] at hK
      go_simp
      exact hK _ _ rfl (Below.refl _ _) (fun h => absurd h (by decide))
    · have h12 : σ 12 = _ := hn 12 (by decide)
      clear hn
      simp only [h12] at hK
      have c1' := bkeep hb c1
      clear c1
      go_simp
      exact hK _ _ rfl (Below.refl _ _) (fun h => absurd h (by decide))
    · have h13 : σ 13 = _ := hn 13 (by decide)
      clear hn
      simp only [h13] at hK
      go_simp
      exact hK _ _ rfl (Below.refl _ _) (fun h => absurd h (by decide))
    · have h14 : σ 14 = _ := hn 14 (by decide)
      clear hn
      simp only [h14] at hK
      go_simp
      go_at_call 33
      refine (e1 _).mono ?_
      rintro e w1 ⟨rfl, hb1⟩
      exact hK _ _ rfl hb1 (fun h => absurd h (by decide))
    · have h10 : σ 10 = _ := hn 10 (by decide)
      have h15 : σ 15 = _ := hn 15 (by decide)
      clear hn
      simp only [h10, h15] at hK
      go_simp
      exact hK _ _ (StrL.new _ [byte3, s, E] 3 _ rfl (by decide)) ((Below.refl _ _).alloc (Nat.le_refl _) _) (fun h => absurd h (by decide))
  · intro σ W' hb hR' hF
    obtain ⟨b16, h16, hs16⟩ : StrL W' (σ 16) 3 [byte3, s, E] := hR' 16 (by decide)
    have h7 : σ 7 = _ := hR' 7 (by decide)
    have HB' := Lib.hid (bthen HB.out hb)
    have HD' := Lib.hid (HD.out.keep hb)
    have HSt' := Lib.hid (HSt.out.keep hb)
    have HS16 := Lib.hid hs16
    clear hR' hF hb e1 hw HD HSt HB hs16 c0 c1 c2 f0 f1 f2
    simp only [fill, List.map, Act.put, List.setIfInBounds_toArray, List.set_cons_zero, List.set_cons_succ, List.length_cons, List.length_nil, List.drop_succ_cons, List.drop_zero, Nat.reduceAdd, h16, h7]
    clear h16 h7
    go_upto_region 3 with (go_at_call 32; (with_reducible refine (HK1.out _ _ HSt'.out HS16.out).mono ?_); rintro e w1 ⟨rfl, v1, hS1, hW1⟩)
    have HD2 := Lib.hid (HD'.out.went hW1 hne (by simp [Value.ownBlock]))
    have HB2 := Lib.hid (hW1.from HB'.out HSt'.out.le HSt'.out.gep (by have := HSt'.out.le; have := HSt'.out.lt; omega))
    have hv1 : v1.ownBlock ≠ some g2 := by
      intro e
      rcases hW1.own _ e with h | h
      · simp [Value.ownBlock] at h
      · have := HD'.out.lt; omega
    obtain ⟨c0, c1, c2, f0, f1, f2, _, _, _⟩ := id hS1
    have HS2 := Lib.hid (hS1.count c')
    have hgle : w.heap.size ≤ g := hS1.le
    clear hW1 HB' HD' HSt' HS16 HK1 hS1
    go_upto_region 4 with fail
    refine wp_gen (SqW w g g2 s c' [byte3, s, E] Z (SqVal g s c') (fun _ => false) σ) ⟨⟨v1, HS2.out, hv1⟩, HB2.out.setCell hgle _, HD2.out.far (Ne.symm hne) _ _, fun h => absurd h Bool.false_ne_true, fun _ _ h => absurd h Bool.false_ne_true⟩ ?_
    clear c0 c1 c2 f0 f1 f2 HS2 HB2 HD2 hv1
    intro W2 hW2
    have hW2' : ∀ τ, SqW w g g2 s c' [byte3, s, E] Z (SqVal g s c') (fun _ => false) τ { W2 with drawn := W2.drawn + 1 } := fun τ => by
      obtain ⟨⟨v, hS, hv⟩, hB, hD, _, _⟩ := hW2
      have hdw := (Below.refl W2.heap.size W2).drew
      exact ⟨⟨v, hS.keep hdw, hv⟩, bthen hB hdw, hD.keep hdw, fun h => absurd h Bool.false_ne_true, fun _ _ h => absurd h Bool.false_ne_true⟩
    clear hW2
    refine wp_lay [(24, []), (25, [24]), (26, []), (27, [26])] (SqW w g g2 s c' [byte3, s, E] Z (SqVal g s c')) (by kernel_rfl) (by kernel_rfl) hW2' ?_ ?_
    · refine opsw_cons ?_ (opsw_cons ?_ (opsw_cons ?_ (opsw_cons ?_ opsw_nil)))
      all_goals
        refine OpRunsW.any ?_
        intro Q0 D σ' W K hW hd hn hK
        simp only [fill, List.map, Act.put, List.setIfInBounds_toArray, List.set_cons_zero, List.set_cons_succ] at hK ⊢
      · have HW := Lib.hid hW
        clear hW
        go_simp
        exact hK _ _ (HW.out.next (by decide) rfl)
      · have h24 : σ' 24 = _ := hW.sv 24 (by decide) (hn 24 (by decide))
        unfold SqVal at h24
        simp only [h24] at hK
        obtain ⟨v, hS, hv⟩ := hW.st
        obtain ⟨c0, c1, c2, f0, f1, f2, _, _, _⟩ := hS
        have HW := Lib.hid hW
        clear hW
        go_simp
        exact hK _ _ (HW.out.next (by decide) rfl)
      · have HW := Lib.hid hW
        clear hW
        go_simp
        exact hK _ _ (HW.out.next (by decide) rfl)
      · have h26 : σ' 26 = _ := hW.sv 26 (by decide) (hn 26 (by decide))
        unfold SqVal at h26
        simp only [h26] at hK
        obtain ⟨v, hS, hv⟩ := hW.st
        rw [hd] at hS
        simp only [Bool.false_eq_true, if_false] at hS
        have HW := Lib.hid hW; have HS := Lib.hid hS; have HV := Lib.hid hv
        clear hW hS hv
        go_simp
        go_at_call 34
        refine (spend_is g s c' v [byte3, s, E] Z w W HT.out HW.out.bel HS.out (by simp) (by simp) HZ2.out (lens_tx3 byte3 s E (by have := HE.out; show 1 + _ + _ ≤ _; omega))).mono ?_
        rintro e w3 ⟨rfl, v3, hS3, hW3⟩
        refine hK _ _ ⟨⟨v3, by simpa using hS3, ?_⟩, hW3.from HW.out.bel HS.out.le HS.out.gep (by have := HS.out.le; have := HS.out.lt; omega), HW.out.duo.went hW3 hne HV.out, fun _ => by simp, fun e he => ?_⟩
        · intro e
          rcases hW3.own _ e with h | h
          · exact HV.out h
          · have := HW.out.duo.lt; omega
        · have ce : e ≠ 27 := by intro ce; subst ce; revert he; decide
          simp only [if_neg ce]; exact HW.out.sv e he
    · intro D σ' W hW hD
      have h25 : σ' 25 = _ := hW.sv 25 (by decide) (hD 25 (by decide))
      have h27 := hW.z (hD 27 (by decide))
      unfold SqVal at h25
      obtain ⟨d0, d1, x0, x1⟩ := hW.duo
      have HB := Lib.hid hW.bel
      clear hW hD hW2'
      simp only [fill, List.map, Act.put, List.setIfInBounds_toArray, List.set_cons_zero, List.set_cons_succ, List.length_cons, List.length_nil, List.drop_succ_cons, List.drop_zero, Nat.reduceAdd, h25, h27]
      clear h25 h27
      go_wp2
      exact bodyPost_ret (v := .tuple #[.agg #[.string s, .int .i64 c'], .string Z]) (by simp [results, Tryd.results22, go_sem, d0, d1]) rfl ⟨rfl, (HB.out.setCell HG.out _).setCell HG.out _⟩
end Go.Proofs.YtgnnliablgbgkaaDoor
