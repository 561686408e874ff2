/-
  The program's calls of layer 12: what is asked of them is so. (Written by gen_sprog.py.)
-/
import Derived.Test.YtbfbfpanhonieaaDoorSPro
import Derived.Test.YtbfbfpanhonieaaDoorGNum
import Derived.Test.YtbfbfpanhonieaaDoorGRow
namespace Go.Proofs.YtbfbfpanhonieaaDoor
open Go Go.RowKit Go.Sort Go.BigFrame
set_option linter.unusedVariables false

theorem geight_is (n : Int) (hn : U n) (W : World) : Calls Tryd.prog 16 #[.int .u64 n] W fun e w' => e = .returned (.string (eightB n)) ∧ Below W.heap.size W w' := oeight_is n hn W
theorem gwrap_size (n : Nat) (h : n ≤ 1000000) : IntKind.u64.wrap (n : Int) = (n : Int) := by rw [IntKind.wrap_u64]; omega
theorem lens_tx2 (a b : ByteArray) (h : a.size + b.size ≤ 100000) : lens (tx [a, b]) 2 ≤ 1000000 := by simp only [lens, tx, List.getD]; show 0 + _ + _ ≤ _; simp only [List.getElem?_cons_zero, List.getElem?_cons_succ, Option.getD_some]; omega
theorem lens_tx3 (a b c : ByteArray) (h : a.size + b.size + c.size ≤ 100000) : lens (tx [a, b, c]) 3 ≤ 1000000 := by simp only [lens, tx, List.getD]; show 0 + _ + _ + _ ≤ _; simp only [List.getElem?_cons_zero, List.getElem?_cons_succ, Option.getD_some]; omega
theorem lens_tx4 (a b c d : ByteArray) (h : a.size + b.size + c.size + d.size ≤ 100000) : lens (tx [a, b, c, d]) 4 ≤ 1000000 := by simp only [lens, tx, List.getD]; show 0 + _ + _ + _ + _ ≤ _; simp only [List.getElem?_cons_zero, List.getElem?_cons_succ, Option.getD_some]; omega
theorem Duo.went {W W' : World} {g h : Nat} {u v x y : Value} (hD : Duo W g u v) (hW : Went h W W' x y) (hne : g ≠ h) (hx : x.ownBlock ≠ some g) : Duo W' g u v := by
  have hl := hD.lt
  obtain ⟨c0, c1, f0, f1⟩ := hD
  have hb := hW.block g hl hne hx
  exact ⟨(World.cell?_of_block (a := ⟨g, 0, none⟩) hb).trans c0, (World.cell?_of_block (a := ⟨g, 1, none⟩) hb).trans c1, (World.frozen?_of_block (a := ⟨g, 0, none⟩) hb).trans f0, (World.frozen?_of_block (a := ⟨g, 1, none⟩) hb).trans f1⟩
theorem str_one (W : World) (l : ByteArray) (t : TypeId) : StrA (W.alloc (.cells #[.string l] t)) (some ⟨W.heap.size, 0, none⟩) 1 (tx [l]) := str_lit W _ t 1 _ (by unfold maxLen; omega) fun j hj => by
  have : j = 0 := by omega
  subst this; rfl
set_option maxHeartbeats 1000000 in
theorem spnew_is (l : ByteArray) (w : World) (hl : l.size ≤ 10000) (hT : TabB w) :
    Calls Tryd.prog 11 #[.string l] w fun e w' => e = .returned (spong (newB l) 0) ∧ Below w.heap.size w w' := by
  have k1 : ∀ (g b : Nat) (W : World), Below w.heap.size w W → Stp w.heap.size W g ⟨#[]⟩ 0 (.slice none 0 0) [] → StrA W (some ⟨b, 0, none⟩) 1 (tx [l]) → b ≠ g →
      Calls Tryd.prog 18 #[.pointer (some ⟨g, 0, none⟩), .slice (some ⟨b, 0, none⟩) 1 1] W fun e w' => e = .returned (.tuple #[]) ∧ ∃ v', Stp w.heap.size w' g (newB l) 0 v' [] ∧ Went g W w' (.slice none 0 0) v' :=
    fun g b W hB hS hr hb => spabs_is g ⟨#[]⟩ 0 _ [l] b 1 (newB l) w W hT hB hS hr hb (by simp [Value.ownBlock]) (by simp) ((congrArg sumB (cat_tx2 byte2 l)).trans (newB_is l)) (lens_tx2 byte2 l (by show 1 + _ ≤ _; omega))
  generalize newB l = Z at *
  clear hT
  go_enter Tryd.func11, Tryd.ntmps11
  go_upto_region 2 with fail
  refine wp_gen (fun W => Below w.heap.size w W ∧ Duo W w.heap.size (.string ⟨#[]⟩) (.int .i64 0) ∧ Stp w.heap.size W (w.heap.size + 1) ⟨#[]⟩ 0 (.slice none 0 0) []) ⟨((Below.refl _ _).alloc (Nat.le_refl _) _).alloc (by simp) _, by simp [Duo, go_sem], ?_⟩ ?_
  · have h := Stp.new (w.alloc (.cells #[.string ⟨#[]⟩, .int .i64 0] 23)) w.heap.size (by simp) ⟨#[]⟩ 0 42
    simpa using h
  obtain ⟨g2, hg2⟩ : ∃ g, w.heap.size = g := ⟨_, rfl⟩
  obtain ⟨g, hg⟩ : ∃ h, g2 + 1 = h := ⟨_, rfl⟩
  rintro W1 ⟨hB, hD, hS⟩
  rw [hg2] at hD
  have hne : g2 ≠ g := by omega
  have hgle2 : w.heap.size ≤ g2 := by omega
  have hS' : Stp w.heap.size W1 g ⟨#[]⟩ 0 (.slice none 0 0) [] := by rw [← hg, ← hg2]; exact hS
  simp only [hg2, hg]
  have HB := Lib.hid hB; have HD := Lib.hid hD; have HS := Lib.hid hS'; have HG := Lib.hid hgle2
  have hlt := hS'.lt
  have hb0 := fun (o : Obj) => (Below.refl W1.heap.size W1).alloc (Nat.le_refl _) o
  have HB0 := Lib.hid hb0
  clear hB hD hS hS' hg hg2 hb0 hgle2
  go_upto_region 3 with (go_at_call 18; (with_reducible refine (k1 _ _ _ (bthen HB.out (HB0.out _)) (HS.out.keep (HB0.out _)) (str_one W1 l _) (Nat.ne_of_gt hlt)).mono ?_); rintro e w1 ⟨rfl, v1, hS1, hW1⟩)
  replace hW1 := (Went.below (g := g) (.slice none 0 0) (HB0.out _)).trans hW1
  obtain ⟨d0, d1, x0, x1⟩ := HD.out.went hW1 hne (by simp [Value.ownBlock])
  have HB1 := Lib.hid (hW1.from HB.out HS.out.le HS.out.gep (by have := HS.out.le; omega))
  obtain ⟨c0, c1, f0, f1⟩ : Duo w1 g (.string Z) (.int .i64 0) := ⟨hS1.c0, hS1.c1, hS1.f0, hS1.f1⟩
  clear hS1 hW1 k1 HB0 HB HS HD
  go_wp2
  exact bodyPost_ret (v := .agg #[.string Z, .int .i64 0]) (by simp [results, Tryd.results11, go_sem, d0, d1]) rfl ⟨rfl, (HB1.out.setCell HG.out _).setCell HG.out _⟩
/-- Texts side by side, in a block that is neither the variable's nor the row's. -/
def AbsS (g : Nat) (vv : Value) (l : List ByteArray) (v : Value) (W : World) : Prop := StrL W v l.length l ∧ (∀ b, v = .slice (some ⟨b, 0, none⟩) l.length l.length → b ≠ g) ∧ (∀ b, v = .slice (some ⟨b, 0, none⟩) l.length l.length → vv.ownBlock ≠ some b)
theorem AbsS.keep {g : Nat} {vv : Value} {l : List ByteArray} {v : Value} {W W' : World} (h : AbsS g vv l v W) (hb : Below W.heap.size W W') : AbsS g vv l v W' := ⟨h.1.keep hb, h.2⟩
def AbsG (g : Nat) (vv : Value) (s1 T E : ByteArray) (sl : Nat) (v : Value) (W : World) : Prop :=
  match sl with
  | 16 => v = .pointer (some ⟨g, 0, none⟩)
  | 17 => v = .pointer (some ⟨g, 0, none⟩)
  | 18 => v = .string s1
  | 19 => v = .string T
  | 20 => v = .int .i64 (T.size : Int)
  | 21 => v = .int .u64 (T.size : Int)
  | 22 => v = .string E
  | 23 => v = .string T
  | 24 => AbsS g vv [s1, E, T] v W
  | _ => v = .bool true
theorem AbsG.keep {g : Nat} {vv : Value} {s1 T E : ByteArray} {sl : Nat} {v : Value} {W W' : World} (h : AbsG g vv s1 T E sl v W) (hb : Below W.heap.size W W') : AbsG g vv s1 T E sl v W' := by
  unfold AbsG at *
  split at h
  all_goals first | exact h | (exact AbsS.keep h hb)
def AbsRelG (w : World) (g g2 : Nat) (s : ByteArray) (c : Int) (f : Nat → ByteArray) (n : Nat) (i : Value) (W : World) : Prop :=
  ∃ (k : Nat) (v : Value), k ≤ n ∧ i = .int .i64 k ∧ Below w.heap.size w W ∧ Stp w.heap.size W g (absL s f k) (if k = 0 then c else 0) v [] ∧ Duo W g2 (.string ⟨#[]⟩) (.int .i64 0) ∧ v.ownBlock ≠ some g2
set_option maxHeartbeats 4000000 in
theorem spabsorb_any (Zn : ByteArray) (mn : Int) (s : ByteArray) (c : Int) (a : Option Addr) (n cap : Nat) (f : Nat → ByteArray) (w : World) (hS : StrA w a n f) (hn : n ≤ 100) (hf : ∀ k, k < n → (f k).size ≤ 10000) (hs : s.size ≤ 10000) (hZn : absL s f n = Zn) (hmn : (if n = 0 then c else 0) = mn) (hT : TabB w) :
    Calls Tryd.prog 9 #[spong s c, .slice a n cap] w fun e w' => e = .returned (spong Zn mn) ∧ Below w.heap.size w w' := by
  have HZn := Lib.hid hZn; have HMn := Lib.hid hmn; have HT := Lib.hid hT
  clear hZn hmn hT
  have HS := Lib.hid hS; have HF := Lib.hid hf
  clear hS hf
  go_enter Tryd.func9, Tryd.ntmps9
  go_upto_region 2 with fail
  obtain ⟨g0, hg0⟩ : ∃ g, w.heap.size = g := ⟨_, rfl⟩
  obtain ⟨g2, hg2⟩ : ∃ h, g0 + 1 = h := ⟨_, rfl⟩
  obtain ⟨g, hg⟩ : ∃ h, g2 + 1 = h := ⟨_, rfl⟩
  refine wp_gen (fun W => Below w.heap.size w W ∧ Duo W g2 (.string ⟨#[]⟩) (.int .i64 0) ∧ Stp w.heap.size W g s c (.slice none 0 0) []) ⟨(((Below.refl _ _).alloc (Nat.le_refl _) _).alloc (by simp) _).alloc (by simp; omega) _, by rw [← hg2, ← hg0]; simp [Duo, go_sem], ?_⟩ ?_
  · have h := Stp.new ((w.alloc (.cells #[.string s, .int .i64 c] 23)).alloc (.cells #[.string ⟨#[]⟩, .int .i64 0] 23)) w.heap.size (by simp; omega) s c 42
    rw [← hg, ← hg2, ← hg0]
    simpa using h
  rintro W1 ⟨hB, hD, hS1⟩
  simp only [hg0, hg2, hg]
  have hne : g2 ≠ g := by omega
  have hgle2 : w.heap.size ≤ g2 := by omega
  have HG := Lib.hid hgle2
  clear hg0 hg2 hg hgle2
  go_upto_region 3 with fail
  go_loopw [12] (AbsRelG w g g2 s c f n) (fun i _ => n - (intOf i).toNat)
  case atStart => exact ⟨0, _, Nat.zero_le _, rfl, hB, hS1, hD, by simp [Value.ownBlock]⟩
  case round =>
    clear hB hD hS1
    obtain ⟨k, v, hk, rfl, hB, hSt, hD, hvg⟩ := hrel
    by_cases hlt : k < n
    · have hlt' : (k : Int) < (n : Int) := by omega
      have hk0 : (0 : Int) ≤ (k : Int) := by omega
      obtain ⟨bp, op, rfl, t00⟩ := HS.out.2 k hlt
      have t0 := bkeep hB t00
      clear t00
      have hz := HF.out k hlt
      have hss := absL_size s f 10000 hs (by decide) k
      have hA : absB (absL s f k) (f k) = absL s f (k + 1) := rfl
      have hw := gwrap_size (f k).size (by omega)
      have e1 := fun W => geight_is ((f k).size : Int) (by unfold U; omega) W
      have hE := eightB_size ((f k).size : Int)
      have hZ2 : sumB (cat (tx [byte2, absL s f k, eightB ((f k).size : Int), f k]) 4) = absL s f (k + 1) := by rw [cat_tx4]; exact absB_is _ _
      obtain ⟨Z, hZ⟩ : ∃ Z, absL s f (k + 1) = Z := ⟨_, rfl⟩
      rw [hZ] at hZ2
      have HZ := Lib.hid hZ
      clear hZ hA
      generalize absL s f k = s1 at *
      generalize eightB ((f k).size : Int) = E at *
      generalize f k = T at *
      generalize (if k = 0 then c else 0 : Int) = c1 at *
      have k1 : ∀ (b : Nat) (W : World), Below w.heap.size w W → Stp w.heap.size W g s1 c1 v [] → StrA W (some ⟨b, 0, none⟩) 3 (tx [s1, E, T]) → b ≠ g → v.ownBlock ≠ some b →
          Calls Tryd.prog 18 #[.pointer (some ⟨g, 0, none⟩), .slice (some ⟨b, 0, none⟩) 3 3] W fun e w' => e = .returned (.tuple #[]) ∧ ∃ v', Stp w.heap.size w' g Z 0 v' [] ∧ Went g W w' v v' :=
        fun b W hB hS hr hb hv => spabs_is g s1 c1 v [s1, E, T] b 3 Z w W HT.out hB hS hr hb hv (by simp) hZ2 (lens_tx4 byte2 s1 E T (by show 1 + _ + _ + _ ≤ _; omega))
      have HD := Lib.hid hD; have HB := Lib.hid hB; have HSt := Lib.hid hSt
      have HK1 := Lib.hid k1; have HV := Lib.hid hvg
      have hgl := hSt.lt
      clear hZ2 hD hB hSt HZn HMn hE hss k1 hvg
      go_upto_region 5 with fail
      obtain ⟨c0, c1', c2', f0, f1, f2, _, _, _⟩ := HSt.out
      refine wp_loose [(16, []), (17, [16]), (18, [17]), (19, []), (20, [19]), (21, [20]), (22, [21]), (23, []), (24, [18, 22, 23])]
        (AbsG g v s1 T E) (fun d => false) (by kernel_rfl) (by kernel_rfl) (fun _ _ _ _ h hb => h.keep hb) ?_ ?_
      · refine opsrun_cons ?_ (opsrun_cons ?_ (opsrun_cons ?_ (opsrun_cons ?_ (opsrun_cons ?_ (opsrun_cons ?_ (opsrun_cons ?_ (opsrun_cons ?_ (opsrun_cons ?_ opsrun_nil))))))))
        all_goals
          refine OpRuns.any ?_
          intro Q0 σ W' K hb hn hK
          simp only [fill, List.map, Act.put, List.setIfInBounds_toArray, List.set_cons_zero, List.set_cons_succ] at hK ⊢
        · clear hn
          go_simp
          exact hK _ _ rfl (Below.refl _ _) (fun h => absurd h (by decide))
        · have h16 : σ 16 = _ := hn 16 (by decide)
          clear hn
          simp only [h16] at hK
          go_simp
          exact hK _ _ rfl (Below.refl _ _) (fun h => absurd h (by decide))
        · have h17 : σ 17 = _ := hn 17 (by decide)
          clear hn
          simp only [h17] at hK
          have c0' := bkeep hb c0
          clear c0
          go_simp
          exact hK _ _ rfl (Below.refl _ _) (fun h => absurd h (by decide))
        · clear hn
          go_simp
          exact hK _ _ rfl (Below.refl _ _) (fun h => absurd h (by decide))
        · have h19 : σ 19 = _ := hn 19 (by decide)
          clear hn
          simp only [h19] at hK
          go_simp
          exact hK _ _ rfl (Below.refl _ _) (fun h => absurd h (by decide))
        · have h20 : σ 20 = _ := hn 20 (by decide)
          clear hn
          simp only [h20] at hK
          go_simp
          exact hK _ _ rfl (Below.refl _ _) (fun h => absurd h (by decide))
        · have h21 : σ 21 = _ := hn 21 (by decide)
          clear hn
          simp only [h21] at hK
          go_simp
          go_at_call 16
          refine (e1 _).mono ?_
          rintro e w1 ⟨rfl, hb1⟩
          exact hK _ _ rfl hb1 (fun h => absurd h (by decide))
        · clear hn
          go_simp
          exact hK _ _ rfl (Below.refl _ _) (fun h => absurd h (by decide))
        · have h18 : σ 18 = _ := hn 18 (by decide)
          have h22 : σ 22 = _ := hn 22 (by decide)
          have h23 : σ 23 = _ := hn 23 (by decide)
          clear hn
          simp only [h18, h22, h23] at hK
          have hWs := hb.size
          have hvl := fun k hk => (HSt.out.own.lt k hk).2
          go_simp
          exact hK _ _ ⟨StrL.new _ [s1, E, T] 3 _ rfl (by decide), fun b e => by cases e; omega, fun b e => by cases e; intro h; have := hvl _ h; omega⟩ ((Below.refl _ _).alloc (Nat.le_refl _) _) (fun h => absurd h (by decide))
      · intro σ W' hb hR' hF
        obtain ⟨⟨b24, h24, hs24⟩, hb24, hv24⟩ : AbsS g v [s1, E, T] (σ 24) W' := hR' 24 (by decide)
        have HB' := Lib.hid (bthen HB.out hb)
        have HD' := Lib.hid (HD.out.keep hb)
        have HSt' := Lib.hid (HSt.out.keep hb)
        have HS24 := Lib.hid hs24
        replace hb24 := hb24 b24 h24
        replace hv24 := hv24 b24 h24
        clear hR' hF hb t0 e1 hw HD HSt HB hs24 c0 c1' c2' f0 f1 f2
        simp only [fill, List.map, Act.put, List.setIfInBounds_toArray, List.set_cons_zero, List.set_cons_succ, List.length_cons, List.length_nil, List.drop_succ_cons, List.drop_zero, Nat.reduceAdd, h24]
        clear h24
        go_wp2_with (go_at_call 18; (with_reducible refine (HK1.out _ _ HB'.out HSt'.out HS24.out hb24 hv24).mono ?_); rintro e w1 ⟨rfl, v1, hS1, hW1⟩)
        go_roundw
        case rel =>
          refine ⟨k + 1, v1, by omega, by go_num, hW1.from HB'.out HSt'.out.le HSt'.out.gep (by have := HSt'.out.le; have := HSt'.out.lt; omega), ?_, HD'.out.went hW1 hne HV.out, ?_⟩
          · rw [if_neg (by omega), HZ.out]; exact hS1
          · intro e
            rcases hW1.own _ e with h | h
            · exact HV.out h
            · have := HD'.out.lt; omega
        case measure => simp [intOf]; omega
    · obtain rfl : k = n := by omega
      rw [HZn.out, HMn.out] at hSt
      obtain ⟨c0, c1, c2, f0, f1, f2, _, _, _⟩ := hSt
      obtain ⟨d0, d1, x0, x1⟩ := hD
      have HB := Lib.hid hB
      clear hB HF HS HZn HMn
      go_wp2
      exact bodyPost_ret (v := .agg #[.string Zn, .int .i64 mn]) (by simp [results, Tryd.results9, go_sem, d0, d1]) rfl ⟨rfl, (HB.out.setCell HG.out _).setCell HG.out _⟩
theorem spabsorb_is (s : ByteArray) (c : Int) (a : Option Addr) (n cap : Nat) (f : Nat → ByteArray) (w : World) (hS : StrA w a n f) (hn : n ≤ 100) (hf : ∀ k, k < n → (f k).size ≤ 10000) (hs : s.size ≤ 10000) (hT : TabB w) :
    Calls Tryd.prog 9 #[spong s c, .slice a n cap] w fun e w' => e = .returned (spong (absL s f n) (if n = 0 then c else 0)) ∧ Below w.heap.size w w' := spabsorb_any _ _ s c a n cap f w hS hn hf hs rfl rfl hT
def SqzG (g : Nat) (s : ByteArray) (c m : Int) (E : ByteArray) (sl : Nat) (v : Value) (W : World) : Prop :=
  match sl with
  | 7 => v = .pointer (some ⟨g, 2, none⟩)
  | 8 => v = .pointer (some ⟨g, 0, none⟩)
  | 9 => v = .pointer (some ⟨g, 0, none⟩)
  | 10 => v = .string s
  | 11 => v = .pointer (some ⟨g, 0, none⟩)
  | 12 => v = .pointer (some ⟨g, 1, none⟩)
  | 13 => v = .int .i64 c
  | 14 => v = .int .u64 m
  | 15 => v = .string E
  | 16 => StrL W v 3 [byte3, s, E]
  | _ => v = .bool true
theorem SqzG.keep {g : Nat} {s : ByteArray} {c m : Int} {E : ByteArray} {sl : Nat} {v : Value} {W W' : World} (h : SqzG g s c m E sl v W) (hb : Below W.heap.size W W') : SqzG g s c m E sl v W' := by
  unfold SqzG at *
  split at h
  all_goals first | exact h | (exact StrL.keep h hb)
/-- While what is squeezed is summed. -/
structure SqW (w : World) (g g2 : Nat) (s : ByteArray) (c : Int) (l : List ByteArray) (Z : ByteArray) (val : Nat → Value) (D : Nat → Bool) (σ : Nat → Value) (W : World) : Prop where
  st : ∃ v, Stp w.heap.size W g s c v (if D 27 = true then [] else l) ∧ v.ownBlock ≠ some g2
  bel : Below w.heap.size w W
  duo : Duo W g2 (.string ⟨#[]⟩) (.int .i64 0)
  z : D 27 = true → σ 27 = .string Z
  sv : ∀ d, d ∈ [24, 25, 26] → D d = true → σ d = val d
theorem SqW.next {w : World} {g g2 : Nat} {s : ByteArray} {c : Int} {l : List ByteArray} {Z : ByteArray} {val : Nat → Value} {D : Nat → Bool} {σ : Nat → Value} {W : World} (h : SqW w g g2 s c l Z val D σ W) {d : Nat} {u : Value} (h0 : d ≠ 27) (hu : u = val d) :
    SqW w g g2 s c l Z val (fun k => if k = d then true else D k) (fun k => if k = d then u else σ k) W := by
  refine ⟨by simpa only [if_neg (Ne.symm h0)] using h.st, h.bel, h.duo, by simpa only [if_neg (Ne.symm h0)] using h.z, fun e he => ?_⟩
  by_cases k : e = d
  · subst k; intro _; simp only [if_pos]; exact hu
  · simp only [if_neg k]; exact h.sv e he
def SqVal (g : Nat) (s : ByteArray) (c : Int) : Nat → Value
  | 24 => .pointer (some ⟨g, 0, none⟩)
  | 25 => .agg #[.string s, .int .i64 c]
  | 26 => .pointer (some ⟨g, 2, none⟩)
  | _ => undef
theorem Stp.count {B : Nat} {W : World} {g : Nat} {s : ByteArray} {c : Int} {v : Value} {l : List ByteArray} (h : Stp B W g s c v l) (c' : Int) : Stp B (W.setCell ⟨g, 1, none⟩ (.int .i64 c')) g s c' v l := by
  obtain ⟨c0, c1, c2, f0, f1, f2, ho, ne, le⟩ := h
  refine ⟨by simp [go_sem, c0], by simp [go_sem, c1], by simp [go_sem, c2], by simp [f0], by simp [f1], by simp [f2], ?_, ne, le⟩
  exact ho.kept (grown_set W g 1 _) (by
    cases hv : v.ownBlock with
    | none => exact .inl rfl
    | some k => exact .inr (by intro e; exact ne (hv.trans e)))
set_option maxHeartbeats 4000000 in
theorem spsqueeze_is (s : ByteArray) (c : Int) (w : World) (hs : s.size ≤ 10000) (hT : TabB w) :
    Calls Tryd.prog 7 #[spong s c] w fun e w' => e = .returned (.tuple #[spong s (IntKind.i64.wrap (c + 1)), .string (sqB s c)]) ∧ Below w.heap.size w w' := by
  have hm : U (IntKind.u64.wrap c) := by unfold U; rw [IntKind.wrap_u64]; exact ⟨Int.emod_nonneg _ (by decide), Int.emod_lt_of_pos _ (by decide)⟩
  have e1 := fun W => geight_is _ hm W
  have hE := eightB_size (IntKind.u64.wrap c)
  have hZ2 : sumB (cat (tx [byte3, s, eightB (IntKind.u64.wrap c)]) 3) = sqB s c := by rw [cat_tx3]; exact sqB_is _ _
  obtain ⟨m, hw⟩ : ∃ m, IntKind.u64.wrap c = m := ⟨_, rfl⟩
  rw [hw] at e1 hZ2 hE
  generalize sqB s c = Z at *
  generalize eightB m = E at *
  obtain ⟨c', hc'⟩ : ∃ c', IntKind.i64.wrap (c + 1) = c' := ⟨_, rfl⟩
  have w64 : wrap64 (c + 1) = c' := (IntWalk.i64_left _).symm.trans hc'
  simp only [hc']
  have HZ2 := Lib.hid hZ2; have HE := Lib.hid hE; have HT := Lib.hid hT
  clear hm hE hZ2 hT
  go_enter Tryd.func7, Tryd.ntmps7
  go_upto_region 2 with fail
  obtain ⟨g0, hg0⟩ : ∃ g, w.heap.size = g := ⟨_, rfl⟩
  obtain ⟨g2, hg2⟩ : ∃ h, g0 + 1 = h := ⟨_, rfl⟩
  obtain ⟨g, hg⟩ : ∃ h, g2 + 1 = h := ⟨_, rfl⟩
  refine wp_gen (fun W => Below w.heap.size w W ∧ Duo W g2 (.string ⟨#[]⟩) (.int .i64 0) ∧ Stp w.heap.size W g s c (.slice none 0 0) []) ⟨(((Below.refl _ _).alloc (Nat.le_refl _) _).alloc (by simp) _).alloc (by simp; omega) _, by rw [← hg2, ← hg0]; simp [Duo, go_sem], ?_⟩ ?_
  · have h := Stp.new ((w.alloc (.cells #[.string s, .int .i64 c] 23)).alloc (.cells #[.string ⟨#[]⟩, .int .i64 0] 23)) w.heap.size (by simp; omega) s c 42
    rw [← hg, ← hg2, ← hg0]
    simpa using h
  rintro W1 ⟨hB, hD, hS1⟩
  simp only [hg0, hg2, hg]
  have hne : g2 ≠ g := by omega
  have hgle2 : w.heap.size ≤ g2 := by omega
  have HG := Lib.hid hgle2
  clear hg0 hg2 hg hgle2
  have HD := Lib.hid hD; have HB := Lib.hid hB; have HSt := Lib.hid hS1
  have hgl := hS1.lt
  have k1 : ∀ (b : Nat) (W : World), Stp w.heap.size W g s c (.slice none 0 0) [] → StrA W (some ⟨b, 0, none⟩) 3 (tx [byte3, s, E]) →
      Calls Tryd.prog 15 #[.pointer (some ⟨g, 2, none⟩), .slice (some ⟨b, 0, none⟩) 3 3] W fun e w' => e = .returned (.tuple #[]) ∧ ∃ v', Stp w.heap.size w' g s c v' [byte3, s, E] ∧ Went g W w' (.slice none 0 0) v' :=
    fun b W hS hr => spwrite_is w.heap.size g s c (.slice none 0 0) [] [byte3, s, E] b 3 W hS hr (by simp)
  have HK1 := Lib.hid k1
  clear hB hD hS1 k1
  obtain ⟨c0, c1, c2, f0, f1, f2, _, _, _⟩ := HSt.out
  refine wp_loose [(7, []), (8, []), (9, [8]), (10, [9]), (11, []), (12, [11]), (13, [12]), (14, [13]), (15, [14]), (16, [10, 15])]
    (SqzG g s c m E) (fun d => false) (by kernel_rfl) (by kernel_rfl) (fun _ _ _ _ h hb => h.keep hb) ?_ ?_
  · refine opsrun_cons ?_ (opsrun_cons ?_ (opsrun_cons ?_ (opsrun_cons ?_ (opsrun_cons ?_ (opsrun_cons ?_ (opsrun_cons ?_ (opsrun_cons ?_ (opsrun_cons ?_ (opsrun_cons ?_ opsrun_nil)))))))))
    all_goals
      refine OpRuns.any ?_
      intro Q0 σ W' K hb hn hK
      simp only [fill, List.map, Act.put, List.setIfInBounds_toArray, List.set_cons_zero, List.set_cons_succ] at hK ⊢
    · clear hn
      go_simp
      exact hK _ _ rfl (Below.refl _ _) (fun h => absurd h (by decide))
    · clear hn
      go_simp
      exact hK _ _ rfl (Below.refl _ _) (fun h => absurd h (by decide))
    · have h8 : σ 8 = _ := hn 8 (by decide)
      clear hn
      simp only [h8] at hK
      go_simp
      exact hK _ _ rfl (Below.refl _ _) (fun h => absurd h (by decide))
    · have h9 : σ 9 = _ := hn 9 (by decide)
      clear hn
      simp only [h9] at hK
      have c0' := bkeep hb c0
      clear c0
      go_simp
      exact hK _ _ rfl (Below.refl _ _) (fun h => absurd h (by decide))
    · clear hn
      go_simp
      exact hK _ _ rfl (Below.refl _ _) (fun h => absurd h (by decide))
    · have h11 : σ 11 = _ := hn 11 (by decide)
      clear hn
      simp only [h11] at hK
      go_simp
      exact hK _ _ rfl (Below.refl _ _) (fun h => absurd h (by decide))
    · have h12 : σ 12 = _ := hn 12 (by decide)
      clear hn
      simp only [h12] at hK
      have c1' := bkeep hb c1
      clear c1
      go_simp
      exact hK _ _ rfl (Below.refl _ _) (fun h => absurd h (by decide))
    · have h13 : σ 13 = _ := hn 13 (by decide)
      clear hn
      simp only [h13] at hK
      go_simp
      exact hK _ _ rfl (Below.refl _ _) (fun h => absurd h (by decide))
    · have h14 : σ 14 = _ := hn 14 (by decide)
      clear hn
      simp only [h14] at hK
      go_simp
      go_at_call 16
      refine (e1 _).mono ?_
      rintro e w1 ⟨rfl, hb1⟩
      exact hK _ _ rfl hb1 (fun h => absurd h (by decide))
    · have h10 : σ 10 = _ := hn 10 (by decide)
      have h15 : σ 15 = _ := hn 15 (by decide)
      clear hn
      simp only [h10, h15] at hK
      go_simp
      exact hK _ _ (StrL.new _ [byte3, s, E] 3 _ rfl (by decide)) ((Below.refl _ _).alloc (Nat.le_refl _) _) (fun h => absurd h (by decide))
  · intro σ W' hb hR' hF
    obtain ⟨b16, h16, hs16⟩ : StrL W' (σ 16) 3 [byte3, s, E] := hR' 16 (by decide)
    have h7 : σ 7 = _ := hR' 7 (by decide)
    have HB' := Lib.hid (bthen HB.out hb)
    have HD' := Lib.hid (HD.out.keep hb)
    have HSt' := Lib.hid (HSt.out.keep hb)
    have HS16 := Lib.hid hs16
    clear hR' hF hb e1 hw HD HSt HB hs16 c0 c1 c2 f0 f1 f2
    simp only [fill, List.map, Act.put, List.setIfInBounds_toArray, List.set_cons_zero, List.set_cons_succ, List.length_cons, List.length_nil, List.drop_succ_cons, List.drop_zero, Nat.reduceAdd, h16, h7]
    clear h16 h7
    go_upto_region 3 with (go_at_call 15; (with_reducible refine (HK1.out _ _ HSt'.out HS16.out).mono ?_); rintro e w1 ⟨rfl, v1, hS1, hW1⟩)
    have HD2 := Lib.hid (HD'.out.went hW1 hne (by simp [Value.ownBlock]))
    have HB2 := Lib.hid (hW1.from HB'.out HSt'.out.le HSt'.out.gep (by have := HSt'.out.le; have := HSt'.out.lt; omega))
    have hv1 : v1.ownBlock ≠ some g2 := by
      intro e
      rcases hW1.own _ e with h | h
      · simp [Value.ownBlock] at h
      · have := HD'.out.lt; omega
    obtain ⟨c0, c1, c2, f0, f1, f2, _, _, _⟩ := id hS1
    have HS2 := Lib.hid (hS1.count c')
    have hgle : w.heap.size ≤ g := hS1.le
    clear hW1 HB' HD' HSt' HS16 HK1 hS1
    go_upto_region 4 with fail
    refine wp_gen (SqW w g g2 s c' [byte3, s, E] Z (SqVal g s c') (fun _ => false) σ) ⟨⟨v1, HS2.out, hv1⟩, HB2.out.setCell hgle _, HD2.out.far (Ne.symm hne) _ _, fun h => absurd h Bool.false_ne_true, fun _ _ h => absurd h Bool.false_ne_true⟩ ?_
    clear c0 c1 c2 f0 f1 f2 HS2 HB2 HD2 hv1
    intro W2 hW2
    have hW2' : ∀ τ, SqW w g g2 s c' [byte3, s, E] Z (SqVal g s c') (fun _ => false) τ { W2 with drawn := W2.drawn + 1 } := fun τ => by
      obtain ⟨⟨v, hS, hv⟩, hB, hD, _, _⟩ := hW2
      have hdw := (Below.refl W2.heap.size W2).drew
      exact ⟨⟨v, hS.keep hdw, hv⟩, bthen hB hdw, hD.keep hdw, fun h => absurd h Bool.false_ne_true, fun _ _ h => absurd h Bool.false_ne_true⟩
    clear hW2
    refine wp_lay [(24, []), (25, [24]), (26, []), (27, [26])] (SqW w g g2 s c' [byte3, s, E] Z (SqVal g s c')) (by kernel_rfl) (by kernel_rfl) hW2' ?_ ?_
    · refine opsw_cons ?_ (opsw_cons ?_ (opsw_cons ?_ (opsw_cons ?_ opsw_nil)))
      all_goals
        refine OpRunsW.any ?_
        intro Q0 D σ' W K hW hd hn hK
        simp only [fill, List.map, Act.put, List.setIfInBounds_toArray, List.set_cons_zero, List.set_cons_succ] at hK ⊢
      · have HW := Lib.hid hW
        clear hW
        go_simp
        exact hK _ _ (HW.out.next (by decide) rfl)
      · have h24 : σ' 24 = _ := hW.sv 24 (by decide) (hn 24 (by decide))
        unfold SqVal at h24
        simp only [h24] at hK
        obtain ⟨v, hS, hv⟩ := hW.st
        obtain ⟨c0, c1, c2, f0, f1, f2, _, _, _⟩ := hS
        have HW := Lib.hid hW
        clear hW
        go_simp
        exact hK _ _ (HW.out.next (by decide) rfl)
      · have HW := Lib.hid hW
        clear hW
        go_simp
        exact hK _ _ (HW.out.next (by decide) rfl)
      · have h26 : σ' 26 = _ := hW.sv 26 (by decide) (hn 26 (by decide))
        unfold SqVal at h26
        simp only [h26] at hK
        obtain ⟨v, hS, hv⟩ := hW.st
        rw [hd] at hS
        simp only [Bool.false_eq_true, if_false] at hS
        have HW := Lib.hid hW; have HS := Lib.hid hS; have HV := Lib.hid hv
        clear hW hS hv
        go_simp
        go_at_call 17
        refine (spend_is g s c' v [byte3, s, E] Z w W HT.out HW.out.bel HS.out (by simp) (by simp) HZ2.out (lens_tx3 byte3 s E (by have := HE.out; show 1 + _ + _ ≤ _; omega))).mono ?_
        rintro e w3 ⟨rfl, v3, hS3, hW3⟩
        refine hK _ _ ⟨⟨v3, by simpa using hS3, ?_⟩, hW3.from HW.out.bel HS.out.le HS.out.gep (by have := HS.out.le; have := HS.out.lt; omega), HW.out.duo.went hW3 hne HV.out, fun _ => by simp, fun e he => ?_⟩
        · intro e
          rcases hW3.own _ e with h | h
          · exact HV.out h
          · have := HW.out.duo.lt; omega
        · have ce : e ≠ 27 := by intro ce; subst ce; revert he; decide
          simp only [if_neg ce]; exact HW.out.sv e he
    · intro D σ' W hW hD
      have h25 : σ' 25 = _ := hW.sv 25 (by decide) (hD 25 (by decide))
      have h27 := hW.z (hD 27 (by decide))
      unfold SqVal at h25
      obtain ⟨d0, d1, x0, x1⟩ := hW.duo
      have HB := Lib.hid hW.bel
      clear hW hD hW2'
      simp only [fill, List.map, Act.put, List.setIfInBounds_toArray, List.set_cons_zero, List.set_cons_succ, List.length_cons, List.length_nil, List.drop_succ_cons, List.drop_zero, Nat.reduceAdd, h25, h27]
      clear h25 h27
      go_wp2
      exact bodyPost_ret (v := .tuple #[.agg #[.string s, .int .i64 c'], .string Z]) (by simp [results, Tryd.results7, go_sem, d0, d1]) rfl ⟨rfl, (HB.out.setCell HG.out _).setCell HG.out _⟩
theorem ask12 : AskSponge TabB where
  keep := fun h hb => h.keep hb
  new := fun l W hl hT => spnew_is l W hl hT
  absorb := fun s c a n cap f W hS _ _ _ hn hf hs hT => spabsorb_is s c a n cap f W hS hn hf hs hT
  squeeze := fun s c W hs _ hT => spsqueeze_is s c W hs hT
end Go.Proofs.YtbfbfpanhonieaaDoor
