/-
  The walk of BlakeSums: it answers true, where the program's calls do what is asked of them. (Written by gen_blaws2.py.)
-/
import Derived.Test.YtajjfonodfncmaaDoorBAsk
import Derived.Test.YtajjfonodfncmaaDoorBSum
namespace Go.Proofs.YtajjfonodfncmaaDoor
open Go Go.RowKit
set_option linter.unusedVariables false

def lf (l : List ByteArray) : Nat → ByteArray := fun j => l.getD j ⟨#[]⟩
/-- A slice of such texts. -/
def IsS (W : World) (v : Value) (n : Nat) (l : List ByteArray) : Prop := ∃ (a : Option Addr) (c : Nat), v = .slice a n c ∧ StrA W a n (lf l)
theorem IsS.keep {W W' : World} {v : Value} {n : Nat} {l : List ByteArray} (h : IsS W v n l) (hb : Below W.heap.size W W') : IsS W' v n l := by
  obtain ⟨a, c, h1, h2⟩ := h
  exact ⟨a, c, h1, h2.keep hb⟩
theorem IsS.one (W : World) (s : ByteArray) (t : TypeId) : IsS (W.alloc (.cells #[.string s] t)) (.slice (some ⟨W.heap.size, 0, none⟩) 1 1) 1 [s] :=
  ⟨_, _, rfl, str_lit W _ t 1 _ (by unfold maxLen; omega) fun j hj => by
    have : j = 0 := by omega
    subst this; rfl⟩
theorem IsS.three (W : World) (s0 s1 s2 : ByteArray) (t : TypeId) : IsS (W.alloc (.cells #[.string s0, .string s1, .string s2] t)) (.slice (some ⟨W.heap.size, 0, none⟩) 3 3) 3 [s0, s1, s2] :=
  ⟨_, _, rfl, str_lit W _ t 3 _ (by unfold maxLen; omega) fun j hj => by
    have : j = 0 ∨ j = 1 ∨ j = 2 := by omega
    rcases this with rfl | rfl | rfl <;> rfl⟩
theorem ext_three (s : ByteArray) (x y : Nat) (h1 : x ≤ y) (h2 : y ≤ s.size) : s.extract 0 x ++ s.extract x y ++ s.extract y s.size = s := by
  apply ByteArray.ext
  apply Array.toList_inj.1
  simp only [ByteArray.data_append, ByteArray.data_extract, Array.toList_append, Array.toList_extract, List.extract_eq_drop_take', List.drop_zero]
  rw [List.append_assoc]
  have e1 : List.take s.size s.data.toList = s.data.toList := List.take_of_length_le (by simp)
  rw [e1]
  have e2 : List.drop x (List.take y s.data.toList) ++ List.drop y s.data.toList = List.drop x s.data.toList := by
    have : List.drop y s.data.toList = List.drop (y - x) (List.drop x s.data.toList) := by rw [List.drop_drop]; congr 1; omega
    rw [this, List.drop_take, List.take_append_drop]
  rw [e2, List.take_append_drop]
theorem mod_in (i m : Int) (h0 : 0 ≤ i) (hm : 0 < m) : ∃ n : Nat, Int.tmod i m = (n : Int) ∧ (n : Int) < m := by
  refine ⟨(Int.tmod i m).toNat, ?_, ?_⟩
  · have := Int.tmod_nonneg m h0; omega
  · have := Int.tmod_lt_of_pos i hm
    have := Int.tmod_nonneg m h0; omega
def BSumsR (s z t0 t1 t2 : ByteArray) (x y : Int) (sl : Nat) (v : Value) (W : World) : Prop :=
  match sl with
  | 31 => v = .string s
  | 34 => v = .string s
  | 40 => v = .string s
  | 43 => v = .string s
  | 47 => v = .string s
  | 52 => v = .string s
  | 32 => IsS W v 1 [s]
  | 35 => IsS W v 1 [s]
  | 53 => IsS W v 1 [s]
  | 33 => v = .string z
  | 36 => v = .string z
  | 51 => v = .string z
  | 54 => v = .string z
  | 41 => v = .int .i64 x
  | 44 => v = .int .i64 x
  | 45 => v = .int .i64 y
  | 48 => v = .int .i64 y
  | 42 => v = .string t0
  | 46 => v = .string t1
  | 49 => v = .string t2
  | 50 => IsS W v 3 [t0, t1, t2]
  | _ => v = .bool true
theorem BSumsR.keep {s z t0 t1 t2 : ByteArray} {x y : Int} {sl : Nat} {v : Value} {W W' : World} (h : BSumsR s z t0 t1 t2 x y sl v W) (hb : Below W.heap.size W W') : BSumsR s z t0 t1 t2 x y sl v W' := by
  unfold BSumsR at *
  split at h
  all_goals first | exact h | exact IsS.keep h hb

set_option maxRecDepth 100000 in
set_option maxHeartbeats 8000000 in
theorem bsums_body (G : World → Prop) (hA : AskBlake G) (s : ByteArray) (i j : Int) (hi : 0 ≤ i ∧ i ≤ 65535) (hj : 0 ≤ j ∧ j ≤ 65535) (w : World) (hG : G w) (hsm : s.size ≤ maxLen) :
    Calls Tryd.prog 3 #[.string s, .int .u16 i, .int .u16 j] w fun e w' => e = .returned (.bool true) ∧ Below w.heap.size w w' := by
  have aw := bawake G hA
  have HK := Lib.hid (fun (W W' : World) => @AskBlake.keep G hA W W')
  have HG := Lib.hid hG
  have hsm2 : (s.size : Int) ≤ 9223372036854775807 := by unfold maxLen at hsm; omega
  have hB := Below.refl w.heap.size w
  clear hsm
  by_cases hl : s.size ≤ 3000
  · have hl' : (s.size : Int) ≤ 3000 := by omega
    obtain ⟨z, hz⟩ : ∃ z, sumB s = z := ⟨_, rfl⟩
    obtain ⟨x, hx, hxl⟩ := mod_in i ((s.size : Int) + 1) hi.1 (by omega)
    obtain ⟨d, hd, hdl⟩ := mod_in j ((s.size : Int) - (x : Int) + 1) hj.1 (by omega)
    obtain ⟨t0, ht0⟩ : ∃ t, s.extract 0 x = t := ⟨_, rfl⟩
    obtain ⟨t1, ht1⟩ : ∃ t, s.extract x (x + d) = t := ⟨_, rfl⟩
    obtain ⟨t2, ht2⟩ : ∃ t, s.extract (x + d) s.size = t := ⟨_, rfl⟩
    have h3 : t0 ++ t1 ++ t2 = s := by rw [← ht0, ← ht1, ← ht2]; exact ext_three s x (x + d) (by omega) (by omega)
    have z0 : t0.size ≤ 3000 := by rw [← ht0, ByteArray.size_extract]; omega
    have z1 : t1.size ≤ 3000 := by rw [← ht1, ByteArray.size_extract]; omega
    have z2 : t2.size ≤ 3000 := by rw [← ht2, ByteArray.size_extract]; omega
    have c1 : cat (lf [s]) 1 = s := by rw [cat_one]; rfl
    have c3 : cat (lf [t0, t1, t2]) 3 = s := by rw [cat_three]; exact h3
    have k1 := fun a c W (h : StrA W a 1 (lf [s])) (hg : G W) => hA.sum a 1 c (lf [s]) W h (by show 0 + s.size ≤ _; omega) hg
    have k3 := fun a c W (h : StrA W a 3 (lf [t0, t1, t2])) (hg : G W) => hA.sum a 3 c (lf [t0, t1, t2]) W h (by show 0 + t0.size + t1.size + t2.size ≤ _; omega) hg
    have r1 := fun a c W (h : StrA W a 1 (lf [s])) => rsum_is a 1 c (lf [s]) W h (by show 0 + s.size ≤ _; omega)
    rw [c1, hz] at k1 r1
    rw [c3, hz] at k3
    have HT0 := Lib.hid ht0; have HT1 := Lib.hid ht1; have HT2 := Lib.hid ht2
    clear hA hG hz ht0 ht1 ht2 h3 z0 z1 z2 c1 c3
    obtain ⟨hi0, hi1⟩ := hi
    obtain ⟨hj0, hj1⟩ := hj
    have hy : (x : Int) + (d : Int) ≤ (s.size : Int) := by omega
    go_enter Tryd.func3, Tryd.ntmps3
    go_upto_region 5 with fail
    have hdec : decide ((3000 : Int) < (s.size : Int)) = false := by simp; omega
    obtain ⟨y, hyn⟩ : ∃ y : Nat, x + d = y := ⟨_, rfl⟩
    have hyy : (x : Int) + (d : Int) = (y : Int) := by omega
    simp only [hdec, hyy]
    rw [hyn] at HT1 HT2
    have hx0 : (x : Int) ≤ (y : Int) := by omega
    have hy0 : (y : Int) ≤ (s.size : Int) := by omega
    have hx1 : (x : Int) ≤ (s.size : Int) := by omega
    clear hdec hyy hyn hx hd hxl hdl hy
    refine wp_loose [(29, []), (30, [29]), (31, [30]), (32, [30, 31]), (33, [30, 32]), (34, [30]), (35, [30, 34]), (36, [30, 35]), (37, [30, 33, 36]), (38, [30, 37]), (39, [38]), (40, [39]), (41, [39]), (42, [39, 40, 41]), (43, [39]), (44, [39]), (45, [39]), (46, [39, 43, 44, 45]), (47, [39]), (48, [39]), (49, [39, 47, 48]), (50, [39, 42, 46, 49]), (51, [39, 50]), (52, [39]), (53, [39, 52]), (54, [39, 53]), (55, [39, 51, 54]), (56, [39, 55]), (6, [56])]
      (BSumsR s z t0 t1 t2 x y) (fun d => false) (by kernel_rfl) (by kernel_rfl) (fun _ _ _ _ h hb => h.keep hb) ?_ ?_
    · refine opsrun_cons ?_ (opsrun_cons ?_ (opsrun_cons ?_ (opsrun_cons ?_ (opsrun_cons ?_ (opsrun_cons ?_ (opsrun_cons ?_ (opsrun_cons ?_ (opsrun_cons ?_ (opsrun_cons ?_ (opsrun_cons ?_ (opsrun_cons ?_ (opsrun_cons ?_ (opsrun_cons ?_ (opsrun_cons ?_ (opsrun_cons ?_ (opsrun_cons ?_ (opsrun_cons ?_ (opsrun_cons ?_ (opsrun_cons ?_ (opsrun_cons ?_ (opsrun_cons ?_ (opsrun_cons ?_ (opsrun_cons ?_ (opsrun_cons ?_ (opsrun_cons ?_ (opsrun_cons ?_ (opsrun_cons ?_ (opsrun_cons ?_ opsrun_nil))))))))))))))))))))))))))))
      all_goals
        refine OpRuns.any ?_
        intro Q0 σ W' K hb hn hK
        simp only [fill, List.map, Act.put, List.setIfInBounds_toArray, List.set_cons_zero, List.set_cons_succ] at hK ⊢
      · clear hn
        go_simp
        go_at_call 6
        refine (aw _ (HK.out _ _ HG.out hb)).mono ?_
        rintro e w1 ⟨rfl, hb1⟩
        exact hK _ _ rfl hb1 (fun h => absurd h (by decide))
      · have h29 : σ 29 = _ := hn 29 (by decide)
        clear hn
        simp only [h29] at hK
        go_simp
        exact hK _ _ rfl (Below.refl _ _) (fun h => absurd h (by decide))
      · have h30 : σ 30 = _ := hn 30 (by decide)
        clear hn
        simp only [h30] at hK
        go_simp
        exact hK _ _ rfl (Below.refl _ _) (fun h => absurd h (by decide))
      · have h30 : σ 30 = _ := hn 30 (by decide)
        have h31 : σ 31 = _ := hn 31 (by decide)
        clear hn
        simp only [h30, h31] at hK
        go_simp
        exact hK _ _ (IsS.one _ _ _) ((Below.refl _ _).alloc (Nat.le_refl _) _) (fun h => absurd h (by decide))
      · have h30 : σ 30 = _ := hn 30 (by decide)
        have p32 : IsS W' (σ 32) 1 [s] := hn 32 (by decide)
        clear hn
        simp only [h30] at hK
        obtain ⟨a, c, h32, hs⟩ := p32
        simp only [h32] at hK
        go_simp
        go_at_call 7
        refine (k1 a c _ hs (HK.out _ _ HG.out hb)).mono ?_
        rintro e w1 ⟨rfl, hb1⟩
        exact hK _ _ rfl hb1 (fun h => absurd h (by decide))
      · have h30 : σ 30 = _ := hn 30 (by decide)
        clear hn
        simp only [h30] at hK
        go_simp
        exact hK _ _ rfl (Below.refl _ _) (fun h => absurd h (by decide))
      · have h30 : σ 30 = _ := hn 30 (by decide)
        have h34 : σ 34 = _ := hn 34 (by decide)
        clear hn
        simp only [h30, h34] at hK
        go_simp
        exact hK _ _ (IsS.one _ _ _) ((Below.refl _ _).alloc (Nat.le_refl _) _) (fun h => absurd h (by decide))
      · have h30 : σ 30 = _ := hn 30 (by decide)
        have p35 : IsS W' (σ 35) 1 [s] := hn 35 (by decide)
        clear hn
        simp only [h30] at hK
        obtain ⟨a, c, h35, hs⟩ := p35
        simp only [h35] at hK
        go_simp
        go_at_call 8
        refine (r1 a c _ hs).mono ?_
        rintro e w1 ⟨rfl, hb1⟩
        exact hK _ _ rfl hb1 (fun h => absurd h (by decide))
      · have h30 : σ 30 = _ := hn 30 (by decide)
        have h33 : σ 33 = _ := hn 33 (by decide)
        have h36 : σ 36 = _ := hn 36 (by decide)
        clear hn
        simp only [h30, h33, h36] at hK
        go_simp
        exact hK _ _ rfl (Below.refl _ _) (fun h => absurd h (by decide))
      · have h30 : σ 30 = _ := hn 30 (by decide)
        have h37 : σ 37 = _ := hn 37 (by decide)
        clear hn
        simp only [h30, h37] at hK
        go_simp
        exact hK _ _ rfl (Below.refl _ _) (fun h => absurd h (by decide))
      · have h38 : σ 38 = _ := hn 38 (by decide)
        clear hn
        simp only [h38] at hK
        go_simp
        exact hK _ _ rfl (Below.refl _ _) (fun h => absurd h (by decide))
      · have h39 : σ 39 = _ := hn 39 (by decide)
        clear hn
        simp only [h39] at hK
        go_simp
        exact hK _ _ rfl (Below.refl _ _) (fun h => absurd h (by decide))
      · have h39 : σ 39 = _ := hn 39 (by decide)
        clear hn
        simp only [h39] at hK
        go_simp
        exact hK _ _ rfl (Below.refl _ _) (fun h => absurd h (by decide))
      · have h39 : σ 39 = _ := hn 39 (by decide)
        have h40 : σ 40 = _ := hn 40 (by decide)
        have h41 : σ 41 = _ := hn 41 (by decide)
        clear hn
        simp only [h39, h40, h41] at hK
        go_simp
        exact hK _ _ (congrArg Value.string HT0.out) (Below.refl _ _) (fun h => absurd h (by decide))
      · have h39 : σ 39 = _ := hn 39 (by decide)
        clear hn
        simp only [h39] at hK
        go_simp
        exact hK _ _ rfl (Below.refl _ _) (fun h => absurd h (by decide))
      · have h39 : σ 39 = _ := hn 39 (by decide)
        clear hn
        simp only [h39] at hK
        go_simp
        exact hK _ _ rfl (Below.refl _ _) (fun h => absurd h (by decide))
      · have h39 : σ 39 = _ := hn 39 (by decide)
        clear hn
        simp only [h39] at hK
        go_simp
        exact hK _ _ rfl (Below.refl _ _) (fun h => absurd h (by decide))
      · have h39 : σ 39 = _ := hn 39 (by decide)
        have h43 : σ 43 = _ := hn 43 (by decide)
        have h44 : σ 44 = _ := hn 44 (by decide)
        have h45 : σ 45 = _ := hn 45 (by decide)
        clear hn
        simp only [h39, h43, h44, h45] at hK
        go_simp
        exact hK _ _ (congrArg Value.string HT1.out) (Below.refl _ _) (fun h => absurd h (by decide))
      · have h39 : σ 39 = _ := hn 39 (by decide)
        clear hn
        simp only [h39] at hK
        go_simp
        exact hK _ _ rfl (Below.refl _ _) (fun h => absurd h (by decide))
      · have h39 : σ 39 = _ := hn 39 (by decide)
        clear hn
        simp only [h39] at hK
        go_simp
        exact hK _ _ rfl (Below.refl _ _) (fun h => absurd h (by decide))
      · have h39 : σ 39 = _ := hn 39 (by decide)
        have h47 : σ 47 = _ := hn 47 (by decide)
        have h48 : σ 48 = _ := hn 48 (by decide)
        clear hn
        simp only [h39, h47, h48] at hK
        go_simp
        exact hK _ _ (congrArg Value.string HT2.out) (Below.refl _ _) (fun h => absurd h (by decide))
      · have h39 : σ 39 = _ := hn 39 (by decide)
        have h42 : σ 42 = _ := hn 42 (by decide)
        have h46 : σ 46 = _ := hn 46 (by decide)
        have h49 : σ 49 = _ := hn 49 (by decide)
        clear hn
        simp only [h39, h42, h46, h49] at hK
        go_simp
        exact hK _ _ (IsS.three _ _ _ _ _) ((Below.refl _ _).alloc (Nat.le_refl _) _) (fun h => absurd h (by decide))
      · have h39 : σ 39 = _ := hn 39 (by decide)
        have p50 : IsS W' (σ 50) 3 [t0, t1, t2] := hn 50 (by decide)
        clear hn
        simp only [h39] at hK
        obtain ⟨a, c, h50, hs⟩ := p50
        simp only [h50] at hK
        go_simp
        go_at_call 7
        refine (k3 a c _ hs (HK.out _ _ HG.out hb)).mono ?_
        rintro e w1 ⟨rfl, hb1⟩
        exact hK _ _ rfl hb1 (fun h => absurd h (by decide))
      · have h39 : σ 39 = _ := hn 39 (by decide)
        clear hn
        simp only [h39] at hK
        go_simp
        exact hK _ _ rfl (Below.refl _ _) (fun h => absurd h (by decide))
      · have h39 : σ 39 = _ := hn 39 (by decide)
        have h52 : σ 52 = _ := hn 52 (by decide)
        clear hn
        simp only [h39, h52] at hK
        go_simp
        exact hK _ _ (IsS.one _ _ _) ((Below.refl _ _).alloc (Nat.le_refl _) _) (fun h => absurd h (by decide))
      · have h39 : σ 39 = _ := hn 39 (by decide)
        have p53 : IsS W' (σ 53) 1 [s] := hn 53 (by decide)
        clear hn
        simp only [h39] at hK
        obtain ⟨a, c, h53, hs⟩ := p53
        simp only [h53] at hK
        go_simp
        go_at_call 7
        refine (k1 a c _ hs (HK.out _ _ HG.out hb)).mono ?_
        rintro e w1 ⟨rfl, hb1⟩
        exact hK _ _ rfl hb1 (fun h => absurd h (by decide))
      · have h39 : σ 39 = _ := hn 39 (by decide)
        have h51 : σ 51 = _ := hn 51 (by decide)
        have h54 : σ 54 = _ := hn 54 (by decide)
        clear hn
        simp only [h39, h51, h54] at hK
        go_simp
        exact hK _ _ rfl (Below.refl _ _) (fun h => absurd h (by decide))
      · have h39 : σ 39 = _ := hn 39 (by decide)
        have h55 : σ 55 = _ := hn 55 (by decide)
        clear hn
        simp only [h39, h55] at hK
        go_simp
        exact hK _ _ rfl (Below.refl _ _) (fun h => absurd h (by decide))
      · have h56 : σ 56 = _ := hn 56 (by decide)
        clear hn
        simp only [h56] at hK
        go_simp
        exact hK _ _ rfl (Below.refl _ _) (fun h => absurd h (by decide))
    · intro σ W' hb hR' hF
      have h6 : σ 6 = _ := hR' 6 (by decide)
      clear hR' hF
      simp only [fill, List.map, Act.put, List.setIfInBounds_toArray, List.set_cons_zero, List.set_cons_succ, List.length_cons, List.length_nil, List.drop_succ_cons, List.drop_zero, Nat.reduceAdd, h6]
      clear h6
      go_wp2_with fail
      go_ret
      exact ⟨rfl, hb⟩
  · have hl' : 3000 < (s.size : Int) := by omega
    clear hA
    go_enter Tryd.func3, Tryd.ntmps3
    go_wp2_with (go_at_call 6; ((with_reducible refine (aw _ HG.out).mono ?_); rintro e w1 ⟨rfl, hb⟩; replace hB := bthen hB hb; clear hb))
    go_ret
    exact ⟨rfl, hB⟩
end Go.Proofs.YtajjfonodfncmaaDoor
