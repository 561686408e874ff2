/-
  The awake of layer 11's law. (Written by gen_cawake.py.)
-/
import Derived.Test.YtfnmlegikcogoaaDoorClashLem
import Derived.Test.YtfnmlegikcogoaaDoorClashRef
import Derived.Test.YtfnmlegikcogoaaDoorGTree
import Derived.Test.YtfnmlegikcogoaaDoorGNum
namespace Go.Proofs.YtfnmlegikcogoaaDoor
open Go Go.RowKit Go.Sort Go.BigFrame
set_option linter.unusedVariables false

theorem cu12 : ∀ x ∈ ([1, 2] : List Int), U x := by intro x hx; simp at hx; unfold U; omega
theorem cu1 : ∀ x ∈ ([1] : List Int), U x := by intro x hx; simp at hx; subst hx; unfold U; omega
theorem cu2 : ∀ x ∈ ([2] : List Int), U x := by intro x hx; simp at hx; subst hx; unfold U; omega
abbrev litP : ByteArray := ⟨#[112]⟩
def abcF (j : Nat) : ByteArray := if j = 0 then ⟨#[97]⟩ else if j = 1 then ⟨#[98]⟩ else ⟨#[99]⟩
def xycF (j : Nat) : ByteArray := if j = 0 then ⟨#[120]⟩ else if j = 1 then ⟨#[121]⟩ else ⟨#[99]⟩
theorem un_3 : unlikeB abcF xycF 3 3 = (⟨#[98]⟩, ⟨#[121]⟩, true) := by decide +kernel
theorem un_1 : unlikeB (fun _ => (⟨#[97]⟩ : ByteArray)) (fun _ => ⟨#[97]⟩) 1 1 = (⟨#[]⟩, ⟨#[]⟩, false) := by decide +kernel
theorem lit_strs (W : World) (cs : Array Value) (t : TypeId) (n : Nat) (F : Nat → ByteArray) (hn : n ≤ 100) (h : ∀ j, j < n → cs[j]? = some (.string (F j))) : StrS (W.alloc (.cells cs t)) (some ⟨W.heap.size, 0, none⟩) n n F :=
  ⟨str_lit W cs t n _ (by unfold maxLen; omega) h, Nat.le_refl _, by unfold maxLen; omega, fun h => by cases h⟩
theorem abc_lit (W : World) (t : TypeId) : StrS (W.alloc (.cells #[.string ⟨#[97]⟩, .string ⟨#[98]⟩, .string ⟨#[99]⟩] t)) (some ⟨W.heap.size, 0, none⟩) 3 3 abcF := lit_strs W _ t 3 _ (by decide) fun j hj => by
  have : j = 0 ∨ j = 1 ∨ j = 2 := by omega
  rcases this with rfl | rfl | rfl <;> rfl
theorem xyc_lit (W : World) (t : TypeId) : StrS (W.alloc (.cells #[.string ⟨#[120]⟩, .string ⟨#[121]⟩, .string ⟨#[99]⟩] t)) (some ⟨W.heap.size, 0, none⟩) 3 3 xycF := lit_strs W _ t 3 _ (by decide) fun j hj => by
  have : j = 0 ∨ j = 1 ∨ j = 2 := by omega
  rcases this with rfl | rfl | rfl <;> rfl
theorem one_strs (W : World) (s : ByteArray) (t : TypeId) : StrS (W.alloc (.cells #[.string s] t)) (some ⟨W.heap.size, 0, none⟩) 1 1 (fun _ => s) := lit_strs W _ t 1 _ (by decide) fun j hj => by
  have : j = 0 := by omega
  subst this
  rfl
theorem below_two {W W' : World} {o o' : Obj} (h : Below (W.heap.size + 1 + 1) ((W.alloc o).alloc o') W') : Below W.heap.size W W' := bthen (((Below.refl _ _).alloc (Nat.le_refl _) o).alloc (by simp) o') (by simpa using h)
theorem below_one {W W' : World} {o : Obj} (h : Below (W.heap.size + 1) (W.alloc o) W') : Below W.heap.size W W' := bthen ((Below.refl _ _).alloc (Nat.le_refl _) o) (by simpa using h)
theorem no_strs (W : World) (g : Nat → ByteArray) : StrS W none 0 0 g := ⟨⟨by unfold maxLen; omega, fun k hk => by omega⟩, by omega, by unfold maxLen; omega, fun _ => ⟨rfl, rfl⟩⟩
theorem ext_none (g h : Nat → ByteArray) : extractB (leafB (openB [1] [])) 0 0 (openB [1] []) g 0 (openB [2] []) h 0 = (⟨#[]⟩, ⟨#[]⟩, false) := by
  unfold extractB
  rw [if_neg]
  rintro ⟨_, h2, _⟩
  have := (of_decide_eq_true h2).2.2.2.2.2.2
  have e : leafB (openB [2] []) = leafB (openB [1] []) := this
  rw [openB_nil, openB_nil, leaf_1, leaf_2] at e
  exact absurd e (by decide +kernel)
def CAwR (ga gb gp gr fr cr : Nat) (s σ0 : ByteArray) (sl : Nat) (v : Value) (W : World) : Prop :=
  match sl with
  | 43 => v = .slice (some ⟨gr, fr, none⟩) 2 cr
  | 44 => v = .int .i64 2
  | 47 => v = .slice (some ⟨gr, fr, none⟩) 2 cr
  | 48 => v = .pointer (some ⟨gr, fr, none⟩)
  | 49 => v = .string (byte0 ++ s)
  | 50 => v = .agg #[.slice (some ⟨gb, 0, none⟩) 2 2, .slice none 0 0, .slice (some ⟨gp, 0, none⟩) 1 1]
  | 51 => v = .string s
  | 52 => v = .string (byte0 ++ s)
  | 56 => v = .slice (some ⟨gr, fr, none⟩) 2 cr
  | 57 => v = .pointer (some ⟨gr, fr + 1, none⟩)
  | 58 => v = .string (⟨#[1, 112]⟩ ++ σ0)
  | 59 => v = .agg #[.slice (some ⟨gb, 0, none⟩) 2 2, .slice none 0 0, .slice (some ⟨gp, 0, none⟩) 1 1]
  | 60 => v = .string σ0
  | 61 => v = .string (⟨#[1, 112]⟩ ++ σ0)
  | 68 => v = .string ⟨#[98]⟩
  | 72 => v = .string ⟨#[121]⟩
  | 76 => v = .bool false
  | 80 => v = .bool false
  | _ => v = .bool true
theorem CAwR.keep {ga gb gp gr fr cr : Nat} {s σ0 : ByteArray} {sl : Nat} {v : Value} {W W' : World} (h : CAwR ga gb gp gr fr cr s σ0 sl v W) (hb : Below W.heap.size W W') : CAwR ga gb gp gr fr cr s σ0 sl v W' := by
  unfold CAwR at *
  split at h
  all_goals first | exact h
set_option maxRecDepth 100000 in
set_option maxHeartbeats 8000000 in
theorem cawake (G : World → Prop) (hA : AskClash G) (w : World) (hG0 : G w) : Calls Tryd.prog 9 #[] w fun e w' => e = .returned (.bool true) ∧ Below w.heap.size w w' := by
  have HK := Lib.hid (fun (W W' : World) => @AskClash.keep G hA W W')
  have HG0 := Lib.hid hG0
  have HA := Lib.hid hA
  clear hA hG0
  have hT1 : trailT (openB [1, 2] []) 1 (fun _ => litP) 1 = (⟨#[1, 112]⟩ : ByteArray) ++ leafB (openB [1, 2] []) := by
    show (if (1 : Int).tmod 2 = 0 then _ else _) = _
    rw [if_neg (by decide), show byte1 ++ litP = (⟨#[1, 112]⟩ : ByteArray) by decide +kernel]
    rfl
  have hT0 : trailT (openB [1, 2] []) 1 (fun _ => litP) 0 = byte0 ++ openB [1, 2] [] := rfl
  have kt := fun (gb gp : Nat) (W : World) (hr : RowA W (some ⟨gb, 0, none⟩) 2 [1, 2]) => rltext_is (some ⟨gb, 0, none⟩) 2 2 [1, 2] none 0 0 [] (.slice (some ⟨gp, 0, none⟩) 1 1) W hr cu12 (nil_qrow _) uqnil (by decide) (by decide)
  have ko := fun (gb gp : Nat) (W : World) (hr : RowA W (some ⟨gb, 0, none⟩) 2 [1, 2]) => rlof_is (some ⟨gb, 0, none⟩) 2 2 [1, 2] none 0 0 [] (.slice (some ⟨gp, 0, none⟩) 1 1) W hr cu12 (nil_qrow _) uqnil (by decide) (by decide)
  have k1 := fun (gb gp : Nat) (W : World) (hr : RowA W (some ⟨gb, 0, none⟩) 2 [1, 2]) (hp : StrS W (some ⟨gp, 0, none⟩) 1 1 (fun _ => litP)) (hg : G W) => HA.out.trail 1 (some ⟨gb, 0, none⟩) 2 2 [1, 2] none 0 0 [] (some ⟨gp, 0, none⟩) 1 1 (fun _ => litP) W hr cu12 (nil_qrow _) uqnil (by decide) (by decide) hp (by decide) (fun _ _ => by decide) (by omega) hg
  have hs1 := openB_size [1, 2] [] (by decide) (by decide)
  have hs2 := leafB_size (openB [1, 2] [])
  have k2 := fun (W : World) (t t' : TypeId) (hg : G ((W.alloc (.cells #[.string ⟨#[97]⟩, .string ⟨#[98]⟩, .string ⟨#[99]⟩] t)).alloc (.cells #[.string ⟨#[120]⟩, .string ⟨#[121]⟩, .string ⟨#[99]⟩] t'))) => HA.out.unlike (some ⟨W.heap.size, 0, none⟩) 3 3 abcF (some ⟨(W.alloc (.cells #[.string ⟨#[97]⟩, .string ⟨#[98]⟩, .string ⟨#[99]⟩] t)).heap.size, 0, none⟩) 3 3 xycF _ _ _ _ ((abc_lit W t).keep ((Below.refl _ _).alloc (Nat.le_refl _) _)) (xyc_lit _ t') (by decide) (by decide) un_3 hg
  have k3 := fun (W : World) (t t' : TypeId) (hg : G ((W.alloc (.cells #[.string ⟨#[97]⟩] t)).alloc (.cells #[.string ⟨#[97]⟩] t'))) => HA.out.unlike (some ⟨W.heap.size, 0, none⟩) 1 1 (fun _ => ⟨#[97]⟩) (some ⟨(W.alloc (.cells #[.string ⟨#[97]⟩] t)).heap.size, 0, none⟩) 1 1 (fun _ => ⟨#[97]⟩) _ _ _ _ ((one_strs W _ t).keep ((Below.refl _ _).alloc (Nat.le_refl _) _)) (one_strs _ _ t') (by decide) (by decide) un_1 hg
  have hsz : ∀ (W : World) (o : Obj), (W.alloc o).heap.size = W.heap.size + 1 := fun W o => by simp
  simp only [hsz] at k2 k3
  go_enter Tryd.func9, Tryd.ntmps9
  go_upto_region 2 with fail
  refine wp_gen (fun W => Below w.heap.size w W ∧ RowA W (some ⟨w.heap.size, 0, none⟩) 2 [1, 2] ∧ StrS W (some ⟨w.heap.size + 1, 0, none⟩) 1 1 (fun _ => litP) ∧ OpenV W (w.heap.size + 1 + 1) (.slice (some ⟨w.heap.size, 0, none⟩) 2 2) (.slice none 0 0) (.slice (some ⟨w.heap.size + 1, 0, none⟩) 1 1)) ⟨?_, (row_two (by simp [go_sem]) (by simp [go_sem])).at, ⟨⟨by unfold maxLen; omega, fun k hk => ⟨_, 0, rfl, ?_⟩⟩, by omega, by unfold maxLen; omega, fun h => by cases h⟩, ⟨by simp [go_sem], by simp [go_sem], by simp [go_sem]⟩⟩ ?_
  · exact (((Below.refl _ _).alloc (Nat.le_refl _) _).alloc (by simp) _).alloc (by simp; omega) _
  · have e : k = 0 := by omega
    subst e
    simp [go_sem]
  obtain ⟨gb, hgb⟩ : ∃ g, w.heap.size = g := ⟨_, rfl⟩
  obtain ⟨gp, hgp⟩ : ∃ g, gb + 1 = g := ⟨_, rfl⟩
  obtain ⟨ga, hga⟩ : ∃ g, gp + 1 = g := ⟨_, rfl⟩
  rintro W1 ⟨hB, hr, hp, hX⟩
  rw [hgb] at hr hp hX
  rw [hgp] at hp hX
  rw [hga] at hX
  simp only [hgb, hgp, hga]
  have HB := Lib.hid hB; have HST := Lib.hid hr
  obtain ⟨x0, x1, x2⟩ := hX
  have k1' := k1 gb gp W1 hr hp (HK.out _ _ HG0.out hB)
  have kt := kt gb gp; have ko := ko gb gp
  clear k1 hB hr hp hgb hgp hga
  go_upto_region 3 with (go_at_call 11; (with_reducible refine k1'.mono ?_); rintro e w1 ⟨hb, r, cr, rfl, hT⟩)
  clear k1'
  replace HB := Lib.hid (bthen HB.out hb); replace HST := Lib.hid (HST.out.keep hb)
  replace x0 := bkeep hb x0; replace x1 := bkeep hb x1; replace x2 := bkeep hb x2
  clear hb
  obtain ⟨gr, fr, rfl, t0⟩ := hT.1.2 0 (by decide)
  obtain ⟨gr', fr', e, t1⟩ := hT.1.2 1 (by decide)
  cases e
  rw [hT0, Nat.add_zero] at t0
  rw [hT1] at t1
  clear hT hT0 hT1
  generalize leafB (openB [1, 2] []) = σ0 at *
  generalize openB [1, 2] [] = s at *
  have hs3 : ¬ 9223372036854775807 < 1 + s.size := by omega
  have hs4 : ¬ (9223372036854775807 : Int) < 1 + (s.size : Int) := by omega
  have hb3 := fun (W : World) (o o' : Obj) => (((Below.refl W.heap.size W).alloc (Nat.le_refl _) o).alloc (by simp) o')
  go_upto_region 4 with (go_at_call 13; (with_reducible refine (k2 w1 _ _ (HK.out _ _ HG0.out (bthen HB.out (hb3 w1 _ _)))).mono ?_); rintro e w2 ⟨rfl, hb⟩)
  have hb' : Below w1.heap.size w1 w2 := below_two hb
  replace HB := Lib.hid (bthen HB.out hb'); replace HST := Lib.hid (HST.out.keep hb')
  replace x0 := bkeep hb' x0; replace x1 := bkeep hb' x1; replace x2 := bkeep hb' x2; replace t0 := bkeep hb' t0; replace t1 := bkeep hb' t1
  clear hb hb' k2
  go_upto_region 5 with (go_at_call 13; (with_reducible refine (k3 w2 _ _ (HK.out _ _ HG0.out (bthen HB.out (hb3 w2 _ _)))).mono ?_); rintro e w3 ⟨rfl, hb⟩)
  have hb' : Below w2.heap.size w2 w3 := below_two hb
  replace HB := Lib.hid (bthen HB.out hb'); replace HST := Lib.hid (HST.out.keep hb')
  replace x0 := bkeep hb' x0; replace x1 := bkeep hb' x1; replace x2 := bkeep hb' x2; replace t0 := bkeep hb' t0; replace t1 := bkeep hb' t1
  clear hb hb' k3
  have ko1 := fun (t : TypeId) => rlof_is (some ⟨w3.heap.size, 0, none⟩) 1 1 [1] none 0 0 [] (.slice none 0 0) (w3.alloc (.cells #[.int .u64 1] t)) (row_one (by simp [go_sem])).at cu1 (nil_qrow _) uqnil (by decide) (by decide)
  have k5 := fun (W : World) (t t' : TypeId) (hg : G ((W.alloc (.cells #[.int .u64 1] t)).alloc (.cells #[.int .u64 2] t'))) => HA.out.extract (leafB (openB [1] [])) 0 0 (some ⟨W.heap.size, 0, none⟩) 1 1 [1] none 0 0 [] none 0 0 (fun _ => litP) (some ⟨W.heap.size + 1, 0, none⟩) 1 1 [2] none 0 0 [] none 0 0 (fun _ => litP) _ _ _ ((W.alloc (.cells #[.int .u64 1] t)).alloc (.cells #[.int .u64 2] t')) ((row_one (by simp [go_sem])).at) cu1 (nil_qrow _) uqnil (by decide) (by decide) (no_strs _ _) (by decide) (fun _ h => by omega) ((row_one (by simp [go_sem])).at) cu2 (nil_qrow _) uqnil (by decide) (by decide) (no_strs _ _) (by decide) (fun _ h => by omega) (by omega) (by omega) (ext_none _ _) hg
  generalize leafB (openB [1] []) = R at *
  go_upto_region 6 with (first
    | (go_at_call 21; (with_reducible refine (ko1 _).mono ?_); rintro e w4 ⟨rfl, hb⟩; have hb34 : Below w3.heap.size w3 w4 := bthen ((Below.refl w3.heap.size w3).alloc (Nat.le_refl _) _) hb; clear hb)
    | (go_at_call 15; (with_reducible refine (k5 w4 _ _ (HK.out _ _ HG0.out (bthen HB.out (bthen hb34 (hb3 w4 _ _))))).mono ?_); rintro e w5 ⟨rfl, hb5⟩))
  have hb' : Below w3.heap.size w3 w5 := bthen hb34 (by first | exact below_two hb5 | exact bthen (hb3 w4 _ _) hb5)
  replace HB := Lib.hid (bthen HB.out hb'); replace HST := Lib.hid (HST.out.keep hb')
  replace x0 := bkeep hb' x0; replace x1 := bkeep hb' x1; replace x2 := bkeep hb' x2; replace t0 := bkeep hb' t0; replace t1 := bkeep hb' t1
  clear hb34 hb' hb5 k5 ko1 hb3 hsz
  refine wp_loose [(43, []), (44, [43]), (45, [44]), (46, [45]), (47, [46]), (48, [46, 47]), (49, [46, 48]), (50, [46]), (51, [46, 50]), (52, [46, 51]), (53, [46, 49, 52]), (54, [46, 53]), (55, [54]), (56, [55]), (57, [55, 56]), (58, [55, 57]), (59, [55]), (60, [55, 59]), (61, [55, 60]), (62, [55, 58, 61]), (63, [55, 62]), (64, [63]), (65, [64]), (66, [64, 65]), (67, [66]), (68, [67]), (69, [67, 68]), (70, [67, 69]), (71, [70]), (72, [71]), (73, [71, 72]), (74, [71, 73]), (75, [74]), (76, [75]), (77, [75, 76]), (78, [75, 77]), (79, [78]), (80, [79]), (81, [79, 80]), (82, [79, 81])]
    (CAwR ga gb gp gr fr cr s σ0) (fun d => false) (by kernel_rfl) (by kernel_rfl) (fun _ _ _ _ h hb => h.keep hb) ?_ ?_
  · refine opsrun_cons ?_ (opsrun_cons ?_ (opsrun_cons ?_ (opsrun_cons ?_ (opsrun_cons ?_ (opsrun_cons ?_ (opsrun_cons ?_ (opsrun_cons ?_ (opsrun_cons ?_ (opsrun_cons ?_ (opsrun_cons ?_ (opsrun_cons ?_ (opsrun_cons ?_ (opsrun_cons ?_ (opsrun_cons ?_ (opsrun_cons ?_ (opsrun_cons ?_ (opsrun_cons ?_ (opsrun_cons ?_ (opsrun_cons ?_ (opsrun_cons ?_ (opsrun_cons ?_ (opsrun_cons ?_ (opsrun_cons ?_ (opsrun_cons ?_ (opsrun_cons ?_ (opsrun_cons ?_ (opsrun_cons ?_ (opsrun_cons ?_ (opsrun_cons ?_ (opsrun_cons ?_ (opsrun_cons ?_ (opsrun_cons ?_ (opsrun_cons ?_ (opsrun_cons ?_ (opsrun_cons ?_ (opsrun_cons ?_ (opsrun_cons ?_ (opsrun_cons ?_ (opsrun_cons ?_ opsrun_nil)))))))))))))))))))))))))))))))))))))))
    all_goals
      refine OpRuns.any ?_
      intro Q0 σ W' K hb hn hK
      simp only [fill, List.map, Act.put, List.setIfInBounds_toArray, List.set_cons_zero, List.set_cons_succ] at hK ⊢
    · clear hn
      go_simp
      exact hK _ _ rfl (Below.refl _ _) (fun h => absurd h (by decide))
    · have h43 : σ 43 = _ := hn 43 (by decide)
      clear hn
      simp only [h43] at hK
      go_simp
      exact hK _ _ rfl (Below.refl _ _) (fun h => absurd h (by decide))
    · have h44 : σ 44 = _ := hn 44 (by decide)
      clear hn
      simp only [h44] at hK
      go_simp
      exact hK _ _ rfl (Below.refl _ _) (fun h => absurd h (by decide))
    · have h45 : σ 45 = _ := hn 45 (by decide)
      clear hn
      simp only [h45] at hK
      go_simp
      exact hK _ _ rfl (Below.refl _ _) (fun h => absurd h (by decide))
    · have h46 : σ 46 = _ := hn 46 (by decide)
      clear hn
      simp only [h46] at hK
      go_simp
      exact hK _ _ rfl (Below.refl _ _) (fun h => absurd h (by decide))
    · have h46 : σ 46 = _ := hn 46 (by decide)
      have h47 : σ 47 = _ := hn 47 (by decide)
      clear hn
      simp only [h46, h47] at hK
      go_simp
      exact hK _ _ rfl (Below.refl _ _) (fun h => absurd h (by decide))
    · have h46 : σ 46 = _ := hn 46 (by decide)
      have h48 : σ 48 = _ := hn 48 (by decide)
      clear hn
      simp only [h46, h48] at hK
      have t0' := bkeep hb t0
      clear t0
      go_simp
      exact hK _ _ rfl (Below.refl _ _) (fun h => absurd h (by decide))
    · have h46 : σ 46 = _ := hn 46 (by decide)
      clear hn
      simp only [h46] at hK
      have x0' := bkeep hb x0
      have x1' := bkeep hb x1
      have x2' := bkeep hb x2
      clear x0 x1 x2
      go_simp
      exact hK _ _ rfl (Below.refl _ _) (fun h => absurd h (by decide))
    · have h46 : σ 46 = _ := hn 46 (by decide)
      have h50 : σ 50 = _ := hn 50 (by decide)
      clear hn
      simp only [h46, h50] at hK
      go_simp
      go_at_call 18
      refine (kt _ (HST.out.keep hb)).mono ?_
      rintro e w1 ⟨rfl, hb1⟩
      exact hK _ _ rfl hb1 (fun h => absurd h (by decide))
    · have h46 : σ 46 = _ := hn 46 (by decide)
      have h51 : σ 51 = _ := hn 51 (by decide)
      clear hn
      simp only [h46, h51] at hK
      go_simp
      exact hK _ _ rfl (Below.refl _ _) (fun h => absurd h (by decide))
    · have h46 : σ 46 = _ := hn 46 (by decide)
      have h49 : σ 49 = _ := hn 49 (by decide)
      have h52 : σ 52 = _ := hn 52 (by decide)
      clear hn
      simp only [h46, h49, h52] at hK
      go_simp
      exact hK _ _ rfl (Below.refl _ _) (fun h => absurd h (by decide))
    · have h46 : σ 46 = _ := hn 46 (by decide)
      have h53 : σ 53 = _ := hn 53 (by decide)
      clear hn
      simp only [h46, h53] at hK
      go_simp
      exact hK _ _ rfl (Below.refl _ _) (fun h => absurd h (by decide))
    · have h54 : σ 54 = _ := hn 54 (by decide)
      clear hn
      simp only [h54] at hK
      go_simp
      exact hK _ _ rfl (Below.refl _ _) (fun h => absurd h (by decide))
    · have h55 : σ 55 = _ := hn 55 (by decide)
      clear hn
      simp only [h55] at hK
      go_simp
      exact hK _ _ rfl (Below.refl _ _) (fun h => absurd h (by decide))
    · have h55 : σ 55 = _ := hn 55 (by decide)
      have h56 : σ 56 = _ := hn 56 (by decide)
      clear hn
      simp only [h55, h56] at hK
      go_simp
      exact hK _ _ rfl (Below.refl _ _) (fun h => absurd h (by decide))
    · have h55 : σ 55 = _ := hn 55 (by decide)
      have h57 : σ 57 = _ := hn 57 (by decide)
      clear hn
      simp only [h55, h57] at hK
      have t1' := bkeep hb t1
      clear t1
      go_simp
      exact hK _ _ rfl (Below.refl _ _) (fun h => absurd h (by decide))
    · have h55 : σ 55 = _ := hn 55 (by decide)
      clear hn
      simp only [h55] at hK
      have x0' := bkeep hb x0
      have x1' := bkeep hb x1
      have x2' := bkeep hb x2
      clear x0 x1 x2
      go_simp
      exact hK _ _ rfl (Below.refl _ _) (fun h => absurd h (by decide))
    · have h55 : σ 55 = _ := hn 55 (by decide)
      have h59 : σ 59 = _ := hn 59 (by decide)
      clear hn
      simp only [h55, h59] at hK
      go_simp
      go_at_call 21
      refine (ko _ (HST.out.keep hb)).mono ?_
      rintro e w1 ⟨rfl, hb1⟩
      exact hK _ _ rfl hb1 (fun h => absurd h (by decide))
    · have h55 : σ 55 = _ := hn 55 (by decide)
      have h60 : σ 60 = _ := hn 60 (by decide)
      clear hn
      simp only [h55, h60] at hK
      go_simp
      exact hK _ _ rfl (Below.refl _ _) (fun h => absurd h (by decide))
    · have h55 : σ 55 = _ := hn 55 (by decide)
      have h58 : σ 58 = _ := hn 58 (by decide)
      have h61 : σ 61 = _ := hn 61 (by decide)
      clear hn
      simp only [h55, h58, h61] at hK
      go_simp
      exact hK _ _ rfl (Below.refl _ _) (fun h => absurd h (by decide))
    · have h55 : σ 55 = _ := hn 55 (by decide)
      have h62 : σ 62 = _ := hn 62 (by decide)
      clear hn
      simp only [h55, h62] at hK
      go_simp
      exact hK _ _ rfl (Below.refl _ _) (fun h => absurd h (by decide))
    · have h63 : σ 63 = _ := hn 63 (by decide)
      clear hn
      simp only [h63] at hK
      go_simp
      exact hK _ _ rfl (Below.refl _ _) (fun h => absurd h (by decide))
    · have h64 : σ 64 = _ := hn 64 (by decide)
      clear hn
      simp only [h64] at hK
      go_simp
      exact hK _ _ rfl (Below.refl _ _) (fun h => absurd h (by decide))
    · have h64 : σ 64 = _ := hn 64 (by decide)
      have h65 : σ 65 = _ := hn 65 (by decide)
      clear hn
      simp only [h64, h65] at hK
      go_simp
      exact hK _ _ rfl (Below.refl _ _) (fun h => absurd h (by decide))
    · have h66 : σ 66 = _ := hn 66 (by decide)
      clear hn
      simp only [h66] at hK
      go_simp
      exact hK _ _ rfl (Below.refl _ _) (fun h => absurd h (by decide))
    · have h67 : σ 67 = _ := hn 67 (by decide)
      clear hn
      simp only [h67] at hK
      go_simp
      exact hK _ _ rfl (Below.refl _ _) (fun h => absurd h (by decide))
    · have h67 : σ 67 = _ := hn 67 (by decide)
      have h68 : σ 68 = _ := hn 68 (by decide)
      clear hn
      simp only [h67, h68] at hK
      go_simp
      exact hK _ _ rfl (Below.refl _ _) (fun h => absurd h (by decide))
    · have h67 : σ 67 = _ := hn 67 (by decide)
      have h69 : σ 69 = _ := hn 69 (by decide)
      clear hn
      simp only [h67, h69] at hK
      go_simp
      exact hK _ _ rfl (Below.refl _ _) (fun h => absurd h (by decide))
    · have h70 : σ 70 = _ := hn 70 (by decide)
      clear hn
      simp only [h70] at hK
      go_simp
      exact hK _ _ rfl (Below.refl _ _) (fun h => absurd h (by decide))
    · have h71 : σ 71 = _ := hn 71 (by decide)
      clear hn
      simp only [h71] at hK
      go_simp
      exact hK _ _ rfl (Below.refl _ _) (fun h => absurd h (by decide))
    · have h71 : σ 71 = _ := hn 71 (by decide)
      have h72 : σ 72 = _ := hn 72 (by decide)
      clear hn
      simp only [h71, h72] at hK
      go_simp
      exact hK _ _ rfl (Below.refl _ _) (fun h => absurd h (by decide))
    · have h71 : σ 71 = _ := hn 71 (by decide)
      have h73 : σ 73 = _ := hn 73 (by decide)
      clear hn
      simp only [h71, h73] at hK
      go_simp
      exact hK _ _ rfl (Below.refl _ _) (fun h => absurd h (by decide))
    · have h74 : σ 74 = _ := hn 74 (by decide)
      clear hn
      simp only [h74] at hK
      go_simp
      exact hK _ _ rfl (Below.refl _ _) (fun h => absurd h (by decide))
    · have h75 : σ 75 = _ := hn 75 (by decide)
      clear hn
      simp only [h75] at hK
      go_simp
      exact hK _ _ rfl (Below.refl _ _) (fun h => absurd h (by decide))
    · have h75 : σ 75 = _ := hn 75 (by decide)
      have h76 : σ 76 = _ := hn 76 (by decide)
      clear hn
      simp only [h75, h76] at hK
      go_simp
      exact hK _ _ rfl (Below.refl _ _) (fun h => absurd h (by decide))
    · have h75 : σ 75 = _ := hn 75 (by decide)
      have h77 : σ 77 = _ := hn 77 (by decide)
      clear hn
      simp only [h75, h77] at hK
      go_simp
      exact hK _ _ rfl (Below.refl _ _) (fun h => absurd h (by decide))
    · have h78 : σ 78 = _ := hn 78 (by decide)
      clear hn
      simp only [h78] at hK
      go_simp
      exact hK _ _ rfl (Below.refl _ _) (fun h => absurd h (by decide))
    · have h79 : σ 79 = _ := hn 79 (by decide)
      clear hn
      simp only [h79] at hK
      go_simp
      exact hK _ _ rfl (Below.refl _ _) (fun h => absurd h (by decide))
    · have h79 : σ 79 = _ := hn 79 (by decide)
      have h80 : σ 80 = _ := hn 80 (by decide)
      clear hn
      simp only [h79, h80] at hK
      go_simp
      exact hK _ _ rfl (Below.refl _ _) (fun h => absurd h (by decide))
    · have h79 : σ 79 = _ := hn 79 (by decide)
      have h81 : σ 81 = _ := hn 81 (by decide)
      clear hn
      simp only [h79, h81] at hK
      go_simp
      exact hK _ _ rfl (Below.refl _ _) (fun h => absurd h (by decide))
  · intro σ W' hb hR' hF
    have HB' := Lib.hid (bthen HB.out hb)
    have h82 : σ 82 = .bool true := hR' 82 (by decide)
    clear hR' hF hb
    simp only [fill, List.map, Act.put, List.setIfInBounds_toArray, List.set_cons_zero, List.set_cons_succ, List.length_cons, List.length_nil, List.drop_succ_cons, List.drop_zero, Nat.reduceAdd, h82]
    go_wp2_with fail
    go_ret
    exact ⟨rfl, HB'.out⟩
end Go.Proofs.YtfnmlegikcogoaaDoor
