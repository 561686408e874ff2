/-
  The walk of LeafTexts: it answers true, where the program's calls do what is asked of them. (Written by gen_lleaf.py.)
-/
import Derived.Test.YtgamoanhplnknaaDoorLeafAw
namespace Go.Proofs.YtgamoanhplnknaaDoor
open Go Go.RowKit
set_option linter.unusedVariables false

def IsS2 (W : World) (v : Value) (s : ByteArray) : Prop := ∃ (a : Option Addr) (c : Nat), v = .slice a 2 c ∧ StrA W a 2 (fun j => if j = 0 then byte0 else s)
theorem IsS2.keep {W W' : World} {v : Value} {s : ByteArray} (h : IsS2 W v s) (hb : Below W.heap.size W W') : IsS2 W' v s := by
  obtain ⟨a, c, h1, h2⟩ := h
  exact ⟨a, c, h1, h2.keep hb⟩
theorem IsS2.mk (W : World) (s : ByteArray) (t : TypeId) : IsS2 (W.alloc (.cells #[.string ⟨#[0]⟩, .string s] t)) (.slice (some ⟨W.heap.size, 0, none⟩) 2 2) s :=
  ⟨_, _, rfl, str_lit W _ t 2 _ (by unfold maxLen; omega) fun j hj => by
    have : j = 0 ∨ j = 1 := by omega
    rcases this with rfl | rfl <;> rfl⟩
theorem rsumS2 (s z : ByteArray) (hz : sumB (byte0 ++ s) = z) (hl : s.size ≤ 100000) (a : Option Addr) (c : Nat) (W : World) (h : StrA W a 2 (fun j => if j = 0 then byte0 else s)) :
    Calls Tryd.prog 16 #[.slice a 2 c] W fun e w' => e = .returned (.string z) ∧ Below W.heap.size W w' := by
  have k := rsum_is a 2 c _ W h (by simp [lens]; show 1 + _ ≤ _; omega)
  rw [cat_two] at k
  simp only [if_true, show ¬ (1 : Nat) = 0 by decide, if_false, hz] at k
  exact k
theorem bytes_beq (a b : ByteArray) : (a.toList == b.toList) = decide (a = b) := by
  rw [ByteArray.toList_eq, ByteArray.toList_eq]
  by_cases h : a = b
  · subst h; simp
  · rw [decide_eq_false h]
    refine Bool.eq_false_iff.2 fun hh => h ?_
    have := beq_iff_eq.1 hh
    exact ByteArray.ext (Array.toList_inj.1 this)
def TxLoop (W2 : World) (z1 z2 : List Int) (s i : Value) (W : World) : Prop := ∃ (k : Nat) (b : Bool), k ≤ z1.length ∧ s = .bool b ∧ i = .int .i64 k ∧ (b = true ↔ z1.length = z2.length ∧ ∀ j, j < k → z1.getD j 0 = z2.getD j 0) ∧ Below W2.heap.size W2 W
theorem tx_end {z1 z2 : List Int} {k : Nat} {b : Bool} (hu1 : ∀ x ∈ z1, U x) (hu2 : ∀ x ∈ z2, U x) (h : b = true ↔ z1.length = z2.length ∧ ∀ j, j < k → z1.getD j 0 = z2.getD j 0) (he : k = z1.length ∨ b = false) : decide (rowB z1 = rowB z2) = b := by
  cases b
  · refine decide_eq_false fun hr => ?_
    obtain rfl := rowB_inj hu1 hu2 hr
    exact absurd (h.2 ⟨rfl, fun _ _ => rfl⟩) (by decide)
  · obtain ⟨hl, hj⟩ := h.1 rfl
    obtain rfl : k = z1.length := he.resolve_right (by decide)
    refine decide_eq_true ?_
    congr 1
    apply List.ext_getElem hl
    intro j h1 h2
    have := hj j h1
    simpa only [List.getD, List.getElem?_eq_getElem h1, List.getElem?_eq_getElem h2, Option.getD_some] using this
def LTextsR (a1 a2 a3 : Option Addr) (len1 cap1 len2 cap2 len3 cap3 : Nat) (b : Bool) (R1 R2 R3 Z1 Z3 : ByteArray) (sl : Nat) (v : Value) (W : World) : Prop :=
  match sl with
  | 57 => v = .agg #[.slice a1 len1 cap1, .slice none 0 0, .slice none 0 0]
  | 59 => v = .agg #[.slice a1 len1 cap1, .slice none 0 0, .slice none 0 0]
  | 75 => v = .agg #[.slice a1 len1 cap1, .slice none 0 0, .slice none 0 0]
  | 77 => v = .agg #[.slice a2 len2 cap2, .slice none 0 0, .slice none 0 0]
  | 66 => v = .agg #[.slice none 0 0, .slice a3 len3 cap3, .slice none 0 0]
  | 68 => v = .agg #[.slice none 0 0, .slice a3 len3 cap3, .slice none 0 0]
  | 84 => v = .agg #[.slice none 0 0, .slice a3 len3 cap3, .slice none 0 0]
  | 58 => v = .string Z1
  | 62 => v = .string Z1
  | 67 => v = .string Z3
  | 71 => v = .string Z3
  | 60 => v = .string R1
  | 76 => v = .string R1
  | 78 => v = .string R2
  | 69 => v = .string R3
  | 85 => v = .string R3
  | 87 => v = .string R3
  | 61 => IsS2 W v R1
  | 70 => IsS2 W v R3
  | 79 => v = .bool b
  | 80 => v = .bool b
  | 86 => v = .slice a3 len3 cap3
  | _ => v = .bool true
theorem LTextsR.keep {a1 a2 a3 : Option Addr} {len1 cap1 len2 cap2 len3 cap3 : Nat} {b : Bool} {R1 R2 R3 Z1 Z3 : ByteArray} {sl : Nat} {v : Value} {W W' : World} (h : LTextsR a1 a2 a3 len1 cap1 len2 cap2 len3 cap3 b R1 R2 R3 Z1 Z3 sl v W) (hb : Below W.heap.size W W') : LTextsR a1 a2 a3 len1 cap1 len2 cap2 len3 cap3 b R1 R2 R3 Z1 Z3 sl v W' := by
  unfold LTextsR at *
  split at h
  all_goals first | exact h | exact IsS2.keep h hb

set_option maxRecDepth 100000 in
set_option maxHeartbeats 16000000 in
theorem ltexts_body (G : World → Prop) (hA : AskLeaf G) (a1 : Option Addr) (len1 cap1 : Nat) (z1 : List Int) (a2 : Option Addr) (len2 cap2 : Nat) (z2 : List Int) (a3 : Option Addr) (len3 cap3 : Nat) (qs : List (Int × Int)) (w : World) (hG : G w)
    (h1 : RowA w a1 len1 z1) (hu1 : ∀ x ∈ z1, U x) (h2 : RowA w a2 len2 z2) (hu2 : ∀ x ∈ z2, U x) (h3 : QRowA w a3 len3 qs) (hu3 : ∀ x ∈ qs, U x.1 ∧ U x.2) :
    Calls Tryd.prog 4 #[.slice a1 len1 cap1, .slice a2 len2 cap2, .slice a3 len3 cap3] w fun e w' => e = .returned (.bool true) ∧ Below w.heap.size w w' := by
  have aw := lawake G hA
  have HK := Lib.hid (fun (W W' : World) => @AskLeaf.keep G hA W W')
  by_cases hbig : 50 < len1 ∨ 50 < len2 ∨ 50 < len3
  · rcases Decidable.em (50 < len1) with hb | hb
    · have hbI : (50 : Int) < (len1 : Int) := by omega
      go_enter Tryd.func4, Tryd.ntmps4
      go_wp2_with (go_at_call 5; ((with_reducible refine (aw _ hG).mono ?_); rintro e w1 ⟨rfl, hb1⟩))
      go_ret
      exact ⟨rfl, hb1⟩
    · have hbI : ¬ (50 : Int) < (len1 : Int) := by omega
      rcases Decidable.em (50 < len2) with hc | hc
      · have hcI : (50 : Int) < (len2 : Int) := by omega
        go_enter Tryd.func4, Tryd.ntmps4
        go_wp2_with (go_at_call 5; ((with_reducible refine (aw _ hG).mono ?_); rintro e w1 ⟨rfl, hb1⟩))
        go_ret
        exact ⟨rfl, hb1⟩
      · have hcI : ¬ (50 : Int) < (len2 : Int) := by omega
        have hdI : (50 : Int) < (len3 : Int) := by omega
        go_enter Tryd.func4, Tryd.ntmps4
        go_wp2_with (go_at_call 5; ((with_reducible refine (aw _ hG).mono ?_); rintro e w1 ⟨rfl, hb1⟩))
        go_ret
        exact ⟨rfl, hb1⟩

  · have hbI : ¬ (50 : Int) < (len1 : Int) := by omega
    have hcI : ¬ (50 : Int) < (len2 : Int) := by omega
    have hdI : ¬ (50 : Int) < (len3 : Int) := by omega
    have hl1 := h1.1; have hl2 := h2.1; have hl3 := h3.1
    have k1 := fun W h hg => hA.of a1 len1 cap1 z1 none 0 0 [] (.slice none 0 0) W h hu1 (nil_qrow _) uqnil (by omega) (by decide) rfl hg
    have k3 := fun W h hg => hA.of none 0 0 [] a3 len3 cap3 qs (.slice none 0 0) W (nil_row _) unil h hu3 (by decide) (by omega) rfl hg
    have t1 := fun W h hg => hA.text a1 len1 cap1 z1 none 0 0 [] (.slice none 0 0) W h hu1 (nil_qrow _) uqnil (by omega) (by decide) rfl hg
    have t2 := fun W h hg => hA.text a2 len2 cap2 z2 none 0 0 [] (.slice none 0 0) W h hu2 (nil_qrow _) uqnil (by omega) (by decide) rfl hg
    have t3 := fun W h hg => hA.text none 0 0 [] a3 len3 cap3 qs (.slice none 0 0) W (nil_row _) unil h hu3 (by decide) (by omega) rfl hg
    have r3 := fun W h => rpairs_is a3 len3 cap3 qs W h hu3 (by omega)
    have s1 := rsumS2 (rowB z1) _ (leafB_is _) (by rw [rowB_size]; omega)
    have s3 := rsumS2 (pairB qs) _ (leafB_is _) (by unfold pairB; rw [pairT_size]; omega)
    rw [openB_nil] at k1 t1 t2
    rw [openB_row] at k3 t3
    have HEND := Lib.hid (fun k b h he => @tx_end z1 z2 k b hu1 hu2 h he)
    clear hA hu1 hu2 hu3
    generalize leafB (rowB z1) = Z1 at *
    generalize leafB (pairB qs) = Z3 at *
    generalize rowB z1 = R1 at *
    generalize rowB z2 = R2 at *
    generalize pairB qs = R3 at *
    go_enter Tryd.func4, Tryd.ntmps4
    go_upto_region 4 with fail
    refine wp_gen (fun W => Below w.heap.size w W ∧ OpenV W w.heap.size (.slice a1 len1 cap1) (.slice none 0 0) (.slice none 0 0) ∧ OpenV W (w.heap.size + 1) (.slice a2 len2 cap2) (.slice none 0 0) (.slice none 0 0) ∧ OpenV W (w.heap.size + 1 + 1) (.slice none 0 0) (.slice a3 len3 cap3) (.slice none 0 0)) ⟨?_, ?_, ?_, ?_⟩ ?_
    · exact (((Below.refl _ _).alloc (Nat.le_refl _) _).alloc (by simp) _).alloc (by simp; omega) _
    · exact ⟨by simp [go_sem], by simp [go_sem], by simp [go_sem]⟩
    · exact ⟨by simp [go_sem], by simp [go_sem], by simp [go_sem]⟩
    · exact ⟨by simp [go_sem], by simp [go_sem], by simp [go_sem]⟩
    rintro W2 ⟨hB, hX, hY, hZ⟩
    generalize w.heap.size + 1 + 1 = g3 at *
    generalize w.heap.size + 1 = g2 at *
    have HB := Lib.hid hB; have H1 := Lib.hid (h1.keep hB); have H2 := Lib.hid (h2.keep hB); have H3 := Lib.hid (h3.keep hB); have HG := Lib.hid (HK.out _ _ hG hB)
    have HX := Lib.hid hX; have HY := Lib.hid hY; have HZ := Lib.hid hZ
    clear hB h1 h2 h3 hG hX hY hZ
    subst hl1; subst hl2
    go_upto_region 6 with fail
    go_loopw [10, 11] (TxLoop W2 z1 z2) (fun _ i _ => z1.length - (intOf i).toNat)
    case atStart => exact ⟨0, decide ((z1.length : Int) = (z2.length : Int)), Nat.zero_le _, rfl, rfl, by simp; omega, Below.refl _ _⟩
    case round =>
      obtain ⟨k, b, hk, rfl, rfl, hb, hBW⟩ := hrel
      by_cases hlt : k < z1.length
      · have hltI : (k : Int) < (z1.length : Int) := by omega
        cases b
        · have HRR := Lib.hid (HEND.out k false hb (Or.inr rfl))
          replace HB := Lib.hid (bthen HB.out hBW); replace H1 := Lib.hid (H1.out.keep hBW); replace H2 := Lib.hid (H2.out.keep hBW); replace H3 := Lib.hid (H3.out.keep hBW); replace HG := Lib.hid (HK.out _ _ HG.out hBW)
          obtain ⟨x0, x1, x2⟩ := HX.out.keep hBW
          obtain ⟨y0, y1, y2⟩ := HY.out.keep hBW
          obtain ⟨z0, z1', z2'⟩ := HZ.out.keep hBW
          clear HX HY HZ HEND hb hBW
          go_upto_region 9 with fail
          refine wp_loose [(55, []), (56, [55]), (57, [56]), (58, [56, 57]), (59, [56]), (60, [56, 59]), (61, [56, 60]), (62, [56, 61]), (63, [56, 58, 62]), (64, [56, 63]), (65, [64]), (66, [65]), (67, [65, 66]), (68, [65]), (69, [65, 68]), (70, [65, 69]), (71, [65, 70]), (72, [65, 67, 71]), (73, [65, 72]), (74, [73]), (75, [74]), (76, [74, 75]), (77, [74]), (78, [74, 77]), (79, [74, 76, 78]), (80, [74]), (81, [74, 79, 80]), (82, [74, 81]), (83, [82]), (84, [83]), (85, [83, 84]), (86, [83]), (87, [83, 86]), (88, [83, 85, 87]), (89, [83, 88])]
            (LTextsR a1 a2 a3 z1.length cap1 z2.length cap2 len3 cap3 false R1 R2 R3 Z1 Z3) (fun d => false) (by kernel_rfl) (by kernel_rfl) (fun _ _ _ _ h hb => h.keep hb) ?_ ?_
          · refine opsrun_cons ?_ (opsrun_cons ?_ (opsrun_cons ?_ (opsrun_cons ?_ (opsrun_cons ?_ (opsrun_cons ?_ (opsrun_cons ?_ (opsrun_cons ?_ (opsrun_cons ?_ (opsrun_cons ?_ (opsrun_cons ?_ (opsrun_cons ?_ (opsrun_cons ?_ (opsrun_cons ?_ (opsrun_cons ?_ (opsrun_cons ?_ (opsrun_cons ?_ (opsrun_cons ?_ (opsrun_cons ?_ (opsrun_cons ?_ (opsrun_cons ?_ (opsrun_cons ?_ (opsrun_cons ?_ (opsrun_cons ?_ (opsrun_cons ?_ (opsrun_cons ?_ (opsrun_cons ?_ (opsrun_cons ?_ (opsrun_cons ?_ (opsrun_cons ?_ (opsrun_cons ?_ (opsrun_cons ?_ (opsrun_cons ?_ (opsrun_cons ?_ (opsrun_cons ?_ opsrun_nil))))))))))))))))))))))))))))))))))
            all_goals
              refine OpRuns.any ?_
              intro Q0 σ W' K hb hn hK
              simp only [fill, List.map, Act.put, List.setIfInBounds_toArray, List.set_cons_zero, List.set_cons_succ] at hK ⊢
            · clear hn
              go_simp
              go_at_call 5
              refine (aw _ (HK.out _ _ HG.out hb)).mono ?_
              rintro e w1 ⟨rfl, hb1⟩
              exact hK _ _ rfl hb1 (fun h => absurd h (by decide))
            · have h55 : σ 55 = _ := hn 55 (by decide)
              clear hn
              simp only [h55] at hK
              go_simp
              exact hK _ _ rfl (Below.refl _ _) (fun h => absurd h (by decide))
            · have h56 : σ 56 = _ := hn 56 (by decide)
              clear hn
              simp only [h56] at hK
              have x0' := bkeep hb x0
              have x1' := bkeep hb x1
              have x2' := bkeep hb x2
              clear x0 x1 x2
              go_simp
              exact hK _ _ rfl (Below.refl _ _) (fun h => absurd h (by decide))
            · have h56 : σ 56 = _ := hn 56 (by decide)
              have h57 : σ 57 = _ := hn 57 (by decide)
              clear hn
              simp only [h56, h57] at hK
              go_simp
              go_at_call 12
              refine (k1 _ (H1.out.keep hb) (HK.out _ _ HG.out hb)).mono ?_
              rintro e w1 ⟨rfl, hb1⟩
              exact hK _ _ rfl hb1 (fun h => absurd h (by decide))
            · have h56 : σ 56 = _ := hn 56 (by decide)
              clear hn
              simp only [h56] at hK
              have x0' := bkeep hb x0
              have x1' := bkeep hb x1
              have x2' := bkeep hb x2
              clear x0 x1 x2
              go_simp
              exact hK _ _ rfl (Below.refl _ _) (fun h => absurd h (by decide))
            · have h56 : σ 56 = _ := hn 56 (by decide)
              have h59 : σ 59 = _ := hn 59 (by decide)
              clear hn
              simp only [h56, h59] at hK
              go_simp
              go_at_call 14
              refine (t1 _ (H1.out.keep hb) (HK.out _ _ HG.out hb)).mono ?_
              rintro e w1 ⟨rfl, hb1⟩
              exact hK _ _ rfl hb1 (fun h => absurd h (by decide))
            · have h56 : σ 56 = _ := hn 56 (by decide)
              have h60 : σ 60 = _ := hn 60 (by decide)
              clear hn
              simp only [h56, h60] at hK
              go_simp
              exact hK _ _ (IsS2.mk _ _ _) ((Below.refl _ _).alloc (Nat.le_refl _) _) (fun h => absurd h (by decide))
            · have h56 : σ 56 = _ := hn 56 (by decide)
              have p61 : IsS2 W' (σ 61) R1 := hn 61 (by decide)
              clear hn
              simp only [h56] at hK
              obtain ⟨a, c, h61, hs⟩ := p61
              simp only [h61] at hK
              go_simp
              go_at_call 16
              refine (s1 a c _ hs).mono ?_
              rintro e w1 ⟨rfl, hb1⟩
              exact hK _ _ rfl hb1 (fun h => absurd h (by decide))
            · have h56 : σ 56 = _ := hn 56 (by decide)
              have h58 : σ 58 = _ := hn 58 (by decide)
              have h62 : σ 62 = _ := hn 62 (by decide)
              clear hn
              simp only [h56, h58, h62] at hK
              go_simp
              exact hK _ _ rfl (Below.refl _ _) (fun h => absurd h (by decide))
            · have h56 : σ 56 = _ := hn 56 (by decide)
              have h63 : σ 63 = _ := hn 63 (by decide)
              clear hn
              simp only [h56, h63] at hK
              go_simp
              exact hK _ _ rfl (Below.refl _ _) (fun h => absurd h (by decide))
            · have h64 : σ 64 = _ := hn 64 (by decide)
              clear hn
              simp only [h64] at hK
              go_simp
              exact hK _ _ rfl (Below.refl _ _) (fun h => absurd h (by decide))
            · have h65 : σ 65 = _ := hn 65 (by decide)
              clear hn
              simp only [h65] at hK
              have z0' := bkeep hb z0
              have z1'' := bkeep hb z1'
              have z2'' := bkeep hb z2'
              clear z0 z1' z2'
              go_simp
              exact hK _ _ rfl (Below.refl _ _) (fun h => absurd h (by decide))
            · have h65 : σ 65 = _ := hn 65 (by decide)
              have h66 : σ 66 = _ := hn 66 (by decide)
              clear hn
              simp only [h65, h66] at hK
              go_simp
              go_at_call 12
              refine (k3 _ (H3.out.keep hb) (HK.out _ _ HG.out hb)).mono ?_
              rintro e w1 ⟨rfl, hb1⟩
              exact hK _ _ rfl hb1 (fun h => absurd h (by decide))
            · have h65 : σ 65 = _ := hn 65 (by decide)
              clear hn
              simp only [h65] at hK
              have z0' := bkeep hb z0
              have z1'' := bkeep hb z1'
              have z2'' := bkeep hb z2'
              clear z0 z1' z2'
              go_simp
              exact hK _ _ rfl (Below.refl _ _) (fun h => absurd h (by decide))
            · have h65 : σ 65 = _ := hn 65 (by decide)
              have h68 : σ 68 = _ := hn 68 (by decide)
              clear hn
              simp only [h65, h68] at hK
              go_simp
              go_at_call 14
              refine (t3 _ (H3.out.keep hb) (HK.out _ _ HG.out hb)).mono ?_
              rintro e w1 ⟨rfl, hb1⟩
              exact hK _ _ rfl hb1 (fun h => absurd h (by decide))
            · have h65 : σ 65 = _ := hn 65 (by decide)
              have h69 : σ 69 = _ := hn 69 (by decide)
              clear hn
              simp only [h65, h69] at hK
              go_simp
              exact hK _ _ (IsS2.mk _ _ _) ((Below.refl _ _).alloc (Nat.le_refl _) _) (fun h => absurd h (by decide))
            · have h65 : σ 65 = _ := hn 65 (by decide)
              have p70 : IsS2 W' (σ 70) R3 := hn 70 (by decide)
              clear hn
              simp only [h65] at hK
              obtain ⟨a, c, h70, hs⟩ := p70
              simp only [h70] at hK
              go_simp
              go_at_call 16
              refine (s3 a c _ hs).mono ?_
              rintro e w1 ⟨rfl, hb1⟩
              exact hK _ _ rfl hb1 (fun h => absurd h (by decide))
            · have h65 : σ 65 = _ := hn 65 (by decide)
              have h67 : σ 67 = _ := hn 67 (by decide)
              have h71 : σ 71 = _ := hn 71 (by decide)
              clear hn
              simp only [h65, h67, h71] at hK
              go_simp
              exact hK _ _ rfl (Below.refl _ _) (fun h => absurd h (by decide))
            · have h65 : σ 65 = _ := hn 65 (by decide)
              have h72 : σ 72 = _ := hn 72 (by decide)
              clear hn
              simp only [h65, h72] at hK
              go_simp
              exact hK _ _ rfl (Below.refl _ _) (fun h => absurd h (by decide))
            · have h73 : σ 73 = _ := hn 73 (by decide)
              clear hn
              simp only [h73] at hK
              go_simp
              exact hK _ _ rfl (Below.refl _ _) (fun h => absurd h (by decide))
            · have h74 : σ 74 = _ := hn 74 (by decide)
              clear hn
              simp only [h74] at hK
              have x0' := bkeep hb x0
              have x1' := bkeep hb x1
              have x2' := bkeep hb x2
              clear x0 x1 x2
              go_simp
              exact hK _ _ rfl (Below.refl _ _) (fun h => absurd h (by decide))
            · have h74 : σ 74 = _ := hn 74 (by decide)
              have h75 : σ 75 = _ := hn 75 (by decide)
              clear hn
              simp only [h74, h75] at hK
              go_simp
              go_at_call 14
              refine (t1 _ (H1.out.keep hb) (HK.out _ _ HG.out hb)).mono ?_
              rintro e w1 ⟨rfl, hb1⟩
              exact hK _ _ rfl hb1 (fun h => absurd h (by decide))
            · have h74 : σ 74 = _ := hn 74 (by decide)
              clear hn
              simp only [h74] at hK
              have y0' := bkeep hb y0
              have y1' := bkeep hb y1
              have y2' := bkeep hb y2
              clear y0 y1 y2
              go_simp
              exact hK _ _ rfl (Below.refl _ _) (fun h => absurd h (by decide))
            · have h74 : σ 74 = _ := hn 74 (by decide)
              have h77 : σ 77 = _ := hn 77 (by decide)
              clear hn
              simp only [h74, h77] at hK
              go_simp
              go_at_call 14
              refine (t2 _ (H2.out.keep hb) (HK.out _ _ HG.out hb)).mono ?_
              rintro e w1 ⟨rfl, hb1⟩
              exact hK _ _ rfl hb1 (fun h => absurd h (by decide))
            · have h74 : σ 74 = _ := hn 74 (by decide)
              have h76 : σ 76 = _ := hn 76 (by decide)
              have h78 : σ 78 = _ := hn 78 (by decide)
              clear hn
              simp only [h74, h76, h78] at hK
              go_simp
              exact hK _ _ (congrArg Value.bool ((bytes_beq _ _).trans HRR.out)) (Below.refl _ _) (fun h => absurd h (by decide))
            · have h74 : σ 74 = _ := hn 74 (by decide)
              clear hn
              simp only [h74] at hK
              go_simp
              exact hK _ _ rfl (Below.refl _ _) (fun h => absurd h (by decide))
            · have h74 : σ 74 = _ := hn 74 (by decide)
              have h79 : σ 79 = _ := hn 79 (by decide)
              have h80 : σ 80 = _ := hn 80 (by decide)
              clear hn
              simp only [h74, h79, h80] at hK
              go_simp
              exact hK _ _ rfl (Below.refl _ _) (fun h => absurd h (by decide))
            · have h74 : σ 74 = _ := hn 74 (by decide)
              have h81 : σ 81 = _ := hn 81 (by decide)
              clear hn
              simp only [h74, h81] at hK
              go_simp
              exact hK _ _ rfl (Below.refl _ _) (fun h => absurd h (by decide))
            · have h82 : σ 82 = _ := hn 82 (by decide)
              clear hn
              simp only [h82] at hK
              go_simp
              exact hK _ _ rfl (Below.refl _ _) (fun h => absurd h (by decide))
            · have h83 : σ 83 = _ := hn 83 (by decide)
              clear hn
              simp only [h83] at hK
              have z0' := bkeep hb z0
              have z1'' := bkeep hb z1'
              have z2'' := bkeep hb z2'
              clear z0 z1' z2'
              go_simp
              exact hK _ _ rfl (Below.refl _ _) (fun h => absurd h (by decide))
            · have h83 : σ 83 = _ := hn 83 (by decide)
              have h84 : σ 84 = _ := hn 84 (by decide)
              clear hn
              simp only [h83, h84] at hK
              go_simp
              go_at_call 14
              refine (t3 _ (H3.out.keep hb) (HK.out _ _ HG.out hb)).mono ?_
              rintro e w1 ⟨rfl, hb1⟩
              exact hK _ _ rfl hb1 (fun h => absurd h (by decide))
            · have h83 : σ 83 = _ := hn 83 (by decide)
              clear hn
              simp only [h83] at hK
              go_simp
              exact hK _ _ rfl (Below.refl _ _) (fun h => absurd h (by decide))
            · have h83 : σ 83 = _ := hn 83 (by decide)
              have h86 : σ 86 = _ := hn 86 (by decide)
              clear hn
              simp only [h83, h86] at hK
              go_simp
              go_at_call 17
              refine (r3 _ (H3.out.keep hb)).mono ?_
              rintro e w1 ⟨rfl, hb1⟩
              exact hK _ _ rfl hb1 (fun h => absurd h (by decide))
            · have h83 : σ 83 = _ := hn 83 (by decide)
              have h85 : σ 85 = _ := hn 85 (by decide)
              have h87 : σ 87 = _ := hn 87 (by decide)
              clear hn
              simp only [h83, h85, h87] at hK
              go_simp
              exact hK _ _ rfl (Below.refl _ _) (fun h => absurd h (by decide))
            · have h83 : σ 83 = _ := hn 83 (by decide)
              have h88 : σ 88 = _ := hn 88 (by decide)
              clear hn
              simp only [h83, h88] at hK
              go_simp
              exact hK _ _ rfl (Below.refl _ _) (fun h => absurd h (by decide))
          · intro σ W' hb hR' hF
            have h89 : σ 89 = _ := hR' 89 (by decide)
            clear hR' hF
            simp only [fill, List.map, Act.put, List.setIfInBounds_toArray, List.set_cons_zero, List.set_cons_succ, List.length_cons, List.length_nil, List.drop_succ_cons, List.drop_zero, Nat.reduceAdd, h89]
            clear h89
            go_wp2_with fail
            go_ret
            exact ⟨rfl, bthen HB.out hb⟩

        · obtain ⟨hlen, hj⟩ := hb.1 rfl
          obtain ⟨b1, o1, rfl, c1⟩ := H1.out.2.2 k hlt
          obtain ⟨b2, o2, rfl, c2⟩ := H2.out.2.2 k (by omega)
          replace c1 := bkeep hBW c1
          replace c2 := bkeep hBW c2
          have hltJ : (k : Int) < (z2.length : Int) := by omega
          have HNX : Hid (decide (z1.getD k 0 = z2.getD k 0) = true ↔ z1.length = z2.length ∧ ∀ j, j < k + 1 → z1.getD j 0 = z2.getD j 0) := Lib.hid (by
            rw [decide_eq_true_iff]
            constructor
            · intro h
              refine ⟨hlen, fun j hj' => ?_⟩
              by_cases hjk : j = k
              · subst hjk; exact h
              · exact hj j (by omega)
            · rintro ⟨_, h⟩
              exact h k (by omega))
          clear hb hj hlen
          generalize z1.getD k 0 = x at *
          generalize z2.getD k 0 = y at *
          have HBW := Lib.hid hBW
          clear hBW
          go_upto_region 8 with fail
          go_region
          go_wp2
          go_roundw
          case rel => exact ⟨k + 1, decide (x = y), by omega, by first | rfl | simp, by go_num, HNX.out, HBW.out.drew⟩
          case measure => simp [intOf]; omega
      · obtain rfl : k = z1.length := by omega
        have HRR := Lib.hid (HEND.out _ b hb (Or.inl rfl))
        replace HB := Lib.hid (bthen HB.out hBW); replace H1 := Lib.hid (H1.out.keep hBW); replace H2 := Lib.hid (H2.out.keep hBW); replace H3 := Lib.hid (H3.out.keep hBW); replace HG := Lib.hid (HK.out _ _ HG.out hBW)
        obtain ⟨x0, x1, x2⟩ := HX.out.keep hBW
        obtain ⟨y0, y1, y2⟩ := HY.out.keep hBW
        obtain ⟨z0, z1', z2'⟩ := HZ.out.keep hBW
        clear HX HY HZ HEND hb hBW
        go_upto_region 9 with fail
        refine wp_loose [(55, []), (56, [55]), (57, [56]), (58, [56, 57]), (59, [56]), (60, [56, 59]), (61, [56, 60]), (62, [56, 61]), (63, [56, 58, 62]), (64, [56, 63]), (65, [64]), (66, [65]), (67, [65, 66]), (68, [65]), (69, [65, 68]), (70, [65, 69]), (71, [65, 70]), (72, [65, 67, 71]), (73, [65, 72]), (74, [73]), (75, [74]), (76, [74, 75]), (77, [74]), (78, [74, 77]), (79, [74, 76, 78]), (80, [74]), (81, [74, 79, 80]), (82, [74, 81]), (83, [82]), (84, [83]), (85, [83, 84]), (86, [83]), (87, [83, 86]), (88, [83, 85, 87]), (89, [83, 88])]
          (LTextsR a1 a2 a3 z1.length cap1 z2.length cap2 len3 cap3 b R1 R2 R3 Z1 Z3) (fun d => false) (by kernel_rfl) (by kernel_rfl) (fun _ _ _ _ h hb => h.keep hb) ?_ ?_
        · refine opsrun_cons ?_ (opsrun_cons ?_ (opsrun_cons ?_ (opsrun_cons ?_ (opsrun_cons ?_ (opsrun_cons ?_ (opsrun_cons ?_ (opsrun_cons ?_ (opsrun_cons ?_ (opsrun_cons ?_ (opsrun_cons ?_ (opsrun_cons ?_ (opsrun_cons ?_ (opsrun_cons ?_ (opsrun_cons ?_ (opsrun_cons ?_ (opsrun_cons ?_ (opsrun_cons ?_ (opsrun_cons ?_ (opsrun_cons ?_ (opsrun_cons ?_ (opsrun_cons ?_ (opsrun_cons ?_ (opsrun_cons ?_ (opsrun_cons ?_ (opsrun_cons ?_ (opsrun_cons ?_ (opsrun_cons ?_ (opsrun_cons ?_ (opsrun_cons ?_ (opsrun_cons ?_ (opsrun_cons ?_ (opsrun_cons ?_ (opsrun_cons ?_ (opsrun_cons ?_ opsrun_nil))))))))))))))))))))))))))))))))))
          all_goals
            refine OpRuns.any ?_
            intro Q0 σ W' K hb hn hK
            simp only [fill, List.map, Act.put, List.setIfInBounds_toArray, List.set_cons_zero, List.set_cons_succ] at hK ⊢
          · clear hn
            go_simp
            go_at_call 5
            refine (aw _ (HK.out _ _ HG.out hb)).mono ?_
            rintro e w1 ⟨rfl, hb1⟩
            exact hK _ _ rfl hb1 (fun h => absurd h (by decide))
          · have h55 : σ 55 = _ := hn 55 (by decide)
            clear hn
            simp only [h55] at hK
            go_simp
            exact hK _ _ rfl (Below.refl _ _) (fun h => absurd h (by decide))
          · have h56 : σ 56 = _ := hn 56 (by decide)
            clear hn
            simp only [h56] at hK
            have x0' := bkeep hb x0
            have x1' := bkeep hb x1
            have x2' := bkeep hb x2
            clear x0 x1 x2
            go_simp
            exact hK _ _ rfl (Below.refl _ _) (fun h => absurd h (by decide))
          · have h56 : σ 56 = _ := hn 56 (by decide)
            have h57 : σ 57 = _ := hn 57 (by decide)
            clear hn
            simp only [h56, h57] at hK
            go_simp
            go_at_call 12
            refine (k1 _ (H1.out.keep hb) (HK.out _ _ HG.out hb)).mono ?_
            rintro e w1 ⟨rfl, hb1⟩
            exact hK _ _ rfl hb1 (fun h => absurd h (by decide))
          · have h56 : σ 56 = _ := hn 56 (by decide)
            clear hn
            simp only [h56] at hK
            have x0' := bkeep hb x0
            have x1' := bkeep hb x1
            have x2' := bkeep hb x2
            clear x0 x1 x2
            go_simp
            exact hK _ _ rfl (Below.refl _ _) (fun h => absurd h (by decide))
          · have h56 : σ 56 = _ := hn 56 (by decide)
            have h59 : σ 59 = _ := hn 59 (by decide)
            clear hn
            simp only [h56, h59] at hK
            go_simp
            go_at_call 14
            refine (t1 _ (H1.out.keep hb) (HK.out _ _ HG.out hb)).mono ?_
            rintro e w1 ⟨rfl, hb1⟩
            exact hK _ _ rfl hb1 (fun h => absurd h (by decide))
          · have h56 : σ 56 = _ := hn 56 (by decide)
            have h60 : σ 60 = _ := hn 60 (by decide)
            clear hn
            simp only [h56, h60] at hK
            go_simp
            exact hK _ _ (IsS2.mk _ _ _) ((Below.refl _ _).alloc (Nat.le_refl _) _) (fun h => absurd h (by decide))
          · have h56 : σ 56 = _ := hn 56 (by decide)
            have p61 : IsS2 W' (σ 61) R1 := hn 61 (by decide)
            clear hn
            simp only [h56] at hK
            obtain ⟨a, c, h61, hs⟩ := p61
            simp only [h61] at hK
            go_simp
            go_at_call 16
            refine (s1 a c _ hs).mono ?_
            rintro e w1 ⟨rfl, hb1⟩
            exact hK _ _ rfl hb1 (fun h => absurd h (by decide))
          · have h56 : σ 56 = _ := hn 56 (by decide)
            have h58 : σ 58 = _ := hn 58 (by decide)
            have h62 : σ 62 = _ := hn 62 (by decide)
            clear hn
            simp only [h56, h58, h62] at hK
            go_simp
            exact hK _ _ rfl (Below.refl _ _) (fun h => absurd h (by decide))
          · have h56 : σ 56 = _ := hn 56 (by decide)
            have h63 : σ 63 = _ := hn 63 (by decide)
            clear hn
            simp only [h56, h63] at hK
            go_simp
            exact hK _ _ rfl (Below.refl _ _) (fun h => absurd h (by decide))
          · have h64 : σ 64 = _ := hn 64 (by decide)
            clear hn
            simp only [h64] at hK
            go_simp
            exact hK _ _ rfl (Below.refl _ _) (fun h => absurd h (by decide))
          · have h65 : σ 65 = _ := hn 65 (by decide)
            clear hn
            simp only [h65] at hK
            have z0' := bkeep hb z0
            have z1'' := bkeep hb z1'
            have z2'' := bkeep hb z2'
            clear z0 z1' z2'
            go_simp
            exact hK _ _ rfl (Below.refl _ _) (fun h => absurd h (by decide))
          · have h65 : σ 65 = _ := hn 65 (by decide)
            have h66 : σ 66 = _ := hn 66 (by decide)
            clear hn
            simp only [h65, h66] at hK
            go_simp
            go_at_call 12
            refine (k3 _ (H3.out.keep hb) (HK.out _ _ HG.out hb)).mono ?_
            rintro e w1 ⟨rfl, hb1⟩
            exact hK _ _ rfl hb1 (fun h => absurd h (by decide))
          · have h65 : σ 65 = _ := hn 65 (by decide)
            clear hn
            simp only [h65] at hK
            have z0' := bkeep hb z0
            have z1'' := bkeep hb z1'
            have z2'' := bkeep hb z2'
            clear z0 z1' z2'
            go_simp
            exact hK _ _ rfl (Below.refl _ _) (fun h => absurd h (by decide))
          · have h65 : σ 65 = _ := hn 65 (by decide)
            have h68 : σ 68 = _ := hn 68 (by decide)
            clear hn
            simp only [h65, h68] at hK
            go_simp
            go_at_call 14
            refine (t3 _ (H3.out.keep hb) (HK.out _ _ HG.out hb)).mono ?_
            rintro e w1 ⟨rfl, hb1⟩
            exact hK _ _ rfl hb1 (fun h => absurd h (by decide))
          · have h65 : σ 65 = _ := hn 65 (by decide)
            have h69 : σ 69 = _ := hn 69 (by decide)
            clear hn
            simp only [h65, h69] at hK
            go_simp
            exact hK _ _ (IsS2.mk _ _ _) ((Below.refl _ _).alloc (Nat.le_refl _) _) (fun h => absurd h (by decide))
          · have h65 : σ 65 = _ := hn 65 (by decide)
            have p70 : IsS2 W' (σ 70) R3 := hn 70 (by decide)
            clear hn
            simp only [h65] at hK
            obtain ⟨a, c, h70, hs⟩ := p70
            simp only [h70] at hK
            go_simp
            go_at_call 16
            refine (s3 a c _ hs).mono ?_
            rintro e w1 ⟨rfl, hb1⟩
            exact hK _ _ rfl hb1 (fun h => absurd h (by decide))
          · have h65 : σ 65 = _ := hn 65 (by decide)
            have h67 : σ 67 = _ := hn 67 (by decide)
            have h71 : σ 71 = _ := hn 71 (by decide)
            clear hn
            simp only [h65, h67, h71] at hK
            go_simp
            exact hK _ _ rfl (Below.refl _ _) (fun h => absurd h (by decide))
          · have h65 : σ 65 = _ := hn 65 (by decide)
            have h72 : σ 72 = _ := hn 72 (by decide)
            clear hn
            simp only [h65, h72] at hK
            go_simp
            exact hK _ _ rfl (Below.refl _ _) (fun h => absurd h (by decide))
          · have h73 : σ 73 = _ := hn 73 (by decide)
            clear hn
            simp only [h73] at hK
            go_simp
            exact hK _ _ rfl (Below.refl _ _) (fun h => absurd h (by decide))
          · have h74 : σ 74 = _ := hn 74 (by decide)
            clear hn
            simp only [h74] at hK
            have x0' := bkeep hb x0
            have x1' := bkeep hb x1
            have x2' := bkeep hb x2
            clear x0 x1 x2
            go_simp
            exact hK _ _ rfl (Below.refl _ _) (fun h => absurd h (by decide))
          · have h74 : σ 74 = _ := hn 74 (by decide)
            have h75 : σ 75 = _ := hn 75 (by decide)
            clear hn
            simp only [h74, h75] at hK
            go_simp
            go_at_call 14
            refine (t1 _ (H1.out.keep hb) (HK.out _ _ HG.out hb)).mono ?_
            rintro e w1 ⟨rfl, hb1⟩
            exact hK _ _ rfl hb1 (fun h => absurd h (by decide))
          · have h74 : σ 74 = _ := hn 74 (by decide)
            clear hn
            simp only [h74] at hK
            have y0' := bkeep hb y0
            have y1' := bkeep hb y1
            have y2' := bkeep hb y2
            clear y0 y1 y2
            go_simp
            exact hK _ _ rfl (Below.refl _ _) (fun h => absurd h (by decide))
          · have h74 : σ 74 = _ := hn 74 (by decide)
            have h77 : σ 77 = _ := hn 77 (by decide)
            clear hn
            simp only [h74, h77] at hK
            go_simp
            go_at_call 14
            refine (t2 _ (H2.out.keep hb) (HK.out _ _ HG.out hb)).mono ?_
            rintro e w1 ⟨rfl, hb1⟩
            exact hK _ _ rfl hb1 (fun h => absurd h (by decide))
          · have h74 : σ 74 = _ := hn 74 (by decide)
            have h76 : σ 76 = _ := hn 76 (by decide)
            have h78 : σ 78 = _ := hn 78 (by decide)
            clear hn
            simp only [h74, h76, h78] at hK
            go_simp
            exact hK _ _ (congrArg Value.bool ((bytes_beq _ _).trans HRR.out)) (Below.refl _ _) (fun h => absurd h (by decide))
          · have h74 : σ 74 = _ := hn 74 (by decide)
            clear hn
            simp only [h74] at hK
            go_simp
            exact hK _ _ rfl (Below.refl _ _) (fun h => absurd h (by decide))
          · have h74 : σ 74 = _ := hn 74 (by decide)
            have h79 : σ 79 = _ := hn 79 (by decide)
            have h80 : σ 80 = _ := hn 80 (by decide)
            clear hn
            simp only [h74, h79, h80] at hK
            go_simp
            exact hK _ _ rfl (Below.refl _ _) (fun h => absurd h (by decide))
          · have h74 : σ 74 = _ := hn 74 (by decide)
            have h81 : σ 81 = _ := hn 81 (by decide)
            clear hn
            simp only [h74, h81] at hK
            go_simp
            exact hK _ _ rfl (Below.refl _ _) (fun h => absurd h (by decide))
          · have h82 : σ 82 = _ := hn 82 (by decide)
            clear hn
            simp only [h82] at hK
            go_simp
            exact hK _ _ rfl (Below.refl _ _) (fun h => absurd h (by decide))
          · have h83 : σ 83 = _ := hn 83 (by decide)
            clear hn
            simp only [h83] at hK
            have z0' := bkeep hb z0
            have z1'' := bkeep hb z1'
            have z2'' := bkeep hb z2'
            clear z0 z1' z2'
            go_simp
            exact hK _ _ rfl (Below.refl _ _) (fun h => absurd h (by decide))
          · have h83 : σ 83 = _ := hn 83 (by decide)
            have h84 : σ 84 = _ := hn 84 (by decide)
            clear hn
            simp only [h83, h84] at hK
            go_simp
            go_at_call 14
            refine (t3 _ (H3.out.keep hb) (HK.out _ _ HG.out hb)).mono ?_
            rintro e w1 ⟨rfl, hb1⟩
            exact hK _ _ rfl hb1 (fun h => absurd h (by decide))
          · have h83 : σ 83 = _ := hn 83 (by decide)
            clear hn
            simp only [h83] at hK
            go_simp
            exact hK _ _ rfl (Below.refl _ _) (fun h => absurd h (by decide))
          · have h83 : σ 83 = _ := hn 83 (by decide)
            have h86 : σ 86 = _ := hn 86 (by decide)
            clear hn
            simp only [h83, h86] at hK
            go_simp
            go_at_call 17
            refine (r3 _ (H3.out.keep hb)).mono ?_
            rintro e w1 ⟨rfl, hb1⟩
            exact hK _ _ rfl hb1 (fun h => absurd h (by decide))
          · have h83 : σ 83 = _ := hn 83 (by decide)
            have h85 : σ 85 = _ := hn 85 (by decide)
            have h87 : σ 87 = _ := hn 87 (by decide)
            clear hn
            simp only [h83, h85, h87] at hK
            go_simp
            exact hK _ _ rfl (Below.refl _ _) (fun h => absurd h (by decide))
          · have h83 : σ 83 = _ := hn 83 (by decide)
            have h88 : σ 88 = _ := hn 88 (by decide)
            clear hn
            simp only [h83, h88] at hK
            go_simp
            exact hK _ _ rfl (Below.refl _ _) (fun h => absurd h (by decide))
        · intro σ W' hb hR' hF
          have h89 : σ 89 = _ := hR' 89 (by decide)
          clear hR' hF
          simp only [fill, List.map, Act.put, List.setIfInBounds_toArray, List.set_cons_zero, List.set_cons_succ, List.length_cons, List.length_nil, List.drop_succ_cons, List.drop_zero, Nat.reduceAdd, h89]
          clear h89
          go_wp2_with fail
          go_ret
          exact ⟨rfl, bthen HB.out hb⟩

end Go.Proofs.YtgamoanhplnknaaDoor
