/-
  The walk of BlakePress: it answers true, where the program's calls do what is asked of them. (Written by gen_blaws.py.)
-/
import Derived.Test.YtajjfonodfncmaaDoorBAsk
import Derived.Test.YtajjfonodfncmaaDoorBPress
import Derived.Test.YtajjfonodfncmaaDoorEqA
import Derived.Test.YtajjfonodfncmaaDoorOpenBlock
namespace Go.Proofs.YtajjfonodfncmaaDoor
open Go Go.RowKit
set_option linter.unusedVariables false

def BPressR (g : Nat) (hw b p : Nat → Int) (n : Int) (last : Bool) (sl : Nat) (v : Value) (W : World) : Prop :=
  match sl with
  | 5 => v = .pointer (some ⟨g, 0, none⟩)
  | 6 => v = .agg (cellsA 8 (w32 hw))
  | 7 => v = .pointer (some ⟨g, 8, none⟩)
  | 8 => v = .agg (cellsA 64 (w8 b))
  | 9 => v = .pointer (some ⟨g, 72, none⟩)
  | 10 => v = .int .u64 n
  | 11 => v = .pointer (some ⟨g, 73, none⟩)
  | 12 => v = .bool last
  | 14 => v = .pointer (some ⟨g, 0, none⟩)
  | 15 => v = .agg (cellsA 8 (w32 hw))
  | 16 => v = .pointer (some ⟨g, 8, none⟩)
  | 17 => v = .agg (cellsA 64 (w8 b))
  | 18 => v = .pointer (some ⟨g, 72, none⟩)
  | 19 => v = .int .u64 n
  | 20 => v = .pointer (some ⟨g, 73, none⟩)
  | 21 => v = .bool last
  | 13 => v = .agg (cellsA 8 (w32 p))
  | 22 => v = .agg (cellsA 8 (w32 p))
  | _ => v = .bool true
theorem BPressR.keep {g : Nat} {hw b p : Nat → Int} {n : Int} {last : Bool} {sl : Nat} {v : Value} {W W' : World} (h : BPressR g hw b p n last sl v W) (hb : Below W.heap.size W W') : BPressR g hw b p n last sl v W' := h

set_option maxRecDepth 100000 in
set_option maxHeartbeats 8000000 in
theorem bpress_body (G : World → Prop) (hA : AskBlake G) (h b : Nat → Int) (n : Int) (last : Bool) (hh : IsWords 8 h) (hb' : IsBytes 64 b) (hn : U n) (w : World) (hG : G w) :
    Calls Tryd.prog 4 #[.agg (cellsA 74 (blk74 h b n last))] w fun e w' => e = .returned (.bool true) ∧ Below w.heap.size w w' := by
  have k1 := hA.press h b n last hh hb' hn
  have k2 := rpress_is h b n last hb' hn
  have aw := bawake G hA
  have HK := Lib.hid (fun (W W' : World) => @AskBlake.keep G hA W W')
  generalize press h b n last = p at *
  have HH : Hid (∀ j, j < 8 → blk74 h b n last (0 + j) = w32 h j) := Lib.hid (fun j hj => by rw [Nat.zero_add]; exact if_pos hj)
  have HBB : Hid (∀ j, j < 64 → blk74 h b n last (8 + j) = w8 b j) := Lib.hid (fun j hj => by unfold blk74; rw [if_neg (by omega), if_pos (by omega)]; show Value.int .u8 (b (8 + j - 8)) = Value.int .u8 (b j); rw [show 8 + j - 8 = j by omega])
  have HN : Hid (blk74 h b n last 72 = .int .u64 n) := Lib.hid rfl
  have HLA : Hid (blk74 h b n last 73 = .bool last) := Lib.hid rfl
  generalize hf : blk74 h b n last = f at *
  clear hf hA hh hb' hn
  go_enter Tryd.func4, Tryd.ntmps4
  go_upto_region 1 with fail
  have hbx := (Below.refl w.heap.size w).alloc (Nat.le_refl _) (.cells (cellsA 74 f) 31)
  refine wp_gen (fun W => Below w.heap.size w W ∧ Arr W w.heap.size 74 f ∧ G W) ⟨hbx, Arr.box w 74 f _, HK.out _ _ hG hbx⟩ ?_
  clear hbx hG
  rintro W ⟨hB, hX, hG⟩
  have HB := Lib.hid hB; have HX := Lib.hid hX; have HG := Lib.hid hG
  obtain ⟨g, hg⟩ : ∃ g, w.heap.size = g := ⟨_, rfl⟩
  rw [hg] at HX ⊢
  clear hB hX hG
  refine wp_loose [(3, []), (4, [3]), (5, [4]), (6, [4, 5]), (7, [4]), (8, [4, 7]), (9, [4]), (10, [4, 9]), (11, [4]), (12, [4, 11]), (13, [4, 6, 8, 10, 12]), (14, [4]), (15, [4, 14]), (16, [4]), (17, [4, 16]), (18, [4]), (19, [4, 18]), (20, [4]), (21, [4, 20]), (22, [4, 15, 17, 19, 21]), (23, [4, 13, 22]), (24, [4, 23]), (2, [24])]
    (BPressR g h b p n last) (fun d => false) (by kernel_rfl) (by kernel_rfl) (fun _ _ _ _ h hb => h.keep hb) ?_ ?_
  · refine opsrun_cons ?_ (opsrun_cons ?_ (opsrun_cons ?_ (opsrun_cons ?_ (opsrun_cons ?_ (opsrun_cons ?_ (opsrun_cons ?_ (opsrun_cons ?_ (opsrun_cons ?_ (opsrun_cons ?_ (opsrun_cons ?_ (opsrun_cons ?_ (opsrun_cons ?_ (opsrun_cons ?_ (opsrun_cons ?_ (opsrun_cons ?_ (opsrun_cons ?_ (opsrun_cons ?_ (opsrun_cons ?_ (opsrun_cons ?_ (opsrun_cons ?_ (opsrun_cons ?_ (opsrun_cons ?_ opsrun_nil))))))))))))))))))))))
    all_goals
      refine OpRuns.any ?_
      intro Q0 σ W' K hb hn hK
      simp only [fill, List.map, Act.put, List.setIfInBounds_toArray, List.set_cons_zero, List.set_cons_succ] at hK ⊢
    · clear hn
      go_simp
      go_at_call 6
      refine (aw _ (HK.out _ _ HG.out hb)).mono ?_
      rintro e w1 ⟨rfl, hb1⟩
      exact hK _ _ rfl hb1 (fun h => absurd h (by decide))
    · have h3 : σ 3 = _ := hn 3 (by decide)
      clear hn
      simp only [h3] at hK
      go_simp
      exact hK _ _ rfl (Below.refl _ _) (fun h => absurd h (by decide))
    · have h4 : σ 4 = _ := hn 4 (by decide)
      clear hn
      simp only [h4] at hK
      go_simp
      exact hK _ _ rfl (Below.refl _ _) (fun h => absurd h (by decide))
    · have h4 : σ 4 = _ := hn 4 (by decide)
      have h5 : σ 5 = _ := hn 5 (by decide)
      clear hn
      simp only [h4, h5] at hK
      simp only [h4, h5] at hK ⊢
      rw [if_pos]
      · refine wp_pieceA 27 26 _ rfl g 0 74 8 f (w32 h) rfl (HX.out.keep hb) (by decide) (fun j hj => HH.out j hj) (by kernel_rfl) (by kernel_rfl) ?_
        exact hK _ _ rfl (Below.refl _ _) (fun h => absurd h (by decide))
      · rfl
    · have h4 : σ 4 = _ := hn 4 (by decide)
      clear hn
      simp only [h4] at hK
      go_simp
      exact hK _ _ rfl (Below.refl _ _) (fun h => absurd h (by decide))
    · have h4 : σ 4 = _ := hn 4 (by decide)
      have h7 : σ 7 = _ := hn 7 (by decide)
      clear hn
      simp only [h4, h7] at hK
      simp only [h4, h7] at hK ⊢
      rw [if_pos]
      · refine wp_pieceA 28 5 _ rfl g 8 74 64 f (w8 b) rfl (HX.out.keep hb) (by decide) (fun j hj => HBB.out j hj) (by kernel_rfl) (by kernel_rfl) ?_
        exact hK _ _ rfl (Below.refl _ _) (fun h => absurd h (by decide))
      · rfl
    · have h4 : σ 4 = _ := hn 4 (by decide)
      clear hn
      simp only [h4] at hK
      go_simp
      exact hK _ _ rfl (Below.refl _ _) (fun h => absurd h (by decide))
    · have h4 : σ 4 = _ := hn 4 (by decide)
      have h9 : σ 9 = _ := hn 9 (by decide)
      clear hn
      simp only [h4, h9] at hK
      have cn := (HX.out.keep hb 72 (by decide)).1
      rw [HN.out] at cn
      go_simp
      exact hK _ _ rfl (Below.refl _ _) (fun h => absurd h (by decide))
    · have h4 : σ 4 = _ := hn 4 (by decide)
      clear hn
      simp only [h4] at hK
      go_simp
      exact hK _ _ rfl (Below.refl _ _) (fun h => absurd h (by decide))
    · have h4 : σ 4 = _ := hn 4 (by decide)
      have h11 : σ 11 = _ := hn 11 (by decide)
      clear hn
      simp only [h4, h11] at hK
      have cl := (HX.out.keep hb 73 (by decide)).1
      rw [HLA.out] at cl
      go_simp
      exact hK _ _ rfl (Below.refl _ _) (fun h => absurd h (by decide))
    · have h4 : σ 4 = _ := hn 4 (by decide)
      have h6 : σ 6 = _ := hn 6 (by decide)
      have h8 : σ 8 = _ := hn 8 (by decide)
      have h10 : σ 10 = _ := hn 10 (by decide)
      have h12 : σ 12 = _ := hn 12 (by decide)
      clear hn
      simp only [h4, h6, h8, h10, h12] at hK
      go_simp
      go_at_call 9
      refine (k1 _ (HK.out _ _ HG.out hb)).mono ?_
      rintro e w1 ⟨rfl, hb1⟩
      exact hK _ _ rfl hb1 (fun h => absurd h (by decide))
    · have h4 : σ 4 = _ := hn 4 (by decide)
      clear hn
      simp only [h4] at hK
      go_simp
      exact hK _ _ rfl (Below.refl _ _) (fun h => absurd h (by decide))
    · have h4 : σ 4 = _ := hn 4 (by decide)
      have h14 : σ 14 = _ := hn 14 (by decide)
      clear hn
      simp only [h4, h14] at hK
      simp only [h4, h14] at hK ⊢
      rw [if_pos]
      · refine wp_pieceA 27 26 _ rfl g 0 74 8 f (w32 h) rfl (HX.out.keep hb) (by decide) (fun j hj => HH.out j hj) (by kernel_rfl) (by kernel_rfl) ?_
        exact hK _ _ rfl (Below.refl _ _) (fun h => absurd h (by decide))
      · rfl
    · have h4 : σ 4 = _ := hn 4 (by decide)
      clear hn
      simp only [h4] at hK
      go_simp
      exact hK _ _ rfl (Below.refl _ _) (fun h => absurd h (by decide))
    · have h4 : σ 4 = _ := hn 4 (by decide)
      have h16 : σ 16 = _ := hn 16 (by decide)
      clear hn
      simp only [h4, h16] at hK
      simp only [h4, h16] at hK ⊢
      rw [if_pos]
      · refine wp_pieceA 28 5 _ rfl g 8 74 64 f (w8 b) rfl (HX.out.keep hb) (by decide) (fun j hj => HBB.out j hj) (by kernel_rfl) (by kernel_rfl) ?_
        exact hK _ _ rfl (Below.refl _ _) (fun h => absurd h (by decide))
      · rfl
    · have h4 : σ 4 = _ := hn 4 (by decide)
      clear hn
      simp only [h4] at hK
      go_simp
      exact hK _ _ rfl (Below.refl _ _) (fun h => absurd h (by decide))
    · have h4 : σ 4 = _ := hn 4 (by decide)
      have h18 : σ 18 = _ := hn 18 (by decide)
      clear hn
      simp only [h4, h18] at hK
      have cn := (HX.out.keep hb 72 (by decide)).1
      rw [HN.out] at cn
      go_simp
      exact hK _ _ rfl (Below.refl _ _) (fun h => absurd h (by decide))
    · have h4 : σ 4 = _ := hn 4 (by decide)
      clear hn
      simp only [h4] at hK
      go_simp
      exact hK _ _ rfl (Below.refl _ _) (fun h => absurd h (by decide))
    · have h4 : σ 4 = _ := hn 4 (by decide)
      have h20 : σ 20 = _ := hn 20 (by decide)
      clear hn
      simp only [h4, h20] at hK
      have cl := (HX.out.keep hb 73 (by decide)).1
      rw [HLA.out] at cl
      go_simp
      exact hK _ _ rfl (Below.refl _ _) (fun h => absurd h (by decide))
    · have h4 : σ 4 = _ := hn 4 (by decide)
      have h15 : σ 15 = _ := hn 15 (by decide)
      have h17 : σ 17 = _ := hn 17 (by decide)
      have h19 : σ 19 = _ := hn 19 (by decide)
      have h21 : σ 21 = _ := hn 21 (by decide)
      clear hn
      simp only [h4, h15, h17, h19, h21] at hK
      go_simp
      go_at_call 10
      refine (k2 _).mono ?_
      rintro e w1 ⟨rfl, hb1⟩
      exact hK _ _ rfl hb1 (fun h => absurd h (by decide))
    · have h4 : σ 4 = _ := hn 4 (by decide)
      have h13 : σ 13 = _ := hn 13 (by decide)
      have h22 : σ 22 = _ := hn 22 (by decide)
      clear hn
      simp only [h4, h13, h22] at hK
      have he := run_equal_self (P := Tryd.prog) W' (t := 27) (e := 26) (k := .u32) (n := 8) (by kernel_rfl) (by kernel_rfl) (by kernel_rfl) (by kernel_rfl) (by kernel_rfl) p
      simp only [h4, h13, h22] at hK ⊢
      go_simp
      exact hK _ _ rfl (Below.refl _ _) (fun h => absurd h (by decide))
    · have h4 : σ 4 = _ := hn 4 (by decide)
      have h23 : σ 23 = _ := hn 23 (by decide)
      clear hn
      simp only [h4, h23] at hK
      go_simp
      exact hK _ _ rfl (Below.refl _ _) (fun h => absurd h (by decide))
    · have h24 : σ 24 = _ := hn 24 (by decide)
      clear hn
      simp only [h24] at hK
      go_simp
      exact hK _ _ rfl (Below.refl _ _) (fun h => absurd h (by decide))
  · intro σ W' hb hR' hF
    have h2 : σ 2 = _ := hR' 2 (by decide)
    clear hR' hF
    simp only [fill, List.map, Act.put, List.setIfInBounds_toArray, List.set_cons_zero, List.set_cons_succ, List.length_cons, List.length_nil, List.drop_succ_cons, List.drop_zero, Nat.reduceAdd, h2]
    clear h2
    go_wp2_with fail
    go_ret
    exact ⟨rfl, bthen HB.out hb⟩
end Go.Proofs.YtajjfonodfncmaaDoor
